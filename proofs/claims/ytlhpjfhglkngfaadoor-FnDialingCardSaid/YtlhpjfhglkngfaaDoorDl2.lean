/- Dialing: invitations made, by the program and by the document. No conditions but numbers that a machine holds. -/
import Derived.Test.YtlhpjfhglkngfaaDoorDl1
import Derived.Test.YtlhpjfhglkngfaaDoorCl2
import Derived.Test.YtlhpjfhglkngfaaDoorCl3
import Derived.Deep.RegionHeld3
namespace Go.Proofs.YtlhpjfhglkngfaaDoor
open Go Go.RowKit
set_option linter.unusedVariables false
set_option maxRecDepth 20000
attribute [local irreducible] kh kid pwm tcm pw

theorem mk_no {s p c r : Int} (h : iok s p c r = false) {B : Nat} {w' : World} {v : Value} (hO : Own 5 .u8 B w' v []) : Own 5 .u8 B w' v (icell s p c r) := by rw [ic_no h]; exact hO

set_option maxHeartbeats 4000000 in
/-- impl.MakeInvitation. -/
theorem impl_mki {w : World} {s p c r : Int} (hs : (Lit.int .i64 s).wf = true) (hp : (Lit.int .i64 p).wf = true) (hc : (Lit.int .i64 c).wf = true) (hr : (Lit.int .i64 r).wf = true) :
    Calls Tryd.prog 9 #[.agg #[.int .i64 s, .int .i64 p], .int .i64 c, .int .i64 r] w fun e w' => ∃ v', e = .returned (.tuple #[v', .bool (iok s p c r)]) ∧ Own 5 .u8 w.heap.size w' v' (icell s p c r) ∧ Below w.heap.size w w' := by
  have HS := Lib.hid hs
  have HP := Lib.hid hp
  have HCw := Lib.hid hc
  have HRw := Lib.hid hr
  have HKw := Lib.hid (skey_wf s c)
  obtain ⟨k, hk⟩ : ∃ k, k = skey s c := ⟨_, rfl⟩
  rw [← hk] at HKw
  have HK := Lib.hid hk
  have hc0 := heap_alloc_new w (.cells #[.int .i64 s, .int .i64 p] 25)
  have b1 := (Below.refl w.heap.size w).alloc (Nat.le_refl _) (.cells #[.int .i64 s, .int .i64 p] 25)
  obtain ⟨W0, hW0⟩ : ∃ W, W = w.alloc (.cells #[.int .i64 s, .int .i64 p] 25) := ⟨_, rfl⟩
  rw [← hW0] at hc0 b1
  have HW0 := Lib.hid hW0
  have HC := Lib.hid hc0
  have HB := Lib.hid b1
  cases h1 : okId s p with
  | false =>
    have H1 := Lib.hid h1
    have h2 : iok s p c r = false := by unfold iok; rw [h1]; rfl
    have HE := Lib.hid h2
    obtain ⟨c0, c1, _⟩ := pcs HC.out
    rw [hW0] at c0 c1
    clear hs hp hc hr hk hc0 b1 hW0 h1 h2
    go_enter Tryd.func9, Tryd.ntmps9
    go_wp2_with fail
    rw [← HW0.out]
    refine (impl_vid HS.out HP.out).mono ?_
    rw [H1.out]
    rintro e w1 ⟨rfl, hb⟩
    clear c0 c1
    replace HC := Lib.hid (stood HC.out hb)
    replace HB := Lib.hid (HB.out.trans (hb.mono HB.out.size))
    clear hb
    have HO := Lib.hid (Own.lit (B := w.heap.size) (w := w1) 5 .u8 HB.out.size)
    have HB2 := Lib.hid (HB.out.alloc HB.out.size (.cells #[] 5))
    go_wp2_with fail
    go_ret2
    exact ⟨_, by rw [HE.out]; rfl, mk_no HE.out HO.out, HB2.out⟩
  | true =>
    have H1 := Lib.hid h1
    obtain ⟨t, ht⟩ : ∃ t, t = sok k r 2 (ibody p) := ⟨_, rfl⟩
    have HT := Lib.hid ht
    have HE : Hid (iok s p c r = t) := Lib.hid (by
      unfold iok
      rw [h1, ← hk, ← ht]
      cases t with
      | false => simp
      | true =>
        obtain ⟨h5, _⟩ := sok_parts ht.symm
        have h6 := inR_iff.1 h5
        rw [beq_eq_false_iff_ne.2 (show k ≠ 0 by omega)]
        rfl)
    have HEc : Hid (sealL k r 2 (ibody p) = icell s p c r) := Lib.hid (by
      cases t with
      | false => rw [ic_no HE.out, sealL_no ht.symm]
      | true => rw [ic_yes HE.out, hk])
    obtain ⟨c0, c1, _⟩ := pcs HC.out
    rw [hW0] at c0 c1
    clear hs hp hc hr hk hc0 b1 hW0 h1 ht
    go_enter Tryd.func9, Tryd.ntmps9
    go_wp2_with fail
    rw [← HW0.out]
    refine (impl_vid HS.out HP.out).mono ?_
    rw [H1.out]
    rintro e w1 ⟨rfl, hb⟩
    clear c0 c1
    replace HC := Lib.hid (stood HC.out hb)
    replace HB := Lib.hid (HB.out.trans (hb.mono HB.out.size))
    clear hb
    obtain ⟨c0, c1, _⟩ := pcs HC.out
    go_wp2_with fail
    refine (impl_bod HP.out).mono ?_
    rintro e w2 ⟨v2, rfl, hO, hb⟩
    clear c0 c1
    have HO0 := Lib.hid (hO.mono HB.out.size)
    replace HC := Lib.hid (stood HC.out hb)
    replace HB := Lib.hid (HB.out.trans (hb.mono HB.out.size))
    clear hb
    obtain ⟨a2, q2, hv2, _⟩ := hO.open
    subst hv2
    have b3 := (Below.refl w2.heap.size w2).alloc (Nat.le_refl _) (.cells #[.int .i64 2, .slice a2 (ibody p).length q2] 52)
    have k3 := heap_alloc_new w2 (.cells #[.int .i64 2, .slice a2 (ibody p).length q2] 52)
    obtain ⟨W3, hW3⟩ : ∃ W, W = w2.alloc (.cells #[.int .i64 2, .slice a2 (ibody p).length q2] 52) := ⟨_, rfl⟩
    rw [← hW3] at b3 k3
    have HW3 := Lib.hid hW3
    have HR0 := HO0.out.next b3
    have hc3 := stood HC.out b3
    have hb3 := HB.out.trans (b3.mono HB.out.size)
    have HR := Lib.hid (show Rd W3.drew.heap.size .u8 W3.drew (.slice a2 (ibody p).length q2) (ibody p) from (HR0.rd).drew)
    replace HC : Hid (W3.drew.heap[w.heap.size]? = some (.cells #[.int .i64 s, .int .i64 p] 25)) := Lib.hid hc3
    have HD : Hid (W3.drew.heap[w2.heap.size]? = some (.cells #[.int .i64 2, .slice a2 (ibody p).length q2] 52)) := Lib.hid k3
    replace HB := Lib.hid hb3.drew
    clear hO HO0 b3 k3 hW3 HR0 hc3 hb3
    go_wp2_with fail
    rw [← HW3.out]
    obtain ⟨c0, c1, _⟩ := pcs HC.out
    obtain ⟨d0, d1, _⟩ := pcs HD.out
    go_region_with (first
      | (go_at_call 8
         go_loud (refine (impl_shk HS.out HCw.out).mono ?_
                  rintro e' w4 ⟨he, hb4⟩
                  rw [← HK.out] at he
                  subst he
                  replace HR := Lib.hid ((HR.out.behind hb4).mono hb4.size)
                  replace HC := Lib.hid (stood HC.out hb4)
                  replace HD := Lib.hid (stood HD.out hb4)
                  replace HB := Lib.hid (HB.out.trans (hb4.mono HB.out.size))
                  obtain ⟨c0, c1, _⟩ := pcs HC.out
                  obtain ⟨d0, d1, _⟩ := pcs HD.out
                  clear hb4))
      | (go_at_call 30
         go_loud (refine (impl_se HR.out (Nat.le_refl _) HKw.out HRw.out (by decide)).mono ?_
                  rw [← HT.out]
                  rintro e' w5 ⟨v5, rfl, h5, hb5⟩
                  have HO := Lib.hid (h5.mono HB.out.size)
                  replace HB := Lib.hid (HB.out.trans (hb5.mono HB.out.size))
                  clear hb5 h5)))
    all_goals (
      go_wp2_with fail
      go_ret2
      exact ⟨_, by rw [HE.out]; rfl, by rw [← HEc.out]; exact HO.out, HB.out⟩)

end Go.Proofs.YtlhpjfhglkngfaaDoor
