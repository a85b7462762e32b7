/- Mailboxes: what is sent; the program's and the document's. No conditions but numbers that a machine holds. -/
import Derived.Test.YtbimihljaalllaaMb1
import Derived.Test.YtbimihljaalllaaCl2
import Derived.Test.YtbimihljaalllaaCl3
import Derived.Deep.RegionWith
namespace Go.Proofs.Ytbimihljaalllaa
open Go Go.RowKit
set_option linter.unusedVariables false
attribute [local irreducible] kh kid

theorem sdS_no {k s r d : Int} {b : List Int} (h : sdok k s r d b = false) : sdS k s r d b = s := if_neg (by rw [h]; decide)
theorem sdL_no {k s r d : Int} {b : List Int} (h : sdok k s r d b = false) : sdL k s r d b = [] := if_neg (by rw [h]; decide)
theorem sdS_yes {k s r d : Int} {b : List Int} (h : sdok k s r d b = true) : sdS k s r d b = s + 1 := if_pos h
theorem sdL_yes {k s r d : Int} {b : List Int} (h : sdok k s r d b = true) : sdL k s r d b = sealL (dkey k d) s 1 b := if_pos h
/-- Two blocks, in the world behind both. -/
theorem two_new (w : World) (o1 o2 : Obj) : ((w.alloc o1).alloc o2).heap[w.heap.size]? = some o1 ∧ ((w.alloc o1).alloc o2).heap[w.heap.size + 1]? = some o2 ∧ Below w.heap.size w ((w.alloc o1).alloc o2) := by
  have h1 := heap_alloc_new w o1
  have h2 := heap_alloc_new (w.alloc o1) o2
  rw [World.size_alloc] at h2
  exact ⟨(heap_alloc_old (w.alloc o1) o2 (lt_of_block h1)).trans h1, h2, ((Below.refl _ _).alloc (Nat.le_refl _) _).alloc (by simp) _⟩

set_option maxHeartbeats 2000000 in
/-- The program's seal. -/
theorem seal_any {lim : Nat} {w : World} {a : Option Addr} {cap : Nat} {b : List Int} {k s r d : Int} (h : Rd lim .u8 w (.slice a b.length cap) b) (hlim : lim ≤ w.heap.size) (hk : (Lit.int .i64 k).wf = true) (hs : (Lit.int .i64 s).wf = true) (hr : (Lit.int .i64 r).wf = true) (hd : (Lit.int .i64 d).wf = true) :
    Calls Try.prog 50 #[.agg #[.int .i64 k, .int .i64 s, .int .i64 r], .int .i64 d, .slice a b.length cap] w fun e w' => ∃ v', e = .returned (.tuple #[v', .bool (sok (dkey k d) s 1 b)]) ∧ Own 5 .u8 w.heap.size w' v' (sealL (dkey k d) s 1 b) ∧ Below w.heap.size w w' := by
  have HK := Lib.hid hk
  have HS := Lib.hid hs
  have HD := Lib.hid hd
  have HQW := Lib.hid (dkey_wf k d)
  obtain ⟨q, hq⟩ : ∃ q, q = dkey k d := ⟨_, rfl⟩
  rw [← hq] at HQW ⊢
  have HQ := Lib.hid hq
  obtain ⟨t, ht⟩ : ∃ t, t = sok q s 1 b := ⟨_, rfl⟩
  rw [← ht]
  have HT := Lib.hid ht
  have b1 := (Below.refl w.heap.size w).alloc (Nat.le_refl _) (.cells #[.int .i64 k, .int .i64 s, .int .i64 r] 39)
  have c1 := heap_alloc_new w (.cells #[.int .i64 k, .int .i64 s, .int .i64 r] 39)
  obtain ⟨W, hW⟩ : ∃ W, W = w.alloc (.cells #[.int .i64 k, .int .i64 s, .int .i64 r] 39) := ⟨_, rfl⟩
  rw [← hW] at b1 c1
  have HW := Lib.hid hW
  have HB := Lib.hid b1.drew
  have HC : Hid (W.drew.heap[w.heap.size]? = some (.cells #[.int .i64 k, .int .i64 s, .int .i64 r] 39)) := Lib.hid c1
  have HR := Lib.hid (h.behind (b1.drew.mono hlim))
  clear h b1 c1 hW hq ht hk hs hr hd
  go_enter Try.func50, Try.ntmps50
  go_wp2_with fail
  rw [← HW.out]
  obtain ⟨k0, k1, k2, _⟩ := ptc HC.out
  go_region_with (first
        | (go_at_call 66
           go_loud (refine (impl_dk HK.out HD.out).mono ?_
                    rintro e' w4 ⟨he, hb4⟩
                    rw [← HQ.out] at he
                    subst he
                    replace HR := Lib.hid (HR.out.behind (hb4.mono (Nat.le_trans hlim HB.out.size)))
                    replace HC := Lib.hid ((hb4.block _ (lt_of_block HC.out)).trans HC.out)
                    replace HB := Lib.hid (HB.out.trans (hb4.mono HB.out.size))
                    obtain ⟨k0, k1, k2, _⟩ := ptc HC.out
                    clear hb4))
        | (go_at_call 10
           go_loud (refine (impl_se HR.out (Nat.le_trans hlim HB.out.size) HQW.out HS.out (by decide)).mono ?_
                    rw [← HT.out]
                    rintro e' w5 ⟨v5, rfl, h5, hb5⟩
                    have HO := Lib.hid (h5.mono HB.out.size)
                    replace HC := Lib.hid ((hb5.block _ (lt_of_block HC.out)).trans HC.out)
                    replace HB := Lib.hid (HB.out.trans (hb5.mono HB.out.size))
                    clear hb5 h5)))
  all_goals (
    go_wp2_with fail
    go_ret2
    exact ⟨_, rfl, HO.out, HB.out⟩)

set_option maxHeartbeats 4000000 in
/-- impl.SendToMailbox. -/
theorem impl_sd {lim : Nat} {w : World} {a : Option Addr} {cap : Nat} {b : List Int} {k s r d : Int} (h : Rd lim .u8 w (.slice a b.length cap) b) (hlim : lim ≤ w.heap.size) (hk : (Lit.int .i64 k).wf = true) (hs : (Lit.int .i64 s).wf = true) (hr : (Lit.int .i64 r).wf = true) (hd : (Lit.int .i64 d).wf = true) :
    Calls Try.prog 21 #[.agg #[.int .i64 k, .int .i64 s, .int .i64 r], .int .i64 d, .slice a b.length cap] w fun e w' => ∃ v', e = .returned (.tuple #[.agg #[.int .i64 k, .int .i64 (sdS k s r d b), .int .i64 r], v', .bool (sdok k s r d b)]) ∧ Own 5 .u8 w.heap.size w' v' (sdL k s r d b) ∧ Below w.heap.size w w' := by
  have HK := Lib.hid hk
  have HS := Lib.hid hs
  have HRr := Lib.hid hr
  have HD := Lib.hid hd
  obtain ⟨c1, z1, b1⟩ := two_new w (.cells #[.int .i64 k, .int .i64 s, .int .i64 r] 39) (.cells #[.int .i64 0, .int .i64 0, .int .i64 0] 39)
  obtain ⟨W, hW⟩ : ∃ W, W = (w.alloc (.cells #[.int .i64 k, .int .i64 s, .int .i64 r] 39)).alloc (.cells #[.int .i64 0, .int .i64 0, .int .i64 0] 39) := ⟨_, rfl⟩
  rw [← hW] at b1 c1 z1
  have HW := Lib.hid hW
  have HB := Lib.hid b1
  have HC := Lib.hid c1
  have HZ := Lib.hid z1
  have HR := Lib.hid (h.behind (b1.mono hlim))
  clear h b1 c1 z1 hW hk hs hr hd
  cases h1 : okM k s r with
  | false =>
    have H1 := Lib.hid h1
    have HF : Hid (sdok k s r d b = false) := Lib.hid (by unfold sdok; rw [h1]; rfl)
    clear h1
    obtain ⟨k0, k1, k2, _⟩ := ptc HC.out
    go_enter Try.func21, Try.ntmps21
    go_wp2_with fail
    rw [← HW.out]
    clear k0 k1 k2
    refine (impl_isv HK.out HS.out HRr.out).mono ?_
    rw [H1.out]
    rintro e w2 ⟨rfl, hb⟩
    replace HC := Lib.hid ((hb.block _ (lt_of_block HC.out)).trans HC.out)
    replace HZ := Lib.hid ((hb.block _ (lt_of_block HZ.out)).trans HZ.out)
    replace HR := Lib.hid (HR.out.behind (hb.mono (Nat.le_trans hlim HB.out.size)))
    replace HB := Lib.hid (HB.out.trans (hb.mono HB.out.size))
    clear hb
    have b9 := HB.out.alloc HB.out.size (.cells #[] 5)
    have z9 := (heap_alloc_old w2 (.cells #[] 5) (lt_of_block HZ.out)).trans HZ.out
    have x9 := (heap_alloc_old w2 (.cells #[] 5) (lt_of_block HC.out)).trans HC.out
    obtain ⟨r9, rg⟩ := pst3 z9 (.int .i64 k) (.int .i64 s) (.int .i64 r)
    obtain ⟨k0, k1, k2, _⟩ := ptc HC.out
    obtain ⟨_, _, _, f0, f1, f2⟩ := ptc z9
    obtain ⟨r0, r1, r2, _⟩ := ptc r9
    have o9 : Own 5 .u8 w.heap.size (w2.alloc (.cells #[] 5)) (.slice (some ⟨w2.heap.size, 0, none⟩) 0 0) [] := Own.lit (B := w.heap.size) (w := w2) 5 .u8 HB.out.size
    have O9 := Lib.hid (o9.kept rg (Or.inr (fun hk => by have h1 : w2.heap.size = w.heap.size + 1 := Option.some.inj hk; have := lt_of_block HZ.out; omega)))
    have B9 := Lib.hid (b9.grown rg b9.size (fun k hk => by injection hk with hk; omega))
    clear b9 z9 x9 r9 rg o9
    go_wp2_with fail
    exact bodyPost_ret (v := .tuple #[.agg #[.int .i64 k, .int .i64 s, .int .i64 r], .slice (some ⟨w2.heap.size, 0, none⟩) 0 0, .bool false]) (by simp [results, Try.results21, go_sem, r0, r1, r2]) rfl ⟨_, by rw [sdS_no HF.out, HF.out], by rw [sdL_no HF.out]; exact O9.out, B9.out⟩
  | true =>
    have H1 := Lib.hid h1
    have hsb := (okM_iff.1 h1).2.1
    by_cases hm : s = 1000000000000
    · have em : (s == 1000000000000) = true := beq_iff_eq.2 hm
      have HF : Hid (sdok k s r d b = false) := Lib.hid (by unfold sdok; rw [h1, em]; rfl)
      clear h1 hm
      obtain ⟨k0, k1, k2, _⟩ := ptc HC.out
      go_enter Try.func21, Try.ntmps21
      go_wp2_with fail
      rw [← HW.out]
      clear k0 k1 k2
      refine (impl_isv HK.out HS.out HRr.out).mono ?_
      rw [H1.out]
      rintro e w2 ⟨rfl, hb⟩
      replace HC := Lib.hid ((hb.block _ (lt_of_block HC.out)).trans HC.out)
      replace HZ := Lib.hid ((hb.block _ (lt_of_block HZ.out)).trans HZ.out)
      replace HR := Lib.hid (HR.out.behind (hb.mono (Nat.le_trans hlim HB.out.size)))
      replace HB := Lib.hid (HB.out.trans (hb.mono HB.out.size))
      clear hb
      have b9 := HB.out.alloc HB.out.size (.cells #[] 5)
      have z9 := (heap_alloc_old w2 (.cells #[] 5) (lt_of_block HZ.out)).trans HZ.out
      have x9 := (heap_alloc_old w2 (.cells #[] 5) (lt_of_block HC.out)).trans HC.out
      obtain ⟨r9, rg⟩ := pst3 z9 (.int .i64 k) (.int .i64 s) (.int .i64 r)
      obtain ⟨k0, k1, k2, _⟩ := ptc HC.out
      obtain ⟨_, _, _, f0, f1, f2⟩ := ptc z9
      obtain ⟨r0, r1, r2, _⟩ := ptc r9
      have o9 : Own 5 .u8 w.heap.size (w2.alloc (.cells #[] 5)) (.slice (some ⟨w2.heap.size, 0, none⟩) 0 0) [] := Own.lit (B := w.heap.size) (w := w2) 5 .u8 HB.out.size
      have O9 := Lib.hid (o9.kept rg (Or.inr (fun hk => by have h1 : w2.heap.size = w.heap.size + 1 := Option.some.inj hk; have := lt_of_block HZ.out; omega)))
      have B9 := Lib.hid (b9.grown rg b9.size (fun k hk => by injection hk with hk; omega))
      clear b9 z9 x9 r9 rg o9
      go_wp2_with fail
      exact bodyPost_ret (v := .tuple #[.agg #[.int .i64 k, .int .i64 s, .int .i64 r], .slice (some ⟨w2.heap.size, 0, none⟩) 0 0, .bool false]) (by simp [results, Try.results21, go_sem, r0, r1, r2]) rfl ⟨_, by rw [sdS_no HF.out, HF.out], by rw [sdL_no HF.out]; exact O9.out, B9.out⟩
    · have em : (s == 1000000000000) = false := beq_eq_false_iff_ne.2 hm
      obtain ⟨t, ht⟩ : ∃ t, t = sok (dkey k d) s 1 b := ⟨_, rfl⟩
      have HT := Lib.hid ht
      have HF0 : Hid (sdok k s r d b = t) := Lib.hid (by unfold sdok; rw [h1, em, ht]; rfl)
      have hs1 : s < 1000000000000 := by omega
      clear h1 hm ht
      obtain ⟨k0, k1, k2, _⟩ := ptc HC.out
      go_enter Try.func21, Try.ntmps21
      go_wp2_with fail
      rw [← HW.out]
      clear k0 k1 k2
      refine (impl_isv HK.out HS.out HRr.out).mono ?_
      rw [H1.out]
      rintro e w2 ⟨rfl, hb⟩
      replace HC := Lib.hid ((hb.block _ (lt_of_block HC.out)).trans HC.out)
      replace HZ := Lib.hid ((hb.block _ (lt_of_block HZ.out)).trans HZ.out)
      replace HR := Lib.hid (HR.out.behind (hb.mono (Nat.le_trans hlim HB.out.size)))
      replace HB := Lib.hid (HB.out.trans (hb.mono HB.out.size))
      clear hb
      obtain ⟨k0, k1, k2, _⟩ := ptc HC.out
      go_wp2_with fail
      clear k0 k1 k2
      refine (seal_any HR.out (Nat.le_trans hlim HB.out.size) HK.out HS.out HRr.out HD.out).mono ?_
      rw [← HT.out]
      rintro e w3 ⟨v3, rfl, h3, hb⟩
      have HO := Lib.hid (h3.mono HB.out.size)
      have HNe : Hid (∀ x, v3.ownBlock = some x → w.heap.size + 1 < x) := Lib.hid (fun x hx => by have h9 := h3.lt _ hx; have := lt_of_block HZ.out; omega)
      replace HC := Lib.hid ((hb.block _ (lt_of_block HC.out)).trans HC.out)
      replace HZ := Lib.hid ((hb.block _ (lt_of_block HZ.out)).trans HZ.out)
      replace HB := Lib.hid (HB.out.trans (hb.mono HB.out.size))
      clear hb h3 HR
      cases t with
      | false =>
        have HF : Hid (sdok k s r d b = false) := HF0
        have b9 := HB.out.alloc HB.out.size (.cells #[] 5)
        have z9 := (heap_alloc_old w3 (.cells #[] 5) (lt_of_block HZ.out)).trans HZ.out
        have x9 := (heap_alloc_old w3 (.cells #[] 5) (lt_of_block HC.out)).trans HC.out
        obtain ⟨r9, rg⟩ := pst3 z9 (.int .i64 k) (.int .i64 s) (.int .i64 r)
        obtain ⟨k0, k1, k2, _⟩ := ptc HC.out
        obtain ⟨_, _, _, f0, f1, f2⟩ := ptc z9
        obtain ⟨r0, r1, r2, _⟩ := ptc r9
        have o9 : Own 5 .u8 w.heap.size (w3.alloc (.cells #[] 5)) (.slice (some ⟨w3.heap.size, 0, none⟩) 0 0) [] := Own.lit (B := w.heap.size) (w := w3) 5 .u8 HB.out.size
        have O9 := Lib.hid (o9.kept rg (Or.inr (fun hk => by have h1 : w3.heap.size = w.heap.size + 1 := Option.some.inj hk; have := lt_of_block HZ.out; omega)))
        have B9 := Lib.hid (b9.grown rg b9.size (fun k hk => by injection hk with hk; omega))
        clear b9 z9 x9 r9 rg o9
        go_wp2_with fail
        exact bodyPost_ret (v := .tuple #[.agg #[.int .i64 k, .int .i64 s, .int .i64 r], .slice (some ⟨w3.heap.size, 0, none⟩) 0 0, .bool false]) (by simp [results, Try.results21, go_sem, r0, r1, r2]) rfl ⟨_, by rw [sdS_no HF.out, HF.out], by rw [sdL_no HF.out]; exact O9.out, B9.out⟩
      | true =>
        have HF : Hid (sdok k s r d b = true) := HF0
        have hc := HC.out
        obtain ⟨k0, k1, k2, g0, g1, g2⟩ := ptc hc
        have c2 : (w3.setCell ⟨w.heap.size, 1, none⟩ (.int .i64 (s + 1))).heap[w.heap.size]? = some (.cells #[.int .i64 k, .int .i64 (s + 1), .int .i64 r] 39 (0, 0)) := blk_set hc 1 _
        have cg := grown_set w3 w.heap.size 1 (.int .i64 (s + 1))
        have z2 := (cg.block _ (lt_of_block HZ.out) (by intro hk; have := Option.some.inj hk; omega)).trans HZ.out
        have o2 := HO.out.kept cg (Or.inr (fun hk => by have := HNe.out _ hk; omega))
        have b2 := HB.out.grown cg HB.out.size (fun k hk => by injection hk with hk; omega)
        obtain ⟨m0, m1, m2, _⟩ := ptc c2
        obtain ⟨_, _, _, f0, f1, f2⟩ := ptc z2
        obtain ⟨r9, rg⟩ := pst3 z2 (.int .i64 k) (.int .i64 (s + 1)) (.int .i64 r)
        obtain ⟨r0, r1, r2, _⟩ := ptc r9
        have O9 := Lib.hid (o2.kept rg (Or.inr (fun hk => by have := HNe.out _ hk; omega)))
        have B9 := Lib.hid (b2.grown rg b2.size (fun k hk => by injection hk with hk; omega))
        clear hc c2 cg z2 o2 b2 r9 rg HO HB HC HZ
        go_wp2_with fail
        exact bodyPost_ret (v := .tuple #[.agg #[.int .i64 k, .int .i64 (s + 1), .int .i64 r], v3, .bool true]) (by simp [results, Try.results21, go_sem, r0, r1, r2]) rfl ⟨_, by rw [sdS_yes HF.out, HF.out], by rw [sdL_yes HF.out]; exact O9.out, B9.out⟩

end Go.Proofs.Ytbimihljaalllaa
