/- Mailboxes: what is sent; the document's. No conditions but numbers that a machine holds. -/
import Derived.Test.YtbimihljaalllaaMb2
namespace Go.Proofs.Ytbimihljaalllaa
open Go Go.RowKit
set_option linter.unusedVariables false
attribute [local irreducible] kh kid

set_option maxHeartbeats 8000000 in
set_option maxRecDepth 20000 in
/-- spec.SendToMailbox. -/
theorem spec_sd {lim : Nat} {w : World} {a : Option Addr} {cap : Nat} {b : List Int} {k s r d : Int} (h : Rd lim .u8 w (.slice a b.length cap) b) (hlim : lim ≤ w.heap.size) (hk : (Lit.int .i64 k).wf = true) (hs : (Lit.int .i64 s).wf = true) (hr : (Lit.int .i64 r).wf = true) (hd : (Lit.int .i64 d).wf = true) :
    Calls Try.prog 18 #[.agg #[.int .i64 k, .int .i64 s, .int .i64 r], .int .i64 d, .slice a b.length cap] w fun e w' => ∃ v', e = .returned (.tuple #[.agg #[.int .i64 k, .int .i64 (sdS k s r d b), .int .i64 r], v', .bool (sdok k s r d b)]) ∧ Own 5 .u8 w.heap.size w' v' (sdL k s r d b) ∧ Below w.heap.size w w' := by
  have HK := Lib.hid hk
  have HS := Lib.hid hs
  have HRr := Lib.hid hr
  have HD := Lib.hid hd
  have HQW := Lib.hid (dkey_wf k d)
  obtain ⟨q, hq⟩ : ∃ q, q = dkey k d := ⟨_, rfl⟩
  rw [← hq] at HQW
  have HQ := Lib.hid hq
  obtain ⟨t, ht⟩ : ∃ t, t = sok q s 1 b := ⟨_, rfl⟩
  have HT := Lib.hid ht
  have HF0 : Hid (sdok k s r d b = (okM k s r && (!(s == 1000000000000) && t))) := Lib.hid (by rw [ht, hq]; rfl)
  have HY : Hid (sdok k s r d b = true → sdL k s r d b = sealL q s 1 b) := Lib.hid (fun h => by rw [sdL_yes h, hq])
  obtain ⟨c1, z1, b1⟩ := two_new w (.cells #[.int .i64 k, .int .i64 s, .int .i64 r] 39) (.cells #[.int .i64 0, .int .i64 0, .int .i64 0] 39)
  obtain ⟨W, hW⟩ : ∃ W, W = (w.alloc (.cells #[.int .i64 k, .int .i64 s, .int .i64 r] 39)).alloc (.cells #[.int .i64 0, .int .i64 0, .int .i64 0] 39) := ⟨_, rfl⟩
  rw [← hW] at b1 c1 z1
  have HW := Lib.hid hW
  have HB := Lib.hid b1.drew
  have HC : Hid (W.drew.heap[w.heap.size]? = some (.cells #[.int .i64 k, .int .i64 s, .int .i64 r] 39)) := Lib.hid c1
  have HZ : Hid (W.drew.heap[w.heap.size + 1]? = some (.cells #[.int .i64 0, .int .i64 0, .int .i64 0] 39)) := Lib.hid z1
  have HR := Lib.hid (h.behind (b1.drew.mono hlim))
  clear h b1 c1 z1 hW hq ht hk hs hr hd
  go_enter Try.func18, Try.ntmps18
  go_wp2_with fail
  rw [← HW.out]
  obtain ⟨k0, k1, k2, _⟩ := ptc HC.out
  go_region_with (first
        | (go_at_call 47
           go_loud (refine (spec_dk HK.out HD.out).mono ?_
                    rintro e' w4 ⟨he, hb4⟩
                    rw [← HQ.out] at he
                    subst he
                    replace HR := Lib.hid (HR.out.behind (hb4.mono (Nat.le_trans hlim HB.out.size)))
                    replace HC := Lib.hid ((hb4.block _ (lt_of_block HC.out)).trans HC.out)
                    replace HZ := Lib.hid ((hb4.block _ (lt_of_block HZ.out)).trans HZ.out)
                    replace HB := Lib.hid (HB.out.trans (hb4.mono HB.out.size))
                    obtain ⟨k0, k1, k2, _⟩ := ptc HC.out
                    clear hb4))
        | (go_at_call 8
           go_loud (refine (spec_se HR.out (Nat.le_trans hlim HB.out.size) HQW.out HS.out (by decide)).mono ?_
                    rw [← HT.out]
                    rintro e' w5 ⟨v5, rfl, h5, hb5⟩
                    have HO := Lib.hid (h5.mono HB.out.size)
                    have HO1 : Hid (∀ x, v5.ownBlock = some x → w.heap.size + 1 < x) := Lib.hid (fun x hx => by have h9 := h5.lt _ hx; have := lt_of_block HZ.out; omega)
                    replace HR := Lib.hid (HR.out.behind (hb5.mono (Nat.le_trans hlim HB.out.size)))
                    replace HC := Lib.hid ((hb5.block _ (lt_of_block HC.out)).trans HC.out)
                    replace HZ := Lib.hid ((hb5.block _ (lt_of_block HZ.out)).trans HZ.out)
                    replace HB := Lib.hid (HB.out.trans (hb5.mono HB.out.size))
                    clear hb5 h5)))
  all_goals (
    have HNe : Hid (∀ x, v5.ownBlock = some x → w.heap.size + 1 < x) := Lib.hid (fun x hx => HO1.out x hx)
    clear HO1
    cases h1 : okM k s r with
    | false =>
      have H1 := Lib.hid h1
      have HF : Hid (sdok k s r d b = false) := Lib.hid (by rw [HF0.out, h1]; rfl)
      clear h1 HO HNe
      obtain ⟨k0, k1, k2, _⟩ := ptc HC.out
      go_wp2_with fail
      clear k0 k1 k2
      refine (spec_vm HK.out HS.out HRr.out).mono ?_
      rw [H1.out]
      rintro e w2 ⟨rfl, hb⟩
      replace HC := Lib.hid ((hb.block _ (lt_of_block HC.out)).trans HC.out)
      replace HZ := Lib.hid ((hb.block _ (lt_of_block HZ.out)).trans HZ.out)
      replace HR := Lib.hid (HR.out.behind (hb.mono (Nat.le_trans hlim HB.out.size)))
      replace HB := Lib.hid (HB.out.trans (hb.mono HB.out.size))
      clear hb
      have b9 := HB.out.alloc HB.out.size (.cells #[] 5)
      have z9 := (heap_alloc_old w2 (.cells #[] 5) (lt_of_block HZ.out)).trans HZ.out
      have x9 := (heap_alloc_old w2 (.cells #[] 5) (lt_of_block HC.out)).trans HC.out
      obtain ⟨r9, rg⟩ := pst3 z9 (.int .i64 k) (.int .i64 s) (.int .i64 r)
      obtain ⟨k0, k1, k2, _⟩ := ptc HC.out
      obtain ⟨_, _, _, f0, f1, f2⟩ := ptc z9
      obtain ⟨r0, r1, r2, _⟩ := ptc r9
      have o9 : Own 5 .u8 w.heap.size (w2.alloc (.cells #[] 5)) (.slice (some ⟨w2.heap.size, 0, none⟩) 0 0) [] := Own.lit (B := w.heap.size) (w := w2) 5 .u8 HB.out.size
      have O9 := Lib.hid (o9.kept rg (Or.inr (fun hk => by have h1 : w2.heap.size = w.heap.size + 1 := Option.some.inj hk; have := lt_of_block HZ.out; omega)))
      have B9 := Lib.hid (b9.grown rg b9.size (fun k hk => by injection hk with hk; omega))
      clear b9 z9 x9 r9 rg o9
      go_wp2_with fail
      exact bodyPost_ret (v := .tuple #[.agg #[.int .i64 k, .int .i64 s, .int .i64 r], .slice (some ⟨w2.heap.size, 0, none⟩) 0 0, .bool false]) (by simp [results, Try.results18, go_sem, r0, r1, r2]) rfl ⟨_, by rw [sdS_no HF.out, HF.out], by rw [sdL_no HF.out]; exact O9.out, B9.out⟩
    | true =>
      have H1 := Lib.hid h1
      have hsb := (okM_iff.1 h1).2.1
      by_cases hm : s = 1000000000000
      · have em : (s == 1000000000000) = true := beq_iff_eq.2 hm
        have HF : Hid (sdok k s r d b = false) := Lib.hid (by rw [HF0.out, h1, em]; rfl)
        clear h1 hm HO HNe
        obtain ⟨k0, k1, k2, _⟩ := ptc HC.out
        go_wp2_with fail
        clear k0 k1 k2
        refine (spec_vm HK.out HS.out HRr.out).mono ?_
        rw [H1.out]
        rintro e w2 ⟨rfl, hb⟩
        replace HC := Lib.hid ((hb.block _ (lt_of_block HC.out)).trans HC.out)
        replace HZ := Lib.hid ((hb.block _ (lt_of_block HZ.out)).trans HZ.out)
        replace HR := Lib.hid (HR.out.behind (hb.mono (Nat.le_trans hlim HB.out.size)))
        replace HB := Lib.hid (HB.out.trans (hb.mono HB.out.size))
        clear hb
        have b9 := HB.out.alloc HB.out.size (.cells #[] 5)
        have z9 := (heap_alloc_old w2 (.cells #[] 5) (lt_of_block HZ.out)).trans HZ.out
        have x9 := (heap_alloc_old w2 (.cells #[] 5) (lt_of_block HC.out)).trans HC.out
        obtain ⟨r9, rg⟩ := pst3 z9 (.int .i64 k) (.int .i64 s) (.int .i64 r)
        obtain ⟨k0, k1, k2, _⟩ := ptc HC.out
        obtain ⟨_, _, _, f0, f1, f2⟩ := ptc z9
        obtain ⟨r0, r1, r2, _⟩ := ptc r9
        have o9 : Own 5 .u8 w.heap.size (w2.alloc (.cells #[] 5)) (.slice (some ⟨w2.heap.size, 0, none⟩) 0 0) [] := Own.lit (B := w.heap.size) (w := w2) 5 .u8 HB.out.size
        have O9 := Lib.hid (o9.kept rg (Or.inr (fun hk => by have h1 : w2.heap.size = w.heap.size + 1 := Option.some.inj hk; have := lt_of_block HZ.out; omega)))
        have B9 := Lib.hid (b9.grown rg b9.size (fun k hk => by injection hk with hk; omega))
        clear b9 z9 x9 r9 rg o9
        go_wp2_with fail
        exact bodyPost_ret (v := .tuple #[.agg #[.int .i64 k, .int .i64 s, .int .i64 r], .slice (some ⟨w2.heap.size, 0, none⟩) 0 0, .bool false]) (by simp [results, Try.results18, go_sem, r0, r1, r2]) rfl ⟨_, by rw [sdS_no HF.out, HF.out], by rw [sdL_no HF.out]; exact O9.out, B9.out⟩
      · have em : (s == 1000000000000) = false := beq_eq_false_iff_ne.2 hm
        have hs1 : s < 1000000000000 := by omega
        cases t with
        | false =>
          have HF : Hid (sdok k s r d b = false) := Lib.hid (by rw [HF0.out, h1, em]; rfl)
          clear h1 hm HO HNe
          obtain ⟨k0, k1, k2, _⟩ := ptc HC.out
          go_wp2_with fail
          clear k0 k1 k2
          refine (spec_vm HK.out HS.out HRr.out).mono ?_
          rw [H1.out]
          rintro e w2 ⟨rfl, hb⟩
          replace HC := Lib.hid ((hb.block _ (lt_of_block HC.out)).trans HC.out)
          replace HZ := Lib.hid ((hb.block _ (lt_of_block HZ.out)).trans HZ.out)
          replace HR := Lib.hid (HR.out.behind (hb.mono (Nat.le_trans hlim HB.out.size)))
          replace HB := Lib.hid (HB.out.trans (hb.mono HB.out.size))
          clear hb
          have b9 := HB.out.alloc HB.out.size (.cells #[] 5)
          have z9 := (heap_alloc_old w2 (.cells #[] 5) (lt_of_block HZ.out)).trans HZ.out
          have x9 := (heap_alloc_old w2 (.cells #[] 5) (lt_of_block HC.out)).trans HC.out
          obtain ⟨r9, rg⟩ := pst3 z9 (.int .i64 k) (.int .i64 s) (.int .i64 r)
          obtain ⟨k0, k1, k2, _⟩ := ptc HC.out
          obtain ⟨_, _, _, f0, f1, f2⟩ := ptc z9
          obtain ⟨r0, r1, r2, _⟩ := ptc r9
          have o9 : Own 5 .u8 w.heap.size (w2.alloc (.cells #[] 5)) (.slice (some ⟨w2.heap.size, 0, none⟩) 0 0) [] := Own.lit (B := w.heap.size) (w := w2) 5 .u8 HB.out.size
          have O9 := Lib.hid (o9.kept rg (Or.inr (fun hk => by have h1 : w2.heap.size = w.heap.size + 1 := Option.some.inj hk; have := lt_of_block HZ.out; omega)))
          have B9 := Lib.hid (b9.grown rg b9.size (fun k hk => by injection hk with hk; omega))
          clear b9 z9 x9 r9 rg o9
          go_wp2_with fail
          exact bodyPost_ret (v := .tuple #[.agg #[.int .i64 k, .int .i64 s, .int .i64 r], .slice (some ⟨w2.heap.size, 0, none⟩) 0 0, .bool false]) (by simp [results, Try.results18, go_sem, r0, r1, r2]) rfl ⟨_, by rw [sdS_no HF.out, HF.out], by rw [sdL_no HF.out]; exact O9.out, B9.out⟩
        | true =>
          have HF : Hid (sdok k s r d b = true) := Lib.hid (by rw [HF0.out, h1, em]; rfl)
          clear h1 hm
          obtain ⟨k0, k1, k2, _⟩ := ptc HC.out
          go_wp2_with fail
          clear k0 k1 k2
          refine (spec_vm HK.out HS.out HRr.out).mono ?_
          rw [H1.out]
          rintro e w2 ⟨rfl, hb⟩
          have hb0 := hb
          replace HC := Lib.hid ((hb.block _ (lt_of_block HC.out)).trans HC.out)
          replace HZ := Lib.hid ((hb.block _ (lt_of_block HZ.out)).trans HZ.out)
          replace HR := Lib.hid (HR.out.behind (hb.mono (Nat.le_trans hlim HB.out.size)))
          replace HB := Lib.hid (HB.out.trans (hb.mono HB.out.size))
          replace HO := Lib.hid (HO.out.next hb0)
          obtain ⟨k0, k1, k2, _⟩ := ptc HC.out
          have x4 := (heap_alloc_old w2 (.cells #[.int .i64 k, .int .i64 s, .int .i64 r] 39) (lt_of_block HC.out)).trans HC.out
          have b5 := HB.out.alloc HB.out.size (.cells #[.int .i64 k, .int .i64 (s + 1), .int .i64 r] 39)
          have c5 := heap_alloc_new w2 (.cells #[.int .i64 k, .int .i64 (s + 1), .int .i64 r] 39)
          have z5 := (heap_alloc_old w2 (.cells #[.int .i64 k, .int .i64 (s + 1), .int .i64 r] 39) (lt_of_block HZ.out)).trans HZ.out
          have o5 := HO.out.alloc (.cells #[.int .i64 k, .int .i64 (s + 1), .int .i64 r] 39)
          obtain ⟨p0, p1, p2, _⟩ := ptc x4
          obtain ⟨m0, m1, m2, _⟩ := ptc c5
          obtain ⟨_, _, _, f0, f1, f2⟩ := ptc z5
          obtain ⟨r9, rg⟩ := pst3 z5 (.int .i64 k) (.int .i64 (s + 1)) (.int .i64 r)
          obtain ⟨r0, r1, r2, _⟩ := ptc r9
          have O9 := Lib.hid (o5.kept rg (Or.inr (fun hk => by have := HNe.out _ hk; omega)))
          have B9 := Lib.hid (b5.grown rg b5.size (fun k hk => by injection hk with hk; omega))
          clear c5 x4 z5 o5 b5 r9 rg HO HB HC HZ
          go_wp2_with fail
          exact bodyPost_ret (v := .tuple #[.agg #[.int .i64 k, .int .i64 (s + 1), .int .i64 r], v5, .bool true]) (by simp [results, Try.results18, go_sem, r0, r1, r2]) rfl ⟨_, by rw [sdS_yes HF.out, HF.out], by rw [HY.out HF.out]; exact O9.out, B9.out⟩)

end Go.Proofs.Ytbimihljaalllaa
