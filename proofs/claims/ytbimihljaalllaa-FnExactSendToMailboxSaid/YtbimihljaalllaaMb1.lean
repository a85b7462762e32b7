/- Mailboxes: rows, keys of directions, valid mailboxes; the program's and the document's. No conditions but numbers that a machine holds. -/
import Derived.Test.YtbimihljaalllaaMbN
import Derived.Test.YtbimihljaalllaaCl1
import Derived.Test.YtbimihljaalllaaBbC
namespace Go.Proofs.Ytbimihljaalllaa
open Go Go.RowKit
set_option linter.unusedVariables false
attribute [local irreducible] kh kid

theorem Own.lits3 {B : Nat} {w : World} {x y z : Int} (k : IntKind) (e : TypeId) (hB : B ≤ w.heap.size) (hx : (Lit.int k x).wf = true) (hy : (Lit.int k y).wf = true) (hz : (Lit.int k z).wf = true) : Own e k B (w.alloc (.cells #[.int k x, .int k y, .int k z] e)) (.slice (some ⟨w.heap.size, 0, none⟩) 3 3) [x, y, z] :=
  ⟨by intro t ht; simp at ht; rcases ht with rfl | rfl | rfl; exact hx; exact hy; exact hz, by simp; omega, World.ownsRow_lit w #[.int k x, .int k y, .int k z] 3 hB (by unfold maxLen; omega) rfl⟩
theorem pt0 (x y z : Value) : (#[x, y, z] : Array Value)[0]? = some x := rfl
theorem pt1 (x y z : Value) : (#[x, y, z] : Array Value)[1]? = some y := rfl
theorem pt2 (x y z : Value) : (#[x, y, z] : Array Value)[2]? = some z := rfl
/-- A block of three cells. -/
theorem ptc {w : World} {b : Nat} {y0 y1 y2 : Value} {t : TypeId} (h : w.heap[b]? = some (.cells #[y0, y1, y2] t (0, 0))) : w.cell? ⟨b, 0, none⟩ = some y0 ∧ w.cell? ⟨b, 1, none⟩ = some y1 ∧ w.cell? ⟨b, 2, none⟩ = some y2 ∧ w.frozen? ⟨b, 0, none⟩ = false ∧ w.frozen? ⟨b, 1, none⟩ = false ∧ w.frozen? ⟨b, 2, none⟩ = false :=
  ⟨(blk_cell h 0).trans (pt0 _ _ _), (blk_cell h 1).trans (pt1 _ _ _), (blk_cell h 2).trans (pt2 _ _ _), blk_free h 0, blk_free h 1, blk_free h 2⟩
/-- .. all written. -/
theorem pst3 {w : World} {b : Nat} {y0 y1 y2 : Value} {t : TypeId} (h : w.heap[b]? = some (.cells #[y0, y1, y2] t (0, 0))) (x0 x1 x2 : Value) :
    (((w.setCell ⟨b, 0, none⟩ x0).setCell ⟨b, 1, none⟩ x1).setCell ⟨b, 2, none⟩ x2).heap[b]? = some (.cells #[x0, x1, x2] t (0, 0)) ∧ w.grownBy (((w.setCell ⟨b, 0, none⟩ x0).setCell ⟨b, 1, none⟩ x1).setCell ⟨b, 2, none⟩ x2) (some b) :=
  ⟨blk_set (blk_set (blk_set h 0 x0) 1 x1) 2 x2, grown_trans (grown_trans (grown_set _ _ _ _) (grown_set _ _ _ _)) (grown_set _ _ _ _)⟩

/-- impl.isRound. -/
theorem isRound_any {x : Int} {w : World} (hx : (Lit.int .i64 x).wf = true) : Calls Try.prog 44 #[.int .i64 x] w fun e w' => e = .returned (.bool (inR x 0 1000000000000)) ∧ w' = w := by
  go_enter Try.func44, Try.ntmps44
  go_wp2_with fail
  refine (impl_in _ _ _ _ hx).mono ?_
  rintro e w1 ⟨rfl, rfl⟩
  go_wp2_with fail
  go_ret
  exact ⟨rfl, rfl⟩

/-- What a hash gives as a row. -/
def rowH (q n : Int) : Int := if inR n 1 64 = true then kid q 0 % n else -1

set_option maxHeartbeats 1000000 in
/-- impl.rowFrom. -/
theorem impl_rf {w : World} {q n : Int} (hq : (Lit.int .i64 q).wf = true) (hn : (Lit.int .i64 n).wf = true) :
    Calls Try.prog 45 #[.int .i64 q, .int .i64 n] w fun e w' => e = .returned (.int .i64 (rowH q n)) ∧ Below w.heap.size w w' := by
  have HQ := Lib.hid hq
  have HN := Lib.hid hn
  cases h1 : inR n 1 64 with
  | false =>
    have H1 := Lib.hid h1
    have HE : Hid (rowH q n = -1) := Lib.hid (if_neg (by rw [h1]; decide))
    clear h1 hq hn
    go_enter Try.func45, Try.ntmps45
    go_wp2_with fail
    refine (impl_in _ _ _ _ HN.out).mono ?_
    rw [H1.out]
    rintro e w1 ⟨rfl, hw⟩
    obtain rfl := hw.symm
    go_wp2_with fail
    go_ret
    exact ⟨by rw [HE.out]; rfl, Below.refl _ _⟩
  | true =>
    have H1 := Lib.hid h1
    have hn0 : 1 ≤ n ∧ n ≤ 64 := inR_iff.1 h1
    have HE : Hid (rowH q n = kid q 0 % n) := Lib.hid (if_pos h1)
    have ht : (kid q 0).tmod n = kid q 0 % n := tmod_pos (kid_bound q 0).1
    have HCb := Lib.hid (kid_bound q 0)
    obtain ⟨c, hc⟩ : ∃ c, c = kid q 0 := ⟨_, rfl⟩
    rw [← hc] at HE HCb ht
    have HC := Lib.hid hc
    obtain ⟨m, hm⟩ : ∃ m, m = c % n := ⟨_, rfl⟩
    rw [← hm] at HE ht
    have hnz : (n == 0) = false := beq_eq_false_iff_ne.2 (by omega)
    have hmb : -9223372036854775808 ≤ m ∧ m ≤ 9223372036854775807 := by
      have h5 := Int.emod_nonneg c (show n ≠ 0 by omega)
      have h6 := Int.emod_lt_of_pos c (show 0 < n by omega)
      omega
    clear h1 hq hn hc hm
    go_enter Try.func45, Try.ntmps45
    go_wp2_with fail
    refine (impl_in _ _ _ _ HN.out).mono ?_
    rw [H1.out]
    rintro e w1 ⟨rfl, hw⟩
    obtain rfl := hw.symm
    go_wp2_with fail
    refine (impl_cs HQ.out (by decide)).mono ?_
    rw [← HC.out]
    rintro e w3 ⟨rfl, hb⟩
    have HB := Lib.hid hb
    clear hb
    have hcb := HCb.out
    go_wp2_with fail
    go_ret
    exact ⟨by rw [HE.out]; rfl, HB.out⟩

set_option maxHeartbeats 1000000 in
/-- impl.MailboxRow. -/
theorem impl_mrow {w : World} {k r d n : Int} (hk : (Lit.int .i64 k).wf = true) (hr : (Lit.int .i64 r).wf = true) (hd : (Lit.int .i64 d).wf = true) (hn : (Lit.int .i64 n).wf = true) :
    Calls Try.prog 17 #[.int .i64 k, .int .i64 r, .int .i64 d, .int .i64 n] w fun e w' => e = .returned (.int .i64 (mrow k r d n)) ∧ Below w.heap.size w w' := by
  have HK := Lib.hid hk
  have HR := Lib.hid hr
  have HD := Lib.hid hd
  have HN := Lib.hid hn
  cases h2 : inR r 0 1000000000000 with
  | false =>
    have H2 := Lib.hid h2
    have HE := Lib.hid (mrow_no (k := k) (d := d) (show rowq r n = false by unfold rowq; rw [h2, Bool.and_false]))
    clear h2 hk hr hd hn
    go_enter Try.func17, Try.ntmps17
    go_wp2_with fail
    refine (isRound_any HR.out).mono ?_
    rw [H2.out]
    rintro e w1 ⟨rfl, hw⟩
    obtain rfl := hw.symm
    go_wp2_with fail
    go_ret
    exact ⟨by rw [HE.out]; rfl, Below.refl _ _⟩
  | true =>
    have H2 := Lib.hid h2
    have HE : Hid (rowH (kh k [79, r, d]) n = mrow k r d n) := Lib.hid (by unfold rowH mrow rowq; rw [h2, Bool.and_true])
    have HO := Lib.hid (Own.lits3 (B := w.heap.size) (w := w) .i64 3 (Nat.le_refl _) (by decide) hr hd (x := 79))
    have HB := Lib.hid ((Below.refl w.heap.size w).alloc (Nat.le_refl _) (.cells #[.int .i64 79, .int .i64 r, .int .i64 d] 3))
    have HW := Lib.hid (kh_wf k [79, r, d])
    obtain ⟨q, hq⟩ : ∃ q, q = kh k [79, r, d] := ⟨_, rfl⟩
    rw [← hq] at HW HE
    have HQ := Lib.hid hq
    clear h2 hk hr hd hn hq
    go_enter Try.func17, Try.ntmps17
    go_wp2_with fail
    refine (isRound_any HR.out).mono ?_
    rw [H2.out]
    rintro e w1 ⟨rfl, hw⟩
    obtain rfl := hw.symm
    go_wp2_with fail
    refine (impl_kh HO.out.rd (by simp) HK.out).mono ?_
    rw [← HQ.out]
    rintro e w2 ⟨rfl, hb⟩
    replace HB := Lib.hid (HB.out.trans (hb.mono HB.out.size))
    clear hb
    go_wp2_with fail
    refine (impl_rf HW.out HN.out).mono ?_
    rw [HE.out]
    rintro e w3 ⟨rfl, hb⟩
    replace HB := Lib.hid (HB.out.trans (hb.mono HB.out.size))
    clear hb
    go_wp2_with fail
    go_ret
    exact ⟨rfl, HB.out⟩

/-- impl.DirectionKey. -/
theorem impl_dk {w : World} {k n : Int} (hk : (Lit.int .i64 k).wf = true) (hn : (Lit.int .i64 n).wf = true) :
    Calls Try.prog 66 #[.int .i64 k, .int .i64 n] w fun e w' => e = .returned (.int .i64 (dkey k n)) ∧ Below w.heap.size w w' := by
  have HR := Lib.hid (Rd.two 3 .i64 w 83 n (by decide) hn)
  have HS := Lib.hid hk
  have HB := Lib.hid ((Below.refl w.heap.size w).alloc (Nat.le_refl _) (.cells #[.int .i64 83, .int .i64 n] 3))
  have HW := Lib.hid (kh_wf k [83, n])
  have HT : Hid (mx (kh k [83, n]) 1 = dkey k n) := Lib.hid (by unfold dkey; rfl)
  obtain ⟨q, hq⟩ : ∃ q, q = kh k [83, n] := ⟨_, rfl⟩
  rw [← hq] at HW HT
  have HQ := Lib.hid hq
  clear hk hn hq
  go_enter Try.func66, Try.ntmps66
  go_wp2_with fail
  refine (impl_kh HR.out (by simp) HS.out).mono ?_
  rintro e w1 ⟨he, hb⟩
  rw [← HQ.out] at he
  subst he
  replace HB := Lib.hid (HB.out.trans (hb.mono HB.out.size))
  clear hb
  go_wp2_with fail
  refine (impl_max _ _ _ HW.out (by decide)).mono ?_
  rw [HT.out]
  rintro e w2 ⟨rfl, hb⟩
  replace HB := Lib.hid (HB.out.trans (hb.mono HB.out.size))
  clear hb
  go_wp2_with fail
  go_ret
  exact ⟨rfl, HB.out⟩

set_option maxHeartbeats 1000000 in
/-- (loop.example/g00516/impl.Mailbox).isValid. -/
theorem impl_isv {w : World} {k s r : Int} (hk : (Lit.int .i64 k).wf = true) (hs : (Lit.int .i64 s).wf = true) (hr : (Lit.int .i64 r).wf = true) :
    Calls Try.prog 49 #[.agg #[.int .i64 k, .int .i64 s, .int .i64 r]] w fun e w' => e = .returned (.bool (okM k s r)) ∧ Below w.heap.size w w' := by
  have HK := Lib.hid hk
  have HS := Lib.hid hs
  have HR := Lib.hid hr
  have hk3 := heap_alloc_new w (.cells #[.int .i64 k, .int .i64 s, .int .i64 r] 39)
  obtain ⟨k0, k1, k2, _⟩ := ptc hk3
  have HB := Lib.hid ((Below.refl w.heap.size w).alloc (Nat.le_refl _) (.cells #[.int .i64 k, .int .i64 s, .int .i64 r] 39))
  clear hk3 hk hs hr
  cases h1 : inR k 1 2147483646 with
  | false =>
    have H1 := Lib.hid h1
    have HE : Hid (okM k s r = false) := Lib.hid (by unfold okM; rw [h1]; rfl)
    clear h1
    go_enter Try.func49, Try.ntmps49
    go_wp2_with fail
    refine (impl_vk HK.out).mono ?_
    rw [H1.out]
    rintro e w1 ⟨rfl, hw⟩
    obtain rfl := hw.symm
    go_wp2_with fail
    go_ret
    exact ⟨by rw [HE.out]; rfl, HB.out⟩
  | true =>
   cases h2 : inR s 0 1000000000000 with
   | false =>
    have H1 := Lib.hid h1
    have H2 := Lib.hid h2
    have HE : Hid (okM k s r = false) := Lib.hid (by unfold okM; rw [h1, h2]; rfl)
    clear h1 h2
    go_enter Try.func49, Try.ntmps49
    go_wp2_with fail
    refine (impl_vk HK.out).mono ?_
    rw [H1.out]
    rintro e w1 ⟨rfl, hw⟩
    obtain rfl := hw.symm
    go_wp2_with fail
    refine (isCounter_any HS.out).mono ?_
    rw [H2.out]
    rintro e w1 ⟨rfl, hw⟩
    obtain rfl := hw.symm
    go_wp2_with fail
    go_ret
    exact ⟨by rw [HE.out]; rfl, HB.out⟩
   | true =>
    have H1 := Lib.hid h1
    have H2 := Lib.hid h2
    obtain ⟨q, hq⟩ : ∃ q, q = inR r 0 1000000000000 := ⟨_, rfl⟩
    have H3 := Lib.hid hq.symm
    have HE : Hid (okM k s r = q) := Lib.hid (by unfold okM; rw [h1, h2, hq]; rfl)
    clear h1 h2 hq
    go_enter Try.func49, Try.ntmps49
    go_wp2_with fail
    refine (impl_vk HK.out).mono ?_
    rw [H1.out]
    rintro e w1 ⟨rfl, hw⟩
    obtain rfl := hw.symm
    go_wp2_with fail
    refine (isCounter_any HS.out).mono ?_
    rw [H2.out]
    rintro e w1 ⟨rfl, hw⟩
    obtain rfl := hw.symm
    go_wp2_with fail
    refine (isCounter_any HR.out).mono ?_
    rw [H3.out]
    rintro e w1 ⟨rfl, hw⟩
    obtain rfl := hw.symm
    go_wp2_with fail
    go_ret
    exact ⟨by rw [HE.out]; rfl, HB.out⟩

set_option maxHeartbeats 1000000 in
/-- spec.MailboxRow. -/
theorem spec_mrow {w : World} {k r d n : Int} (hk : (Lit.int .i64 k).wf = true) (hr : (Lit.int .i64 r).wf = true) (hd : (Lit.int .i64 d).wf = true) (hn : (Lit.int .i64 n).wf = true) :
    Calls Try.prog 16 #[.int .i64 k, .int .i64 r, .int .i64 d, .int .i64 n] w fun e w' => e = .returned (.int .i64 (mrow k r d n)) ∧ Below w.heap.size w w' := by
  have HK := Lib.hid hk
  have HR := Lib.hid hr
  have HD := Lib.hid hd
  have HN := Lib.hid hn
  cases h1 : inR n 1 64 with
  | false =>
    have H1 := Lib.hid h1
    have HE := Lib.hid (mrow_no (k := k) (d := d) (show rowq r n = false by unfold rowq; rw [h1]; rfl))
    clear h1 hk hr hd hn
    go_enter Try.func16, Try.ntmps16
    go_wp2_with fail
    refine (spec_in _ _ _ _ HN.out).mono ?_
    rw [H1.out]
    rintro e w1 ⟨rfl, hw⟩
    obtain rfl := hw.symm
    go_wp2_with fail
    go_ret
    exact ⟨by rw [HE.out]; rfl, Below.refl _ _⟩
  | true =>
    have H1 := Lib.hid h1
    cases h2 : inR r 0 1000000000000 with
    | false =>
      have H2 := Lib.hid h2
      have HE := Lib.hid (mrow_no (k := k) (d := d) (show rowq r n = false by unfold rowq; rw [h1, h2]; rfl))
      clear h1 h2 hk hr hd hn
      go_enter Try.func16, Try.ntmps16
      go_wp2_with fail
      refine (spec_in _ _ _ _ HN.out).mono ?_
      rw [H1.out]
      rintro e w1 ⟨rfl, hw⟩
      obtain rfl := hw.symm
      go_wp2_with fail
      refine (spec_in _ _ _ _ HR.out).mono ?_
      rw [H2.out]
      rintro e w1 ⟨rfl, hw⟩
      obtain rfl := hw.symm
      go_wp2_with fail
      go_ret
      exact ⟨by rw [HE.out]; rfl, Below.refl _ _⟩
    | true =>
      have H2 := Lib.hid h2
      have hq : rowq r n = true := by unfold rowq; rw [h1, h2]; rfl
      have hn0 := (rowq_iff.1 hq).1
      have HE := Lib.hid (mrow_yes (k := k) (d := d) hq)
      have HO := Lib.hid (Own.lits3 (B := w.heap.size) (w := w) .i64 3 (Nat.le_refl _) (by decide) hr hd (x := 79))
      have HB := Lib.hid ((Below.refl w.heap.size w).alloc (Nat.le_refl _) (.cells #[.int .i64 79, .int .i64 r, .int .i64 d] 3))
      have HW := Lib.hid (kh_wf k [79, r, d])
      obtain ⟨q, hq⟩ : ∃ q, q = kh k [79, r, d] := ⟨_, rfl⟩
      rw [← hq] at HW HE
      have HQ := Lib.hid hq
      have ht : (kid q 0).tmod n = kid q 0 % n := tmod_pos (kid_bound q 0).1
      have HCb := Lib.hid (kid_bound q 0)
      obtain ⟨c, hc⟩ : ∃ c, c = kid q 0 := ⟨_, rfl⟩
      rw [← hc] at HE HCb ht
      have HC := Lib.hid hc
      obtain ⟨m, hm⟩ : ∃ m, m = c % n := ⟨_, rfl⟩
      rw [← hm] at HE ht
      have hnz : (n == 0) = false := beq_eq_false_iff_ne.2 (by omega)
      have hmb : -9223372036854775808 ≤ m ∧ m ≤ 9223372036854775807 := by
        have h5 := Int.emod_nonneg c (show n ≠ 0 by omega)
        have h6 := Int.emod_lt_of_pos c (show 0 < n by omega)
        omega
      clear h1 h2 hk hr hd hn hq hc hm
      go_enter Try.func16, Try.ntmps16
      go_wp2_with fail
      refine (spec_in _ _ _ _ HN.out).mono ?_
      rw [H1.out]
      rintro e w1 ⟨rfl, hw⟩
      obtain rfl := hw.symm
      go_wp2_with fail
      refine (spec_in _ _ _ _ HR.out).mono ?_
      rw [H2.out]
      rintro e w1 ⟨rfl, hw⟩
      obtain rfl := hw.symm
      go_wp2_with fail
      refine (spec_kh HO.out.rd (by simp) HK.out (by simp)).mono ?_
      rw [← HQ.out]
      rintro e w2 ⟨rfl, hb⟩
      replace HB := Lib.hid (HB.out.trans (hb.mono HB.out.size))
      clear hb
      go_wp2_with fail
      refine (spec_cs HW.out (by decide)).mono ?_
      rw [← HC.out]
      rintro e w3 ⟨rfl, hb⟩
      replace HB := Lib.hid (HB.out.trans (hb.mono HB.out.size))
      clear hb
      have hcb := HCb.out
      go_wp2_with fail
      go_ret
      exact ⟨by rw [HE.out]; rfl, HB.out⟩

/-- spec.DirectionKey. -/
theorem spec_dk {w : World} {k n : Int} (hk : (Lit.int .i64 k).wf = true) (hn : (Lit.int .i64 n).wf = true) :
    Calls Try.prog 47 #[.int .i64 k, .int .i64 n] w fun e w' => e = .returned (.int .i64 (dkey k n)) ∧ Below w.heap.size w w' := by
  have HR := Lib.hid (Rd.two 3 .i64 w 83 n (by decide) hn)
  have HS := Lib.hid hk
  have HB := Lib.hid ((Below.refl w.heap.size w).alloc (Nat.le_refl _) (.cells #[.int .i64 83, .int .i64 n] 3))
  have HW := Lib.hid (kh_wf k [83, n])
  have HT : Hid (mx 1 (kh k [83, n]) = dkey k n) := Lib.hid (by unfold dkey; exact mx_turn _ _)
  obtain ⟨q, hq⟩ : ∃ q, q = kh k [83, n] := ⟨_, rfl⟩
  rw [← hq] at HW HT
  have HQ := Lib.hid hq
  clear hk hn hq
  go_enter Try.func47, Try.ntmps47
  go_wp2_with fail
  refine (spec_kh HR.out (by simp) HS.out (by simp)).mono ?_
  rintro e w1 ⟨he, hb⟩
  rw [← HQ.out] at he
  subst he
  replace HB := Lib.hid (HB.out.trans (hb.mono HB.out.size))
  clear hb
  go_wp2_with fail
  refine (spec_max _ _ _).mono ?_
  rw [HT.out]
  rintro e w2 ⟨rfl, hw⟩
  obtain rfl := hw.symm
  go_wp2_with fail
  go_ret
  exact ⟨rfl, HB.out⟩

set_option maxHeartbeats 1000000 in
/-- loop.example/g00516/spec.IsValidMailbox. -/
theorem spec_vm {w : World} {k s r : Int} (hk : (Lit.int .i64 k).wf = true) (hs : (Lit.int .i64 s).wf = true) (hr : (Lit.int .i64 r).wf = true) :
    Calls Try.prog 48 #[.agg #[.int .i64 k, .int .i64 s, .int .i64 r]] w fun e w' => e = .returned (.bool (okM k s r)) ∧ Below w.heap.size w w' := by
  have HK := Lib.hid hk
  have HS := Lib.hid hs
  have HR := Lib.hid hr
  have hk3 := heap_alloc_new w (.cells #[.int .i64 k, .int .i64 s, .int .i64 r] 39)
  obtain ⟨k0, k1, k2, _⟩ := ptc hk3
  have HB := Lib.hid ((Below.refl w.heap.size w).alloc (Nat.le_refl _) (.cells #[.int .i64 k, .int .i64 s, .int .i64 r] 39))
  clear hk3 hk hs hr
  cases h1 : inR k 1 2147483646 with
  | false =>
    have H1 := Lib.hid h1
    have HE : Hid (okM k s r = false) := Lib.hid (by unfold okM; rw [h1]; rfl)
    clear h1
    go_enter Try.func48, Try.ntmps48
    go_wp2_with fail
    refine (spec_vk HK.out).mono ?_
    rw [H1.out]
    rintro e w1 ⟨rfl, hw⟩
    obtain rfl := hw.symm
    go_wp2_with fail
    go_ret
    exact ⟨by rw [HE.out]; rfl, HB.out⟩
  | true =>
   cases h2 : inR s 0 1000000000000 with
   | false =>
    have H1 := Lib.hid h1
    have H2 := Lib.hid h2
    have HE : Hid (okM k s r = false) := Lib.hid (by unfold okM; rw [h1, h2]; rfl)
    clear h1 h2
    go_enter Try.func48, Try.ntmps48
    go_wp2_with fail
    refine (spec_vk HK.out).mono ?_
    rw [H1.out]
    rintro e w1 ⟨rfl, hw⟩
    obtain rfl := hw.symm
    go_wp2_with fail
    refine (spec_in _ _ _ _ HS.out).mono ?_
    rw [H2.out]
    rintro e w1 ⟨rfl, hw⟩
    obtain rfl := hw.symm
    go_wp2_with fail
    go_ret
    exact ⟨by rw [HE.out]; rfl, HB.out⟩
   | true =>
    have H1 := Lib.hid h1
    have H2 := Lib.hid h2
    obtain ⟨q, hq⟩ : ∃ q, q = inR r 0 1000000000000 := ⟨_, rfl⟩
    have H3 := Lib.hid hq.symm
    have HE : Hid (okM k s r = q) := Lib.hid (by unfold okM; rw [h1, h2, hq]; rfl)
    clear h1 h2 hq
    go_enter Try.func48, Try.ntmps48
    go_wp2_with fail
    refine (spec_vk HK.out).mono ?_
    rw [H1.out]
    rintro e w1 ⟨rfl, hw⟩
    obtain rfl := hw.symm
    go_wp2_with fail
    refine (spec_in _ _ _ _ HS.out).mono ?_
    rw [H2.out]
    rintro e w1 ⟨rfl, hw⟩
    obtain rfl := hw.symm
    go_wp2_with fail
    refine (spec_in _ _ _ _ HR.out).mono ?_
    rw [H3.out]
    rintro e w1 ⟨rfl, hw⟩
    obtain rfl := hw.symm
    go_wp2_with fail
    go_ret
    exact ⟨by rw [HE.out]; rfl, HB.out⟩

end Go.Proofs.Ytbimihljaalllaa
