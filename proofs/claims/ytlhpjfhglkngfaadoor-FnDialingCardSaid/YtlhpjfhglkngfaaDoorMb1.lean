/- Mailboxes: rows, keys of directions, valid mailboxes; the program's and the document's. No conditions but numbers that a machine holds. -/
import Derived.Test.YtlhpjfhglkngfaaDoorMbN
import Derived.Test.YtlhpjfhglkngfaaDoorCl1
import Derived.Test.YtlhpjfhglkngfaaDoorBbC
namespace Go.Proofs.YtlhpjfhglkngfaaDoor
open Go Go.RowKit
set_option linter.unusedVariables false
attribute [local irreducible] kh kid

theorem Own.lits3 {B : Nat} {w : World} {x y z : Int} (k : IntKind) (e : TypeId) (hB : B ≤ w.heap.size) (hx : (Lit.int k x).wf = true) (hy : (Lit.int k y).wf = true) (hz : (Lit.int k z).wf = true) : Own e k B (w.alloc (.cells #[.int k x, .int k y, .int k z] e)) (.slice (some ⟨w.heap.size, 0, none⟩) 3 3) [x, y, z] :=
  ⟨by intro t ht; simp at ht; rcases ht with rfl | rfl | rfl; exact hx; exact hy; exact hz, by simp; omega, World.ownsRow_lit w #[.int k x, .int k y, .int k z] 3 hB (by unfold maxLen; omega) rfl⟩
theorem pt0 (x y z : Value) : (#[x, y, z] : Array Value)[0]? = some x := rfl
theorem pt1 (x y z : Value) : (#[x, y, z] : Array Value)[1]? = some y := rfl
theorem pt2 (x y z : Value) : (#[x, y, z] : Array Value)[2]? = some z := rfl
/-- A block of three cells. -/
theorem ptc {w : World} {b : Nat} {y0 y1 y2 : Value} {t : TypeId} (h : w.heap[b]? = some (.cells #[y0, y1, y2] t (0, 0))) : w.cell? ⟨b, 0, none⟩ = some y0 ∧ w.cell? ⟨b, 1, none⟩ = some y1 ∧ w.cell? ⟨b, 2, none⟩ = some y2 ∧ w.frozen? ⟨b, 0, none⟩ = false ∧ w.frozen? ⟨b, 1, none⟩ = false ∧ w.frozen? ⟨b, 2, none⟩ = false :=
  ⟨(blk_cell h 0).trans (pt0 _ _ _), (blk_cell h 1).trans (pt1 _ _ _), (blk_cell h 2).trans (pt2 _ _ _), blk_free h 0, blk_free h 1, blk_free h 2⟩
/-- .. all written. -/
theorem pst3 {w : World} {b : Nat} {y0 y1 y2 : Value} {t : TypeId} (h : w.heap[b]? = some (.cells #[y0, y1, y2] t (0, 0))) (x0 x1 x2 : Value) :
    (((w.setCell ⟨b, 0, none⟩ x0).setCell ⟨b, 1, none⟩ x1).setCell ⟨b, 2, none⟩ x2).heap[b]? = some (.cells #[x0, x1, x2] t (0, 0)) ∧ w.grownBy (((w.setCell ⟨b, 0, none⟩ x0).setCell ⟨b, 1, none⟩ x1).setCell ⟨b, 2, none⟩ x2) (some b) :=
  ⟨blk_set (blk_set (blk_set h 0 x0) 1 x1) 2 x2, grown_trans (grown_trans (grown_set _ _ _ _) (grown_set _ _ _ _)) (grown_set _ _ _ _)⟩

/-- impl.isRound. -/
theorem isRound_any {x : Int} {w : World} (hx : (Lit.int .i64 x).wf = true) : Calls Tryd.prog 34 #[.int .i64 x] w fun e w' => e = .returned (.bool (inR x 0 1000000000000)) ∧ w' = w := by
  go_enter Tryd.func34, Tryd.ntmps34
  go_wp2_with fail
  refine (impl_in _ _ _ _ hx).mono ?_
  rintro e w1 ⟨rfl, rfl⟩
  go_wp2_with fail
  go_ret
  exact ⟨rfl, rfl⟩

/-- What a hash gives as a row. -/
def rowH (q n : Int) : Int := if inR n 1 64 = true then kid q 0 % n else -1

set_option maxHeartbeats 1000000 in
/-- impl.rowFrom. -/
theorem impl_rf {w : World} {q n : Int} (hq : (Lit.int .i64 q).wf = true) (hn : (Lit.int .i64 n).wf = true) :
    Calls Tryd.prog 35 #[.int .i64 q, .int .i64 n] w fun e w' => e = .returned (.int .i64 (rowH q n)) ∧ Below w.heap.size w w' := by
  have HQ := Lib.hid hq
  have HN := Lib.hid hn
  cases h1 : inR n 1 64 with
  | false =>
    have H1 := Lib.hid h1
    have HE : Hid (rowH q n = -1) := Lib.hid (if_neg (by rw [h1]; decide))
    clear h1 hq hn
    go_enter Tryd.func35, Tryd.ntmps35
    go_wp2_with fail
    refine (impl_in _ _ _ _ HN.out).mono ?_
    rw [H1.out]
    rintro e w1 ⟨rfl, hw⟩
    obtain rfl := hw.symm
    go_wp2_with fail
    go_ret
    exact ⟨by rw [HE.out]; rfl, Below.refl _ _⟩
  | true =>
    have H1 := Lib.hid h1
    have hn0 : 1 ≤ n ∧ n ≤ 64 := inR_iff.1 h1
    have HE : Hid (rowH q n = kid q 0 % n) := Lib.hid (if_pos h1)
    have ht : (kid q 0).tmod n = kid q 0 % n := tmod_pos (kid_bound q 0).1
    have HCb := Lib.hid (kid_bound q 0)
    obtain ⟨c, hc⟩ : ∃ c, c = kid q 0 := ⟨_, rfl⟩
    rw [← hc] at HE HCb ht
    have HC := Lib.hid hc
    obtain ⟨m, hm⟩ : ∃ m, m = c % n := ⟨_, rfl⟩
    rw [← hm] at HE ht
    have hnz : (n == 0) = false := beq_eq_false_iff_ne.2 (by omega)
    have hmb : -9223372036854775808 ≤ m ∧ m ≤ 9223372036854775807 := by
      have h5 := Int.emod_nonneg c (show n ≠ 0 by omega)
      have h6 := Int.emod_lt_of_pos c (show 0 < n by omega)
      omega
    clear h1 hq hn hc hm
    go_enter Tryd.func35, Tryd.ntmps35
    go_wp2_with fail
    refine (impl_in _ _ _ _ HN.out).mono ?_
    rw [H1.out]
    rintro e w1 ⟨rfl, hw⟩
    obtain rfl := hw.symm
    go_wp2_with fail
    refine (impl_cs HQ.out (by decide)).mono ?_
    rw [← HC.out]
    rintro e w3 ⟨rfl, hb⟩
    have HB := Lib.hid hb
    clear hb
    have hcb := HCb.out
    go_wp2_with fail
    go_ret
    exact ⟨by rw [HE.out]; rfl, HB.out⟩

end Go.Proofs.YtlhpjfhglkngfaaDoor
