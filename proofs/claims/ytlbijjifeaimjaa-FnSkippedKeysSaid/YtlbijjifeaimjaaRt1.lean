/- Ratchets: kept keys in their cells; new ratchets, keys of messages and chains; the program's and the document's. No conditions but numbers that a machine holds. -/
import Derived.Test.YtlbijjifeaimjaaRtM
import Derived.Test.YtlbijjifeaimjaaHp19
import Derived.Test.YtlbijjifeaimjaaBbC
import Derived.Test.YtlbijjifeaimjaaBa9
import Derived.Test.YtlbijjifeaimjaaBaM
import Derived.Test.YtlbijjifeaimjaaEnc
import Derived.Lib.SliceRun
namespace Go.Proofs.Ytlbijjifeaimjaa
open Go Go.RowKit
set_option linter.unusedVariables false
set_option maxRecDepth 20000
attribute [local irreducible] kh kid

/-- Kept keys in their cells. -/
def kepE : Enc (Int × Int) where
  sz := 2
  en c := [.int .i64 c.1, .int .i64 c.2]
  ok c := (Lit.int .i64 c.1).wf = true ∧ (Lit.int .i64 c.2).wf = true
  pos := by decide
  len _ := rfl
  one c u hu := by simp at hu; rcases hu with rfl | rfl <;> rfl
theorem kep_flat : FlatAs tySkippedKey kepE := by
  refine ⟨rfl, fun l w cs x => ⟨fun h => ?_, fun h => ?_⟩, fun F w cs x => ⟨fun h => ?_, fun h => ?_⟩⟩
  · obtain ⟨rfl, h1, h2⟩ := rd_SkippedKey h
    exact ⟨rfl, h1, h2⟩
  · obtain ⟨rfl, h1, h2⟩ := h
    exact rd_mkSkippedKey h1 h2
  · obtain ⟨rfl, h1, h2⟩ := own_SkippedKey h
    exact ⟨rfl, h1, h2⟩
  · obtain ⟨rfl, h1, h2⟩ := h
    exact own_mkSkippedKey h1 h2
theorem kep_one {B : Nat} {w : World} {s m : Int} (hB : B ≤ w.heap.size) (hs : (Lit.int .i64 s).wf = true) (hm : (Lit.int .i64 m).wf = true) : OwnS kepE 40 B (w.alloc (.cells #[.int .i64 s, .int .i64 m] 40)) (.slice (some ⟨w.heap.size, 0, none⟩) 1 1) [(s, m)] :=
  OwnS.lits kepE _ hB (by intro x hx; simp at hx; subst hx; exact ⟨hs, hm⟩) (by simp [kepE]) rfl (by unfold maxLen; omega)

/-! A block of three cells -/
theorem rc0 (x y z : Value) : (#[x, y, z] : Array Value)[0]? = some x := rfl
theorem rc1 (x y z : Value) : (#[x, y, z] : Array Value)[1]? = some y := rfl
theorem rc2 (x y z : Value) : (#[x, y, z] : Array Value)[2]? = some z := rfl
theorem rcs {w : World} {b : Nat} {y0 y1 y2 : Value} {t : TypeId} (h : w.heap[b]? = some (.cells #[y0, y1, y2] t (0, 0))) : w.cell? ⟨b, 0, none⟩ = some y0 ∧ w.cell? ⟨b, 1, none⟩ = some y1 ∧ w.cell? ⟨b, 2, none⟩ = some y2 :=
  ⟨(blk_cell h 0).trans (rc0 _ _ _), (blk_cell h 1).trans (rc1 _ _ _), (blk_cell h 2).trans (rc2 _ _ _)⟩
theorem rfr {w : World} {b : Nat} {y0 y1 y2 : Value} {t : TypeId} (h : w.heap[b]? = some (.cells #[y0, y1, y2] t (0, 0))) : w.frozen? ⟨b, 0, none⟩ = false ∧ w.frozen? ⟨b, 1, none⟩ = false ∧ w.frozen? ⟨b, 2, none⟩ = false :=
  ⟨blk_free h 0, blk_free h 1, blk_free h 2⟩
theorem rst {w : World} {b : Nat} {y0 y1 y2 : Value} {t : TypeId} (h : w.heap[b]? = some (.cells #[y0, y1, y2] t (0, 0))) (x0 x1 x2 : Value) :
    (((w.setCell ⟨b, 0, none⟩ x0).setCell ⟨b, 1, none⟩ x1).setCell ⟨b, 2, none⟩ x2).heap[b]? = some (.cells #[x0, x1, x2] t (0, 0)) ∧ w.grownBy (((w.setCell ⟨b, 0, none⟩ x0).setCell ⟨b, 1, none⟩ x1).setCell ⟨b, 2, none⟩ x2) (some b) := by
  have h0 : (w.setCell ⟨b, 0, none⟩ x0).heap[b]? = some (.cells #[x0, y1, y2] t (0, 0)) := blk_set h 0 x0
  have h1 : ((w.setCell ⟨b, 0, none⟩ x0).setCell ⟨b, 1, none⟩ x1).heap[b]? = some (.cells #[x0, x1, y2] t (0, 0)) := blk_set h0 1 x1
  exact ⟨blk_set h1 2 x2, grown_trans (grown_trans (grown_set _ _ _ _) (grown_set _ _ _ _)) (grown_set _ _ _ _)⟩
theorem rstand {w w' : World} {b : Nat} {o : Obj} (h : w.heap[b]? = some o) (hb : Below w.heap.size w w') : w'.heap[b]? = some o := (hb.block _ (lt_of_block h)).trans h
theorem kcs {w : World} {b : Nat} {y0 y1 : Value} {t : TypeId} (h : w.heap[b]? = some (.cells #[y0, y1] t (0, 0))) : w.cell? ⟨b, 0, none⟩ = some y0 ∧ w.cell? ⟨b, 1, none⟩ = some y1 :=
  ⟨(blk_cell h 0).trans rfl, (blk_cell h 1).trans rfl⟩

/-! ### New ratchets -/
/-- The chain key of a new ratchet. -/
def nrC (k : Int) : Int := if inR k 1 2147483646 = true then k else 1

set_option maxHeartbeats 1000000 in
/-- spec.NewRatchet. -/
theorem spec_nr {w : World} {k : Int} (hk : (Lit.int .i64 k).wf = true) :
    Calls Try.prog 37 #[.int .i64 k] w fun e w' => e = .returned (.agg #[.int .i64 (nrC k), .int .i64 0, .slice none 0 0]) ∧ Below w.heap.size w w' := by
  have HB := fun x : Int => (Below.refl w.heap.size w).alloc (Nat.le_refl _) (.cells #[.int .i64 x, .int .i64 0, .slice none 0 0] 26)
  cases hr : inR k 1 2147483646 with
  | false =>
    have HR := Lib.hid hr
    have HE : Hid (nrC k = 1) := Lib.hid (if_neg (by rw [hr]; decide))
    clear hr
    go_enter Try.func37, Try.ntmps37
    go_wp2_with fail
    refine (spec_vk hk).mono ?_
    rw [HR.out]
    rintro e w1 ⟨rfl, hw⟩
    subst hw
    go_wp2_with fail
    rw [HE.out]
    exact bodyPost_ret (v := .agg #[.int .i64 1, .int .i64 0, .slice none 0 0]) (by simp [results, Try.results37, go_sem]) rfl ⟨rfl, HB _⟩
  | true =>
    have HR := Lib.hid hr
    have HE : Hid (nrC k = k) := Lib.hid (if_pos hr)
    clear hr
    go_enter Try.func37, Try.ntmps37
    go_wp2_with fail
    refine (spec_vk hk).mono ?_
    rw [HR.out]
    rintro e w1 ⟨rfl, hw⟩
    subst hw
    go_wp2_with fail
    rw [HE.out]
    exact bodyPost_ret (v := .agg #[.int .i64 k, .int .i64 0, .slice none 0 0]) (by simp [results, Try.results37, go_sem]) rfl ⟨rfl, HB _⟩

/-! ### Keys of messages, of chains -/
theorem mx_one (q : Int) : mx 1 q = mx q 1 := by unfold mx; split <;> split <;> omega

set_option maxHeartbeats 1000000 in
/-- impl.MessageKey. -/
theorem impl_mky {w : World} {c : Int} (hc : (Lit.int .i64 c).wf = true) :
    Calls Try.prog 32 #[.int .i64 c] w fun e w' => e = .returned (.int .i64 (mky c)) ∧ Below w.heap.size w w' := by
  have HR := Lib.hid (Rd.one 3 .i64 w 127 (by decide))
  have HC := Lib.hid hc
  have HB := Lib.hid ((Below.refl w.heap.size w).alloc (Nat.le_refl _) (.cells #[.int .i64 127] 3))
  have hq := kh_bound c [127]
  obtain ⟨q, hqe⟩ : ∃ q, q = kh c [127] := ⟨_, rfl⟩
  obtain ⟨t, ht⟩ : ∃ t, t = mky c := ⟨_, rfl⟩
  rw [← hqe] at hq
  rw [← ht]
  have HQ := Lib.hid hqe
  have HT : Hid (mx q 1 = t) := Lib.hid (by rw [ht, hqe]; rfl)
  have HQw : Hid ((Lit.int .i64 q).wf = true) := Lib.hid (wf_i64_of (by omega) (by omega))
  clear hqe ht hc hq
  go_enter Try.func32, Try.ntmps32
  go_wp2_with fail
  refine (impl_kh HR.out (by simp) HC.out).mono ?_
  rw [← HQ.out]
  rintro e w1 ⟨rfl, h1⟩
  replace HB := Lib.hid (HB.out.trans (h1.mono (by simp)))
  clear h1
  go_wp2_with fail
  refine (impl_max _ _ _ HQw.out (by decide)).mono ?_
  rw [HT.out]
  rintro e w2 ⟨rfl, h1⟩
  replace HB := Lib.hid (HB.out.trans (h1.mono HB.out.size))
  clear h1
  go_wp2_with fail
  go_ret
  exact ⟨rfl, HB.out⟩

set_option maxHeartbeats 1000000 in
/-- spec.MessageKey. -/
theorem spec_mky {w : World} {c : Int} (hc : (Lit.int .i64 c).wf = true) :
    Calls Try.prog 46 #[.int .i64 c] w fun e w' => e = .returned (.int .i64 (mky c)) ∧ Below w.heap.size w w' := by
  have HR := Lib.hid (Rd.one 3 .i64 w 127 (by decide))
  have HC := Lib.hid hc
  have HB := Lib.hid ((Below.refl w.heap.size w).alloc (Nat.le_refl _) (.cells #[.int .i64 127] 3))
  have hq := kh_bound c [127]
  obtain ⟨q, hqe⟩ : ∃ q, q = kh c [127] := ⟨_, rfl⟩
  obtain ⟨t, ht⟩ : ∃ t, t = mky c := ⟨_, rfl⟩
  rw [← hqe] at hq
  rw [← ht]
  have HQ := Lib.hid hqe
  have HT : Hid (mx q 1 = t) := Lib.hid (by rw [ht, hqe]; rfl)
  have HQw : Hid ((Lit.int .i64 q).wf = true) := Lib.hid (wf_i64_of (by omega) (by omega))
  clear hqe ht hc hq
  go_enter Try.func46, Try.ntmps46
  go_wp2_with fail
  refine (spec_kh HR.out (by simp) HC.out (by simp)).mono ?_
  rw [← HQ.out]
  rintro e w1 ⟨rfl, h1⟩
  replace HB := Lib.hid (HB.out.trans (h1.mono (by simp)))
  clear h1
  go_wp2_with fail
  refine (spec_max _ _ _).mono ?_
  rw [mx_one, HT.out]
  rintro e w2 ⟨rfl, hw⟩
  subst hw
  go_wp2_with fail
  go_ret
  exact ⟨rfl, HB.out⟩

set_option maxHeartbeats 1000000 in
/-- impl.NextChain. -/
theorem impl_nx {w : World} {c : Int} (hc : (Lit.int .i64 c).wf = true) :
    Calls Try.prog 33 #[.int .i64 c] w fun e w' => e = .returned (.int .i64 (nxc c)) ∧ Below w.heap.size w w' := by
  have HR := Lib.hid (Rd.one 3 .i64 w 131 (by decide))
  have HC := Lib.hid hc
  have HB := Lib.hid ((Below.refl w.heap.size w).alloc (Nat.le_refl _) (.cells #[.int .i64 131] 3))
  have hq := kh_bound c [131]
  obtain ⟨q, hqe⟩ : ∃ q, q = kh c [131] := ⟨_, rfl⟩
  obtain ⟨t, ht⟩ : ∃ t, t = nxc c := ⟨_, rfl⟩
  rw [← hqe] at hq
  rw [← ht]
  have HQ := Lib.hid hqe
  have HT : Hid (mx q 1 = t) := Lib.hid (by rw [ht, hqe]; rfl)
  have HQw : Hid ((Lit.int .i64 q).wf = true) := Lib.hid (wf_i64_of (by omega) (by omega))
  clear hqe ht hc hq
  go_enter Try.func33, Try.ntmps33
  go_wp2_with fail
  refine (impl_kh HR.out (by simp) HC.out).mono ?_
  rw [← HQ.out]
  rintro e w1 ⟨rfl, h1⟩
  replace HB := Lib.hid (HB.out.trans (h1.mono (by simp)))
  clear h1
  go_wp2_with fail
  refine (impl_max _ _ _ HQw.out (by decide)).mono ?_
  rw [HT.out]
  rintro e w2 ⟨rfl, h1⟩
  replace HB := Lib.hid (HB.out.trans (h1.mono HB.out.size))
  clear h1
  go_wp2_with fail
  go_ret
  exact ⟨rfl, HB.out⟩

set_option maxHeartbeats 1000000 in
/-- spec.NextChain. -/
theorem spec_nx {w : World} {c : Int} (hc : (Lit.int .i64 c).wf = true) :
    Calls Try.prog 47 #[.int .i64 c] w fun e w' => e = .returned (.int .i64 (nxc c)) ∧ Below w.heap.size w w' := by
  have HR := Lib.hid (Rd.one 3 .i64 w 131 (by decide))
  have HC := Lib.hid hc
  have HB := Lib.hid ((Below.refl w.heap.size w).alloc (Nat.le_refl _) (.cells #[.int .i64 131] 3))
  have hq := kh_bound c [131]
  obtain ⟨q, hqe⟩ : ∃ q, q = kh c [131] := ⟨_, rfl⟩
  obtain ⟨t, ht⟩ : ∃ t, t = nxc c := ⟨_, rfl⟩
  rw [← hqe] at hq
  rw [← ht]
  have HQ := Lib.hid hqe
  have HT : Hid (mx q 1 = t) := Lib.hid (by rw [ht, hqe]; rfl)
  have HQw : Hid ((Lit.int .i64 q).wf = true) := Lib.hid (wf_i64_of (by omega) (by omega))
  clear hqe ht hc hq
  go_enter Try.func47, Try.ntmps47
  go_wp2_with fail
  refine (spec_kh HR.out (by simp) HC.out (by simp)).mono ?_
  rw [← HQ.out]
  rintro e w1 ⟨rfl, h1⟩
  replace HB := Lib.hid (HB.out.trans (h1.mono (by simp)))
  clear h1
  go_wp2_with fail
  refine (spec_max _ _ _).mono ?_
  rw [mx_one, HT.out]
  rintro e w2 ⟨rfl, hw⟩
  subst hw
  go_wp2_with fail
  go_ret
  exact ⟨rfl, HB.out⟩

end Go.Proofs.Ytlbijjifeaimjaa
