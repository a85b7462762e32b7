/- Mod, the program's and the document's. No conditions but numbers that a machine holds. Max, the program's and the document's. No conditions. A row that make made. No program. -/
import Derived.Test.YtlbijjifeaimjaaRows
import Derived.Test.YtlbijjifeaimjaaBa1
import Derived.WalkKit
import Derived.Handy
import Derived.Outline
import Derived.WalkSpells
import Derived.Lib.Hide

/-! Mod -/
namespace Go.Proofs.Ytlbijjifeaimjaa
open Go Go.RowKit
set_option linter.unusedVariables false

def modV (a b : Int) : Int := if 1 ≤ b ∧ b ≤ 1000000000000 then a % b else 0

theorem rint {a b : Int} (h : a = b) : Ending.returned (.int .i64 a) = Ending.returned (.int .i64 b) := by rw [h]

theorem tmod_emod (p q : Int) (hq : 1 ≤ q) (hp : p < 0) : -q < p.tmod q ∧ p.tmod q ≤ 0 ∧ (p.tmod q < 0 → p.tmod q + q = p % q) ∧ (¬ p.tmod q < 0 → p.tmod q = p % q) := by
  have e : p.tmod q = -((-p) % q) := by
    have h := Int.neg_tmod (a := -p) (b := q)
    rw [Int.neg_neg] at h
    rw [h, Int.tmod_eq_emod_of_nonneg (by omega)]
  have b1 := Int.emod_nonneg (-p) (b := q) (by omega)
  have b2 := Int.emod_lt_of_pos (-p) (b := q) (by omega)
  have hd := Int.mul_tdiv_add_tmod p q
  have hm : p % q = p.tmod q % q := by
    conv => lhs; rw [← hd]
    rw [Int.add_comm, Int.add_mul_emod_self_left]
  refine ⟨by omega, by omega, fun hn => ?_, fun hn => ?_⟩
  · rw [hm, ← Int.add_emod_right, Int.emod_eq_of_lt (by omega) (by omega)]
  · rw [hm, Int.emod_eq_of_lt (by omega) (by omega)]

theorem impl_mod (a b : Int) (w : World) (ha : -9223372036854775808 ≤ a) (ha1 : a ≤ 9223372036854775807) :
    Calls Try.prog 53 #[.int .i64 a, .int .i64 b] w fun e w' => e = .returned (.int .i64 (modV a b)) ∧ w' = w := by
  have hv := Lib.hid (show modV a b = if 1 ≤ b ∧ b ≤ 1000000000000 then a % b else 0 from rfl)
  by_cases h3 : 1 ≤ b <;> by_cases h4 : b ≤ 1000000000000
  all_goals first | (exfalso; omega) | skip
  · have hv1 := Lib.hid (show modV a b = a % b by rw [hv.out, if_pos ⟨h3, h4⟩])
    by_cases hp : 0 ≤ a
    · have b1 := Int.emod_nonneg a (b := b) (by omega)
      have b2 := Int.emod_lt_of_pos a (b := b) (by omega)
      go_enter Try.func53, Try.ntmps53
      go_wp2
      go_ret
      exact ⟨rint hv1.out.symm, rfl⟩
    · obtain ⟨b1, b2, t1, t2⟩ := tmod_emod a b h3 (by omega)
      by_cases hz : a.tmod b < 0
      · have hv2 := Lib.hid ((t1 hz).trans hv1.out.symm)
        clear t1 t2
        go_enter Try.func53, Try.ntmps53
        go_wp2
        go_ret
        exact ⟨rint hv2.out, rfl⟩
      · have hv2 := Lib.hid ((t2 hz).trans hv1.out.symm)
        clear t1 t2
        go_enter Try.func53, Try.ntmps53
        go_wp2
        go_ret
        exact ⟨rint hv2.out, rfl⟩
  all_goals
    have hv1 := Lib.hid (show modV a b = 0 by rw [hv.out, if_neg (by omega)])
    go_enter Try.func53, Try.ntmps53
    go_wp2
    go_ret
    exact ⟨rint hv1.out.symm, rfl⟩

theorem spec_mod (a b : Int) (w : World) (ha : -9223372036854775808 ≤ a) (ha1 : a ≤ 9223372036854775807) :
    Calls Try.prog 72 #[.int .i64 a, .int .i64 b] w fun e w' => e = .returned (.int .i64 (modV a b)) ∧ w' = w := by
  have hv := Lib.hid (show modV a b = if 1 ≤ b ∧ b ≤ 1000000000000 then a % b else 0 from rfl)
  by_cases h3 : 1 ≤ b <;> by_cases h4 : b ≤ 1000000000000
  all_goals first | (exfalso; omega) | skip
  · have hv1 := Lib.hid (show modV a b = a % b by rw [hv.out, if_pos ⟨h3, h4⟩])
    by_cases hp : 0 ≤ a
    · have b1 := Int.emod_nonneg a (b := b) (by omega)
      have b2 := Int.emod_lt_of_pos a (b := b) (by omega)
      go_enter Try.func72, Try.ntmps72
      go_wp2
      go_ret
      refine ⟨rint ?_, rfl⟩
      rw [hv1.out]
      first | rfl | exact Int.emod_emod_of_dvd _ (Int.dvd_refl _) | (rw [Int.add_emod_right, Int.emod_emod_of_dvd _ (Int.dvd_refl _)])
    · obtain ⟨b1, b2, t1, t2⟩ := tmod_emod a b h3 (by omega)
      have hv2 : Hid ((a.tmod b + b) % b = modV a b) := Lib.hid (by
        rw [hv1.out, Int.add_emod_right]
        by_cases hz : a.tmod b < 0
        · rw [← t1 hz]
          rw [← Int.add_emod_right, Int.emod_eq_of_lt (by omega) (by omega)]
        · rw [t2 hz]; exact Int.emod_emod_of_dvd _ (Int.dvd_refl _))
      clear t1 t2
      go_enter Try.func72, Try.ntmps72
      go_wp2
      go_ret
      refine ⟨rint ?_, rfl⟩
      first | exact hv2.out | (rw [← hv2.out]; simp)
  all_goals
    have hv1 := Lib.hid (show modV a b = 0 by rw [hv.out, if_neg (by omega)])
    go_enter Try.func72, Try.ntmps72
    go_wp2
    go_ret
    exact ⟨rint hv1.out.symm, rfl⟩

end Go.Proofs.Ytlbijjifeaimjaa


/-! Max -/
namespace Go.Proofs.Ytlbijjifeaimjaa
open Go Go.RowKit
set_option linter.unusedVariables false

/-- The greater one. -/
def mx (a b : Int) : Int := if a < b then b else a
theorem mx_lt {a b : Int} (h : a < b) : mx a b = b := if_pos h
theorem mx_ge {a b : Int} (h : ¬ a < b) : mx a b = a := if_neg h

theorem impl_max (a b : Int) (w : World) (ha : (Lit.int .i64 a).wf = true) (hb : (Lit.int .i64 b).wf = true) :
    Calls Try.prog 36 #[.int .i64 a, .int .i64 b] w fun e w' => e = .returned (.int .i64 (mx a b)) ∧ Below w.heap.size w w' := by
  by_cases h1 : a < b
  · have hv := Lib.hid (mx_lt h1)
    go_enter Try.func36, Try.ntmps36
    go_wp2
    go_rounds 2
    all_goals go_ret
    all_goals exact ⟨rint hv.out.symm, (Below.refl w.heap.size w).alloc (Nat.le_refl _) _⟩
  · have hv := Lib.hid (mx_ge h1)
    go_enter Try.func36, Try.ntmps36
    go_wp2
    go_rounds 2
    all_goals go_ret
    all_goals exact ⟨rint hv.out.symm, (Below.refl w.heap.size w).alloc (Nat.le_refl _) _⟩

theorem spec_max (a b : Int) (w : World) :
    Calls Try.prog 39 #[.int .i64 a, .int .i64 b] w fun e w' => e = .returned (.int .i64 (mx a b)) ∧ w' = w := by
  by_cases h1 : a < b
  · have hv := Lib.hid (mx_lt h1)
    go_enter Try.func39, Try.ntmps39
    go_wp2
    go_ret
    exact ⟨rint hv.out.symm, rfl⟩
  · have hv := Lib.hid (mx_ge h1)
    go_enter Try.func39, Try.ntmps39
    go_wp2
    go_ret
    exact ⟨rint hv.out.symm, rfl⟩

end Go.Proofs.Ytlbijjifeaimjaa


/-! Made -/
namespace Go.Proofs.Ytlbijjifeaimjaa
open Go Go.RowKit
set_option linter.unusedVariables false

theorem own_made {e : TypeId} {k : IntKind} {B : Nat} {w : World} {g cap n : Nat} (ho : w.ownsRow B e 1 (.slice (some ⟨g, 0, none⟩) n cap) n (madeCells #[.int k 0] n).toList) (hB : B ≤ w.heap.size) (hz : (Lit.int k 0).wf = true) :
    Own e k B w (.slice (some ⟨g, 0, none⟩) n cap) (List.replicate n 0) := by
  refine ⟨fun z hz' => ?_, hB, ?_⟩
  · rw [List.eq_of_mem_replicate hz']; exact hz
  · rw [toList_madeCells_one] at ho
    rw [List.length_replicate, List.map_replicate]
    exact ho
theorem upt_rep (f : Nat → Int) (n : Nat) : upt f (fun _ => 0) 0 n = List.replicate n 0 := by
  rw [upt_zero, List.eq_replicate_iff]
  refine ⟨by simp, fun x hx => ?_⟩
  obtain ⟨y, _, rfl⟩ := List.mem_map.1 hx
  rfl

/-- A literal of two elements. -/
theorem Rd.two (e : TypeId) (k : IntKind) (w : World) (y z : Int) (hy : (Lit.int k y).wf = true) (hz : (Lit.int k z).wf = true) : Rd (w.heap.size + 1) k (w.alloc (.cells #[.int k y, .int k z] e)) (.slice (some ⟨w.heap.size, 0, none⟩) 2 2) [y, z] := by
  refine ⟨?_, _, 2, rfl, Nat.le_refl _, by unfold maxLen; omega, .inr ⟨_, rfl, fun i hi => ?_, .inl (Nat.lt_succ_self _)⟩⟩
  · intro x hx
    simp at hx
    rcases hx with rfl | rfl
    · exact hy
    · exact hz
  · have hi2 : i = 0 ∨ i = 1 := by simp at hi; omega
    have e1 : (⟨w.heap.size, 0, none⟩ : Addr).add i = ⟨w.heap.size, i, none⟩ := by unfold Addr.add; split <;> simp_all
    rw [e1]
    have := blk_cell (heap_alloc_new w (.cells #[.int k y, .int k z] e)) i
    rw [this]
    rcases hi2 with rfl | rfl <;> rfl

/-- An empty literal behind another block. -/
theorem Own.lit2 {e : TypeId} {k : IntKind} {B : Nat} {w : World} (o : Obj) (hB : B ≤ w.heap.size) : Own e k B ((w.alloc o).alloc (.cells #[] e)) (.slice (some ⟨w.heap.size + 1, 0, none⟩) 0 0) [] := by
  have := Own.lit (w := w.alloc o) (B := B) e k (by simp; omega)
  rwa [World.size_alloc] at this

end Go.Proofs.Ytlbijjifeaimjaa
