import Derived.Test.YtnamgnhplodhoaaJ2
import Derived.Test.YtnamgnhplodhoaaDraw
import Derived.Test.YtnamgnhplodhoaaRd

/- What the laws of properties with a cursor share. No conditions. -/
section
namespace Go.Proofs.Ytnamgnhplodhoaa
open Go Go.RowKit
set_option linter.unusedVariables false

theorem row_own {k : IntKind} {w : World} {a : Option Addr} {len cap : Nat} {zs : List Int} (h : IsRow k w a len cap zs) : RowB w.heap.size k w a len cap zs ∧ len ≤ maxLen := by
  rcases h with h | ⟨x, h1, h2, h3, h4, h5, h6, h7⟩
  · exact ⟨.inl h, by rw [h.2.1]; unfold maxLen; omega⟩
  · exact ⟨.inr ⟨x, h1, h2, h3, h4, h5, h6, h7⟩, by omega⟩

theorem RowB.mono {B B' : Nat} {k : IntKind} {w : World} {a : Option Addr} {len cap : Nat} {zs : List Int} (h : RowB B k w a len cap zs) (hB : B ≤ B') : RowB B' k w a len cap zs := by
  rcases h with h | ⟨x, h1, h2, h3, h4, h5, h6, h7⟩
  · exact .inl h
  · exact .inr ⟨x, h1, h2, h3, h4, h5, h6, by omega⟩

end Go.Proofs.Ytnamgnhplodhoaa
end

/- A list that is written from its head on. No program. -/
section
namespace Go.Proofs.Ytnamgnhplodhoaa
open Go Go.RowKit

/-- n places, those below j as f says, the others as g says. -/
def upt (f g : Nat → Int) (j n : Nat) : List Int := (List.range n).map fun i => if i < j then f i else g i

theorem upt_length (f g : Nat → Int) (j n : Nat) : (upt f g j n).length = n := by simp [upt]
theorem upt_get (f g : Nat → Int) (j n i : Nat) (hi : i < n) : (upt f g j n)[i]? = some (if i < j then f i else g i) := by
  simp [upt, hi]
theorem upt_set (f g : Nat → Int) (j n : Nat) : (upt f g j n).set j (f j) = upt f g (j + 1) n := by
  apply List.ext_getElem?
  intro i
  by_cases hi : i < n
  · rw [List.getElem?_set, upt_length, upt_get _ _ _ _ _ hi, upt_get _ _ _ _ _ hi]
    by_cases h : j = i
    · subst h; simp [hi]
    · rw [if_neg h]
      by_cases h2 : i < j
      · simp [h2, Nat.lt_succ_of_lt h2]
      · rw [if_neg h2, if_neg (by omega)]
  · rw [List.getElem?_eq_none (by simp [upt]; omega), List.getElem?_eq_none (by simp [upt]; omega)]
theorem upt_zero (f g : Nat → Int) (n : Nat) : upt f g 0 n = (List.range n).map g := by simp [upt]
theorem upt_full (f g : Nat → Int) (n : Nat) : upt f g n n = (List.range n).map f := by
  unfold upt
  apply List.map_congr_left
  intro i hi
  simp [List.mem_range.1 hi]
theorem range_getD (zs : List Int) : (List.range zs.length).map (fun i => zs.getD i 0) = zs := by
  apply List.ext_getElem?
  intro i
  rw [List.getElem?_map]
  by_cases hi : i < zs.length
  · rw [List.getElem?_range hi]
    simp [List.getD_eq_getElem?_getD, List.getElem?_eq_getElem hi]
  · rw [List.getElem?_eq_none (by simpa using hi), List.getElem?_eq_none (by omega)]
    rfl
theorem upt_map_set (k : IntKind) (f g : Nat → Int) (j n : Nat) : ((upt f g j n).map (Value.int k)).set j (.int k (f j)) = (upt f g (j + 1) n).map (Value.int k) := by
  rw [← upt_set, List.map_set]
theorem upt_mem {f g : Nat → Int} {j n : Nat} {p : Int → Prop} (hf : ∀ i, i < n → p (f i)) (hg : ∀ i, i < n → p (g i)) : ∀ z ∈ upt f g j n, p z := by
  intro z hz
  obtain ⟨i, hi, rfl⟩ := List.mem_map.1 hz
  have := List.mem_range.1 hi
  split
  · exact hf i this
  · exact hg i this

/-- A store into a row of the call's own whose elements are being written from its head on. -/
theorem Own.put {e : TypeId} {k : IntKind} {B : Nat} {w : World} {g cap n : Nat} {f q : Nat → Int} {j : Nat} (h : Own e k B w (.slice (some ⟨g, 0, none⟩) n cap) (upt f q j n)) (hf : (Lit.int k (f j)).wf = true) :
    Own e k B (w.setCell ⟨g, j, none⟩ (.int k (f j))) (.slice (some ⟨g, 0, none⟩) n cap) (upt f q (j + 1) n) ∧ w.grownBy (w.setCell ⟨g, j, none⟩ (.int k (f j))) (some g) := by
  obtain ⟨hw, hB, ho⟩ := h
  rw [upt_length] at ho
  obtain ⟨h1, h2⟩ := ho.stored j (.int k (f j))
  rw [upt_map_set] at h1
  refine ⟨⟨?_, Nat.le_trans hB h2.size, by rw [upt_length]; exact h1⟩, h2⟩
  intro z hz
  obtain ⟨i, hi, rfl⟩ := List.mem_map.1 hz
  have hn := List.mem_range.1 hi
  by_cases hj : i < j + 1
  · rw [if_pos hj]
    by_cases hij : i = j
    · subst hij; exact hf
    · refine hw _ (List.mem_map.2 ⟨i, hi, ?_⟩)
      rw [if_pos (by omega)]
  · rw [if_neg hj]
    refine hw _ (List.mem_map.2 ⟨i, hi, ?_⟩)
    rw [if_neg (by omega)]

theorem Own.cellAt {e : TypeId} {k : IntKind} {B : Nat} {w : World} {g cap n : Nat} {zs : List Int} (h : Own e k B w (.slice (some ⟨g, 0, none⟩) n cap) zs) (hz : zs.length = n) {j : Nat} (hj : j < n) : w.cell? ⟨g, j, none⟩ = some (.int k (zs.getD j 0)) := by
  obtain ⟨hw, hB, ho⟩ := h
  subst hz
  rw [ho.cellAt j (by omega)]
  simp [List.getD_eq_getElem?_getD, List.getElem?_eq_getElem hj]
theorem Own.free {e : TypeId} {k : IntKind} {B : Nat} {w : World} {g cap n : Nat} {zs : List Int} (h : Own e k B w (.slice (some ⟨g, 0, none⟩) n cap) zs) (hz : zs.length = n) (j : Nat) : w.frozen? ⟨g, j, none⟩ = false := by
  obtain ⟨hw, hB, ho⟩ := h
  subst hz
  exact ho.frozenAt j

theorem Own.open {e : TypeId} {k : IntKind} {B : Nat} {w : World} {v : Value} {zs : List Int} (h : Own e k B w v zs) : ∃ a cap, v = .slice a zs.length cap ∧ (0 < zs.length → ∃ g, a = some ⟨g, 0, none⟩) := by
  obtain ⟨hw, hB, h1, h2⟩ := h
  rcases h2 with ⟨rfl, h3⟩ | ⟨g, cap, cur, rfl, h4⟩
  · exact ⟨none, 0, by rw [h3], fun h => by omega⟩
  · exact ⟨_, cap, rfl, fun _ => ⟨g, rfl⟩⟩

end Go.Proofs.Ytnamgnhplodhoaa
end
