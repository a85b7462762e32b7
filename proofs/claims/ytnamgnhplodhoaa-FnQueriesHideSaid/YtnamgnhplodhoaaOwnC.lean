/- Rows of a call's own whose block may have more cells than the slice has room. No program. -/
import Derived.Test.YtnamgnhplodhoaaRd
import Derived.Test.YtnamgnhplodhoaaJ3
namespace Go.Proofs.Ytnamgnhplodhoaa
open Go Go.RowKit
set_option linter.unusedVariables false

/-- v is nil or the head of a block of the call's own (blocks from B on) whose first cells are zs. -/
def OwnC (e : TypeId) (k : IntKind) (B : Nat) (w : World) (v : Value) (zs : List Int) : Prop :=
  (∀ z ∈ zs, (Lit.int k z).wf = true) ∧ B ≤ w.heap.size ∧
  ((v = .slice none 0 0 ∧ zs = []) ∨
   ∃ g cap cur, v = .slice (some ⟨g, 0, none⟩) zs.length cap ∧ B ≤ g ∧ w.heap[g]? = some (.cells cur e (0, 0)) ∧ zs.length ≤ cap ∧ cap ≤ maxLen ∧ zs.length ≤ cur.size ∧ ∀ i, i < zs.length → cur[i]? = some (.int k (zs.getD i 0)))

section
variable {e : TypeId} {k : IntKind} {B : Nat} {w w' : World} {v u : Value} {zs ys : List Int}

theorem Own.c (h : Own e k B w v zs) : OwnC e k B w v zs := by
  have h0 := h
  obtain ⟨hw, hB, h1, h2⟩ := h
  refine ⟨hw, hB, ?_⟩
  rcases h2 with ⟨rfl, h3⟩ | ⟨g, cap, cur, rfl, h4, h5, h6, h7, h8, h9⟩
  · exact .inl ⟨rfl, List.eq_nil_of_length_eq_zero h3⟩
  · refine .inr ⟨g, cap, cur, rfl, h4, h5, h6, h7, by omega, fun i hi => ?_⟩
    have hc := h0.cellAt rfl hi
    rwa [blk_cell h5] at hc

theorem OwnC.lt (h : OwnC e k B w v zs) : ∀ r, v.ownBlock = some r → B ≤ r ∧ r < w.heap.size := by
  intro r hr
  obtain ⟨hw, hB, ⟨rfl, _⟩ | ⟨g, cap, cur, rfl, h4, h5, _⟩⟩ := h
  · cases hr
  · cases hr
    exact ⟨h4, (Array.getElem?_eq_some_iff.1 h5).1⟩

theorem OwnC.rd (h : OwnC e k B w v zs) : Rd w.heap.size k w v zs := by
  obtain ⟨hw, hB, ⟨rfl, rfl⟩ | ⟨g, cap, cur, rfl, h4, h5, h6, h7, h8, h9⟩⟩ := h
  · exact ⟨hw, none, 0, rfl, by simp, by unfold maxLen; omega, .inl ⟨rfl, rfl⟩⟩
  · refine ⟨hw, _, cap, rfl, h6, h7, .inr ⟨_, rfl, fun i hi => ?_, .inl (Array.getElem?_eq_some_iff.1 h5).1⟩⟩
    have e1 : (⟨g, 0, none⟩ : Addr).add i = ⟨g, i, none⟩ := by unfold Addr.add; split <;> simp_all
    rw [e1, blk_cell h5]
    exact h9 i hi

theorem OwnC.kept {row : Option Nat} (h : OwnC e k B w v zs) (hg : w.grownBy w' row) (hne : v.ownBlock = none ∨ v.ownBlock ≠ row) : OwnC e k B w' v zs := by
  obtain ⟨hw, hB, h⟩ := h
  refine ⟨hw, Nat.le_trans hB hg.size, ?_⟩
  rcases h with h | ⟨g, cap, cur, rfl, h4, h5, h6⟩
  · exact .inl h
  · refine .inr ⟨g, cap, cur, rfl, h4, ?_, h6⟩
    rw [hg.block g (Array.getElem?_eq_some_iff.1 h5).1 (by simpa [Value.ownBlock] using hne)]
    exact h5

theorem OwnC.next (h : OwnC e k B w v zs) (hb : Below w.heap.size w w') : OwnC e k B w' v zs :=
  h.kept (grown_of_below hb) (by cases hv : v.ownBlock <;> simp)
theorem OwnC.alloc (h : OwnC e k B w v zs) (o : Obj) : OwnC e k B (w.alloc o) v zs :=
  h.kept (World.grownBy_alloc w o none) (by cases hv : v.ownBlock <;> simp)
theorem OwnC.beside (h : OwnC e k B w v zs) (ha : Apart v u) (hg : w.grownBy w' u.ownBlock) : OwnC e k B w' v zs := by
  refine h.kept hg ?_
  cases hv : v.ownBlock with
  | none => exact .inl rfl
  | some r =>
    right
    intro he
    exact ha r hv he.symm
theorem OwnC.below {C : Nat} (h : OwnC e k B w v zs) (hC : C ≤ B) (hg : w.grownBy w' v.ownBlock) : Below C w w' :=
  (Below.refl C w).grown hg (Nat.le_trans hC h.2.1) (fun r hr => by have := (h.lt r hr).1; omega)
theorem OwnC.mono {B' : Nat} (h : OwnC e k B w v zs) (hB : B' ≤ B) : OwnC e k B' w v zs := by
  obtain ⟨hw, h1, h2⟩ := h
  refine ⟨hw, by omega, ?_⟩
  rcases h2 with h3 | ⟨g, cap, cur, h4, h5, h6⟩
  · exact .inl h3
  · exact .inr ⟨g, cap, cur, h4, by omega, h6⟩
/-- What was there before a row was made shares no block with it. -/
theorem apartC {e' : TypeId} {k' : IntKind} (h : ∀ r, v.ownBlock = some r → B ≤ r ∧ r < w.heap.size) (hu : ∀ r, u.ownBlock = some r → w.heap.size ≤ r ∧ r < w'.heap.size) : Apart v u := fun r hr he => by
  have h1 := h r hr
  have h2 := hu r he
  omega
theorem OwnC.apart {e' : TypeId} {k' : IntKind} (h : OwnC e k B w v zs) (hu : Own e' k' w.heap.size w' u ys) : Apart v u := fun r hr he => by
  have h1 := h.lt r hr
  have h2 := hu.lt r he
  omega
theorem Own.apartC {e' : TypeId} {k' : IntKind} (h : Own e k B w v zs) (hu : OwnC e' k' w.heap.size w' u ys) : Apart v u := fun r hr he => by
  have h1 := h.lt r hr
  have h2 := hu.lt r he
  omega

theorem OwnC.open (h : OwnC e k B w v zs) : ∃ a cap, v = .slice a zs.length cap ∧ (0 < zs.length → ∃ g, a = some ⟨g, 0, none⟩) := by
  obtain ⟨hw, hB, ⟨rfl, rfl⟩ | ⟨g, cap, cur, rfl, h4, h5, h6⟩⟩ := h
  · exact ⟨none, 0, rfl, fun h => by simp at h⟩
  · exact ⟨_, cap, rfl, fun _ => ⟨g, rfl⟩⟩
end

theorem OwnC.cellAt {e : TypeId} {k : IntKind} {B : Nat} {w : World} {g cap n : Nat} {zs : List Int} (h : OwnC e k B w (.slice (some ⟨g, 0, none⟩) n cap) zs) {j : Nat} (hj : j < zs.length) : w.cell? ⟨g, j, none⟩ = some (.int k (zs.getD j 0)) := by
  obtain ⟨hw, hB, ⟨h, _⟩ | ⟨g', cap', cur, h, h4, h5, h6, h7, h8, h9⟩⟩ := h
  · cases h
  · injection h with e1 e2 e3
    injection e1 with e1
    injection e1 with e1
    subst e1
    rw [blk_cell h5]
    exact h9 j hj
theorem OwnC.free {e : TypeId} {k : IntKind} {B : Nat} {w : World} {g cap n : Nat} {zs : List Int} (h : OwnC e k B w (.slice (some ⟨g, 0, none⟩) n cap) zs) (j : Nat) : w.frozen? ⟨g, j, none⟩ = false := by
  obtain ⟨hw, hB, ⟨h, _⟩ | ⟨g', cap', cur, h, h4, h5, h6, h7, h8, h9⟩⟩ := h
  · cases h
  · injection h with e1 e2 e3
    injection e1 with e1
    injection e1 with e1
    subst e1
    exact blk_free h5 j

/-- A store into a row of the call's own. -/
theorem OwnC.set {e : TypeId} {k : IntKind} {B : Nat} {w : World} {g cap n : Nat} {zs : List Int} {x : Int} (h : OwnC e k B w (.slice (some ⟨g, 0, none⟩) n cap) zs) (hx : (Lit.int k x).wf = true) {j : Nat} (hj : j < zs.length) :
    OwnC e k B (w.setCell ⟨g, j, none⟩ (.int k x)) (.slice (some ⟨g, 0, none⟩) n cap) (zs.set j x) ∧ w.grownBy (w.setCell ⟨g, j, none⟩ (.int k x)) (some g) := by
  obtain ⟨hw, hB, ⟨h, _⟩ | ⟨g', cap', cur, h, h4, h5, h6, h7, h8, h9⟩⟩ := h
  · cases h
  · injection h with e1 e2 e3
    injection e1 with e1
    injection e1 with e1
    subst e1; subst e2; subst e3
    refine ⟨⟨fun z hz => ?_, by simpa [World.setCell] using hB, .inr ⟨g, cap, cur.setIfInBounds j (.int k x), by rw [List.length_set], h4, blk_set h5 j _, by rw [List.length_set]; exact h6, h7, by rw [List.length_set, Array.size_setIfInBounds]; exact h8, fun i hi => ?_⟩⟩, grown_set _ _ _ _⟩
    · rcases List.mem_or_eq_of_mem_set hz with h | rfl
      · exact hw z h
      · exact hx
    · rw [List.length_set] at hi
      by_cases hij : j = i
      · subst hij
        rw [Array.getElem?_setIfInBounds_self_of_lt (by omega)]
        simp [List.getD_eq_getElem?_getD, hi]
      · rw [Array.getElem?_setIfInBounds_ne hij, h9 i hi]
        simp [List.getD_eq_getElem?_getD, List.getElem?_set_ne hij]

/-- A store into a row whose elements are being written from its head on. -/
theorem OwnC.put {e : TypeId} {k : IntKind} {B : Nat} {w : World} {g cap n : Nat} {f q : Nat → Int} {j : Nat} (h : OwnC e k B w (.slice (some ⟨g, 0, none⟩) n cap) (upt f q j n)) (hj : j < n) (hf : (Lit.int k (f j)).wf = true) :
    OwnC e k B (w.setCell ⟨g, j, none⟩ (.int k (f j))) (.slice (some ⟨g, 0, none⟩) n cap) (upt f q (j + 1) n) ∧ w.grownBy (w.setCell ⟨g, j, none⟩ (.int k (f j))) (some g) := by
  have := h.set hf (j := j) (by rw [upt_length]; exact hj)
  rwa [upt_set] at this

end Go.Proofs.Ytnamgnhplodhoaa
