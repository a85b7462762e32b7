/- Values of any type made of integers, structs and slices that came in: what their reading tells. No program. -/
import Derived.Test.YtjbkhbbchacooaaGreatDoorBbT
import Derived.Deep.Slices
import Derived.ChangeSame
namespace Go.Proofs.YtjbkhbbchacooaaGreatDoor
open Go Go.RowKit Go.Deep Go.ChangeShapes Go.WideShapes
set_option linter.unusedVariables false

/-- What came in as the type t is read as T says. -/
def Opens {α : Type} (P : Program) (t : TypeId) (T : Ty α) : Prop := P.cellsOf t = T.sz ∧ ∀ (H : Type) (enc : TypeId × Value → H) (w : World) (base : Nat) (held : Bool) (fuel : Nat) (cs : List Value) (x : DataW H × List MemPlace),
  DataW.trod enc P w base (fun _ => true) held fuel t cs = some x → ∃ y, T.rd w.heap.size w cs y

/-- The fields fs, the first of them at the cell o. -/
def OpensFs {α : Type} (P : Program) (fs : List Field) (o : Nat) (T : Ty α) : Prop := ∀ (H : Type) (enc : TypeId × Value → H) (w : World) (base : Nat) (held : Bool) (n : Nat) (cs : List Value), o + T.sz ≤ cs.length →
  (∀ f ∈ fs, ∃ y, DataW.trod enc P w base (fun _ => true) held n f.type ((cs.drop f.offset).take (P.cellsOf f.type)) = some y) → ∃ y, T.rd w.heap.size w ((cs.drop o).take T.sz) y

section
variable {α β : Type} {P : Program} {t e e0 : TypeId} {T A : Ty α} {B : Ty β} {f : Field} {fs : List Field} {o : Nat}

theorem opens_int {k : IntKind} {g : Int → Int} {hz : (Lit.int k 0).wf = true} (ht : P.underlying t = some (.int k)) (hc : P.cellsOf t = 1) : Opens P t (intT k g hz) :=
  ⟨hc, fun H enc w base held fuel cs x h => by
    obtain ⟨n, rfl, _, hw⟩ := DataW.trod_int ht h
    exact ⟨n, rfl, hw⟩⟩

theorem opens_slice (ht : P.underlying t = some (.slice e)) (hc : P.cellsOf t = 1) (hT : Opens P e T) : Opens P t (sliceT e0 T) := by
  refine ⟨hc, fun H enc w base held fuel cs x h => ?_⟩
  rcases open_slice ht h with ⟨rfl, _⟩ | ⟨a, len, cap, m, n, D, Pl, rfl, _, hl, hm, hmm, _, hi⟩
  · exact ⟨[], none, 0, rfl, Nat.le_refl _, by unfold maxLen; omega, .inl ⟨rfl, rfl⟩⟩
  · have hmc : m = cap := by simpa using hmm
    subst hmc
    have key : ∀ i, i < len → ∃ y, ∃ c, T.rd w.heap.size w c y ∧ ∀ (j : Nat) (u : Value), c[j]? = some u → w.cell? (a.add (i * T.sz + j)) = some u := fun i hlt => by
      obtain ⟨cs', hc', ht'⟩ := hi i (by omega)
      obtain ⟨y, hy⟩ := hT.2 H enc w base held n cs' _ ht'
      obtain ⟨_, hcl, hat⟩ := World.cells?_some hc'
      refine ⟨y, cs', hy, fun j u hu => ?_⟩
      have hj : j < P.cellsOf e := by have := (List.getElem?_eq_some_iff.1 hu).1; omega
      rw [← hT.1, ← Go.Deep.add_add, hat j hj]
      exact hu
    refine ⟨(List.range len).map fun i => if h : i < len then Classical.choose (key i h) else T.zero, some a, m, by simp, by simpa using hl, hm, .inr ⟨a, rfl, ?_, fun i x hx => ?_⟩⟩
    · by_cases h0 : len = 0
      · right; simp [h0]
      · left
        obtain ⟨y, c, hy, hc⟩ := key 0 (by omega)
        have hp : 0 < c.length := by rw [T.len hy]; exact T.pos
        have := block_lt_of_cell (hc 0 _ (List.getElem?_eq_getElem hp))
        simpa [addr_add_block] using this
    · have hlt : i < len := by have := (List.getElem?_eq_some_iff.1 hx).1; simpa using this
      simp only [List.getElem?_map, List.getElem?_range hlt, Option.map_some, hlt, dif_pos, Option.some.injEq] at hx
      subst hx
      exact Classical.choose_spec (key i hlt)

theorem ofs_last (hT : Opens P f.type T) (ho : f.offset = o) : OpensFs P [f] o T := fun H enc w base held n cs hl hf => by
  obtain ⟨y, hy⟩ := hf f (by simp)
  rw [hT.1, ho] at hy
  exact hT.2 H enc w base held n _ _ hy

theorem ofs_int (ht : P.underlying f.type = some (.int .i64)) (hc : P.cellsOf f.type = 1) (ho : f.offset = o) (hB : OpensFs P fs (o + 1) B) : OpensFs P (f :: fs) o (iC B) := fun H enc w base held n cs hl hf => by
  have hl' : o + (B.sz + 1) ≤ cs.length := hl
  obtain ⟨y, hy⟩ := hf f (by simp)
  rw [hc, ho] at hy
  obtain ⟨m, hm, _, hw⟩ := DataW.trod_int ht hy
  obtain ⟨q, hq⟩ := hB H enc w base held n cs (by omega) (fun g hg => hf g (by simp [hg]))
  refine ⟨(m, q), (cs.drop (o + 1)).take B.sz, ?_, hw, hq⟩
  show (cs.drop o).take (B.sz + 1) = _
  have e1 : cs.drop o = cs[o]'(by omega) :: cs.drop (o + 1) := List.drop_eq_getElem_cons (by omega)
  rw [e1, List.take_succ_cons, List.take_zero] at hm
  injection hm with hm _
  rw [e1, List.take_succ_cons, hm]

theorem ofs_cons (hA : Opens P f.type A) (ho : f.offset = o) (hB : OpensFs P fs (o + A.sz) B) : OpensFs P (f :: fs) o (consT A B) := fun H enc w base held n cs hl hf => by
  have hl' : o + (A.sz + B.sz) ≤ cs.length := hl
  obtain ⟨y, hy⟩ := hf f (by simp)
  rw [hA.1, ho] at hy
  obtain ⟨p, hp⟩ := hA.2 H enc w base held n _ _ hy
  obtain ⟨q, hq⟩ := hB H enc w base held n cs (by omega) (fun g hg => hf g (by simp [hg]))
  refine ⟨(p, q), ?_, ?_, ?_⟩
  · show ((cs.drop o).take (A.sz + B.sz)).length = _
    rw [List.length_take, List.length_drop]; omega
  · show A.rd _ _ (((cs.drop o).take (A.sz + B.sz)).take A.sz) p
    rw [List.take_take, Nat.min_eq_left (by omega)]
    exact hp
  · show B.rd _ _ (((cs.drop o).take (A.sz + B.sz)).drop A.sz) q
    rw [List.drop_take, List.drop_drop, Nat.add_sub_cancel_left]
    exact hq

theorem opens_struct {ff : Array Field} (ht : P.underlying t = some (.struct ff)) (hc : P.cellsOf t = T.sz) (h : OpensFs P ff.toList 0 T) : Opens P t T := by
  refine ⟨hc, fun H enc w base held fuel cs x hx => ?_⟩
  obtain ⟨xs, n, _, _, hl, hlen, hf⟩ := DataW.trod_struct ht hx
  obtain ⟨y, hy⟩ := h H enc w base held n cs (by rw [hl, hc]; omega) (fun f hfm => by
    obtain ⟨i, hi⟩ := List.mem_iff_getElem?.1 hfm
    have hi' : ff[i]? = some f := by rw [← Array.getElem?_toList]; exact hi
    have hlt := (Array.getElem?_eq_some_iff.1 hi').1
    exact ⟨_, (hf i f hi').trans (List.getElem?_eq_getElem (by omega))⟩)
  rw [List.drop_zero, List.take_of_length_le (by rw [hl, hc]; exact Nat.le_refl _)] at hy
  exact ⟨y, hy⟩
end

end Go.Proofs.YtjbkhbbchacooaaGreatDoor
