/- What the rows' list gives: the package variable impl.unit is the element 1. Powers of an element as the keys of a map. Conditions: the package variable as the rows list it. -/
import Derived.Test.YtdccljmffmlkbaaDoorBcG
import Derived.Test.YtdccljmffmlkbaaDoorRows
import Derived.MakeChecks
import Derived.ChangeArms
import Derived.FnData
import Derived.DeepKeys4
import Derived.Maps.Own
import Derived.Maps.OwnSet
namespace Go.Proofs.YtdccljmffmlkbaaDoor
open Go Go.RowKit Go.Maps
set_option linter.unusedVariables false
set_option maxRecDepth 20000
attribute [local irreducible] kh kid pwm tcm pw

/-- The package variable impl.unit holds the element 1. -/
def GV (w : World) : Prop := w.cell? ⟨0, 0, none⟩ = some (.int .i64 1)
theorem GV.pos {w : World} (h : GV w) : 0 < w.heap.size := by
  rcases Nat.lt_or_ge 0 w.heap.size with h' | h'
  · exact h'
  · unfold GV at h; simp [World.cell?, Array.getElem?_eq_none h'] at h
theorem GV.next {w w' : World} (h : GV w) (hb : Below w.heap.size w w') : GV w' := (hb.cell (p := ⟨0, 0, none⟩) h.pos).trans h
theorem GV.below {B : Nat} {w w' : World} (h : GV w) (hb : Below B w w') (hB : 0 < B) : GV w' := (hb.cell (p := ⟨0, 0, none⟩) hB).trans h
theorem ev_unit : Tryd.prog.globalNamed "loop.example/g00516/impl.unit" = some 0 := by kernel_rfl
theorem ty_unit : (Tryd.prog.globals[0]?).map (·.type) = some 75 := by kernel_rfl

theorem gv_of_laid {W : World} (h : laidMetH Tryd.prog [("loop.example/g00516/impl.unit", Rows.laid_loop_example_g00516_impl_unit)] W) : GV W := by
  rw [MakeChecks.laidMetH_plain _ _ _ (by kernel_rfl)] at h
  obtain ⟨ps, ⟨g, t, cs, fuel, p, q, h1, h2, h3, h4, _⟩, _⟩ := h
  obtain rfl := Option.some.inj (ev_unit.symm.trans h1)
  obtain rfl := Option.some.inj (ty_unit.symm.trans h2)
  obtain ⟨xs, n, _, hd, hl, hlen, hf⟩ := DataW.trod_struct Tryd.underlying75 h4
  have hc : Tryd.prog.cellsOf 75 = 1 := by kernel_rfl
  have hi : Tryd.prog.cellsOf 3 = 1 := by kernel_rfl
  rw [hc] at hl
  obtain ⟨c, hcs⟩ : ∃ c, cs.toList = [c] := by
    match cs.toList, hl with
    | [c], _ => exact ⟨c, rfl⟩
  have h0 := hf 0 _ rfl
  rw [hcs] at h0
  have hx : xs.map (·.1) = [.lit (.int .i64 1)] := by
    have e1 := congrArg Prod.fst hd
    injection e1 with e2
    exact e2.symm
  obtain ⟨y, hy⟩ : ∃ y, xs = [y] := by
    match xs, hx with
    | [y], _ => exact ⟨y, rfl⟩
  subst hy
  have hy1 : y.1 = .lit (.int .i64 1) := (List.cons.inj hx).1
  have h0' : DataW.trod (fun _ => ()) Tryd.prog W 0 (fun _ => true) false n 3 (([c].drop 0).take (Tryd.prog.cellsOf 3)) = some y := h0
  rw [hi] at h0'
  obtain ⟨m, hm, hyy, _⟩ := DataW.trod_int Tryd.underlying3 h0'
  have hcm : c = .int .i64 m := (List.cons.inj hm).1
  rw [hyy] at hy1
  injection hy1 with hy2
  injection hy2 with _ hm1
  unfold GV
  rw [World.var?_cell ev_unit h3 0, ← Array.getElem?_toList, hcs, hcm, hm1]
  rfl

/-! ### Elements as keys -/
theorem gLaid : laidOutB Tryd.prog = true := by kernel_rfl
theorem gWide : (match Tryd.prog.underlying 75 with | some (.array _ _) | some (.struct _) => true | _ => false) = true := by rw [Tryd.underlying75]
theorem lawG : Keyed Tryd.prog 75 := Keyed.of_law (deep_law_laid gLaid (m := 2) (by omega) (of_decide_eq_true (by kernel_rfl)) (by kernel_rfl) gWide)
/-- What an element reads as where it is a key. -/
noncomputable def kL (z : Int) : Lit := (keyOf Tryd.prog 75 (.agg #[.int .i64 z])).getD .nil
theorem kL_ok {z : Int} (hz : (Lit.int .i64 z).wf = true) : keyOf Tryd.prog 75 (.agg #[.int .i64 z]) = some (kL z) := by
  have key : (keyOf Tryd.prog 75 (.agg #[.int .i64 z])).isSome = true := by
    have hk : Tryd.prog.keyType 75 = true := by kernel_rfl
    have hc : Tryd.prog.cellsOf 75 = 1 := by kernel_rfl
    have hi : Tryd.prog.cellsOf 3 = 1 := by kernel_rfl
    obtain ⟨m, hm⟩ : ∃ m, Tryd.prog.types.size = m + 1 := ⟨199 - 1, by kernel_rfl⟩
    unfold keyOf
    simp only [Tryd.underlying75]
    rw [if_pos (by simp [hk, Value.formed, Tryd.underlying75, hc]), hm]
    unfold Program.keyLits
    simp only [Tryd.underlying75, Value.cells]
    rw [if_pos (by rw [hc]; simp)]
    simp [Program.keyLits, Tryd.underlying3, hi, hz]
  unfold kL
  cases h : keyOf Tryd.prog 75 (.agg #[.int .i64 z]) with
  | none => rw [h] at key; cases key
  | some l => rfl
theorem kL_inj {a b : Int} (ha : (Lit.int .i64 a).wf = true) (hb : (Lit.int .i64 b).wf = true) (h : kL a = kL b) : a = b := by
  have e := lawG.inj (kL_ok ha) (h ▸ kL_ok hb)
  injection e with e
  injection e with e
  injection (List.cons.inj e).1
theorem kL_key {a : Int} (ha : (Lit.int .i64 a).wf = true) : WideAt.IsKeyLit (kL a) := lawG.key (kL_ok ha)
theorem pw_wf (g : Int) (n : Nat) : (Lit.int .i64 (pw g n)).wf = true := by have := pw_bound g n; exact wf_i64_of (by omega) (by omega)

/-- The first k powers with their logarithms. -/
noncomputable def kmap (g : Int) : Nat → DataW Unit
  | 0 => .map []
  | k + 1 => (kmap g k).put (kL (pw g k)) (.lit (.int .i64 k))
theorem kmap_zero (g : Int) : kmap g 0 = .map [] := rfl
theorem kmap_succ (g : Int) (k : Nat) : kmap g (k + 1) = (kmap g k).put (kL (pw g k)) (.lit (.int .i64 k)) := rfl
theorem kmap_is (g : Int) : ∀ k, IsMap (kmap g k)
  | 0 => isMap_empty
  | k + 1 => (kmap_is g k).put _ _
theorem kmap_no {g y : Int} (hy : (Lit.int .i64 y).wf = true) : ∀ {k : Nat}, (∀ e, e < k → pw g e ≠ y) → Maps.has (kmap g k) (kL y) = false
  | 0, _ => rfl
  | k + 1, h => by
    rw [kmap_succ, has_put_other (fun e => h k (Nat.lt_succ_self _) (kL_inj (pw_wf _ _) hy e.symm))]
    exact kmap_no hy (fun e he => h e (by omega))
theorem kmap_at {g : Int} {e : Nat} : ∀ {k : Nat}, e < k → (∀ a, a < k → pw g a = pw g e → a = e) → Maps.has (kmap g k) (kL (pw g e)) = true ∧ ∀ z, (kmap g k).atKey (kL (pw g e)) z = .lit (.int .i64 e)
  | 0, h, _ => by omega
  | k + 1, h, hi => by
    by_cases he : e = k
    · subst he
      rw [kmap_succ]
      exact ⟨has_put_same (kmap_is _ _) (kL_key (pw_wf _ _)) _, fun z => atKey_put_same (kmap_is _ _) (kL_key (pw_wf _ _)) _ _⟩
    · have hne : kL (pw g e) ≠ kL (pw g k) := fun hh => he (hi k (Nat.lt_succ_self _) (kL_inj (pw_wf _ _) (pw_wf _ _) hh.symm)).symm
      rw [kmap_succ, has_put_other hne]
      obtain ⟨h1, h2⟩ := kmap_at (k := k) (by omega) (fun a ha => hi a (by omega))
      exact ⟨h1, fun z => by rw [atKey_put_other hne]; exact h2 z⟩

end Go.Proofs.YtdccljmffmlkbaaDoor
