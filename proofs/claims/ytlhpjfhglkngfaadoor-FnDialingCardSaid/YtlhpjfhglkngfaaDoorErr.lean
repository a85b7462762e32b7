/- errors.As at the target '*closedCell': a nil error gives false; an error of that type gives true and is stored at the target. Go's own text of errors.As is walked; the entries for reflectlite are the model's. Conditions: the package variable errors.errorType holds the handle of the type 'error'. -/
import Derived.Test.YtlhpjfhglkngfaaDoorRows
import Derived.Test.YtlhpjfhglkngfaaDoorBa1
import Derived.WalkKit
import Derived.Handy
import Derived.WalkSpells
import Derived.LaidEql
import Derived.Stop.Asserts
import Derived.RowKitTokens
import Derived.Lib.Hide
namespace Go.Proofs.YtlhpjfhglkngfaaDoor
open Go Go.RowKit Go.Extern.Stop Go.Stop Go.Extern
set_option linter.unusedVariables false

/-- The package variable errors.errorType holds the handle of 'error'. -/
def GV (w : World) : Prop := w.cell? ⟨1, 0, none⟩ = some (.iface 99 (.agg #[.pointer (some ⟨2, 55, none⟩)]))
theorem GV.pos {w : World} (h : GV w) : 1 < w.heap.size := by
  rcases Nat.lt_or_ge 1 w.heap.size with h1 | h0
  · exact h1
  · unfold GV at h; simp [World.cell?, Array.getElem?_eq_none h0] at h
theorem GV.next {w w' : World} (h : GV w) (hb : Below w.heap.size w w') : GV w' := (hb.cell (p := ⟨1, 0, none⟩) h.pos).trans h
theorem GV.below {B : Nat} {w w' : World} (h : GV w) (hb : Below B w w') (hB : 1 < B) : GV w' := (hb.cell (p := ⟨1, 0, none⟩) hB).trans h
theorem GV.alloc {w : World} (h : GV w) (o : Obj) : GV (w.alloc o) := h.next ((Below.refl _ _).alloc (Nat.le_refl _) o)

/-- errors.As(nil, target). -/
theorem as_nil (t : Value) (w : World) :
    Calls Tryd.prog 80 #[.nilIface, t] w fun e w' => e = .returned (.bool false) ∧ w' = w := by
  go_enter Tryd.func80, Tryd.ntmps80
  go_wp2
  go_ret
  exact ⟨rfl, rfl⟩

/-! The entries for reflectlite at this program's types. -/
theorem ft_valueOf (t : Addr) (w : World) : (ReflectliteValue.unpack (.iface 97 (.pointer (some t)))).run Tryd.prog w
    = .ok (.agg #[.pointer (some ⟨2, 97, none⟩), .pointer (some ⟨w.heap.size, 0, none⟩), .int .u64 150]) (w.alloc (.cells #[.pointer (some t)] 97)) := by kernel_rfl
theorem ft_type (a : Addr) (w : World) : (ReflectliteValue.methodAny (ReflectliteValue.valueError "reflectlite.Value.Type" 0) (fun t _ _ _ => ReflectliteType.toType t) #[.agg #[.pointer (some ⟨2, 97, none⟩), .pointer (some a), .int .u64 150]]).run Tryd.prog w
    = .ok (.iface 99 (.agg #[.pointer (some ⟨2, 97, none⟩)])) w := by kernel_rfl
theorem ft_mKind (h : Value) (w : World) : (Go.method (Tryd.prog.types.size + Made.depth) 99 (.agg #[h]) "Kind").run Tryd.prog w = .ok (110, h) w := by kernel_rfl
theorem ft_kindP (w : World) : ((ReflectliteType.abiMethod fun t => (fun a : Nat => Value.int IntKind.u8 (a : Int)) <$> Rtype.kind t) #[.pointer (some ⟨2, 97, none⟩)]).run Tryd.prog w = .ok (.int .u8 22) w := by kernel_rfl
theorem ft_kindS (w : World) : ((ReflectliteType.abiMethod fun t => (fun a : Nat => Value.int IntKind.u8 (a : Int)) <$> Rtype.kind t) #[.pointer (some ⟨2, 95, none⟩)]).run Tryd.prog w = .ok (.int .u8 25) w := by kernel_rfl

/-- A method of a Value, at one argument; (Value).Set at two. -/
theorem mat_met (v : Value) (h1 : Value → Sem Value) (h2 : Array Value → Sem Value) : ReflectliteValue.method.match_2 (fun _ => Sem Value) #[v] h1 h2 = h1 v := rfl
theorem mat_set (v x : Value) (h1 : Value → Value → Sem Value) (h2 : Array Value → Sem Value) : ReflectliteValue.set.match_3 (fun _ => Sem Value) #[v, x] h1 h2 = h1 v x := rfl
theorem ft_partsP (a : Addr) (w : World) : (ReflectliteValue.parts (.agg #[.pointer (some ⟨2, 97, none⟩), .pointer (some a), .int .u64 150])).run Tryd.prog w = .ok (some (97, a, 150)) w := by kernel_rfl
/-- (Value).IsNil at the Value of a pointer that is not nil. -/
theorem ft_isNil (a p : Addr) (W : World) (ha : W.cell? a = some (.pointer (some p))) :
    (ReflectliteValue.method (ReflectliteValue.valueError "reflectlite.Value.IsNil" 0) ReflectliteValue.isNil #[.agg #[.pointer (some ⟨2, 97, none⟩), .pointer (some a), .int .u64 150]]).run Tryd.prog W = .ok (.bool false) W := by
  delta ReflectliteValue.method
  rw [mat_met]
  simp only [Sem.run_bind, ft_partsP, Result.andThen]
  simp [ReflectliteValue.isNil, loadVar, isAgg, underlying, Tryd.underlying97, ha, Result.andThen]

theorem ft_mElem (h : Value) (w : World) : (Go.method (Tryd.prog.types.size + Made.depth) 99 (.agg #[h]) "Elem").run Tryd.prog w = .ok (119, .agg #[h]) w := by kernel_rfl
theorem ft_mImpl (h : Value) (w : World) : (Go.method (Tryd.prog.types.size + Made.depth) 99 (.agg #[h]) "Implements").run Tryd.prog w = .ok (120, .agg #[h]) w := by kernel_rfl
theorem ft_mAssign (h : Value) (w : World) : (Go.method (Tryd.prog.types.size + Made.depth) 99 (.agg #[h]) "AssignableTo").run Tryd.prog w = .ok (117, .agg #[h]) w := by kernel_rfl
theorem ft_elem (w : World) : (ReflectliteType.method ReflectliteType.elem #[.agg #[.pointer (some ⟨2, 97, none⟩)]]).run Tryd.prog w = .ok (.iface 99 (.agg #[.pointer (some ⟨2, 95, none⟩)])) w := by kernel_rfl
theorem ft_implements (w : World) : (ReflectliteType.relation "Implements" ReflectliteType.implements_ #[.agg #[.pointer (some ⟨2, 95, none⟩)], .iface 99 (.agg #[.pointer (some ⟨2, 55, none⟩)])]).run Tryd.prog w = .ok (.bool true) w := by kernel_rfl
theorem ft_typeOf (v : Value) (w : World) : (ReflectliteType.typeOf #[.iface 95 v]).run Tryd.prog w = .ok (.iface 99 (.agg #[.pointer (some ⟨2, 95, none⟩)])) w := by kernel_rfl
theorem ft_assignable (w : World) : (ReflectliteType.relation "AssignableTo" ReflectliteType.assignableTo #[.agg #[.pointer (some ⟨2, 95, none⟩)], .iface 99 (.agg #[.pointer (some ⟨2, 95, none⟩)])]).run Tryd.prog w = .ok (.bool true) w := by kernel_rfl
theorem ft_valueOfE (s : ByteArray) (b : Bool) (w : World) : (ReflectliteValue.unpack (.iface 95 (.agg #[.string s, .bool b]))).run Tryd.prog w
    = .ok (.agg #[.pointer (some ⟨2, 95, none⟩), .pointer (some ⟨w.heap.size, 0, none⟩), .int .u64 153]) (w.alloc (.cells #[.string s, .bool b] 95)) := by kernel_rfl

theorem ft_elemOf (w : World) : (Rtype.elem? 97).run Tryd.prog w = .ok (some 95) w := by kernel_rfl
theorem ft_mk (p : Addr) (w : World) : (ReflectliteValue.mk 95 p ReflectliteValue.flagAddr).run Tryd.prog w = .ok (.agg #[.pointer (some ⟨2, 95, none⟩), .pointer (some p), .int .u64 409]) w := by kernel_rfl
/-- (Value).Elem at the Value of the target: the Value of the variable that it points to, addressable. -/
theorem ft_elemV (a p : Addr) (W : World) (ha : W.cell? a = some (.pointer (some p))) :
    (ReflectliteValue.method (ReflectliteValue.valueError "reflectlite.Value.Elem" 0) ReflectliteValue.elem #[.agg #[.pointer (some ⟨2, 97, none⟩), .pointer (some a), .int .u64 150]]).run Tryd.prog W
      = .ok (.agg #[.pointer (some ⟨2, 95, none⟩), .pointer (some p), .int .u64 409]) W := by
  delta ReflectliteValue.method
  rw [mat_met]
  simp only [Sem.run_bind, ft_partsP, Result.andThen]
  simp [ReflectliteValue.elem, loadVar, isAgg, underlying, Tryd.underlying97, ha, Result.andThen, ft_elemOf, ft_mk]
theorem ft_partsA (a : Addr) (w : World) : (ReflectliteValue.parts (.agg #[.pointer (some ⟨2, 95, none⟩), .pointer (some a), .int .u64 409])).run Tryd.prog w = .ok (some (95, a, 409)) w := by kernel_rfl
theorem ft_partsE (a : Addr) (w : World) : (ReflectliteValue.parts (.agg #[.pointer (some ⟨2, 95, none⟩), .pointer (some a), .int .u64 153])).run Tryd.prog w = .ok (some (95, a, 153)) w := by kernel_rfl
theorem ft_direct (w : World) : (Rtype.directlyAssignable 95 95).run Tryd.prog w = .ok true w := by kernel_rfl
theorem ft_size (w : World) : (sizeOf 95).run Tryd.prog w = .ok 2 w := by kernel_rfl
/-- (Value).Set: the variable at t gets what the Value's own variable at c holds. -/
theorem ft_set (t c : Nat) (u0 u1 x0 x1 : Value) (W : World) (hc0 : W.cell? ⟨c, 0, none⟩ = some x0) (hc1 : W.cell? ⟨c, 1, none⟩ = some x1) (h1 : x0.oneCell' = true) (h2 : x1.oneCell' = true)
    (ht0 : W.cell? ⟨t, 0, none⟩ = some u0) (ht1 : (W.setCell ⟨t, 0, none⟩ x0).cell? ⟨t, 1, none⟩ = some u1) (hf : W.frozen? ⟨t, 0, none⟩ = false) (hf1 : (W.setCell ⟨t, 0, none⟩ x0).frozen? ⟨t, 1, none⟩ = false) :
    (ReflectliteValue.set #[.agg #[.pointer (some ⟨2, 95, none⟩), .pointer (some ⟨t, 0, none⟩), .int .u64 409], .agg #[.pointer (some ⟨2, 95, none⟩), .pointer (some ⟨c, 0, none⟩), .int .u64 153]]).run Tryd.prog W
      = .ok (.tuple #[]) ((W.setCell ⟨t, 0, none⟩ x0).setCell ⟨t, 1, none⟩ x1) := by
  delta ReflectliteValue.set
  rw [mat_set]
  simp only [Sem.run_bind, ft_partsA, ft_partsE, Result.andThen]
  simp [ReflectliteValue.flagAddr, loadVar, isAgg, underlying, Tryd.underlying95, loadCells, loadCellsFrom, hc0, hc1, Result.andThen, ft_direct, storeVar, Value.cells, storeCells, Addr.add]
  rw [run_store Tryd.prog W ⟨t, 0, none⟩ _ _ h1]
  simp only [ht0, hf]
  simp
  rw [run_store Tryd.prog (W.setCell ⟨t, 0, none⟩ x0) ⟨t, 1, none⟩ _ _ h2]
  simp only [ht1, hf1]
  simp

set_option maxRecDepth 20000 in
set_option maxHeartbeats 8000000 in
/-- errors.As(err, target), err of the target's element type. -/
theorem as_hit (s s0 : ByteArray) (b b0 : Bool) (t : Nat) (w : World) (hg : GV w) (ht : w.heap[t]? = some (.cells #[.string s0, .bool b0] 95 (0, 0))) :
    Calls Tryd.prog 80 #[.iface 95 (.agg #[.string s, .bool b]), .iface 97 (.pointer (some ⟨t, 0, none⟩))] w fun ev w' => ev = .returned (.bool true) ∧ w' = (((((w.alloc (.cells #[.pointer (some ⟨t, 0, none⟩)] 97)).alloc (.cells #[.pointer (some ⟨2, 97, none⟩), .pointer (some ⟨w.heap.size, 0, none⟩), .int .u64 150] 114)).alloc (.cells #[.pointer (some ⟨2, 97, none⟩), .pointer (some ⟨w.heap.size, 0, none⟩), .int .u64 150] 114)).alloc (.cells #[.string s, .bool b] 95)).setCell ⟨t, 0, none⟩ (.string s)).setCell ⟨t, 1, none⟩ (.bool b) := by
  have h_vo := @run_callFunc_extern Tryd.prog 89 _ (fun args => ReflectliteValue.unpack (args.getD 0 (.tuple #[]))) Tryd.func89 (by kernel_rfl) (by kernel_rfl) (by kernel_rfl) (by kernel_rfl)
  have h_ty := @run_callFunc_extern Tryd.prog 90 _ (ReflectliteValue.methodAny (ReflectliteValue.valueError "reflectlite.Value.Type" 0) (fun t _ _ _ => ReflectliteType.toType t)) Tryd.func90 (by kernel_rfl) (by kernel_rfl) (by kernel_rfl) (by kernel_rfl)
  have h_in := @run_callFunc_extern Tryd.prog 91 _ (ReflectliteValue.method (ReflectliteValue.valueError "reflectlite.Value.IsNil" 0) ReflectliteValue.isNil) Tryd.func91 (by kernel_rfl) (by kernel_rfl) (by kernel_rfl) (by kernel_rfl)
  have h_ki := @run_callFunc_extern Tryd.prog 110 _ (ReflectliteType.abiMethod fun t => do pure (.int .u8 (← Rtype.kind t))) Tryd.func110 (by kernel_rfl) (by kernel_rfl) (by kernel_rfl) (by kernel_rfl)
  have h_el := @run_callFunc_extern Tryd.prog 119 _ (ReflectliteType.method ReflectliteType.elem) Tryd.func119 (by kernel_rfl) (by kernel_rfl) (by kernel_rfl) (by kernel_rfl)
  have h_im := @run_callFunc_extern Tryd.prog 120 _ (ReflectliteType.relation "Implements" ReflectliteType.implements_) Tryd.func120 (by kernel_rfl) (by kernel_rfl) (by kernel_rfl) (by kernel_rfl)
  have h_to := @run_callFunc_extern Tryd.prog 59 _ ReflectliteType.typeOf Tryd.func59 (by kernel_rfl) (by kernel_rfl) (by kernel_rfl) (by kernel_rfl)
  have h_as := @run_callFunc_extern Tryd.prog 117 _ (ReflectliteType.relation "AssignableTo" ReflectliteType.assignableTo) Tryd.func117 (by kernel_rfl) (by kernel_rfl) (by kernel_rfl) (by kernel_rfl)
  have h_ve := @run_callFunc_extern Tryd.prog 94 _ (ReflectliteValue.method (ReflectliteValue.valueError "reflectlite.Value.Elem" 0) ReflectliteValue.elem) Tryd.func94 (by kernel_rfl) (by kernel_rfl) (by kernel_rfl) (by kernel_rfl)
  have h_se := @run_callFunc_extern Tryd.prog 95 _ ReflectliteValue.set Tryd.func95 (by kernel_rfl) (by kernel_rfl) (by kernel_rfl) (by kernel_rfl)
  have mK := ft_mKind
  have mE := ft_mElem
  have mI := ft_mImpl
  have mA := ft_mAssign
  have hsz : Tryd.prog.types.size + Made.depth = 260 := by kernel_rfl
  rw [hsz] at mK mE mI mA
  have vO := ft_valueOf
  have tY := ft_type
  have kP := ft_kindP
  have kS := ft_kindS
  have eL := ft_elem
  have iM := ft_implements
  have tO := ft_typeOf
  have aS := ft_assignable
  have vE := ft_valueOfE
  have htl : t < w.heap.size := by
    rcases Nat.lt_or_ge t w.heap.size with h | h
    · exact h
    · rw [Array.getElem?_eq_none h] at ht; cases ht
  have n8 := ft_isNil ⟨w.heap.size, 0, none⟩ ⟨t, 0, none⟩ ((w.alloc (.cells #[.pointer (some ⟨t, 0, none⟩)] 97)).alloc (.cells #[.pointer (some ⟨2, 97, none⟩), .pointer (some ⟨w.heap.size, 0, none⟩), .int .u64 150] 114)) (by simp)
  have hg2 : ((w.alloc (.cells #[.pointer (some ⟨t, 0, none⟩)] 97)).alloc (.cells #[.pointer (some ⟨2, 97, none⟩), .pointer (some ⟨w.heap.size, 0, none⟩), .int .u64 150] 114)).cell? ⟨1, 0, none⟩ = some (.iface 99 (.agg #[.pointer (some ⟨2, 55, none⟩)])) := (hg.alloc _).alloc _
  have el := ft_elemV ⟨w.heap.size, 0, none⟩ ⟨t, 0, none⟩ (((w.alloc (.cells #[.pointer (some ⟨t, 0, none⟩)] 97)).alloc (.cells #[.pointer (some ⟨2, 97, none⟩), .pointer (some ⟨w.heap.size, 0, none⟩), .int .u64 150] 114)).alloc (.cells #[.pointer (some ⟨2, 97, none⟩), .pointer (some ⟨w.heap.size, 0, none⟩), .int .u64 150] 114)) (by rw [World.cell?_alloc_lt _ _ ⟨w.heap.size, 0, none⟩ (by simp; omega)]; simp)
  have hb4 : ((((w.alloc (.cells #[.pointer (some ⟨t, 0, none⟩)] 97)).alloc (.cells #[.pointer (some ⟨2, 97, none⟩), .pointer (some ⟨w.heap.size, 0, none⟩), .int .u64 150] 114)).alloc (.cells #[.pointer (some ⟨2, 97, none⟩), .pointer (some ⟨w.heap.size, 0, none⟩), .int .u64 150] 114)).alloc (.cells #[.string s, .bool b] 95)).heap[t]? = some (.cells #[.string s0, .bool b0] 95 (0, 0)) :=
    (heap_alloc_old _ _ (by simp; omega)).trans ((heap_alloc_old _ _ (by simp; omega)).trans ((heap_alloc_old _ _ (by simp; omega)).trans ((heap_alloc_old _ _ htl).trans ht)))
  have hn4 : ((((w.alloc (.cells #[.pointer (some ⟨t, 0, none⟩)] 97)).alloc (.cells #[.pointer (some ⟨2, 97, none⟩), .pointer (some ⟨w.heap.size, 0, none⟩), .int .u64 150] 114)).alloc (.cells #[.pointer (some ⟨2, 97, none⟩), .pointer (some ⟨w.heap.size, 0, none⟩), .int .u64 150] 114)).alloc (.cells #[.string s, .bool b] 95)).heap[w.heap.size + 1 + 1 + 1]? = some (.cells #[.string s, .bool b] 95) := by
    have := heap_alloc_new (((w.alloc (.cells #[.pointer (some ⟨t, 0, none⟩)] 97)).alloc (.cells #[.pointer (some ⟨2, 97, none⟩), .pointer (some ⟨w.heap.size, 0, none⟩), .int .u64 150] 114)).alloc (.cells #[.pointer (some ⟨2, 97, none⟩), .pointer (some ⟨w.heap.size, 0, none⟩), .int .u64 150] 114)) (.cells #[.string s, .bool b] 95)
    simpa using this
  have b5 := blk_set hb4 0 (.string s)
  have st := ft_set t (w.heap.size + 1 + 1 + 1) (.string s0) (.bool b0) (.string s) (.bool b) ((((w.alloc (.cells #[.pointer (some ⟨t, 0, none⟩)] 97)).alloc (.cells #[.pointer (some ⟨2, 97, none⟩), .pointer (some ⟨w.heap.size, 0, none⟩), .int .u64 150] 114)).alloc (.cells #[.pointer (some ⟨2, 97, none⟩), .pointer (some ⟨w.heap.size, 0, none⟩), .int .u64 150] 114)).alloc (.cells #[.string s, .bool b] 95)) (blk_cell hn4 0) (blk_cell hn4 1) rfl rfl (blk_cell hb4 0) (blk_cell b5 1) (blk_free hb4 0) (blk_free b5 1)
  clear b5 hb4 hn4 ht hsz
  go_enter Tryd.func80, Tryd.ntmps80
  go_wp2
  refine wp_loop_rounds 1 ?_
  rw [rounds_succ]
  go_wp2
  go_ret
  exact ⟨rfl, rfl⟩
/-- The same, what the caller asks. -/
theorem as_hit' (s s0 : ByteArray) (b b0 : Bool) (t : Nat) (w : World) (hg : GV w) (ht : w.heap[t]? = some (.cells #[.string s0, .bool b0] 95 (0, 0))) :
    Calls Tryd.prog 80 #[.iface 95 (.agg #[.string s, .bool b]), .iface 97 (.pointer (some ⟨t, 0, none⟩))] w fun ev w' => ev = .returned (.bool true) ∧ w.grownBy w' (some t) ∧ w'.heap[t]? = some (.cells #[.string s, .bool b] 95 (0, 0)) := by
  have htl : t < w.heap.size := by
    rcases Nat.lt_or_ge t w.heap.size with h | h
    · exact h
    · rw [Array.getElem?_eq_none h] at ht; cases ht
  refine (as_hit s s0 b b0 t w hg ht).mono ?_
  rintro e w' ⟨he, rfl⟩
  have hb4 : ((((w.alloc (.cells #[.pointer (some ⟨t, 0, none⟩)] 97)).alloc (.cells #[.pointer (some ⟨2, 97, none⟩), .pointer (some ⟨w.heap.size, 0, none⟩), .int .u64 150] 114)).alloc (.cells #[.pointer (some ⟨2, 97, none⟩), .pointer (some ⟨w.heap.size, 0, none⟩), .int .u64 150] 114)).alloc (.cells #[.string s, .bool b] 95)).heap[t]? = some (.cells #[.string s0, .bool b0] 95 (0, 0)) :=
    (heap_alloc_old _ _ (by simp; omega)).trans ((heap_alloc_old _ _ (by simp; omega)).trans ((heap_alloc_old _ _ (by simp; omega)).trans ((heap_alloc_old _ _ htl).trans ht)))
  have hB : Below w.heap.size w ((((w.alloc (.cells #[.pointer (some ⟨t, 0, none⟩)] 97)).alloc (.cells #[.pointer (some ⟨2, 97, none⟩), .pointer (some ⟨w.heap.size, 0, none⟩), .int .u64 150] 114)).alloc (.cells #[.pointer (some ⟨2, 97, none⟩), .pointer (some ⟨w.heap.size, 0, none⟩), .int .u64 150] 114)).alloc (.cells #[.string s, .bool b] 95)) := ((((Below.refl w.heap.size w).alloc (Nat.le_refl _) _).alloc (by simp) _).alloc (by simp; omega) _).alloc (by simp; omega) _
  refine ⟨he, grown_trans (grown_trans (grown_none (grown_of_below hB)) (grown_set _ _ _ _)) (grown_set _ _ _ _), ?_⟩
  have b5 := blk_set hb4 0 (.string s)
  exact blk_set b5 1 (.bool b)

end Go.Proofs.YtlhpjfhglkngfaaDoor
