/- errors.Is at the sentinel impl.errNoInvitation: a nil error gives false; a failed invitation, whose Unwrap gives the sentinel, gives true. Go's own text of errors.Is is walked. Condition: the package variable impl.errNoInvitation holds a pointer to an errors.errorString. -/
import Derived.Test.YtlhpjfhglkngfaaDoorRows
import Derived.Test.YtlhpjfhglkngfaaDoorBa1
import Derived.WalkKit
import Derived.Handy
import Derived.WalkSpells
import Derived.LaidEql
import Derived.Stop.Asserts
import Derived.RowKitTokens
import Derived.Lib.Hide
namespace Go.Proofs.YtlhpjfhglkngfaaDoor
open Go Go.RowKit Go.Extern.Stop Go.Stop Go.Extern
set_option linter.unusedVariables false
set_option maxRecDepth 20000

/-- The package variable impl.errNoInvitation holds this pointer. -/
def NV (a : Addr) (w : World) : Prop := w.cell? ⟨0, 0, none⟩ = some (.iface 126 (.pointer (some a)))
theorem NV.pos {a : Addr} {w : World} (h : NV a w) : 0 < w.heap.size := by
  rcases Nat.lt_or_ge 0 w.heap.size with h1 | h0
  · exact h1
  · unfold NV at h; simp [World.cell?, Array.getElem?_eq_none h0] at h
theorem NV.next {a : Addr} {w w' : World} (h : NV a w) (hb : Below w.heap.size w w') : NV a w' := (hb.cell (p := ⟨0, 0, none⟩) h.pos).trans h
theorem NV.below {a : Addr} {B : Nat} {w w' : World} (h : NV a w) (hb : Below B w w') (hB : 0 < B) : NV a w' := (hb.cell (p := ⟨0, 0, none⟩) hB).trans h
theorem NV.alloc {a : Addr} {w : World} (h : NV a w) (o : Obj) : NV a (w.alloc o) := h.next ((Below.refl _ _).alloc (Nat.le_refl _) o)

theorem fi_typeOf (v : Value) (w : World) : (ReflectliteType.typeOf #[.iface 126 v]).run Tryd.prog w = .ok (.iface 99 (.agg #[.pointer (some ⟨2, 126, none⟩)])) w := by kernel_rfl
/-- The entry for 'Comparable', under a name of its own. -/
def fiComp : Array Value → Sem Value := ReflectliteType.method fun t => do Rtype.noPackHeld "Comparable" t; pure (.bool (← typeInfo t).comparable)
theorem fi_comparable (w : World) : (fiComp #[.agg #[.pointer (some ⟨2, 126, none⟩)]]).run Tryd.prog w = .ok (.bool true) w := by kernel_rfl
theorem fi_mComp (v : Value) (w : World) : (Go.method (Tryd.prog.types.size + Made.depth) 99 v "Comparable").run Tryd.prog w = .ok (118, v) w := by kernel_rfl
theorem fi_comp : (Tryd.prog.info? 126).map (·.comparable) = some true := by kernel_rfl
theorem fi_size : (Tryd.prog.info? 148).map (·.size) = some 1 := by kernel_rfl
theorem fi_noIs (v : Value) (xT : TypeId) (w : World) : (Instr.typeAssert (.iface 80 v) xT 101 true).run Tryd.prog w = .ok (.tuple #[.nilIface, .bool false]) w := run_typeAssert_lacksB Tryd.underlying101 (by kernel_rfl) (by kernel_rfl) v xT w
theorem fi_has (v : Value) (xT : TypeId) (w : World) : (Instr.typeAssert (.iface 80 v) xT 104 true).run Tryd.prog w = .ok (.tuple #[.iface 80 v, .bool true]) w := run_typeAssert_hasB Tryd.underlying104 (by kernel_rfl) v xT w
theorem fi_mUnwrap (v : Value) (w : World) : (Go.method (Tryd.prog.types.size + Made.depth) 80 v "Unwrap").run Tryd.prog w = .ok (114, v) w := by kernel_rfl

/-- errors.Is(nil, the sentinel). -/
theorem eis_nil (b : Addr) (w : World) :
    Calls Tryd.prog 32 #[.nilIface, .iface 126 (.pointer (some b))] w fun e w' => e = .returned (.bool false) ∧ w' = w := by
  have hn := run_eql_iface_nil_left (P := Tryd.prog) w 126 (.pointer (some b)) Tryd.underlying55
  go_enter Tryd.func32, Tryd.ntmps32
  go_wp2
  go_ret
  exact ⟨rfl, rfl⟩

set_option maxHeartbeats 4000000 in
/-- errors.Is(a failed invitation, the sentinel). -/
theorem eis_failed (s : ByteArray) (a : Addr) (w : World) (hv : NV a w) :
    Calls Tryd.prog 32 #[.iface 80 (.agg #[.string s]), .iface 126 (.pointer (some a))] w fun e w' => e = .returned (.bool true) ∧ Below w.heap.size w w' := by
  obtain ⟨i, hi, hcmp⟩ := Option.map_eq_some_iff.1 fi_comp
  obtain ⟨j, hj, hjs⟩ := Option.map_eq_some_iff.1 fi_size
  have h_to := @run_callFunc_extern Tryd.prog 59 _ ReflectliteType.typeOf Tryd.func59 (by kernel_rfl) (by kernel_rfl) (by kernel_rfl) (by kernel_rfl)
  have h_co := @run_callFunc_extern Tryd.prog 118 _ fiComp Tryd.func118 (by kernel_rfl) (by kernel_rfl) (by kernel_rfl) (by kernel_rfl)
  have tT := fi_typeOf
  have cT := fi_comparable
  have mR := fi_mComp
  have nE := fi_noIs
  have uE := fi_has
  have mU := fi_mUnwrap
  have hsz : Tryd.prog.types.size + Made.depth = 260 := by kernel_rfl
  rw [hsz] at mR mU
  have heq : ∀ W : World, (binOp .eql 55 (.iface 126 (.pointer (some a))) (.iface 126 (.pointer (some a)))).run Tryd.prog W = .ok (.bool true) W := fun W => run_eql_iface_ptr_same (P := Tryd.prog) W a Tryd.underlying55 Tryd.underlying126 hi hcmp hj
  have hty := run_eql_iface_types (P := Tryd.prog) 80 126 (.agg #[.string s]) (.pointer (some a)) Tryd.underlying55 (by decide) w
  have hv2 : (w.alloc (.cells #[.string s] 80)).cell? ⟨0, 0, none⟩ = some (.iface 126 (.pointer (some a))) := hv.alloc _
  clear hsz hv hi hcmp hj hjs
  go_enter Tryd.func32, Tryd.ntmps32
  go_wp2
  refine wp_loop_rounds 2 ?_
  rw [rounds_succ]
  go_wp2
  rw [rounds_succ]
  go_wp2
  go_ret
  exact ⟨rfl, (Below.refl _ _).alloc (Nat.le_refl _) _⟩

end Go.Proofs.YtlhpjfhglkngfaaDoor
