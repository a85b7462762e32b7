/- Copies of rows; one row appended to rows: what each gives. No conditions but a size that a machine holds. -/
import Derived.Test.YtckhmjdhdoomdaaBa6
import Derived.Test.YtckhmjdhdoomdaaEnc
import Derived.Test.YtckhmjdhdoomdaaBa8
import Derived.Test.YtckhmjdhdoomdaaBaM
namespace Go.Proofs.Ytckhmjdhdoomdaa
open Go Go.RowKit
set_option linter.unusedVariables false

/-- The rows' head. -/
theorem rd2_head {lim n : Nat} {k : IntKind} {w : World} {u : Value} {us : List Value} {zss : List (List Int)} (hl : us.length = zss.length) (hr : RdV lim w u (us.take n))
    (h : ∀ (i : Nat) (u : Value) (zs : List Int), us[i]? = some u → zss[i]? = some zs → Rd lim k w u zs) : Rd2 lim k w u (zss.take n) := by
  refine ⟨us.take n, by simp [hl], hr, fun i y z hy hz => ?_⟩
  rw [List.getElem?_take] at hy hz
  split at hy
  · rename_i hi
    rw [if_pos hi] at hz
    exact h i y z hy hz
  · cases hy

/-- append of one row of the call's own to a slice of rows of the call's own, whatever their blocks. -/
theorem append_rowF {P : Program} (w : World) {ops : Array Oper} {rest : List Oper} {o : Oper} {a : Act} {Q : Exit → Act → World → Prop} (hg : o.guard = none) (s x : Operand) (tt : TypeId)
    (hop : o.op = .call { callee := .builtin .append, args := #[s, x], argTypes := #[tt, tt] }) (t e : TypeId) (i : TypeInfo) (bytes : Nat) (ht : P.underlying tt = some (.slice t)) (hi : P.info? t = some i) (hz : i.zero = some (.slice none 0 0))
    (hsize : i.size = 1) (hby : i.bytes = bytes) (hb1 : 1 ≤ bytes) {k : IntKind} {F : Nat → Prop} {v u : Value} {ad : Addr} {c : Nat} {zss : List (List Int)} {zs : List Int} (hs : a.eval s = v) (hown : Own2 t e k F w v zss) (hlt : ∀ b, F b → b < w.heap.size)
    (hx : a.eval x = .slice (some ad) 1 c) (hc : w.cell? (ad.add 0) = some u) (hu : Own e k 0 w u zs) (hF : ∀ r, u.ownBlock = some r → ¬ F r) (hle : (zss.length + 1) * bytes ≤ 140737488355328)
    (h : ∀ v' w', Own2 t e k (fun b => F b ∨ u.ownBlock = some b ∨ v'.ownBlock = some b) w' v' (zss ++ [zs]) → w.grownBy w' v.ownBlock → (v'.ownBlock = v.ownBlock ∨ v'.ownBlock = some w.heap.size) → (∀ r, v'.ownBlock = some r → r < w'.heap.size) →
      wpList P ops Q rest (a.put o.dst v') w') : wpList P ops Q (o :: rest) a w := by
  obtain ⟨v', w', hr, p1, p2, p3, p4, _⟩ := run_append_row (P := P) w tt o.type t e i bytes ht hi hz hsize hby hb1 hown hlt hc hu hF hle
  refine wpList_plain hg fun K hK => ?_
  unfold Oper.wp
  simp only [execOp, hop, resolve, invoke, builtin, Sem.run_bind, Sem.run_pure, Result.andThen_ok, List.map_toArray, List.map_cons, List.map_nil, hs, hx]
  rw [hr]
  exact hK _ _ (h v' w' p1 p2 p3 p4)

theorem made_start {t e : TypeId} {k : IntKind} {B g n : Nat} {w1 : World} (ho : w1.ownsRow g t 1 (.slice (some ⟨g, 0, none⟩) n n) n (madeCells #[.slice none 0 0] n).toList) (hB : B ≤ g) :
    Own2 t e k (ival B w1.heap.size) w1 (.slice (some ⟨g, 0, none⟩) n n) (List.replicate n []) := by
  rw [toList_madeCells_one] at ho
  have hlt := (ho.lt g rfl).2
  refine Own2.made ?_ ⟨hB, hlt⟩
  obtain ⟨p1, p2⟩ := ho
  exact ⟨p1, by rcases p2 with p2 | ⟨g', cap, cur, q1, q2, q3⟩; exact .inl p2; exact .inr ⟨g', cap, cur, q1, Nat.zero_le _, q3⟩⟩

/-- A row of its own is stored into an element. -/
theorem put_ival {t e : TypeId} {k : IntKind} {B E g n j : Nat} {w : World} {u : Value} {zss : List (List Int)} {zs : List Int} (h : Own2 t e k (ival B E) w (.slice (some ⟨g, 0, none⟩) n n) zss) (hu : Own e k E w u zs) (hBE : B ≤ E) (hE : E ≤ w.heap.size) :
    Own2 t e k (ival B (w.setCell ⟨g, j, none⟩ u).heap.size) (w.setCell ⟨g, j, none⟩ u) (.slice (some ⟨g, 0, none⟩) n n) (zss.set j zs) ∧ w.grownBy (w.setCell ⟨g, j, none⟩ u) (some g) ∧ B ≤ g := by
  have hF : ∀ r, u.ownBlock = some r → ¬ ival B E r := fun r hr hi => by
    have := (hu.lt r hr).1
    unfold ival at hi; omega
  have hg : ival B E g := h.in_ g rfl
  obtain ⟨p1, p2⟩ := h.put (j := j) (hu.mono (Nat.zero_le _)) hF
  refine ⟨p1.mono fun b hb => ?_, p2, hg.1⟩
  have es : (w.setCell ⟨g, j, none⟩ u).heap.size = w.heap.size := by simp [World.setCell]
  rw [es]
  rcases hb with hb | hb
  · unfold ival at hb ⊢; omega
  · have := hu.lt b hb
    unfold ival; omega

end Go.Proofs.Ytckhmjdhdoomdaa
