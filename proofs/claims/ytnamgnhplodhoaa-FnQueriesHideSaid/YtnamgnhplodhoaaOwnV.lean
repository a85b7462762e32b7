/- Rows of the call's own whose elements are slices that may be others'. No program. -/
import Derived.Test.YtnamgnhplodhoaaDeep
namespace Go.Proofs.Ytnamgnhplodhoaa
open Go Go.RowKit
set_option linter.unusedVariables false

/-- v is nil or the head of a row of the call's own (blocks from B on) whose elements are the values us. -/
def OwnV (t : TypeId) (B : Nat) (w : World) (v : Value) (us : List Value) : Prop :=
  (∀ u ∈ us, u.oneCell' = true) ∧ B ≤ w.heap.size ∧ w.ownsRow B t 1 v us.length us

theorem OwnV.alloc {t : TypeId} {B : Nat} {w : World} {v : Value} {us : List Value} (h : OwnV t B w v us) (o : Obj) : OwnV t B (w.alloc o) v us :=
  ⟨h.1, by have := h.2.1; simp; omega, h.2.2.alloc o⟩
theorem OwnV.lit {B : Nat} {w : World} (t : TypeId) (hB : B ≤ w.heap.size) : OwnV t B (w.alloc (.cells #[] t)) (.slice (some ⟨w.heap.size, 0, none⟩) 0 0) [] :=
  ⟨by simp, by simp; omega, World.ownsRow_made w #[] 0 hB (Nat.zero_le _) rfl⟩
theorem OwnV.below {t : TypeId} {B C : Nat} {w w' : World} {v : Value} {us : List Value} (h : OwnV t B w v us) (hC : C ≤ B) (hg : w.grownBy w' v.ownBlock) : Below C w w' :=
  (Below.refl C w).grown hg (Nat.le_trans hC h.2.1) (fun r hr => by have := (h.2.2.lt r hr).1; omega)

theorem OwnV.rdv {t : TypeId} {B : Nat} {w : World} {v : Value} {us : List Value} (h : OwnV t B w v us) : RdV w.heap.size w v us := by
  obtain ⟨_, hB, h1⟩ := h
  have h1' := h1
  rcases h1.2 with ⟨rfl, h0⟩ | ⟨g, cap, cur, rfl, h5, h6, h7, h8, h9⟩
  · exact ⟨none, 0, by rw [h0], by omega, by unfold maxLen; omega, .inl ⟨rfl, rfl⟩⟩
  · refine ⟨_, cap, rfl, h7, h8, .inr ⟨_, rfl, fun i u hu => ?_, .inl (Array.getElem?_eq_some_iff.1 h6).1⟩⟩
    have hi := (List.getElem?_eq_some_iff.1 hu).1
    have e2 : (⟨g, 0, none⟩ : Addr).add i = ⟨g, i, none⟩ := by unfold Addr.add; split <;> simp_all
    rw [e2, World.ownsRow.cellAt h1' i (by omega)]
    exact hu

theorem rd_one {k : IntKind} {w : World} {lim : Nat} {u : Value} {zs : List Int} (h : Rd lim k w u zs) : u.oneCell' = true := by
  obtain ⟨_, a, cap, rfl, _⟩ := h
  rfl

/-- append of what is read to such a row. -/
theorem append_vals {P : Program} (w : World) {ops : Array Oper} {rest : List Oper} {o : Oper} {a : Act} {Q : Exit → Act → World → Prop} (hg : o.guard = none) (s x : Operand) (tt : TypeId)
    (hop : o.op = .call { callee := .builtin .append, args := #[s, x], argTypes := #[tt, tt] }) (t : TypeId) (i : TypeInfo) (bytes : Nat) (ht : P.underlying tt = some (.slice t)) (hi : P.info? t = some i) (hz : i.zero = some (.slice none 0 0))
    (hsize : i.size = 1) (hby : i.bytes = bytes) (hb1 : 1 ≤ bytes) {B lim : Nat} {v u : Value} {us ys : List Value} (hs : a.eval s = v) (hown : OwnV t B w v us) (hx : a.eval x = u) (hu : RdV lim w u ys) (hone : ∀ y ∈ ys, y.oneCell' = true)
    (hle : (us.length + ys.length) * bytes ≤ 140737488355328)
    (h : ∀ v' w', OwnV t B w' v' (us ++ ys) → w.grownBy w' v.ownBlock → wpList P ops Q rest (a.put o.dst v') w') : wpList P ops Q (o :: rest) a w := by
  obtain ⟨p, cap, rfl, u1, u2, u3⟩ := hu
  obtain ⟨vw, vB, vo⟩ := hown
  have hm : us.length + ys.length ≤ maxLen := by
    have : (us.length + ys.length) * 1 ≤ (us.length + ys.length) * bytes := Nat.mul_le_mul_left _ hb1
    unfold maxLen; omega
  have one : ∀ y ∈ us ++ ys, y.oneCell' = true := fun y hy => by
    rcases List.mem_append.1 hy with h | h
    · exact vw y h
    · exact hone y h
  rcases u3 with ⟨rfl, rfl⟩ | ⟨y, rfl, hc, hbl⟩
  · have hy : ys = [] := List.eq_nil_of_length_eq_zero (by omega)
    subst hy
    refine wpList_append_own_none hg s x tt hop B t i 1 ht hi v us.length _ hs vo hx ?_
    exact h v w (by rw [List.append_nil]; exact ⟨vw, vB, vo⟩) (World.grownBy.refl _ _)
  · refine wpList_append_own w hg s x tt hop B t i _ 1 bytes ht hi hz hsize hby rfl (by decide) v us.length us hs vo y ys.length cap ys hx (by simp) hc hone hm hle vB ?_
    intro v' w' h1 h2 _
    exact h v' w' ⟨one, Nat.le_trans vB h2.size, by rw [List.length_append]; exact h1⟩ h2

/-- A literal of one element. -/
theorem RdV.one (w : World) (u : Value) (t : TypeId) : RdV (w.heap.size + 1) (w.alloc (.cells #[u] t)) (.slice (some ⟨w.heap.size, 0, none⟩) 1 1) [u] :=
  ⟨_, 1, rfl, Nat.le_refl _, by unfold maxLen; omega, .inr ⟨_, rfl, fun i y hy => cell_one_new w u t i y hy, .inl (Nat.lt_succ_self _)⟩⟩

/-- What is read is one cell each. -/
theorem U3o {lim : Nat} {k : IntKind} {w : World} {us : List Value} {zss : List (List Int)} (hl : us.length = zss.length) (h : ∀ (i : Nat) (u : Value) (zs : List Int), us[i]? = some u → zss[i]? = some zs → Rd lim k w u zs) : ∀ y ∈ us, y.oneCell' = true := fun y hy => by
  obtain ⟨i, hi, rfl⟩ := List.mem_iff_getElem.1 hy
  exact rd_one (h i _ _ (List.getElem?_eq_getElem hi) (List.getElem?_eq_getElem (by omega)))

/-- A row of such values with one more, read. -/
theorem OwnV.rd2_snoc {t : TypeId} {B lim : Nat} {k : IntKind} {w0 w : World} {v u : Value} {us : List Value} {zss : List (List Int)} {zs : List Int} (h : OwnV t B w v (us ++ [u])) (hl : us.length = zss.length)
    (h1 : ∀ (i : Nat) (u : Value) (zs : List Int), us[i]? = some u → zss[i]? = some zs → Rd lim k w0 u zs) (h2 : Rd lim k w0 u zs) (hb : Below lim w0 w) (hlim : lim ≤ w.heap.size) : Rd2 w.heap.size k w v (zss ++ [zs]) := by
  refine ⟨us ++ [u], by simp [hl], h.rdv, fun i y z hy hz => ?_⟩
  by_cases hi : i < us.length
  · rw [List.getElem?_append_left hi] at hy
    rw [List.getElem?_append_left (by omega)] at hz
    exact ((h1 i y z hy hz).behind hb).mono hlim
  · have hi' : i = us.length := by have := (List.getElem?_eq_some_iff.1 hy).1; simp at this; omega
    subst hi'
    rw [List.getElem?_append_right (Nat.le_refl _)] at hy
    rw [hl, List.getElem?_append_right (Nat.le_refl _)] at hz
    simp at hy hz
    subst hy; subst hz
    exact (h2.behind hb).mono hlim

end Go.Proofs.Ytnamgnhplodhoaa
