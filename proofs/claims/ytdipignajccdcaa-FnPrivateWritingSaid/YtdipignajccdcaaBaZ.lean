/- Rows of values of a type of one cell: append at a step of a region; between such rows and slices of that type; lists taken apart. No program. -/
import Derived.Test.YtdipignajccdcaaBbT
import Derived.Test.YtdipignajccdcaaBa8
namespace Go.Proofs.Ytdipignajccdcaa
open Go Go.RowKit
set_option linter.unusedVariables false

/-- append of what is read to a row of the call's own, at a step; where the new row lies. -/
theorem step_append_valsZ {P : Program} (w : World) {ops : Array Oper} {o : Oper} {a : Act} {K : Act → World → Prop} {Q : Exit → Act → World → Prop} {E : Prop} (hgd : o.guard = none) (s x : Operand) (tt : TypeId)
    (ho : o.op = .call { callee := .builtin .append, args := #[s, x], argTypes := #[tt, tt] }) (t : TypeId) (i : TypeInfo) (z : Value) (bytes : Nat) (ht : P.underlying tt = some (.slice t)) (hi : P.info? t = some i) (hz : i.zero = some z)
    (hsize : i.size = 1) (hby : i.bytes = bytes) (hzs : z.cells.size = 1) (hb1 : 1 ≤ bytes) {B lim : Nat} {v u : Value} {us ys : List Value} (hs : a.eval s = v) (hown : OwnV t B w v us) (hx : a.eval x = u) (hu : RdV lim w u ys) (hone : ∀ y ∈ ys, y.oneCell' = true)
    (hle : (us.length + ys.length) * bytes ≤ 140737488355328)
    (h : ∀ v' w', OwnV t B w' v' (us ++ ys) → w.grownBy w' v.ownBlock → (v'.ownBlock = v.ownBlock ∨ v'.ownBlock = some w.heap.size) → K (a.put o.dst v') w') : if Region.wanted o (yielded ops a.tmps) = true then Oper.wp P o a w K Q else E := by
  have hw : Region.wanted o (yielded ops a.tmps) = true := by simp [Region.wanted, hgd]
  rw [if_pos hw]
  obtain ⟨p, cap, rfl, u1, u2, u3⟩ := hu
  obtain ⟨vw, vB, vo⟩ := hown
  have hm : us.length + ys.length ≤ maxLen := by
    have : (us.length + ys.length) * 1 ≤ (us.length + ys.length) * bytes := Nat.mul_le_mul_left _ hb1
    unfold maxLen; omega
  have one : ∀ y ∈ us ++ ys, y.oneCell' = true := fun y hy => by
    rcases List.mem_append.1 hy with h | h
    · exact vw y h
    · exact hone y h
  rcases u3 with ⟨rfl, rfl⟩ | ⟨y, rfl, hc, hbl⟩
  · have hy : ys = [] := List.eq_nil_of_length_eq_zero (by omega)
    subst hy
    have hrun := run_append_owned_none (P := P) (w := w) B tt o.type t i 1 ht hi v us.length _ vo
    unfold Oper.wp
    simp only [List.length_nil] at hx
    simp [execOp, ho, resolve, invoke, builtin, hs, hx, hrun, Result.andThen]
    exact h v w (by rw [List.append_nil]; exact ⟨vw, vB, vo⟩) (World.grownBy.refl _ _) (.inl rfl)
  · obtain ⟨v', w', hr, h2, h3, _, h4⟩ := run_append_own_at (P := P) w B tt o.type t i z 1 bytes ht hi hz hsize hby hzs (by decide) v us.length us vo y ys.length cap ys (by simp) hc hone hm hle vB
    unfold Oper.wp execOp
    simp only [ho, resolve, invoke, builtin, Sem.run_bind, Sem.run_pure, Result.andThen_ok, List.map_toArray, List.map_cons, List.map_nil, hs, hx, hr]
    exact h v' w' ⟨one, Nat.le_trans vB h3.size, by rw [List.length_append]; exact h2⟩ h3 h4

section
variable {α : Type} {e : TypeId} {T : Ty α} {w : World} {v : Value} {xs : List α} {us : List Value} {l : Nat}
theorem sl_parts (hz : T.sz = 1) (h : (sliceT e T).rd l w [v] xs) : ∃ us : List Value, us.length = xs.length ∧ RdV l w v us ∧ ∀ (i : Nat) (u : Value) (x : α), us[i]? = some u → xs[i]? = some x → T.rd l w [u] x := by
  obtain ⟨a, cap, hv, h1, h2, h3⟩ := h
  have hv := (List.cons.inj hv).1
  subst hv
  rcases h3 with ⟨rfl, rfl⟩ | ⟨p, rfl, h5, h6⟩
  · obtain rfl : xs = [] := List.eq_nil_of_length_eq_zero (by omega)
    exact ⟨[], rfl, ⟨none, 0, rfl, Nat.le_refl _, h2, .inl ⟨rfl, rfl⟩⟩, fun i u x hu => by simp at hu⟩
  · have key : ∀ (i : Nat) (hi : i < xs.length), ∃ u, w.cell? (p.add i) = some u ∧ T.rd l w [u] (xs[i]) := fun i hi => by
      obtain ⟨c, q1, q2⟩ := h6 i _ (List.getElem?_eq_getElem hi)
      have hl := T.len q1
      rw [hz] at hl
      obtain ⟨u, rfl⟩ := List.length_eq_one_iff.1 hl
      refine ⟨u, ?_, q1⟩
      have := q2 0 u rfl
      rwa [hz, Nat.mul_one, Nat.add_zero] at this
    refine ⟨(List.range xs.length).map fun i => (w.cell? (p.add i)).getD (.bool false), by simp, ⟨some p, cap, by simp, by simpa using h1, h2, .inr ⟨p, rfl, fun i u hu => ?_, ?_⟩⟩, fun i u x hu hx => ?_⟩
    · have hi : i < xs.length := by have := (List.getElem?_eq_some_iff.1 hu).1; simpa using this
      obtain ⟨y, hy, _⟩ := key i hi
      simp [hi, hy] at hu
      rw [hy, hu]
    · rcases h5 with h5 | h5
      · exact .inl h5
      · exact .inr (by simp [h5])
    · have hi := (List.getElem?_eq_some_iff.1 hx).1
      obtain ⟨y, hy, hr⟩ := key i hi
      simp [hi, hy] at hu
      rw [List.getElem?_eq_getElem hi] at hx
      injection hx with hx
      rw [← hu, ← hx]
      exact hr
theorem sl_of_vals (hz : T.sz = 1) (h : RdV l w v us) (hl : us.length = xs.length) (hr : ∀ (i : Nat) (u : Value) (x : α), us[i]? = some u → xs[i]? = some x → T.rd l w [u] x) : (sliceT e T).rd l w [v] xs := by
  obtain ⟨a, cap, rfl, h1, h2, h3⟩ := h
  refine ⟨a, cap, by rw [hl], by omega, h2, ?_⟩
  rcases h3 with h3 | ⟨p, rfl, h4, h5⟩
  · exact .inl h3
  · refine .inr ⟨p, rfl, ?_, fun i x hi => ?_⟩
    · rcases h5 with h5 | h5
      · exact .inl h5
      · exact .inr (by omega)
    · have hlt := (List.getElem?_eq_some_iff.1 hi).1
      have hu := List.getElem?_eq_getElem (l := us) (i := i) (by omega)
      refine ⟨[us[i]'(by omega)], hr i _ x hu hi, fun j y hy => ?_⟩
      have hj : j = 0 := by have := (List.getElem?_eq_some_iff.1 hy).1; simpa using this
      subst hj
      have hy' : us[i]'(by omega) = y := by simpa using hy
      rw [hz, Nat.mul_one, Nat.add_zero, ← hy']
      exact h4 i _ hu
end

/-- Two lists of one length whose elements belong together. -/
def Pt {α β : Type} (p : α → β → Prop) (us : List α) (xs : List β) : Prop := us.length = xs.length ∧ ∀ (i : Nat) (u : α) (x : β), us[i]? = some u → xs[i]? = some x → p u x
section
variable {α β : Type} {p q : α → β → Prop} {us vs : List α} {xs ys : List β}
theorem Pt.take (h : Pt p us xs) (k : Nat) : Pt p (us.take k) (xs.take k) := by
  refine ⟨by rw [List.length_take, List.length_take, h.1], fun i u x hu hx => ?_⟩
  rw [List.getElem?_take] at hu hx
  by_cases hi : i < k
  · rw [if_pos hi] at hu hx; exact h.2 i u x hu hx
  · rw [if_neg hi] at hu; cases hu
theorem Pt.drop (h : Pt p us xs) (k : Nat) : Pt p (us.drop k) (xs.drop k) := by
  refine ⟨by rw [List.length_drop, List.length_drop, h.1], fun i u x hu hx => ?_⟩
  rw [List.getElem?_drop] at hu hx
  exact h.2 _ u x hu hx
theorem Pt.append (h : Pt p us xs) (k : Pt p vs ys) : Pt p (us ++ vs) (xs ++ ys) := by
  refine ⟨by rw [List.length_append, List.length_append, h.1, k.1], fun i u x hu hx => ?_⟩
  by_cases hi : i < us.length
  · rw [List.getElem?_append_left hi] at hu
    rw [List.getElem?_append_left (by rw [← h.1]; exact hi)] at hx
    exact h.2 i u x hu hx
  · rw [List.getElem?_append_right (by omega)] at hu
    rw [List.getElem?_append_right (by rw [← h.1]; omega), ← h.1] at hx
    exact k.2 _ u x hu hx
theorem Pt.one {u : α} {x : β} (h : p u x) : Pt p [u] [x] := by
  refine ⟨rfl, fun i u' x' hu hx => ?_⟩
  have hi : i = 0 := by have := (List.getElem?_eq_some_iff.1 hu).1; simpa using this
  subst hi
  have h1 : u = u' := by simpa using hu
  have h2 : x = x' := by simpa using hx
  rw [← h1, ← h2]; exact h
theorem Pt.mono (h : Pt p us xs) (hpq : ∀ u x, p u x → q u x) : Pt q us xs := ⟨h.1, fun i u x hu hx => hpq u x (h.2 i u x hu hx)⟩
end
/-- One value behind another's address. -/
theorem rdv_one {w : World} {b : Nat} {u : Value} {t : TypeId} (h : w.heap[b]? = some (.cells #[u] t (0, 0))) : RdV (b + 1) w (.slice (some ⟨b, 0, none⟩) 1 1) [u] :=
  ⟨_, 1, rfl, Nat.le_refl _, by unfold maxLen; omega, .inr ⟨_, rfl, fun i y hy => by
    have hi : i = 0 := by have := (List.getElem?_eq_some_iff.1 hy).1; simpa using this
    subst hi
    have hu : u = y := by simpa using hy
    rw [add_none, ← hu]
    exact blk_cell h 0, .inl (Nat.lt_succ_self _)⟩⟩
end Go.Proofs.Ytdipignajccdcaa
