/- append to a row of the call's own, at a step of a region that draws its order. No program. append to a row of the call's own: at an operation, at a guarded operation. No program. -/
import Derived.Test.YtlbijjifeaimjaaBa1
import Derived.Laws.AppendOwn
import Derived.RegionTactic
import Derived.Laws.AppendOwnNone

/-! RdStep -/
namespace Go.Proofs.Ytlbijjifeaimjaa
open Go Go.RowKit
set_option linter.unusedVariables false

theorem Own.drew {e : TypeId} {k : IntKind} {B : Nat} {w : World} {v : Value} {zs : List Int} (h : Own e k B w v zs) : Own e k B w.drew v zs :=
  h.kept (row := none) ⟨rfl, rfl, rfl, Nat.le_refl _, fun _ _ _ => rfl⟩ (by cases hv : v.ownBlock <;> simp)
theorem Rd.drew {l : Nat} {k : IntKind} {w : World} {v : Value} {zs : List Int} (h : Rd l k w v zs) : Rd l k w.drew v zs := h.behind (Below.refl _ _).drew

theorem step_append_rd {P : Program} (w : World) {ops : Array Oper} {o : Oper} {a : Act} {K : Act → World → Prop} {Q : Exit → Act → World → Prop} {E : Prop} (hgd : o.guard = none) (s x : Operand) (t : TypeId)
    (ho : o.op = .call { callee := .builtin .append, args := #[s, x], argTypes := #[t, t] }) (e : TypeId) (i : TypeInfo) (z : Value) (bytes : Nat) (ht : P.underlying t = some (.slice e)) (hi : P.info? e = some i) (hz : i.zero = some z)
    (hsize : i.size = 1) (hby : i.bytes = bytes) (hzs : z.cells.size = 1) (hb1 : 1 ≤ bytes) {k : IntKind} {B lim c : Nat} {v : Value} {ad : Addr} {xs ys : List Int} (hs : a.eval s = v) (hown : Own e k B w v xs)
    (hx : a.eval x = .slice (some ad) ys.length c) (hu : Rd lim k w (.slice (some ad) ys.length c) ys) (hle : (xs.length + ys.length) * bytes ≤ 140737488355328)
    (h : ∀ v' w', Own e k B w' v' (xs ++ ys) → w.grownBy w' v.ownBlock → K (a.put o.dst v') w') :
    if Region.wanted o (yielded ops a.tmps) = true then Oper.wp P o a w K Q else E := by
  have hw : Region.wanted o (yielded ops a.tmps) = true := by simp [Region.wanted, hgd]
  rw [if_pos hw]
  obtain ⟨uw, ua, ucap, hv, u1, u2, u3⟩ := hu
  obtain ⟨vw, vB, vo⟩ := hown
  have hm : xs.length + ys.length ≤ maxLen := by
    have : (xs.length + ys.length) * 1 ≤ (xs.length + ys.length) * bytes := Nat.mul_le_mul_left _ hb1
    unfold maxLen; omega
  injection hv with e1 e2 e3
  subst e1
  rcases u3 with ⟨h0, _⟩ | ⟨y, hy, hc, hbl⟩
  · cases h0
  · injection hy with hy
    subst hy
    refine wp_append_own w s x t ho B e i z 1 bytes ht hi hz hsize hby hzs (by decide) v xs.length _ hs vo ad ys.length c (ys.map (Value.int k)) hx (by simp) ?_ ?_ hm hle vB ?_
    · intro j n hn
      rw [List.getElem?_map] at hn
      rcases hj : ys[j]? with _ | q
      · simp [hj] at hn
      · simp [hj] at hn
        have hlt : j < ys.length := (List.getElem?_eq_some_iff.1 hj).1
        rw [hc j hlt, List.getD_eq_getElem?_getD, hj]
        simpa using hn
    · intro n hn
      obtain ⟨q, _, rfl⟩ := List.mem_map.1 hn
      rfl
    · intro v' w' h1 h2 _
      exact h v' w' ⟨by intro n hn; rcases List.mem_append.1 hn with h | h; exact vw n h; exact uw n h, Nat.le_trans vB h2.size, by simpa using h1⟩ h2

end Go.Proofs.Ytlbijjifeaimjaa


/-! RdG -/
namespace Go.Proofs.Ytlbijjifeaimjaa
open Go Go.RowKit
set_option linter.unusedVariables false

theorem wp_append_rd {P : Program} (w : World) {o : Oper} {a : Act} {K : Act → World → Prop} {Q : Exit → Act → World → Prop} (s x : Operand) (t : TypeId)
    (ho : o.op = .call { callee := .builtin .append, args := #[s, x], argTypes := #[t, t] }) (e : TypeId) (i : TypeInfo) (z : Value) (bytes : Nat) (ht : P.underlying t = some (.slice e)) (hi : P.info? e = some i) (hz : i.zero = some z)
    (hsize : i.size = 1) (hby : i.bytes = bytes) (hzs : z.cells.size = 1) (hb1 : 1 ≤ bytes) {k : IntKind} {B lim : Nat} {v u : Value} {xs ys : List Int} (hs : a.eval s = v) (hown : Own e k B w v xs)
    (hx : a.eval x = u) (hu : Rd lim k w u ys) (hle : (xs.length + ys.length) * bytes ≤ 140737488355328)
    (h : ∀ v' w', Own e k B w' v' (xs ++ ys) → w.grownBy w' v.ownBlock → K (a.put o.dst v') w') : Oper.wp P o a w K Q := by
  obtain ⟨uw, ua, ucap, rfl, u1, u2, u3⟩ := hu
  obtain ⟨vw, vB, vo⟩ := hown
  have hm : xs.length + ys.length ≤ maxLen := by
    have : (xs.length + ys.length) * 1 ≤ (xs.length + ys.length) * bytes := Nat.mul_le_mul_left _ hb1
    unfold maxLen; omega
  have key : ∀ v' w', w'.ownsRow B e 1 v' (xs.length + ys.length) (xs.map (Value.int k) ++ ys.map (Value.int k)) → w.grownBy w' v.ownBlock → K (a.put o.dst v') w' := fun v' w' h1 h2 =>
    h v' w' ⟨by intro n hn; rcases List.mem_append.1 hn with h | h; exact vw n h; exact uw n h, Nat.le_trans vB h2.size, by simpa using h1⟩ h2
  rcases u3 with ⟨rfl, rfl⟩ | ⟨y, rfl, hc, hbl⟩
  · have hy : ys = [] := List.eq_nil_of_length_eq_zero (by omega)
    subst hy
    have hrun := run_append_owned_none (P := P) (w := w) B t o.type e i 1 ht hi v xs.length _ vo
    unfold Oper.wp
    simp only [List.length_nil] at hx
    simp [execOp, ho, resolve, invoke, builtin, hs, hx, hrun, Result.andThen]
    exact key v w (by simpa using vo) (World.grownBy.refl _ _)
  · refine wp_append_own w s x t ho B e i z 1 bytes ht hi hz hsize hby hzs (by decide) v xs.length _ hs vo y ys.length ucap (ys.map (Value.int k)) hx (by simp) ?_ ?_ hm hle vB ?_
    · intro j n hn
      rw [List.getElem?_map] at hn
      rcases hj : ys[j]? with _ | q
      · simp [hj] at hn
      · simp [hj] at hn
        have hlt : j < ys.length := (List.getElem?_eq_some_iff.1 hj).1
        rw [hc j hlt, List.getD_eq_getElem?_getD, hj]
        simpa using hn
    · intro n hn
      obtain ⟨q, _, rfl⟩ := List.mem_map.1 hn
      rfl
    · intro v' w' h1 h2 _
      exact key v' w' h1 h2

/-- At a guarded operation of a plain region. -/
theorem append_rdg {P : Program} (w : World) {ops : Array Oper} {rest : List Oper} {o : Oper} {a : Act} {Q : Exit → Act → World → Prop} (hw : Region.wanted o (yielded ops a.tmps) = true) (s x : Operand) (t : TypeId)
    (ho : o.op = .call { callee := .builtin .append, args := #[s, x], argTypes := #[t, t] }) (e : TypeId) (i : TypeInfo) (z : Value) (bytes : Nat) (ht : P.underlying t = some (.slice e)) (hi : P.info? e = some i) (hz : i.zero = some z)
    (hsize : i.size = 1) (hby : i.bytes = bytes) (hzs : z.cells.size = 1) (hb1 : 1 ≤ bytes) {k : IntKind} {B lim : Nat} {v u : Value} {xs ys : List Int} (hs : a.eval s = v) (hown : Own e k B w v xs)
    (hx : a.eval x = u) (hu : Rd lim k w u ys) (hle : (xs.length + ys.length) * bytes ≤ 140737488355328)
    (h : ∀ v' w', Own e k B w' v' (xs ++ ys) → w.grownBy w' v.ownBlock → wpList P ops Q rest (a.put o.dst v') w') : wpList P ops Q (o :: rest) a w :=
  wpList_step fun K hK => by
    rw [if_pos hw]
    exact wp_append_rd w s x t ho e i z bytes ht hi hz hsize hby hzs hb1 hs hown hx hu hle fun v' w' h1 h2 => hK _ _ (h v' w' h1 h2)

/-- At a step of a region that draws its order, of any slice that reads these. -/
theorem step_append_rds {P : Program} (w : World) {ops : Array Oper} {o : Oper} {a : Act} {K : Act → World → Prop} {Q : Exit → Act → World → Prop} {E : Prop} (hgd : o.guard = none) (s x : Operand) (t : TypeId)
    (ho : o.op = .call { callee := .builtin .append, args := #[s, x], argTypes := #[t, t] }) (e : TypeId) (i : TypeInfo) (z : Value) (bytes : Nat) (ht : P.underlying t = some (.slice e)) (hi : P.info? e = some i) (hz : i.zero = some z)
    (hsize : i.size = 1) (hby : i.bytes = bytes) (hzs : z.cells.size = 1) (hb1 : 1 ≤ bytes) {k : IntKind} {B lim : Nat} {v u : Value} {xs ys : List Int} (hs : a.eval s = v) (hown : Own e k B w v xs)
    (hx : a.eval x = u) (hu : Rd lim k w u ys) (hle : (xs.length + ys.length) * bytes ≤ 140737488355328)
    (h : ∀ v' w', Own e k B w' v' (xs ++ ys) → w.grownBy w' v.ownBlock → K (a.put o.dst v') w') :
    if Region.wanted o (yielded ops a.tmps) = true then Oper.wp P o a w K Q else E := by
  have hw : Region.wanted o (yielded ops a.tmps) = true := by simp [Region.wanted, hgd]
  rw [if_pos hw]
  exact wp_append_rd w s x t ho e i z bytes ht hi hz hsize hby hzs hb1 hs hown hx hu hle h

/-- A store into a row of the call's own. -/
theorem Own.set {e : TypeId} {k : IntKind} {B : Nat} {w : World} {g cap : Nat} {zs : List Int} {x : Int} (h : Own e k B w (.slice (some ⟨g, 0, none⟩) zs.length cap) zs) (hx : (Lit.int k x).wf = true) (j : Nat) :
    Own e k B (w.setCell ⟨g, j, none⟩ (.int k x)) (.slice (some ⟨g, 0, none⟩) zs.length cap) (zs.set j x) ∧ w.grownBy (w.setCell ⟨g, j, none⟩ (.int k x)) (some g) := by
  obtain ⟨hw, hB, ho⟩ := h
  obtain ⟨h1, h2⟩ := ho.stored j (.int k x)
  rw [← List.map_set] at h1
  refine ⟨⟨?_, Nat.le_trans hB h2.size, by rw [List.length_set]; exact h1⟩, h2⟩
  intro z hz
  rcases List.mem_or_eq_of_mem_set hz with h | rfl
  · exact hw z h
  · exact hx

end Go.Proofs.Ytlbijjifeaimjaa
