/- append to a row of the call's own, at a step of a region that draws its order. No program. -/
import Derived.Test.YtnamgnhplodhoaaRd
import Derived.Laws.AppendOwn
import Derived.RegionTactic
namespace Go.Proofs.Ytnamgnhplodhoaa
open Go Go.RowKit
set_option linter.unusedVariables false

theorem Own.drew {e : TypeId} {k : IntKind} {B : Nat} {w : World} {v : Value} {zs : List Int} (h : Own e k B w v zs) : Own e k B w.drew v zs :=
  h.kept (row := none) ⟨rfl, rfl, rfl, Nat.le_refl _, fun _ _ _ => rfl⟩ (by cases hv : v.ownBlock <;> simp)
theorem Rd.drew {l : Nat} {k : IntKind} {w : World} {v : Value} {zs : List Int} (h : Rd l k w v zs) : Rd l k w.drew v zs := h.behind (Below.refl _ _).drew

theorem step_append_rd {P : Program} (w : World) {ops : Array Oper} {o : Oper} {a : Act} {K : Act → World → Prop} {Q : Exit → Act → World → Prop} {E : Prop} (hgd : o.guard = none) (s x : Operand) (t : TypeId)
    (ho : o.op = .call { callee := .builtin .append, args := #[s, x], argTypes := #[t, t] }) (e : TypeId) (i : TypeInfo) (z : Value) (bytes : Nat) (ht : P.underlying t = some (.slice e)) (hi : P.info? e = some i) (hz : i.zero = some z)
    (hsize : i.size = 1) (hby : i.bytes = bytes) (hzs : z.cells.size = 1) (hb1 : 1 ≤ bytes) {k : IntKind} {B lim c : Nat} {v : Value} {ad : Addr} {xs ys : List Int} (hs : a.eval s = v) (hown : Own e k B w v xs)
    (hx : a.eval x = .slice (some ad) ys.length c) (hu : Rd lim k w (.slice (some ad) ys.length c) ys) (hle : (xs.length + ys.length) * bytes ≤ 140737488355328)
    (h : ∀ v' w', Own e k B w' v' (xs ++ ys) → w.grownBy w' v.ownBlock → K (a.put o.dst v') w') :
    if Region.wanted o (yielded ops a.tmps) = true then Oper.wp P o a w K Q else E := by
  have hw : Region.wanted o (yielded ops a.tmps) = true := by simp [Region.wanted, hgd]
  rw [if_pos hw]
  obtain ⟨uw, ua, ucap, hv, u1, u2, u3⟩ := hu
  obtain ⟨vw, vB, vo⟩ := hown
  have hm : xs.length + ys.length ≤ maxLen := by
    have : (xs.length + ys.length) * 1 ≤ (xs.length + ys.length) * bytes := Nat.mul_le_mul_left _ hb1
    unfold maxLen; omega
  injection hv with e1 e2 e3
  subst e1
  rcases u3 with ⟨h0, _⟩ | ⟨y, hy, hc, hbl⟩
  · cases h0
  · injection hy with hy
    subst hy
    refine wp_append_own w s x t ho B e i z 1 bytes ht hi hz hsize hby hzs (by decide) v xs.length _ hs vo ad ys.length c (ys.map (Value.int k)) hx (by simp) ?_ ?_ hm hle vB ?_
    · intro j n hn
      rw [List.getElem?_map] at hn
      rcases hj : ys[j]? with _ | q
      · simp [hj] at hn
      · simp [hj] at hn
        have hlt : j < ys.length := (List.getElem?_eq_some_iff.1 hj).1
        rw [hc j hlt, List.getD_eq_getElem?_getD, hj]
        simpa using hn
    · intro n hn
      obtain ⟨q, _, rfl⟩ := List.mem_map.1 hn
      rfl
    · intro v' w' h1 h2 _
      exact h v' w' ⟨by intro n hn; rcases List.mem_append.1 hn with h | h; exact vw n h; exact uw n h, Nat.le_trans vB h2.size, by simpa using h1⟩ h2

end Go.Proofs.Ytnamgnhplodhoaa
