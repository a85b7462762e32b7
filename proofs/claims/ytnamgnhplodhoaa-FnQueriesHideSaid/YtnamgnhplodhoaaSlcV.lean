/- The head of a slice of values: the slice expression on what is read. No program. -/
import Derived.Test.YtnamgnhplodhoaaSlc
import Derived.Test.YtnamgnhplodhoaaDeep
import Derived.Test.YtnamgnhplodhoaaOwnV
import Derived.Laws.Slices
namespace Go.Proofs.Ytnamgnhplodhoaa
open Go Go.RowKit
set_option linter.unusedVariables false

theorem RdV.head {lim : Nat} {w : World} {a : Option Addr} {len cap : Nat} {us : List Value} (h : RdV lim w (.slice a len cap) us) {n : Nat} (hl : n ≤ us.length) :
    RdV lim w (Go.sliced a 0 n cap 1) (us.take n) := by
  have h0 := h
  obtain ⟨a', cap', hv, h1, h2, h3⟩ := h
  injection hv with e1 e2 e3
  subst e1; subst e3
  have hln : (us.take n).length = n := by simp; omega
  unfold Go.sliced
  rw [Nat.mul_one, Nat.sub_zero, Nat.sub_zero]
  by_cases hn : n = 0
  · subst hn
    rw [List.take_zero]
    rcases h3 with ⟨rfl, rfl⟩ | ⟨x, rfl, h4, h5⟩
    · refine ⟨none, 0, ?_, by simp, by unfold maxLen; omega, .inl ⟨rfl, rfl⟩⟩
      simp
    · refine ⟨(if cap = 0 then some x else (some x).map (·.add 0)), cap, rfl, Nat.zero_le _, by omega, .inr ?_⟩
      by_cases hc : cap = 0
      · rw [if_pos hc]; exact ⟨x, rfl, fun i u hi => by simp at hi, .inr rfl⟩
      · rw [if_neg hc]; exact ⟨x.add 0, rfl, fun i u hi => by simp at hi, .inr rfl⟩
  · obtain ⟨b, o, c, hv, _, _, hc, hb⟩ := h0.at (by omega)
    injection hv with e1 e2 e3
    subst e1; subst e3
    refine ⟨some ⟨b, o, none⟩, cap, by rw [if_neg (by omega), hln, Option.map_some, add_off', Nat.add_zero], by omega, by omega, .inr ⟨_, rfl, fun i u hi => ?_, .inl hb⟩⟩
    rw [List.getElem?_take] at hi
    split at hi
    · rw [add_off']; exact hc i u hi
    · cases hi

section
variable {P : Program} (w : World) {ops : Array Oper} {rest : List Oper} {o : Oper} {a : Act} {Q : Exit → Act → World → Prop} (hg : o.guard = none) (t : TypeId) (x : Operand)
  (e : TypeId) (i : TypeInfo) (ht : P.underlying t = some (.slice e)) (hi : P.info? e = some i) (hsz : i.size = 1) {lim : Nat} {v : Value} {us : List Value} {n : Nat} (hx : a.eval x = v) (hr : RdV lim w v us)

include hg ht hi hsz hx hr in
/-- x[: n] -/
theorem slice_rdv_h (hi' : Operand) (hop : o.op = .slice t x none (some hi') none) (hhi : a.eval hi' = .int .i64 (n : Int)) (hl : n ≤ us.length)
    (h : ∀ u, RdV lim w u (us.take n) → wpList P ops Q rest (a.put o.dst u) w) : wpList P ops Q (o :: rest) a w := by
  refine wpList_plain hg fun K hK => ?_
  have hr0 := hr
  obtain ⟨p, cap, rfl, h1, h2, h3⟩ := hr
  unfold Oper.wp
  simp only [execOp, hop, Option.map_some, Option.map_none, hx, hhi]
  simp only [Sem.run_bind, Sem.run_pure, run_sliceAt_slice w t _ _ _ _ (und_elem t e ht), run_slice_h w t p us.length cap (und_elem t e ht) .i64 (n : Int) (by omega) (by omega), size_elem t e i ht hi hsz, Result.andThen_ok, Int.toNat_natCast]
  exact hK _ _ (h _ (hr0.head hl))
end

/-- The rows' head. -/
theorem Rd2.parts {lim : Nat} {k : IntKind} {w : World} {v : Value} {zss : List (List Int)} (h : Rd2 lim k w v zss) : ∃ us, us.length = zss.length ∧ RdV lim w v us ∧ ∀ (i : Nat) (u : Value) (zs : List Int), us[i]? = some u → zss[i]? = some zs → Rd lim k w u zs := h

theorem OwnV.rd2 {t : TypeId} {B lim : Nat} {k : IntKind} {w0 w : World} {v : Value} {us : List Value} {zss : List (List Int)} (h : OwnV t B w v us) (hl : us.length = zss.length)
    (h1 : ∀ (i : Nat) (u : Value) (zs : List Int), us[i]? = some u → zss[i]? = some zs → Rd lim k w0 u zs) (hb : Below lim w0 w) (hlim : lim ≤ w.heap.size) : Rd2 w.heap.size k w v zss :=
  ⟨us, hl, h.rdv, fun i y z hy hz => ((h1 i y z hy hz).behind hb).mono hlim⟩

theorem reads_snoc {lim : Nat} {k : IntKind} {w : World} {us : List Value} {zss : List (List Int)} {u : Value} {zs : List Int} (hl : us.length = zss.length)
    (h1 : ∀ (i : Nat) (u : Value) (zs : List Int), us[i]? = some u → zss[i]? = some zs → Rd lim k w u zs) (h2 : Rd lim k w u zs) : ∀ (i : Nat) (y : Value) (z : List Int), (us ++ [u])[i]? = some y → (zss ++ [zs])[i]? = some z → Rd lim k w y z := by
  intro i y z hy hz
  by_cases hi : i < us.length
  · rw [List.getElem?_append_left hi] at hy
    rw [List.getElem?_append_left (by omega)] at hz
    exact h1 i y z hy hz
  · have hi' : i = us.length := by have := (List.getElem?_eq_some_iff.1 hy).1; simp at this; omega
    subst hi'
    rw [List.getElem?_append_right (Nat.le_refl _)] at hy
    rw [hl, List.getElem?_append_right (Nat.le_refl _)] at hz
    simp at hy hz
    subst hy; subst hz
    exact h2

end Go.Proofs.Ytnamgnhplodhoaa
