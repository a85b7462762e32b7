/- A part of a slice of integers: the slice expression on what is read. No program. The head of a slice of values: the slice expression on what is read. No program. Parts of a slice of values at an operation; appends to a row whose elements may be others', at a step, with what the old row reads behind them. No program. -/
import Derived.Test.YtlbijjifeaimjaaBa1
import Derived.Laws.Slices
import Derived.Test.YtlbijjifeaimjaaBa5
import Derived.Test.YtlbijjifeaimjaaBa2
import Derived.OrdersHeld

/-! Slc -/
namespace Go.Proofs.Ytlbijjifeaimjaa
open Go Go.RowKit
set_option linter.unusedVariables false

theorem add_off' (b o t : Nat) : (⟨b, o, none⟩ : Addr).add t = ⟨b, o + t, none⟩ := by unfold Addr.add; split <;> simp_all

theorem Rd.sliced {lim : Nat} {k : IntKind} {w : World} {a : Option Addr} {len cap : Nat} {zs : List Int} (h : Rd lim k w (.slice a len cap) zs) {l n : Nat} (hl : l + n ≤ zs.length) :
    Rd lim k w (Go.sliced a l (l + n) cap 1) ((zs.drop l).take n) := by
  have hlen := h.len_eq
  have h0 := h
  obtain ⟨hw, a', cap', hv, h1, h2, h3⟩ := h
  injection hv with e1 e2 e3
  subst e1; subst e3
  have hln : ((zs.drop l).take n).length = n := by simp; omega
  have hwf : ∀ z ∈ (zs.drop l).take n, (Lit.int k z).wf = true := fun z hz => hw z (List.mem_of_mem_drop (List.mem_of_mem_take hz))
  unfold Go.sliced
  rw [Nat.mul_one, Nat.add_sub_cancel_left]
  by_cases hn : n = 0
  · have e0 : (zs.drop l).take n = [] := List.eq_nil_of_length_eq_zero (by omega)
    rw [e0, hn]
    rcases h3 with ⟨rfl, rfl⟩ | ⟨x, rfl, h4, h5⟩
    · refine ⟨by simp, none, 0, ?_, by simp, by unfold maxLen; omega, .inl ⟨rfl, rfl⟩⟩
      simp
    · refine ⟨by simp, (if cap = l then some x else (some x).map (·.add l)), cap - l, rfl, Nat.zero_le _, by omega, .inr ?_⟩
      by_cases hc : cap = l
      · rw [if_pos hc]; exact ⟨x, rfl, fun i hi => by simp at hi, .inr rfl⟩
      · rw [if_neg hc]; exact ⟨x.add l, rfl, fun i hi => by simp at hi, .inr rfl⟩
  · obtain ⟨b, o, c, hv, _, _, hc, hb⟩ := h0.at (by omega)
    injection hv with e1 e2 e3
    subst e1; subst e3
    refine ⟨hwf, some ⟨b, o + l, none⟩, cap - l, by rw [if_neg (by omega), hln, Option.map_some, add_off'], by omega, by omega, .inr ⟨_, rfl, fun i hi => ?_, .inl hb⟩⟩
    rw [hln] at hi
    rw [add_off', Nat.add_assoc, hc (l + i) (by omega)]
    simp [List.getD_eq_getElem?_getD, List.getElem?_drop, hi]

section
variable {P : Program} (w : World) {ops : Array Oper} {rest : List Oper} {o : Oper} {a : Act} {Q : Exit → Act → World → Prop} (hg : o.guard = none) (t : TypeId) (x : Operand)
  (e : TypeId) (i : TypeInfo) (ht : P.underlying t = some (.slice e)) (hi : P.info? e = some i) (hsz : i.size = 1) {k : IntKind} {lim : Nat} {v : Value} {zs : List Int} {l n : Nat} (hx : a.eval x = v) (hr : Rd lim k w v zs)

include ht hi hsz in
theorem size_elem (w : World) : (sizeOf (P.elem t)).run P w = .ok 1 w := by
  have : P.elem t = e := by simp [Program.elem, ht]
  rw [this]
  simp [sizeOf, typeInfo, hi, hsz]

include ht in
theorem und_elem : P.underlying t = some (.slice (P.elem t)) := by
  have : P.elem t = e := by simp [Program.elem, ht]
  rw [this]; exact ht

include hg ht hi hsz hx hr in
/-- x[l : l + n] -/
theorem slice_rd (lo hi' : Operand) (hop : o.op = .slice t x (some lo) (some hi') none) (hlo : a.eval lo = .int .i64 (l : Int)) (hhi : a.eval hi' = .int .i64 ((l + n : Nat) : Int)) (hl : l + n ≤ zs.length)
    (h : ∀ u, Rd lim k w u ((zs.drop l).take n) → wpList P ops Q rest (a.put o.dst u) w) : wpList P ops Q (o :: rest) a w := by
  refine wpList_plain hg fun K hK => ?_
  have hr0 := hr
  obtain ⟨_, p, cap, rfl, h1, h2, h3⟩ := hr
  unfold Oper.wp
  simp only [execOp, hop, Option.map_some, Option.map_none, hx, hlo, hhi]
  simp only [Sem.run_bind, Sem.run_pure, run_sliceAt_slice w t _ _ _ _ (und_elem t e ht), run_slice_lh w t p zs.length cap (und_elem t e ht) .i64 .i64 (l : Int) ((l + n : Nat) : Int) (by omega) (by omega) (by omega), size_elem t e i ht hi hsz, Result.andThen_ok, Int.toNat_natCast]
  exact hK _ _ (h _ (hr0.sliced hl))

include hg ht hi hsz hx hr in
/-- x[: n] -/
theorem slice_rd_h (hi' : Operand) (hop : o.op = .slice t x none (some hi') none) (hhi : a.eval hi' = .int .i64 (n : Int)) (hl : n ≤ zs.length)
    (h : ∀ u, Rd lim k w u (zs.take n) → wpList P ops Q rest (a.put o.dst u) w) : wpList P ops Q (o :: rest) a w := by
  refine wpList_plain hg fun K hK => ?_
  have hr0 := hr
  obtain ⟨_, p, cap, rfl, h1, h2, h3⟩ := hr
  unfold Oper.wp
  simp only [execOp, hop, Option.map_some, Option.map_none, hx, hhi]
  simp only [Sem.run_bind, Sem.run_pure, run_sliceAt_slice w t _ _ _ _ (und_elem t e ht), run_slice_h w t p zs.length cap (und_elem t e ht) .i64 (n : Int) (by omega) (by omega), size_elem t e i ht hi hsz, Result.andThen_ok, Int.toNat_natCast]
  have := hr0.sliced (l := 0) (n := n) (by omega)
  rw [Nat.zero_add, List.drop_zero] at this
  exact hK _ _ (h _ this)

include hg ht hi hsz hx hr in
/-- x[l :] -/
theorem slice_rd_l (lo : Operand) (hop : o.op = .slice t x (some lo) none none) (hlo : a.eval lo = .int .i64 (l : Int)) (hl : l ≤ zs.length)
    (h : ∀ u, Rd lim k w u (zs.drop l) → wpList P ops Q rest (a.put o.dst u) w) : wpList P ops Q (o :: rest) a w := by
  refine wpList_plain hg fun K hK => ?_
  have hr0 := hr
  obtain ⟨_, p, cap, rfl, h1, h2, h3⟩ := hr
  unfold Oper.wp
  simp only [execOp, hop, Option.map_some, Option.map_none, hx, hlo]
  simp only [Sem.run_bind, Sem.run_pure, run_sliceAt_slice w t _ _ _ _ (und_elem t e ht), run_slice_l w t p zs.length cap (und_elem t e ht) .i64 (l : Int) (by omega) (by omega), size_elem t e i ht hi hsz, Result.andThen_ok, Int.toNat_natCast]
  have := hr0.sliced (l := l) (n := zs.length - l) (by omega)
  rw [Nat.add_sub_cancel' hl, List.take_of_length_le (by simp)] at this
  exact hK _ _ (h _ this)
include ht hi hsz hx hr in
/-- x[: n], at a guarded operation. -/
theorem slice_rd_hg (hwt : Region.wanted o (yielded ops a.tmps) = true) (hi' : Operand) (hop : o.op = .slice t x none (some hi') none) (hhi : a.eval hi' = .int .i64 (n : Int)) (hl : n ≤ zs.length)
    (h : ∀ u, Rd lim k w u (zs.take n) → wpList P ops Q rest (a.put o.dst u) w) : wpList P ops Q (o :: rest) a w := by
  refine wpList_step fun K hK => ?_
  rw [if_pos hwt]
  have hr0 := hr
  obtain ⟨_, p, cap, rfl, h1, h2, h3⟩ := hr
  unfold Oper.wp
  simp only [execOp, hop, Option.map_some, Option.map_none, hx, hhi]
  simp only [Sem.run_bind, Sem.run_pure, run_sliceAt_slice w t _ _ _ _ (und_elem t e ht), run_slice_h w t p zs.length cap (und_elem t e ht) .i64 (n : Int) (by omega) (by omega), size_elem t e i ht hi hsz, Result.andThen_ok, Int.toNat_natCast]
  have := hr0.sliced (l := 0) (n := n) (by omega)
  rw [Nat.zero_add, List.drop_zero] at this
  exact hK _ _ (h _ this)

include ht hi hsz hx hr in
/-- x[l :], at a guarded operation. -/
theorem slice_rd_lg (hwt : Region.wanted o (yielded ops a.tmps) = true) (lo : Operand) (hop : o.op = .slice t x (some lo) none none) (hlo : a.eval lo = .int .i64 (l : Int)) (hl : l ≤ zs.length)
    (h : ∀ u, Rd lim k w u (zs.drop l) → wpList P ops Q rest (a.put o.dst u) w) : wpList P ops Q (o :: rest) a w := by
  refine wpList_step fun K hK => ?_
  rw [if_pos hwt]
  have hr0 := hr
  obtain ⟨_, p, cap, rfl, h1, h2, h3⟩ := hr
  unfold Oper.wp
  simp only [execOp, hop, Option.map_some, Option.map_none, hx, hlo]
  simp only [Sem.run_bind, Sem.run_pure, run_sliceAt_slice w t _ _ _ _ (und_elem t e ht), run_slice_l w t p zs.length cap (und_elem t e ht) .i64 (l : Int) (by omega) (by omega), size_elem t e i ht hi hsz, Result.andThen_ok, Int.toNat_natCast]
  have := hr0.sliced (l := l) (n := zs.length - l) (by omega)
  rw [Nat.add_sub_cancel' hl, List.take_of_length_le (by simp)] at this
  exact hK _ _ (h _ this)
end

end Go.Proofs.Ytlbijjifeaimjaa


/-! SlcV -/
namespace Go.Proofs.Ytlbijjifeaimjaa
open Go Go.RowKit
set_option linter.unusedVariables false

theorem RdV.head {lim : Nat} {w : World} {a : Option Addr} {len cap : Nat} {us : List Value} (h : RdV lim w (.slice a len cap) us) {n : Nat} (hl : n ≤ us.length) :
    RdV lim w (Go.sliced a 0 n cap 1) (us.take n) := by
  have h0 := h
  obtain ⟨a', cap', hv, h1, h2, h3⟩ := h
  injection hv with e1 e2 e3
  subst e1; subst e3
  have hln : (us.take n).length = n := by simp; omega
  unfold Go.sliced
  rw [Nat.mul_one, Nat.sub_zero, Nat.sub_zero]
  by_cases hn : n = 0
  · subst hn
    rw [List.take_zero]
    rcases h3 with ⟨rfl, rfl⟩ | ⟨x, rfl, h4, h5⟩
    · refine ⟨none, 0, ?_, by simp, by unfold maxLen; omega, .inl ⟨rfl, rfl⟩⟩
      simp
    · refine ⟨(if cap = 0 then some x else (some x).map (·.add 0)), cap, rfl, Nat.zero_le _, by omega, .inr ?_⟩
      by_cases hc : cap = 0
      · rw [if_pos hc]; exact ⟨x, rfl, fun i u hi => by simp at hi, .inr rfl⟩
      · rw [if_neg hc]; exact ⟨x.add 0, rfl, fun i u hi => by simp at hi, .inr rfl⟩
  · obtain ⟨b, o, c, hv, _, _, hc, hb⟩ := h0.at (by omega)
    injection hv with e1 e2 e3
    subst e1; subst e3
    refine ⟨some ⟨b, o, none⟩, cap, by rw [if_neg (by omega), hln, Option.map_some, add_off', Nat.add_zero], by omega, by omega, .inr ⟨_, rfl, fun i u hi => ?_, .inl hb⟩⟩
    rw [List.getElem?_take] at hi
    split at hi
    · rw [add_off']; exact hc i u hi
    · cases hi

section
variable {P : Program} (w : World) {ops : Array Oper} {rest : List Oper} {o : Oper} {a : Act} {Q : Exit → Act → World → Prop} (hg : o.guard = none) (t : TypeId) (x : Operand)
  (e : TypeId) (i : TypeInfo) (ht : P.underlying t = some (.slice e)) (hi : P.info? e = some i) (hsz : i.size = 1) {lim : Nat} {v : Value} {us : List Value} {n : Nat} (hx : a.eval x = v) (hr : RdV lim w v us)

include hg ht hi hsz hx hr in
/-- x[: n] -/
theorem slice_rdv_h (hi' : Operand) (hop : o.op = .slice t x none (some hi') none) (hhi : a.eval hi' = .int .i64 (n : Int)) (hl : n ≤ us.length)
    (h : ∀ u, RdV lim w u (us.take n) → wpList P ops Q rest (a.put o.dst u) w) : wpList P ops Q (o :: rest) a w := by
  refine wpList_plain hg fun K hK => ?_
  have hr0 := hr
  obtain ⟨p, cap, rfl, h1, h2, h3⟩ := hr
  unfold Oper.wp
  simp only [execOp, hop, Option.map_some, Option.map_none, hx, hhi]
  simp only [Sem.run_bind, Sem.run_pure, run_sliceAt_slice w t _ _ _ _ (und_elem t e ht), run_slice_h w t p us.length cap (und_elem t e ht) .i64 (n : Int) (by omega) (by omega), size_elem t e i ht hi hsz, Result.andThen_ok, Int.toNat_natCast]
  exact hK _ _ (h _ (hr0.head hl))
end

/-- The rows' head. -/
theorem Rd2.parts {lim : Nat} {k : IntKind} {w : World} {v : Value} {zss : List (List Int)} (h : Rd2 lim k w v zss) : ∃ us, us.length = zss.length ∧ RdV lim w v us ∧ ∀ (i : Nat) (u : Value) (zs : List Int), us[i]? = some u → zss[i]? = some zs → Rd lim k w u zs := h

theorem OwnV.rd2 {t : TypeId} {B lim : Nat} {k : IntKind} {w0 w : World} {v : Value} {us : List Value} {zss : List (List Int)} (h : OwnV t B w v us) (hl : us.length = zss.length)
    (h1 : ∀ (i : Nat) (u : Value) (zs : List Int), us[i]? = some u → zss[i]? = some zs → Rd lim k w0 u zs) (hb : Below lim w0 w) (hlim : lim ≤ w.heap.size) : Rd2 w.heap.size k w v zss :=
  ⟨us, hl, h.rdv, fun i y z hy hz => ((h1 i y z hy hz).behind hb).mono hlim⟩

theorem reads_snoc {lim : Nat} {k : IntKind} {w : World} {us : List Value} {zss : List (List Int)} {u : Value} {zs : List Int} (hl : us.length = zss.length)
    (h1 : ∀ (i : Nat) (u : Value) (zs : List Int), us[i]? = some u → zss[i]? = some zs → Rd lim k w u zs) (h2 : Rd lim k w u zs) : ∀ (i : Nat) (y : Value) (z : List Int), (us ++ [u])[i]? = some y → (zss ++ [zs])[i]? = some z → Rd lim k w y z := by
  intro i y z hy hz
  by_cases hi : i < us.length
  · rw [List.getElem?_append_left hi] at hy
    rw [List.getElem?_append_left (by omega)] at hz
    exact h1 i y z hy hz
  · have hi' : i = us.length := by have := (List.getElem?_eq_some_iff.1 hy).1; simp at this; omega
    subst hi'
    rw [List.getElem?_append_right (Nat.le_refl _)] at hy
    rw [hl, List.getElem?_append_right (Nat.le_refl _)] at hz
    simp at hy hz
    subst hy; subst hz
    exact h2

end Go.Proofs.Ytlbijjifeaimjaa


/-! SlcW -/
namespace Go.Proofs.Ytlbijjifeaimjaa
open Go Go.RowKit
set_option linter.unusedVariables false

theorem RdV.tail {lim : Nat} {w : World} {a : Option Addr} {len cap : Nat} {us : List Value} (h : RdV lim w (.slice a len cap) us) {l : Nat} (hl : l ≤ us.length) :
    RdV lim w (Go.sliced a l us.length cap 1) (us.drop l) := by
  have h0 := h
  obtain ⟨a', cap', hv, h1, h2, h3⟩ := h
  injection hv with e1 e2 e3
  subst e1; subst e3
  have hln : (us.drop l).length = us.length - l := by simp
  unfold Go.sliced
  rw [Nat.mul_one]
  by_cases hn : l = us.length
  · have e0 : us.drop l = [] := List.drop_of_length_le (by omega)
    rw [e0, show us.length - l = 0 by omega]
    rcases h3 with ⟨rfl, rfl⟩ | ⟨x, rfl, h4, h5⟩
    · refine ⟨none, 0, ?_, by simp, by unfold maxLen; omega, .inl ⟨rfl, rfl⟩⟩
      simp
    · refine ⟨(if cap = l then some x else (some x).map (·.add l)), cap - l, rfl, Nat.zero_le _, by omega, .inr ?_⟩
      by_cases hc : cap = l
      · rw [if_pos hc]; exact ⟨x, rfl, fun i u hi => by simp at hi, .inr rfl⟩
      · rw [if_neg hc]; exact ⟨x.add l, rfl, fun i u hi => by simp at hi, .inr rfl⟩
  · obtain ⟨b, o, c, hv, _, _, hc, hb⟩ := h0.at (by omega)
    injection hv with e1 e2 e3
    subst e1; subst e3
    refine ⟨some ⟨b, o + l, none⟩, cap - l, by rw [if_neg (by omega), hln, Option.map_some, add_off'], by omega, by omega, .inr ⟨_, rfl, fun i u hi => ?_, .inl hb⟩⟩
    rw [List.getElem?_drop] at hi
    rw [add_off', Nat.add_assoc]
    exact hc (l + i) u hi

section
variable {P : Program} (w : World) {o : Oper} {a : Act} (t : TypeId) (x : Operand) (e : TypeId) (i : TypeInfo) (ht : P.underlying t = some (.slice e)) (hi : P.info? e = some i) (hsz : i.size = 1) {p : Option Addr} {n len cap : Nat}
include ht hi hsz
/-- x[: n]: the run. -/
theorem run_slice_op_h (hi' : Operand) (hop : o.op = .slice t x none (some hi') none) (hx : a.eval x = .slice p len cap) (hhi : a.eval hi' = .int .i64 (n : Int)) (hl : n ≤ cap) :
    (execOp a.eval o).run P w = .ok (.value (Go.sliced p 0 n cap 1)) w := by
  simp only [execOp, hop, Option.map_some, Option.map_none, hx, hhi]
  simp only [Sem.run_bind, Sem.run_pure, run_sliceAt_slice w t _ _ _ _ (und_elem t e ht), run_slice_h w t p len cap (und_elem t e ht) .i64 (n : Int) (by omega) (by omega), size_elem t e i ht hi hsz, Result.andThen_ok, Int.toNat_natCast]
/-- x[n :]: the run. -/
theorem run_slice_op_l (lo : Operand) (hop : o.op = .slice t x (some lo) none none) (hx : a.eval x = .slice p len cap) (hlo : a.eval lo = .int .i64 (n : Int)) (hl : n ≤ len) :
    (execOp a.eval o).run P w = .ok (.value (Go.sliced p n len cap 1)) w := by
  simp only [execOp, hop, Option.map_some, Option.map_none, hx, hlo]
  simp only [Sem.run_bind, Sem.run_pure, run_sliceAt_slice w t _ _ _ _ (und_elem t e ht), run_slice_l w t p len cap (und_elem t e ht) .i64 (n : Int) (by omega) (by omega), size_elem t e i ht hi hsz, Result.andThen_ok, Int.toNat_natCast]
end

/-- append of what is read to such a row, at a step. -/
theorem step_append_vals {P : Program} (w : World) {ops : Array Oper} {o : Oper} {a : Act} {K : Act → World → Prop} {Q : Exit → Act → World → Prop} {E : Prop} (hgd : o.guard = none) (s x : Operand) (tt : TypeId)
    (ho : o.op = .call { callee := .builtin .append, args := #[s, x], argTypes := #[tt, tt] }) (t : TypeId) (i : TypeInfo) (bytes : Nat) (ht : P.underlying tt = some (.slice t)) (hi : P.info? t = some i) (hz : i.zero = some (.slice none 0 0))
    (hsize : i.size = 1) (hby : i.bytes = bytes) (hb1 : 1 ≤ bytes) {B lim : Nat} {v u : Value} {us ys : List Value} (hs : a.eval s = v) (hown : OwnV t B w v us) (hx : a.eval x = u) (hu : RdV lim w u ys) (hone : ∀ y ∈ ys, y.oneCell' = true)
    (hle : (us.length + ys.length) * bytes ≤ 140737488355328)
    (h : ∀ v' w', OwnV t B w' v' (us ++ ys) → w.grownBy w' v.ownBlock → K (a.put o.dst v') w') : if Region.wanted o (yielded ops a.tmps) = true then Oper.wp P o a w K Q else E := by
  have hw : Region.wanted o (yielded ops a.tmps) = true := by simp [Region.wanted, hgd]
  rw [if_pos hw]
  obtain ⟨p, cap, rfl, u1, u2, u3⟩ := hu
  obtain ⟨vw, vB, vo⟩ := hown
  have hm : us.length + ys.length ≤ maxLen := by
    have : (us.length + ys.length) * 1 ≤ (us.length + ys.length) * bytes := Nat.mul_le_mul_left _ hb1
    unfold maxLen; omega
  have one : ∀ y ∈ us ++ ys, y.oneCell' = true := fun y hy => by
    rcases List.mem_append.1 hy with h | h
    · exact vw y h
    · exact hone y h
  rcases u3 with ⟨rfl, rfl⟩ | ⟨y, rfl, hc, hbl⟩
  · have hy : ys = [] := List.eq_nil_of_length_eq_zero (by omega)
    subst hy
    have hrun := run_append_owned_none (P := P) (w := w) B tt o.type t i 1 ht hi v us.length _ vo
    unfold Oper.wp
    simp only [List.length_nil] at hx
    simp [execOp, ho, resolve, invoke, builtin, hs, hx, hrun, Result.andThen]
    exact h v w (by rw [List.append_nil]; exact ⟨vw, vB, vo⟩) (World.grownBy.refl _ _)
  · refine wp_append_own w s x tt ho B t i _ 1 bytes ht hi hz hsize hby rfl (by decide) v us.length us hs vo y ys.length cap ys hx (by simp) hc hone hm hle vB ?_
    intro v' w' h1 h2 _
    exact h v' w' ⟨one, Nat.le_trans vB h2.size, by rw [List.length_append]; exact h1⟩ h2

/-- append of one value to such a row: the old one still reads. -/
theorem append_vals_keep {P : Program} (w : World) {ops : Array Oper} {rest : List Oper} {o : Oper} {a : Act} {Q : Exit → Act → World → Prop} (hg : o.guard = none) (s x : Operand) (tt : TypeId)
    (hop : o.op = .call { callee := .builtin .append, args := #[s, x], argTypes := #[tt, tt] }) (t : TypeId) (i : TypeInfo) (bytes : Nat) (ht : P.underlying tt = some (.slice t)) (hi : P.info? t = some i) (hz : i.zero = some (.slice none 0 0))
    (hsize : i.size = 1) (hby : i.bytes = bytes) (hb1 : 1 ≤ bytes) {B g n cap c : Nat} {ad : Addr} {y : Value} {us : List Value} (hs : a.eval s = .slice (some ⟨g, 0, none⟩) n cap) (hown : OwnV t B w (.slice (some ⟨g, 0, none⟩) n cap) us)
    (hx : a.eval x = .slice (some ad) 1 c) (hc : w.cell? (ad.add 0) = some y) (hone : y.oneCell' = true) (hle : (us.length + 1) * bytes ≤ 140737488355328)
    (h : ∀ v' w', OwnV t B w' v' (us ++ [y]) → w.grownBy w' (some g) → RdV w'.heap.size w' (.slice (some ⟨g, 0, none⟩) n cap) us → wpList P ops Q rest (a.put o.dst v') w') : wpList P ops Q (o :: rest) a w := by
  have hown0 := hown
  obtain ⟨vw, vB, vo⟩ := hown
  have hm : us.length + 1 ≤ maxLen := by
    have : (us.length + 1) * 1 ≤ (us.length + 1) * bytes := Nat.mul_le_mul_left _ hb1
    unfold maxLen; omega
  have one : ∀ z ∈ us ++ [y], z.oneCell' = true := fun z hz => by
    rcases List.mem_append.1 hz with h | h
    · exact vw z h
    · rw [List.mem_singleton.1 h]; exact hone
  have hnews : ∀ (j : Nat) (u : Value), [y][j]? = some u → w.cell? (ad.add j) = some u := fun j u hj => by
    have : j = 0 := by have := (List.getElem?_eq_some_iff.1 hj).1; simpa using this
    subst this
    simp at hj
    subst hj
    exact hc
  have h1c : ∀ z ∈ [y], z.oneCell' = true := fun z hz => by rw [List.mem_singleton.1 hz]; exact hone
  obtain ⟨v', w', hr, p1, p2, _, _⟩ := run_append_own_at (P := P) w B tt o.type t i (.slice none 0 0) 1 bytes ht hi hz hsize hby rfl (by decide) _ us.length us vo ad 1 c [y] rfl hnews h1c hm hle vB
  have hV : OwnV t B w' v' (us ++ [y]) := ⟨one, Nat.le_trans vB p2.size, by rw [List.length_append]; exact p1⟩
  have key : RdV w'.heap.size w' (.slice (some ⟨g, 0, none⟩) n cap) us := by
    rcases vo.2 with ⟨h, _⟩ | ⟨g', cap', cur, hv, hbg, hgc, hnc, hcm, hcs, htake⟩
    · cases h
    · injection hv with q1 q2 q3
      injection q1 with q1
      injection q1 with q1
      subst q1; subst q2; subst q3
      by_cases hroom : us.length + 1 ≤ cap
      · have hr2 := run_append_room (P := P) w tt o.type t i ht hi g us.length cap cur hgc ad 1 c [y] (by rw [hsize]; rfl) hnews h1c hroom (by rw [hsize, hcs]; simp; omega)
        rw [hr2] at hr
        injection hr with r1 r2
        subst r1
        refine ⟨_, cap, rfl, hnc, hcm, .inr ⟨_, rfl, fun j u hj => ?_, .inl ?_⟩⟩
        · have hlt := (List.getElem?_eq_some_iff.1 hj).1
          have e1 : (⟨g, 0, none⟩ : Addr).add j = ⟨g, j, none⟩ := by unfold Addr.add; split <;> simp_all
          rw [e1, World.ownsRow.cellAt p1 j (by omega), List.getElem?_append_left hlt]
          exact hj
        · exact Nat.lt_of_lt_of_le (Array.getElem?_eq_some_iff.1 hgc).1 p2.size
      · have holds : ∀ (j : Nat) (u : Value), us[j]? = some u → w.cell? ((⟨g, 0, none⟩ : Addr).add j) = some u := vo.cells (g := g) rfl
        have hr2 := run_append_grow (P := P) w tt o.type t i _ ht hi hz ⟨g, 0, none⟩ us.length cap us (by rw [hsize, Nat.mul_one]) holds ad 1 c [y] (by rw [hsize]; rfl) hnews (by omega) (by unfold maxLen at hm; omega) (growslice_fits (by omega) (by rw [hby]; exact hle))
        rw [hr2] at hr
        injection hr with r1 r2
        have hbel : Below w.heap.size w w' := by
          rw [← r2]
          exact ((Below.refl w.heap.size w).drew).alloc (Nat.le_refl _) _
        exact (hown0.rdv.behind hbel).mono hbel.size
  refine wpList_plain hg fun K hK => ?_
  unfold Oper.wp
  simp only [execOp, hop, resolve, invoke, builtin, Sem.run_bind, Sem.run_pure, Result.andThen_ok, List.map_toArray, List.map_cons, List.map_nil, hs, hx]
  rw [hr]
  exact hK _ _ (h v' w' hV p2 key)

/-- What reads where one is left out. -/
theorem reads_del {lim k : Nat} {kd : IntKind} {w : World} {us : List Value} {zss : List (List Int)} (hl : us.length = zss.length) (h : ∀ (i : Nat) (u : Value) (zs : List Int), us[i]? = some u → zss[i]? = some zs → Rd lim kd w u zs) (hk : k < zss.length) :
    ∀ (i : Nat) (u : Value) (zs : List Int), (us.take k ++ us.drop (k + 1))[i]? = some u → (zss.take k ++ zss.drop (k + 1))[i]? = some zs → Rd lim kd w u zs := by
  intro i u zs hu hz
  have l1 : (us.take k).length = k := by simp; omega
  have l2 : (zss.take k).length = k := by simp; omega
  by_cases hi : i < k
  · rw [List.getElem?_append_left (by omega), List.getElem?_take_of_lt hi] at hu
    rw [List.getElem?_append_left (by omega), List.getElem?_take_of_lt hi] at hz
    exact h i u zs hu hz
  · rw [List.getElem?_append_right (by omega), l1, List.getElem?_drop] at hu
    rw [List.getElem?_append_right (by omega), l2, List.getElem?_drop] at hz
    exact h _ u zs hu hz

end Go.Proofs.Ytlbijjifeaimjaa
