/- A part of a slice of integers: the slice expression on what is read. No program. -/
import Derived.Test.YtnamgnhplodhoaaRd
import Derived.Laws.Slices
namespace Go.Proofs.Ytnamgnhplodhoaa
open Go Go.RowKit
set_option linter.unusedVariables false

theorem add_off' (b o t : Nat) : (⟨b, o, none⟩ : Addr).add t = ⟨b, o + t, none⟩ := by unfold Addr.add; split <;> simp_all

theorem Rd.sliced {lim : Nat} {k : IntKind} {w : World} {a : Option Addr} {len cap : Nat} {zs : List Int} (h : Rd lim k w (.slice a len cap) zs) {l n : Nat} (hl : l + n ≤ zs.length) :
    Rd lim k w (Go.sliced a l (l + n) cap 1) ((zs.drop l).take n) := by
  have hlen := h.len_eq
  have h0 := h
  obtain ⟨hw, a', cap', hv, h1, h2, h3⟩ := h
  injection hv with e1 e2 e3
  subst e1; subst e3
  have hln : ((zs.drop l).take n).length = n := by simp; omega
  have hwf : ∀ z ∈ (zs.drop l).take n, (Lit.int k z).wf = true := fun z hz => hw z (List.mem_of_mem_drop (List.mem_of_mem_take hz))
  unfold Go.sliced
  rw [Nat.mul_one, Nat.add_sub_cancel_left]
  by_cases hn : n = 0
  · have e0 : (zs.drop l).take n = [] := List.eq_nil_of_length_eq_zero (by omega)
    rw [e0, hn]
    rcases h3 with ⟨rfl, rfl⟩ | ⟨x, rfl, h4, h5⟩
    · refine ⟨by simp, none, 0, ?_, by simp, by unfold maxLen; omega, .inl ⟨rfl, rfl⟩⟩
      simp
    · refine ⟨by simp, (if cap = l then some x else (some x).map (·.add l)), cap - l, rfl, Nat.zero_le _, by omega, .inr ?_⟩
      by_cases hc : cap = l
      · rw [if_pos hc]; exact ⟨x, rfl, fun i hi => by simp at hi, .inr rfl⟩
      · rw [if_neg hc]; exact ⟨x.add l, rfl, fun i hi => by simp at hi, .inr rfl⟩
  · obtain ⟨b, o, c, hv, _, _, hc, hb⟩ := h0.at (by omega)
    injection hv with e1 e2 e3
    subst e1; subst e3
    refine ⟨hwf, some ⟨b, o + l, none⟩, cap - l, by rw [if_neg (by omega), hln, Option.map_some, add_off'], by omega, by omega, .inr ⟨_, rfl, fun i hi => ?_, .inl hb⟩⟩
    rw [hln] at hi
    rw [add_off', Nat.add_assoc, hc (l + i) (by omega)]
    simp [List.getD_eq_getElem?_getD, List.getElem?_drop, hi]

section
variable {P : Program} (w : World) {ops : Array Oper} {rest : List Oper} {o : Oper} {a : Act} {Q : Exit → Act → World → Prop} (hg : o.guard = none) (t : TypeId) (x : Operand)
  (e : TypeId) (i : TypeInfo) (ht : P.underlying t = some (.slice e)) (hi : P.info? e = some i) (hsz : i.size = 1) {k : IntKind} {lim : Nat} {v : Value} {zs : List Int} {l n : Nat} (hx : a.eval x = v) (hr : Rd lim k w v zs)

include ht hi hsz in
theorem size_elem (w : World) : (sizeOf (P.elem t)).run P w = .ok 1 w := by
  have : P.elem t = e := by simp [Program.elem, ht]
  rw [this]
  simp [sizeOf, typeInfo, hi, hsz]

include ht in
theorem und_elem : P.underlying t = some (.slice (P.elem t)) := by
  have : P.elem t = e := by simp [Program.elem, ht]
  rw [this]; exact ht

include hg ht hi hsz hx hr in
/-- x[l : l + n] -/
theorem slice_rd (lo hi' : Operand) (hop : o.op = .slice t x (some lo) (some hi') none) (hlo : a.eval lo = .int .i64 (l : Int)) (hhi : a.eval hi' = .int .i64 ((l + n : Nat) : Int)) (hl : l + n ≤ zs.length)
    (h : ∀ u, Rd lim k w u ((zs.drop l).take n) → wpList P ops Q rest (a.put o.dst u) w) : wpList P ops Q (o :: rest) a w := by
  refine wpList_plain hg fun K hK => ?_
  have hr0 := hr
  obtain ⟨_, p, cap, rfl, h1, h2, h3⟩ := hr
  unfold Oper.wp
  simp only [execOp, hop, Option.map_some, Option.map_none, hx, hlo, hhi]
  simp only [Sem.run_bind, Sem.run_pure, run_sliceAt_slice w t _ _ _ _ (und_elem t e ht), run_slice_lh w t p zs.length cap (und_elem t e ht) .i64 .i64 (l : Int) ((l + n : Nat) : Int) (by omega) (by omega) (by omega), size_elem t e i ht hi hsz, Result.andThen_ok, Int.toNat_natCast]
  exact hK _ _ (h _ (hr0.sliced hl))

include hg ht hi hsz hx hr in
/-- x[: n] -/
theorem slice_rd_h (hi' : Operand) (hop : o.op = .slice t x none (some hi') none) (hhi : a.eval hi' = .int .i64 (n : Int)) (hl : n ≤ zs.length)
    (h : ∀ u, Rd lim k w u (zs.take n) → wpList P ops Q rest (a.put o.dst u) w) : wpList P ops Q (o :: rest) a w := by
  refine wpList_plain hg fun K hK => ?_
  have hr0 := hr
  obtain ⟨_, p, cap, rfl, h1, h2, h3⟩ := hr
  unfold Oper.wp
  simp only [execOp, hop, Option.map_some, Option.map_none, hx, hhi]
  simp only [Sem.run_bind, Sem.run_pure, run_sliceAt_slice w t _ _ _ _ (und_elem t e ht), run_slice_h w t p zs.length cap (und_elem t e ht) .i64 (n : Int) (by omega) (by omega), size_elem t e i ht hi hsz, Result.andThen_ok, Int.toNat_natCast]
  have := hr0.sliced (l := 0) (n := n) (by omega)
  rw [Nat.zero_add, List.drop_zero] at this
  exact hK _ _ (h _ this)

include hg ht hi hsz hx hr in
/-- x[l :] -/
theorem slice_rd_l (lo : Operand) (hop : o.op = .slice t x (some lo) none none) (hlo : a.eval lo = .int .i64 (l : Int)) (hl : l ≤ zs.length)
    (h : ∀ u, Rd lim k w u (zs.drop l) → wpList P ops Q rest (a.put o.dst u) w) : wpList P ops Q (o :: rest) a w := by
  refine wpList_plain hg fun K hK => ?_
  have hr0 := hr
  obtain ⟨_, p, cap, rfl, h1, h2, h3⟩ := hr
  unfold Oper.wp
  simp only [execOp, hop, Option.map_some, Option.map_none, hx, hlo]
  simp only [Sem.run_bind, Sem.run_pure, run_sliceAt_slice w t _ _ _ _ (und_elem t e ht), run_slice_l w t p zs.length cap (und_elem t e ht) .i64 (l : Int) (by omega) (by omega), size_elem t e i ht hi hsz, Result.andThen_ok, Int.toNat_natCast]
  have := hr0.sliced (l := l) (n := zs.length - l) (by omega)
  rw [Nat.add_sub_cancel' hl, List.take_of_length_le (by simp)] at this
  exact hK _ _ (h _ this)
include ht hi hsz hx hr in
/-- x[: n], at a guarded operation. -/
theorem slice_rd_hg (hwt : Region.wanted o (yielded ops a.tmps) = true) (hi' : Operand) (hop : o.op = .slice t x none (some hi') none) (hhi : a.eval hi' = .int .i64 (n : Int)) (hl : n ≤ zs.length)
    (h : ∀ u, Rd lim k w u (zs.take n) → wpList P ops Q rest (a.put o.dst u) w) : wpList P ops Q (o :: rest) a w := by
  refine wpList_step fun K hK => ?_
  rw [if_pos hwt]
  have hr0 := hr
  obtain ⟨_, p, cap, rfl, h1, h2, h3⟩ := hr
  unfold Oper.wp
  simp only [execOp, hop, Option.map_some, Option.map_none, hx, hhi]
  simp only [Sem.run_bind, Sem.run_pure, run_sliceAt_slice w t _ _ _ _ (und_elem t e ht), run_slice_h w t p zs.length cap (und_elem t e ht) .i64 (n : Int) (by omega) (by omega), size_elem t e i ht hi hsz, Result.andThen_ok, Int.toNat_natCast]
  have := hr0.sliced (l := 0) (n := n) (by omega)
  rw [Nat.zero_add, List.drop_zero] at this
  exact hK _ _ (h _ this)

include ht hi hsz hx hr in
/-- x[l :], at a guarded operation. -/
theorem slice_rd_lg (hwt : Region.wanted o (yielded ops a.tmps) = true) (lo : Operand) (hop : o.op = .slice t x (some lo) none none) (hlo : a.eval lo = .int .i64 (l : Int)) (hl : l ≤ zs.length)
    (h : ∀ u, Rd lim k w u (zs.drop l) → wpList P ops Q rest (a.put o.dst u) w) : wpList P ops Q (o :: rest) a w := by
  refine wpList_step fun K hK => ?_
  rw [if_pos hwt]
  have hr0 := hr
  obtain ⟨_, p, cap, rfl, h1, h2, h3⟩ := hr
  unfold Oper.wp
  simp only [execOp, hop, Option.map_some, Option.map_none, hx, hlo]
  simp only [Sem.run_bind, Sem.run_pure, run_sliceAt_slice w t _ _ _ _ (und_elem t e ht), run_slice_l w t p zs.length cap (und_elem t e ht) .i64 (l : Int) (by omega) (by omega), size_elem t e i ht hi hsz, Result.andThen_ok, Int.toNat_natCast]
  have := hr0.sliced (l := l) (n := zs.length - l) (by omega)
  rw [Nat.add_sub_cancel' hl, List.take_of_length_le (by simp)] at this
  exact hK _ _ (h _ this)
end

end Go.Proofs.Ytnamgnhplodhoaa
