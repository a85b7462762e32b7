/- Parts of slices of structs of one-cell fields, as they are read; the slice expression on them. No program. -/
import Derived.Test.YtlbijjifeaimjaaBbT
import Derived.Test.YtlbijjifeaimjaaBa8
namespace Go.Proofs.Ytlbijjifeaimjaa
open Go Go.RowKit
set_option linter.unusedVariables false

section
variable {α : Type} {E : Enc α} {lim : Nat} {w : World} {a : Option Addr} {len cap : Nat} {xs : List α}

theorem RdS.sliced (h : RdS E lim w (.slice a len cap) xs) {l n : Nat} (hl : l + n ≤ xs.length) : RdS E lim w (Go.sliced a l (l + n) cap E.sz) ((xs.drop l).take n) := by
  have hlen := h.len_eq
  have h0 := h
  obtain ⟨hw, a', cap', hv, h1, h2, h3⟩ := h
  injection hv with e1 e2 e3
  subst e1; subst e3
  have hln : ((xs.drop l).take n).length = n := by simp; omega
  have hok : ∀ x ∈ (xs.drop l).take n, E.ok x := fun x hx => hw x (List.mem_of_mem_drop (List.mem_of_mem_take hx))
  unfold Go.sliced
  rw [Nat.add_sub_cancel_left]
  by_cases hn : n = 0
  · have e0 : (xs.drop l).take n = [] := List.eq_nil_of_length_eq_zero (by omega)
    rw [e0, hn]
    rcases h3 with ⟨rfl, rfl⟩ | ⟨p, rfl, h4, h5⟩
    · refine ⟨by simp, none, 0, ?_, by simp, by unfold maxLen; omega, .inl ⟨rfl, rfl⟩⟩
      simp
    · refine ⟨by simp, (if cap = l then some p else (some p).map (·.add (l * E.sz))), cap - l, rfl, Nat.zero_le _, by omega, .inr ?_⟩
      by_cases hc : cap = l
      · rw [if_pos hc]; exact ⟨p, rfl, fun i x hi => by simp at hi, .inr rfl⟩
      · rw [if_neg hc]; exact ⟨p.add (l * E.sz), rfl, fun i x hi => by simp at hi, .inr rfl⟩
  · obtain ⟨_, _, hv, _, _, hc⟩ := h0.open
    injection hv with e1 e2 e3
    subst e1; subst e3
    have hp : 0 < xs.length := by clear hc; omega
    obtain ⟨b, o, rfl, hb, hcell⟩ := hc hp
    refine ⟨hok, some ⟨b, o + l * E.sz, none⟩, cap - l, by rw [if_neg (by omega), hln, Option.map_some, add_off'], by omega, by omega, .inr ⟨_, rfl, fun i x hx j u hu => ?_, .inl hb⟩⟩
    have hi := (List.getElem?_eq_some_iff.1 hx).1
    rw [hln] at hi
    rw [List.getElem?_take_of_lt hi, List.getElem?_drop] at hx
    have := hcell w (Below.refl _ _) (l + i) x hx j u hu
    rw [add_off', show o + l * E.sz + (i * E.sz + j) = o + ((l + i) * E.sz + j) by rw [Nat.add_mul]; omega]
    exact this
theorem RdS.tail (h : RdS E lim w (.slice a len cap) xs) {l : Nat} (hl : l ≤ xs.length) : RdS E lim w (Go.sliced a l xs.length cap E.sz) (xs.drop l) := by
  have := h.sliced (l := l) (n := xs.length - l) (by omega)
  rw [show l + (xs.length - l) = xs.length by omega, List.take_of_length_le (by simp)] at this
  exact this
theorem RdS.headN (h : RdS E lim w (.slice a len cap) xs) {n : Nat} (hl : n ≤ xs.length) : RdS E lim w (Go.sliced a 0 n cap E.sz) (xs.take n) := by
  have := h.sliced (l := 0) (n := n) (by omega)
  rwa [Nat.zero_add, List.drop_zero] at this
end

section
variable {α : Type} {E : Enc α} {P : Program} (w : World) {ops : Array Oper} {rest : List Oper} {o : Oper} {a : Act} {Q : Exit → Act → World → Prop} (hg : o.guard = none) (t : TypeId) (x : Operand)
  (e : TypeId) (i : TypeInfo) (ht : P.underlying t = some (.slice e)) (hi : P.info? e = some i) (hsz : i.size = E.sz) {lim : Nat} {v : Value} {xs : List α} {l n : Nat} (hx : a.eval x = v) (hr : RdS E lim w v xs)

include ht hi hsz in
theorem size_elemS (w : World) : (sizeOf (P.elem t)).run P w = .ok E.sz w := by
  have : P.elem t = e := by simp [Program.elem, ht]
  rw [this]
  simp [sizeOf, typeInfo, hi, hsz]

include ht hi hsz in
/-- x[l :], the run. -/
theorem run_slice_ls {p : Option Addr} {len cap l : Nat} (hl : l ≤ len) (w : World) : (Instr.sliceAt t (.slice p len cap) (some (.int .i64 (l : Int))) none none).run P w = .ok (Go.sliced p l len cap E.sz) w := by
  rw [run_sliceAt_slice w t _ _ _ _ (und_elem t e ht), run_slice_l w t p len cap (und_elem t e ht) .i64 (l : Int) (by omega) (by omega), size_elemS t e i ht hi hsz, Result.andThen_ok, Int.toNat_natCast]
include ht hi hsz in
/-- x[: n], the run. -/
theorem run_slice_hs {p : Option Addr} {len cap n : Nat} (hl : n ≤ cap) (w : World) : (Instr.sliceAt t (.slice p len cap) none (some (.int .i64 (n : Int))) none).run P w = .ok (Go.sliced p 0 n cap E.sz) w := by
  rw [run_sliceAt_slice w t _ _ _ _ (und_elem t e ht), run_slice_h w t p len cap (und_elem t e ht) .i64 (n : Int) (by omega) (by omega), size_elemS t e i ht hi hsz, Result.andThen_ok, Int.toNat_natCast]

include ht hi hsz in
/-- x[: n] at an operation, the run. -/
theorem run_slice_op_hs {p : Option Addr} {n len cap : Nat} {w : World} (hi' : Operand) (hop : o.op = .slice t x none (some hi') none) (hx : a.eval x = .slice p len cap) (hhi : a.eval hi' = .int .i64 (n : Int)) (hl : n ≤ cap) :
    (execOp a.eval o).run P w = .ok (.value (Go.sliced p 0 n cap E.sz)) w := by
  simp only [execOp, hop, Option.map_some, Option.map_none, hx, hhi]
  simp only [Sem.run_bind, Sem.run_pure, run_slice_hs t e i ht hi hsz hl, Result.andThen_ok]
include ht hi hsz in
/-- x[n :] at an operation, the run. -/
theorem run_slice_op_ls {p : Option Addr} {n len cap : Nat} {w : World} (lo : Operand) (hop : o.op = .slice t x (some lo) none none) (hx : a.eval x = .slice p len cap) (hlo : a.eval lo = .int .i64 (n : Int)) (hl : n ≤ len) :
    (execOp a.eval o).run P w = .ok (.value (Go.sliced p n len cap E.sz)) w := by
  simp only [execOp, hop, Option.map_some, Option.map_none, hx, hlo]
  simp only [Sem.run_bind, Sem.run_pure, run_slice_ls t e i ht hi hsz hl, Result.andThen_ok]
include hg ht hi hsz hx hr in
/-- x[l :] -/
theorem slice_rds_l (lo : Operand) (hop : o.op = .slice t x (some lo) none none) (hlo : a.eval lo = .int .i64 (l : Int)) (hl : l ≤ xs.length)
    (h : ∀ u, RdS E lim w u (xs.drop l) → wpList P ops Q rest (a.put o.dst u) w) : wpList P ops Q (o :: rest) a w := by
  refine wpList_plain hg fun K hK => ?_
  have hr0 := hr
  obtain ⟨_, p, cap, rfl, h1, h2, h3⟩ := hr
  unfold Oper.wp
  simp only [execOp, hop, Option.map_some, Option.map_none, hx, hlo]
  simp only [Sem.run_bind, Sem.run_pure, run_slice_ls t e i ht hi hsz hl, Result.andThen_ok]
  exact hK _ _ (h _ (hr0.tail hl))
end

end Go.Proofs.Ytlbijjifeaimjaa
