import Derived.Test.YtdeahjinnnhfkaaRd
import Derived.Laws.Slices
import Derived.Test.YtdeahjinnnhfkaaRows
import Derived.WalkKit
import Derived.Handy
import Derived.Outline
import Derived.WalkSpells
import Derived.Lib.Hide

/- A part of a slice of integers: the slice expression on what is read. No program. -/
section
namespace Go.Proofs.Ytdeahjinnnhfkaa
open Go Go.RowKit
set_option linter.unusedVariables false

theorem add_off' (b o t : Nat) : (⟨b, o, none⟩ : Addr).add t = ⟨b, o + t, none⟩ := by unfold Addr.add; split <;> simp_all

theorem Rd.sliced {lim : Nat} {k : IntKind} {w : World} {a : Option Addr} {len cap : Nat} {zs : List Int} (h : Rd lim k w (.slice a len cap) zs) {l n : Nat} (hl : l + n ≤ zs.length) :
    Rd lim k w (Go.sliced a l (l + n) cap 1) ((zs.drop l).take n) := by
  have hlen := h.len_eq
  have h0 := h
  obtain ⟨hw, a', cap', hv, h1, h2, h3⟩ := h
  injection hv with e1 e2 e3
  subst e1; subst e3
  have hln : ((zs.drop l).take n).length = n := by simp; omega
  have hwf : ∀ z ∈ (zs.drop l).take n, (Lit.int k z).wf = true := fun z hz => hw z (List.mem_of_mem_drop (List.mem_of_mem_take hz))
  unfold Go.sliced
  rw [Nat.mul_one, Nat.add_sub_cancel_left]
  by_cases hn : n = 0
  · have e0 : (zs.drop l).take n = [] := List.eq_nil_of_length_eq_zero (by omega)
    rw [e0, hn]
    rcases h3 with ⟨rfl, rfl⟩ | ⟨x, rfl, h4, h5⟩
    · refine ⟨by simp, none, 0, ?_, by simp, by unfold maxLen; omega, .inl ⟨rfl, rfl⟩⟩
      simp
    · refine ⟨by simp, (if cap = l then some x else (some x).map (·.add l)), cap - l, rfl, Nat.zero_le _, by omega, .inr ?_⟩
      by_cases hc : cap = l
      · rw [if_pos hc]; exact ⟨x, rfl, fun i hi => by simp at hi, .inr rfl⟩
      · rw [if_neg hc]; exact ⟨x.add l, rfl, fun i hi => by simp at hi, .inr rfl⟩
  · obtain ⟨b, o, c, hv, _, _, hc, hb⟩ := h0.at (by omega)
    injection hv with e1 e2 e3
    subst e1; subst e3
    refine ⟨hwf, some ⟨b, o + l, none⟩, cap - l, by rw [if_neg (by omega), hln, Option.map_some, add_off'], by omega, by omega, .inr ⟨_, rfl, fun i hi => ?_, .inl hb⟩⟩
    rw [hln] at hi
    rw [add_off', Nat.add_assoc, hc (l + i) (by omega)]
    simp [List.getD_eq_getElem?_getD, List.getElem?_take, List.getElem?_drop, hi]

section
variable {P : Program} (w : World) {ops : Array Oper} {rest : List Oper} {o : Oper} {a : Act} {Q : Exit → Act → World → Prop} (hg : o.guard = none) (t : TypeId) (x : Operand)
  (e : TypeId) (i : TypeInfo) (ht : P.underlying t = some (.slice e)) (hi : P.info? e = some i) (hsz : i.size = 1) {k : IntKind} {lim : Nat} {v : Value} {zs : List Int} {l n : Nat} (hx : a.eval x = v) (hr : Rd lim k w v zs)

include ht hi hsz in
theorem size_elem (w : World) : (sizeOf (P.elem t)).run P w = .ok 1 w := by
  have : P.elem t = e := by simp [Program.elem, ht]
  rw [this]
  simp [sizeOf, typeInfo, hi, hsz]

include ht in
theorem und_elem : P.underlying t = some (.slice (P.elem t)) := by
  have : P.elem t = e := by simp [Program.elem, ht]
  rw [this]; exact ht

include hg ht hi hsz hx hr in
/-- x[l : l + n] -/
theorem slice_rd (lo hi' : Operand) (hop : o.op = .slice t x (some lo) (some hi') none) (hlo : a.eval lo = .int .i64 (l : Int)) (hhi : a.eval hi' = .int .i64 ((l + n : Nat) : Int)) (hl : l + n ≤ zs.length)
    (h : ∀ u, Rd lim k w u ((zs.drop l).take n) → wpList P ops Q rest (a.put o.dst u) w) : wpList P ops Q (o :: rest) a w := by
  refine wpList_plain hg fun K hK => ?_
  have hr0 := hr
  obtain ⟨_, p, cap, rfl, h1, h2, h3⟩ := hr
  unfold Oper.wp
  simp only [execOp, hop, Option.map_some, Option.map_none, hx, hlo, hhi]
  simp only [Sem.run_bind, Sem.run_pure, run_sliceAt_slice w t _ _ _ _ (und_elem t e ht), run_slice_lh w t p zs.length cap (und_elem t e ht) .i64 .i64 (l : Int) ((l + n : Nat) : Int) (by omega) (by omega) (by omega), size_elem t e i ht hi hsz, Result.andThen_ok, Int.toNat_natCast]
  exact hK _ _ (h _ (hr0.sliced hl))

include hg ht hi hsz hx hr in
/-- x[: n] -/
theorem slice_rd_h (hi' : Operand) (hop : o.op = .slice t x none (some hi') none) (hhi : a.eval hi' = .int .i64 (n : Int)) (hl : n ≤ zs.length)
    (h : ∀ u, Rd lim k w u (zs.take n) → wpList P ops Q rest (a.put o.dst u) w) : wpList P ops Q (o :: rest) a w := by
  refine wpList_plain hg fun K hK => ?_
  have hr0 := hr
  obtain ⟨_, p, cap, rfl, h1, h2, h3⟩ := hr
  unfold Oper.wp
  simp only [execOp, hop, Option.map_some, Option.map_none, hx, hhi]
  simp only [Sem.run_bind, Sem.run_pure, run_sliceAt_slice w t _ _ _ _ (und_elem t e ht), run_slice_h w t p zs.length cap (und_elem t e ht) .i64 (n : Int) (by omega) (by omega), size_elem t e i ht hi hsz, Result.andThen_ok, Int.toNat_natCast]
  have := hr0.sliced (l := 0) (n := n) (by omega)
  rw [Nat.zero_add, List.drop_zero] at this
  exact hK _ _ (h _ this)

include hg ht hi hsz hx hr in
/-- x[l :] -/
theorem slice_rd_l (lo : Operand) (hop : o.op = .slice t x (some lo) none none) (hlo : a.eval lo = .int .i64 (l : Int)) (hl : l ≤ zs.length)
    (h : ∀ u, Rd lim k w u (zs.drop l) → wpList P ops Q rest (a.put o.dst u) w) : wpList P ops Q (o :: rest) a w := by
  refine wpList_plain hg fun K hK => ?_
  have hr0 := hr
  obtain ⟨_, p, cap, rfl, h1, h2, h3⟩ := hr
  unfold Oper.wp
  simp only [execOp, hop, Option.map_some, Option.map_none, hx, hlo]
  simp only [Sem.run_bind, Sem.run_pure, run_sliceAt_slice w t _ _ _ _ (und_elem t e ht), run_slice_l w t p zs.length cap (und_elem t e ht) .i64 (l : Int) (by omega) (by omega), size_elem t e i ht hi hsz, Result.andThen_ok, Int.toNat_natCast]
  have := hr0.sliced (l := l) (n := zs.length - l) (by omega)
  rw [Nat.add_sub_cancel' hl, List.take_of_length_le (by simp)] at this
  exact hK _ _ (h _ this)
include ht hi hsz hx hr in
/-- x[: n], at a guarded operation. -/
theorem slice_rd_hg (hwt : Region.wanted o (yielded ops a.tmps) = true) (hi' : Operand) (hop : o.op = .slice t x none (some hi') none) (hhi : a.eval hi' = .int .i64 (n : Int)) (hl : n ≤ zs.length)
    (h : ∀ u, Rd lim k w u (zs.take n) → wpList P ops Q rest (a.put o.dst u) w) : wpList P ops Q (o :: rest) a w := by
  refine wpList_step fun K hK => ?_
  rw [if_pos hwt]
  have hr0 := hr
  obtain ⟨_, p, cap, rfl, h1, h2, h3⟩ := hr
  unfold Oper.wp
  simp only [execOp, hop, Option.map_some, Option.map_none, hx, hhi]
  simp only [Sem.run_bind, Sem.run_pure, run_sliceAt_slice w t _ _ _ _ (und_elem t e ht), run_slice_h w t p zs.length cap (und_elem t e ht) .i64 (n : Int) (by omega) (by omega), size_elem t e i ht hi hsz, Result.andThen_ok, Int.toNat_natCast]
  have := hr0.sliced (l := 0) (n := n) (by omega)
  rw [Nat.zero_add, List.drop_zero] at this
  exact hK _ _ (h _ this)

include ht hi hsz hx hr in
/-- x[l :], at a guarded operation. -/
theorem slice_rd_lg (hwt : Region.wanted o (yielded ops a.tmps) = true) (lo : Operand) (hop : o.op = .slice t x (some lo) none none) (hlo : a.eval lo = .int .i64 (l : Int)) (hl : l ≤ zs.length)
    (h : ∀ u, Rd lim k w u (zs.drop l) → wpList P ops Q rest (a.put o.dst u) w) : wpList P ops Q (o :: rest) a w := by
  refine wpList_step fun K hK => ?_
  rw [if_pos hwt]
  have hr0 := hr
  obtain ⟨_, p, cap, rfl, h1, h2, h3⟩ := hr
  unfold Oper.wp
  simp only [execOp, hop, Option.map_some, Option.map_none, hx, hlo]
  simp only [Sem.run_bind, Sem.run_pure, run_sliceAt_slice w t _ _ _ _ (und_elem t e ht), run_slice_l w t p zs.length cap (und_elem t e ht) .i64 (l : Int) (by omega) (by omega), size_elem t e i ht hi hsz, Result.andThen_ok, Int.toNat_natCast]
  have := hr0.sliced (l := l) (n := zs.length - l) (by omega)
  rw [Nat.add_sub_cancel' hl, List.take_of_length_le (by simp)] at this
  exact hK _ _ (h _ this)
end

end Go.Proofs.Ytdeahjinnnhfkaa
end

/- Mod, the program's and the document's. No conditions but numbers that a machine holds. -/
section
namespace Go.Proofs.Ytdeahjinnnhfkaa
open Go Go.RowKit
set_option linter.unusedVariables false

def modV (a b : Int) : Int := if 1 ≤ b ∧ b ≤ 1000000000000 then a % b else 0

theorem rint {a b : Int} (h : a = b) : Ending.returned (.int .i64 a) = Ending.returned (.int .i64 b) := by rw [h]

theorem tmod_emod (p q : Int) (hq : 1 ≤ q) (hp : p < 0) : -q < p.tmod q ∧ p.tmod q ≤ 0 ∧ (p.tmod q < 0 → p.tmod q + q = p % q) ∧ (¬ p.tmod q < 0 → p.tmod q = p % q) := by
  have e : p.tmod q = -((-p) % q) := by
    have h := Int.neg_tmod (a := -p) (b := q)
    rw [Int.neg_neg] at h
    rw [h, Int.tmod_eq_emod_of_nonneg (by omega)]
  have b1 := Int.emod_nonneg (-p) (b := q) (by omega)
  have b2 := Int.emod_lt_of_pos (-p) (b := q) (by omega)
  have hd := Int.mul_tdiv_add_tmod p q
  have hm : p % q = p.tmod q % q := by
    conv => lhs; rw [← hd]
    rw [Int.add_comm, Int.add_mul_emod_self_left]
  refine ⟨by omega, by omega, fun hn => ?_, fun hn => ?_⟩
  · rw [hm, ← Int.add_emod_right, Int.emod_eq_of_lt (by omega) (by omega)]
  · rw [hm, Int.emod_eq_of_lt (by omega) (by omega)]

theorem impl_mod (a b : Int) (w : World) (ha : -9223372036854775808 ≤ a) (ha1 : a ≤ 9223372036854775807) :
    Calls Try.prog 90 #[.int .i64 a, .int .i64 b] w fun e w' => e = .returned (.int .i64 (modV a b)) ∧ w' = w := by
  have hv := Lib.hid (show modV a b = if 1 ≤ b ∧ b ≤ 1000000000000 then a % b else 0 from rfl)
  by_cases h3 : 1 ≤ b <;> by_cases h4 : b ≤ 1000000000000
  all_goals first | (exfalso; omega) | skip
  · have hv1 := Lib.hid (show modV a b = a % b by rw [hv.out, if_pos ⟨h3, h4⟩])
    by_cases hp : 0 ≤ a
    · have b1 := Int.emod_nonneg a (b := b) (by omega)
      have b2 := Int.emod_lt_of_pos a (b := b) (by omega)
      go_enter Try.func90, Try.ntmps90
      go_wp2
      go_ret
      exact ⟨rint hv1.out.symm, rfl⟩
    · obtain ⟨b1, b2, t1, t2⟩ := tmod_emod a b h3 (by omega)
      by_cases hz : a.tmod b < 0
      · have hv2 := Lib.hid ((t1 hz).trans hv1.out.symm)
        clear t1 t2
        go_enter Try.func90, Try.ntmps90
        go_wp2
        go_ret
        exact ⟨rint hv2.out, rfl⟩
      · have hv2 := Lib.hid ((t2 hz).trans hv1.out.symm)
        clear t1 t2
        go_enter Try.func90, Try.ntmps90
        go_wp2
        go_ret
        exact ⟨rint hv2.out, rfl⟩
  all_goals
    have hv1 := Lib.hid (show modV a b = 0 by rw [hv.out, if_neg (by omega)])
    go_enter Try.func90, Try.ntmps90
    go_wp2
    go_ret
    exact ⟨rint hv1.out.symm, rfl⟩

theorem spec_mod (a b : Int) (w : World) (ha : -9223372036854775808 ≤ a) (ha1 : a ≤ 9223372036854775807) :
    Calls Try.prog 87 #[.int .i64 a, .int .i64 b] w fun e w' => e = .returned (.int .i64 (modV a b)) ∧ w' = w := by
  have hv := Lib.hid (show modV a b = if 1 ≤ b ∧ b ≤ 1000000000000 then a % b else 0 from rfl)
  by_cases h3 : 1 ≤ b <;> by_cases h4 : b ≤ 1000000000000
  all_goals first | (exfalso; omega) | skip
  · have hv1 := Lib.hid (show modV a b = a % b by rw [hv.out, if_pos ⟨h3, h4⟩])
    by_cases hp : 0 ≤ a
    · have b1 := Int.emod_nonneg a (b := b) (by omega)
      have b2 := Int.emod_lt_of_pos a (b := b) (by omega)
      go_enter Try.func87, Try.ntmps87
      go_wp2
      go_ret
      refine ⟨rint ?_, rfl⟩
      rw [hv1.out]
      first | rfl | exact Int.emod_emod_of_dvd _ (Int.dvd_refl _) | (rw [Int.add_emod_right, Int.emod_emod_of_dvd _ (Int.dvd_refl _)])
    · obtain ⟨b1, b2, t1, t2⟩ := tmod_emod a b h3 (by omega)
      have hv2 : Hid ((a.tmod b + b) % b = modV a b) := Lib.hid (by
        rw [hv1.out, Int.add_emod_right]
        by_cases hz : a.tmod b < 0
        · rw [← t1 hz]
          rw [← Int.add_emod_right, Int.emod_eq_of_lt (by omega) (by omega)]
        · rw [t2 hz]; exact Int.emod_emod_of_dvd _ (Int.dvd_refl _))
      clear t1 t2
      go_enter Try.func87, Try.ntmps87
      go_wp2
      go_ret
      refine ⟨rint ?_, rfl⟩
      first | exact hv2.out | (rw [← hv2.out]; simp)
  all_goals
    have hv1 := Lib.hid (show modV a b = 0 by rw [hv.out, if_neg (by omega)])
    go_enter Try.func87, Try.ntmps87
    go_wp2
    go_ret
    exact ⟨rint hv1.out.symm, rfl⟩

end Go.Proofs.Ytdeahjinnnhfkaa
end
