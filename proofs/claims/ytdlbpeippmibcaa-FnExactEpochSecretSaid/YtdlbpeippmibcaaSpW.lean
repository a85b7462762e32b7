/- Chapter 17's contracts in the words of the exact laws: NewSpentList, IsValidSpentList, SpendToken, IsSpent, EpochSecret, MergeSpent, BudgetLeft, EqualSpentLists. No conditions but numbers and lengths that a machine holds. -/
import Derived.Test.YtdlbpeippmibcaaSpC
import Derived.Test.YtdlbpeippmibcaaHp16
import Derived.Test.YtdlbpeippmibcaaHp17
import Derived.Test.YtdlbpeippmibcaaBaX
namespace Go.Proofs.Ytdlbpeippmibcaa
open Go Go.RowKit
set_option linter.unusedVariables false
attribute [local irreducible] kh kid pwm tcm pw chl

theorem mgL_len (e f : Int) (zs ys : List Int) : (mgL e f zs ys).length ≤ zs.length + 40 := by
  cases h : mgq e f zs ys with
  | false => rw [(mg_no h).1]; omega
  | true =>
    rw [(mg_yes h).1]
    have h' := h
    unfold mgq at h'
    simp only [Bool.and_eq_true] at h'
    obtain ⟨a1, a2⟩ := slv_parts h'.1
    obtain ⟨b1, b2⟩ := slv_parts h'.2.1
    have := (mgs_inv a1 b1 a2 ys.length (Nat.le_refl _)).2.2.2.1
    rw [List.take_length] at this
    omega
theorem epN_wf {n : Int} (h : (Lit.int .i64 n).wf = true) : (Lit.int .i64 (epN n)).wf = true := by
  unfold epN; split
  · exact h
  · decide

section
variable {l : Nat} {w : World} {c : List Value} {x : VSpentList}
theorem spent_len (h : tySpentList.tot x ≤ 1048576) : x.2.length ≤ 1048576 := by
  have h1 : totL i64T x.2 ≤ 1048576 := h
  have h2 : totL i64T x.2 = x.2.length := totL_int _ _ _ _
  omega
theorem spent_own {B : Nat} {v : Value} {e : Int} {zs : List Int} (he : (Lit.int .i64 e).wf = true) (h : Own 3 .i64 B w v zs) : tySpentList.own (ival B w.heap.size) w [.int .i64 e, v] (e, zs) :=
  int_own (p := (e, zs)) he (slo_of_own h (fun b h1 h2 => ⟨h1, h2⟩))
theorem spec_nsl_t {n : Int} (hn : (Lit.int .i64 n).wf = true) : Calls Try.prog 28 #[.int .i64 n] w fun e w' => ∃ (c' : List Value) (F : Nat → Prop), e = .returned (.agg c'.toArray) ∧ tySpentList.own F w' c' (epN n, []) ∧ (∀ b, F b → w.heap.size ≤ b ∧ b < w'.heap.size) ∧ Below w.heap.size w w' := by
  refine (spec_nsl hn).mono ?_
  rintro e w' ⟨he, hb⟩
  exact ⟨[.int .i64 (epN n), .slice none 0 0], ival w.heap.size w'.heap.size, he, spent_own (epN_wf hn) (Own.nil _ _ hb.size), fun b h => h, hb⟩
theorem spec_vsl_t (h : tySpentList.rd l w c x) (hl : l ≤ w.heap.size) : Calls Try.prog 25 #[.agg c.toArray] w fun e w' => e = .returned (.bool (slv x.1 x.2)) ∧ Below w.heap.size w w' := by
  obtain ⟨a, n, rfl, h0, h1⟩ := rd_SpentList h
  exact spec_vsl (rd_of_sl h1) hl h0
theorem spec_iss_t {n : Int} (h : tySpentList.rd l w c x) (hl : l ≤ w.heap.size) (hn : (Lit.int .i64 n).wf = true) : Calls Try.prog 26 #[.agg c.toArray, .int .i64 n] w fun e w' => e = .returned (.bool (memS x.2 n)) ∧ Below w.heap.size w w' := by
  obtain ⟨a, m, rfl, h0, h1⟩ := rd_SpentList h
  exact spec_iss (rd_of_sl h1) hl
theorem spec_eps_t {m n : Int} (hm : (Lit.int .i64 m).wf = true) (hn : (Lit.int .i64 n).wf = true) : Calls Try.prog 36 #[.int .i64 m, .int .i64 n] w fun e w' => e = .returned (.int .i64 (epS m n)) ∧ Below w.heap.size w w' := spec_eps hm hn
theorem spec_spt_t {l2 : Nat} {d : List Value} {y : VToken} {s : Int} (h : tySpentList.rd l w c x) (hl : l ≤ w.heap.size) (k : tyToken.rd l2 w d y) (hl2 : l2 ≤ w.heap.size) (hs : (Lit.int .i64 s).wf = true) (hz : tySpentList.tot x ≤ 1048576) : Calls Try.prog 16 #[.agg c.toArray, .int .i64 s, .agg d.toArray] w fun e w' => ∃ (c' : List Value) (F : Nat → Prop), e = .returned (.tuple #[.agg c'.toArray, .int .i64 (spR x.1 x.2 s y.1 y.2)]) ∧ tySpentList.own F w' c' (x.1, spL x.1 x.2 s y.1 y.2) ∧ (∀ b, F b → w.heap.size ≤ b ∧ b < w'.heap.size) ∧ Below w.heap.size w w' := by
  obtain ⟨a, n, rfl, h0, h1⟩ := rd_SpentList h
  obtain ⟨rfl, k0, k1⟩ := rd_Token k
  refine (spec_spt (rd_of_sl h1) hl (by have := spent_len hz; omega) h0 hs k0 k1).mono ?_
  rintro e w' ⟨v, he, hO, hb⟩
  exact ⟨[.int .i64 x.1, v], ival w.heap.size w'.heap.size, he, spent_own h0 hO, fun b h => h, hb⟩
theorem spec_mrg_t {l2 : Nat} {d : List Value} {y : VSpentList} (h : tySpentList.rd l w c x) (hl : l ≤ w.heap.size) (k : tySpentList.rd l2 w d y) (hl2 : l2 ≤ w.heap.size) (hz : tySpentList.tot x ≤ 1048576) : Calls Try.prog 37 #[.agg c.toArray, .agg d.toArray] w fun e w' => ∃ (c' : List Value) (F : Nat → Prop), e = .returned (.tuple #[.agg c'.toArray, .int .i64 (mgN x.1 y.1 x.2 y.2)]) ∧ tySpentList.own F w' c' (x.1, mgL x.1 y.1 x.2 y.2) ∧ (∀ b, F b → w.heap.size ≤ b ∧ b < w'.heap.size) ∧ Below w.heap.size w w' := by
  obtain ⟨a, n, rfl, h0, h1⟩ := rd_SpentList h
  obtain ⟨a', n', rfl, k0, k1⟩ := rd_SpentList k
  refine (spec_mrg (rd_of_sl h1) (rd_of_sl k1) hl hl2 (by have := spent_len hz; omega) h0 k0).mono ?_
  rintro e w' ⟨v, he, hO, hb⟩
  exact ⟨[.int .i64 x.1, v], ival w.heap.size w'.heap.size, he, spent_own h0 hO, fun b h => h, hb⟩
theorem spec_bud_t {l2 : Nat} {t : TypeId} {v : Value} {ys : List Int} (h : tySpentList.rd l w c x) (hl : l ≤ w.heap.size) (k : (sliceT t i64T).rd l2 w [v] ys) (hl2 : l2 ≤ w.heap.size) : Calls Try.prog 38 #[.agg c.toArray, v] w fun e w' => e = .returned (.int .i64 ((budL x.2 ys ys.length : Nat) : Int)) ∧ Below w.heap.size w w' := by
  obtain ⟨a, n, rfl, h0, h1⟩ := rd_SpentList h
  exact spec_bud (rd_of_sl h1) (rd_of_sl k) hl hl2
theorem spec_esl_t {l2 : Nat} {d : List Value} {y : VSpentList} (h : tySpentList.rd l w c x) (hl : l ≤ w.heap.size) (k : tySpentList.rd l2 w d y) (hl2 : l2 ≤ w.heap.size) : Calls Try.prog 41 #[.agg c.toArray, .agg d.toArray] w fun e w' => e = .returned (.bool (eqSL x.1 y.1 x.2 y.2)) ∧ Below w.heap.size w w' := by
  obtain ⟨a, n, rfl, h0, h1⟩ := rd_SpentList h
  obtain ⟨a', n', rfl, k0, k1⟩ := rd_SpentList k
  exact spec_esl (rd_of_sl h1) (rd_of_sl k1) hl hl2
theorem impl_nsl_t {n : Int} (hn : (Lit.int .i64 n).wf = true) : Calls Try.prog 29 #[.int .i64 n] w fun e w' => ∃ (c' : List Value) (F : Nat → Prop), e = .returned (.agg c'.toArray) ∧ tySpentList.own F w' c' (epN n, []) ∧ (∀ b, F b → w.heap.size ≤ b ∧ b < w'.heap.size) ∧ Below w.heap.size w w' := by
  refine (impl_nsl hn).mono ?_
  rintro e w' ⟨he, hb⟩
  exact ⟨[.int .i64 (epN n), .slice none 0 0], ival w.heap.size w'.heap.size, he, spent_own (epN_wf hn) (Own.nil _ _ hb.size), fun b h => h, hb⟩
theorem impl_vsl_t (h : tySpentList.rd l w c x) (hl : l ≤ w.heap.size) : Calls Try.prog 22 #[.agg c.toArray] w fun e w' => e = .returned (.bool (slv x.1 x.2)) ∧ Below w.heap.size w w' := by
  obtain ⟨a, n, rfl, h0, h1⟩ := rd_SpentList h
  exact impl_vsl (rd_of_sl h1) hl h0
theorem impl_iss_t {n : Int} (h : tySpentList.rd l w c x) (hl : l ≤ w.heap.size) (hn : (Lit.int .i64 n).wf = true) : Calls Try.prog 21 #[.agg c.toArray, .int .i64 n] w fun e w' => e = .returned (.bool (memS x.2 n)) ∧ Below w.heap.size w w' := by
  obtain ⟨a, m, rfl, h0, h1⟩ := rd_SpentList h
  exact impl_iss (rd_of_sl h1) hl
theorem impl_eps_t {m n : Int} (hm : (Lit.int .i64 m).wf = true) (hn : (Lit.int .i64 n).wf = true) : Calls Try.prog 19 #[.int .i64 m, .int .i64 n] w fun e w' => e = .returned (.int .i64 (epS m n)) ∧ Below w.heap.size w w' := impl_eps hm hn
theorem impl_spt_t {l2 : Nat} {d : List Value} {y : VToken} {s : Int} (h : tySpentList.rd l w c x) (hl : l ≤ w.heap.size) (k : tyToken.rd l2 w d y) (hl2 : l2 ≤ w.heap.size) (hs : (Lit.int .i64 s).wf = true) (hz : tySpentList.tot x ≤ 1048576) : Calls Try.prog 15 #[.agg c.toArray, .int .i64 s, .agg d.toArray] w fun e w' => ∃ (c' : List Value) (F : Nat → Prop), e = .returned (.tuple #[.agg c'.toArray, .int .i64 (spR x.1 x.2 s y.1 y.2)]) ∧ tySpentList.own F w' c' (x.1, spL x.1 x.2 s y.1 y.2) ∧ (∀ b, F b → w.heap.size ≤ b ∧ b < w'.heap.size) ∧ Below w.heap.size w w' := by
  obtain ⟨a, n, rfl, h0, h1⟩ := rd_SpentList h
  obtain ⟨rfl, k0, k1⟩ := rd_Token k
  refine (impl_spt (rd_of_sl h1) hl (by have := spent_len hz; omega) h0 hs k0 k1).mono ?_
  rintro e w' ⟨v, he, hO, hb⟩
  exact ⟨[.int .i64 x.1, v], ival w.heap.size w'.heap.size, he, spent_own h0 hO, fun b h => h, hb⟩
theorem impl_mrg_t {l2 : Nat} {d : List Value} {y : VSpentList} (h : tySpentList.rd l w c x) (hl : l ≤ w.heap.size) (k : tySpentList.rd l2 w d y) (hl2 : l2 ≤ w.heap.size) (hz : tySpentList.tot x ≤ 1048576) : Calls Try.prog 18 #[.agg c.toArray, .agg d.toArray] w fun e w' => ∃ (c' : List Value) (F : Nat → Prop), e = .returned (.tuple #[.agg c'.toArray, .int .i64 (mgN x.1 y.1 x.2 y.2)]) ∧ tySpentList.own F w' c' (x.1, mgL x.1 y.1 x.2 y.2) ∧ (∀ b, F b → w.heap.size ≤ b ∧ b < w'.heap.size) ∧ Below w.heap.size w w' := by
  obtain ⟨a, n, rfl, h0, h1⟩ := rd_SpentList h
  obtain ⟨a', n', rfl, k0, k1⟩ := rd_SpentList k
  refine (impl_mrg (rd_of_sl h1) (rd_of_sl k1) hl hl2 (by have := spent_len hz; omega) h0 k0).mono ?_
  rintro e w' ⟨v, he, hO, hb⟩
  exact ⟨[.int .i64 x.1, v], ival w.heap.size w'.heap.size, he, spent_own h0 hO, fun b h => h, hb⟩
theorem impl_bud_t {l2 : Nat} {t : TypeId} {v : Value} {ys : List Int} (h : tySpentList.rd l w c x) (hl : l ≤ w.heap.size) (k : (sliceT t i64T).rd l2 w [v] ys) (hl2 : l2 ≤ w.heap.size) : Calls Try.prog 23 #[.agg c.toArray, v] w fun e w' => e = .returned (.int .i64 ((budL x.2 ys ys.length : Nat) : Int)) ∧ Below w.heap.size w w' := by
  obtain ⟨a, n, rfl, h0, h1⟩ := rd_SpentList h
  exact impl_bud (rd_of_sl h1) (rd_of_sl k) hl hl2
theorem impl_esl_t {l2 : Nat} {d : List Value} {y : VSpentList} (h : tySpentList.rd l w c x) (hl : l ≤ w.heap.size) (k : tySpentList.rd l2 w d y) (hl2 : l2 ≤ w.heap.size) : Calls Try.prog 17 #[.agg c.toArray, .agg d.toArray] w fun e w' => e = .returned (.bool (eqSL x.1 y.1 x.2 y.2)) ∧ Below w.heap.size w w' := by
  obtain ⟨a, n, rfl, h0, h1⟩ := rd_SpentList h
  obtain ⟨a', n', rfl, k0, k1⟩ := rd_SpentList k
  exact impl_esl (rd_of_sl h1) (rd_of_sl k1) hl hl2
end

theorem vb_len {x : VSpentList} (h : x.2.length ≤ 1099511627776) : tySpentList.vcnt x ≤ 1099511627776 := by
  show cntL i64T x.2 ≤ _
  have e : cntL i64T x.2 = x.2.length := cntL_int _ _ _ _
  rw [e]; exact h
theorem vb_sl {x : VSpentList} (h : tySpentList.tot x ≤ 1048576) : tySpentList.vcnt x ≤ 1099511627776 := vb_len (by have := spent_len h; omega)
theorem vb_ep (n : Int) : tySpentList.vcnt (epN n, []) ≤ 1099511627776 := vb_len (by simp)
theorem vb_sp {x : VSpentList} (h : tySpentList.tot x ≤ 1048576) (s n v : Int) : tySpentList.vcnt (x.1, spL x.1 x.2 s n v) ≤ 1099511627776 := vb_len (by have := spent_len h; have := spL_len x.1 x.2 s n v; show (spL x.1 x.2 s n v).length ≤ _; omega)
theorem vb_mg {x : VSpentList} (h : tySpentList.tot x ≤ 1048576) (f : Int) (ys : List Int) : tySpentList.vcnt (x.1, mgL x.1 f x.2 ys) ≤ 1099511627776 := vb_len (by have := spent_len h; have := mgL_len x.1 f x.2 ys; show (mgL x.1 f x.2 ys).length ≤ _; omega)
theorem vb_it {e : TypeId} {xs : List Int} (h : xs.length ≤ 1048576) : (sliceT e i64T).vcnt xs ≤ 1099511627776 := by
  have e1 : (sliceT e i64T).vcnt xs = xs.length := cntL_int _ _ _ _
  rw [e1]; omega
theorem vb_tok (x : VToken) : tyToken.vcnt x ≤ 1099511627776 := by
  have e1 : tyToken.vcnt x = 0 := rfl
  omega

end Go.Proofs.Ytdlbpeippmibcaa
