/- Chapter 13's contracts in the words of the exact laws: SealCell, CoverCell, CellCheck, IsValidPlain. No conditions but numbers that a machine holds. -/
import Derived.Test.YtbimihljaalllaaCl2
import Derived.Test.YtbimihljaalllaaCl3
import Derived.Test.YtbimihljaalllaaHp13
import Derived.Test.YtbimihljaalllaaBaX
namespace Go.Proofs.Ytbimihljaalllaa
open Go Go.RowKit
set_option linter.unusedVariables false
attribute [local irreducible] kh kid

section
variable {l : Nat} {w : World} {c : List Value} {x : VPlain}
theorem spec_vpl_t (h : tyPlain.rd l w c x) (hl : l ≤ w.heap.size) : Calls Try.prog 30 #[.agg c.toArray] w fun e w' => e = .returned (.bool (okPlain x.1 x.2)) ∧ Below w.heap.size w w' := by
  obtain ⟨a, n, rfl, h0, h1⟩ := rd_Plain h
  refine (spec_vpl h0 (rd_of_sl h1).len).mono ?_
  rintro e w' ⟨he, hw⟩
  exact ⟨he, by rw [hw]; exact (Below.refl _ _).alloc (Nat.le_refl _) _⟩
theorem spec_se_t {k n : Int} (h : tyPlain.rd l w c x) (hl : l ≤ w.heap.size) (hk : (Lit.int .i64 k).wf = true) (hn : (Lit.int .i64 n).wf = true) : Calls Try.prog 8 #[.int .i64 k, .int .i64 n, .agg c.toArray] w fun e w' => ∃ (v : Value) (F : Nat → Prop), e = .returned (.tuple #[v, .bool (sok k n x.1 x.2)]) ∧ (sliceT 5 u8T).own F w' [v] (sealL k n x.1 x.2) ∧ (∀ b, F b → w.heap.size ≤ b ∧ b < w'.heap.size) ∧ Below w.heap.size w w' := by
  obtain ⟨a, m, rfl, h0, h1⟩ := rd_Plain h
  refine (spec_se (rd_of_sl h1) hl hk hn h0).mono ?_
  rintro e w' ⟨v, he, hO, hb⟩
  exact ⟨v, ival w.heap.size w'.heap.size, he, slo_of_own hO (fun b h1 h2 => ⟨h1, h2⟩), fun b h => h, hb⟩
theorem spec_cc_t {e : TypeId} {k n : Int} {v : Value} {zs : List Int} (h : (sliceT e u8T).rd l w [v] zs) (hl : l ≤ w.heap.size) (hk : (Lit.int .i64 k).wf = true) (hn : (Lit.int .i64 n).wf = true) (hz : zs.length ≤ 1073741824) : Calls Try.prog 35 #[.int .i64 k, .int .i64 n, v] w fun e w' => e = .returned (.int .i64 (chkv k n zs)) ∧ Below w.heap.size w w' := spec_cc (rd_of_sl h) hl hk hn hz
theorem impl_vpl_t (h : tyPlain.rd l w c x) (hl : l ≤ w.heap.size) : Calls Try.prog 38 #[.agg c.toArray] w fun e w' => e = .returned (.bool (okPlain x.1 x.2)) ∧ Below w.heap.size w w' := by
  obtain ⟨a, n, rfl, h0, h1⟩ := rd_Plain h
  refine (impl_vpl h0 (rd_of_sl h1).len).mono ?_
  rintro e w' ⟨he, hw⟩
  exact ⟨he, by rw [hw]; exact (Below.refl _ _).alloc (Nat.le_refl _) _⟩
theorem impl_se_t {k n : Int} (h : tyPlain.rd l w c x) (hl : l ≤ w.heap.size) (hk : (Lit.int .i64 k).wf = true) (hn : (Lit.int .i64 n).wf = true) : Calls Try.prog 10 #[.int .i64 k, .int .i64 n, .agg c.toArray] w fun e w' => ∃ (v : Value) (F : Nat → Prop), e = .returned (.tuple #[v, .bool (sok k n x.1 x.2)]) ∧ (sliceT 5 u8T).own F w' [v] (sealL k n x.1 x.2) ∧ (∀ b, F b → w.heap.size ≤ b ∧ b < w'.heap.size) ∧ Below w.heap.size w w' := by
  obtain ⟨a, m, rfl, h0, h1⟩ := rd_Plain h
  refine (impl_se (rd_of_sl h1) hl hk hn h0).mono ?_
  rintro e w' ⟨v, he, hO, hb⟩
  exact ⟨v, ival w.heap.size w'.heap.size, he, slo_of_own hO (fun b h1 h2 => ⟨h1, h2⟩), fun b h => h, hb⟩
theorem impl_cc_t {e : TypeId} {k n : Int} {v : Value} {zs : List Int} (h : (sliceT e u8T).rd l w [v] zs) (hl : l ≤ w.heap.size) (hk : (Lit.int .i64 k).wf = true) (hn : (Lit.int .i64 n).wf = true) (hz : zs.length ≤ 1073741824) : Calls Try.prog 63 #[.int .i64 k, .int .i64 n, v] w fun e w' => e = .returned (.int .i64 (chkv k n zs)) ∧ Below w.heap.size w w' := impl_cc (rd_of_sl h) hl hk hn hz
end

theorem vb_plain {x : VPlain} (h : tyPlain.tot x ≤ 1048576) : tyPlain.vcnt x ≤ 1099511627776 := by
  have h1 : totL u8T x.2 ≤ 1048576 := h
  have h2 : totL u8T x.2 = x.2.length := totL_int _ _ _ _
  show cntL u8T x.2 ≤ _
  have e : cntL u8T x.2 = x.2.length := cntL_int _ _ _ _
  rw [e]; omega
theorem vb_b {e : TypeId} {xs : List Int} (h : xs.length ≤ 1048576) : (sliceT e u8T).vcnt xs ≤ 1099511627776 := by
  have e1 : (sliceT e u8T).vcnt xs = xs.length := cntL_int _ _ _ _
  rw [e1]; omega
theorem vb_seal (k n d : Int) (b : List Int) : (sliceT 5 u8T).vcnt (sealL k n d b) ≤ 1099511627776 := vb_b (by have := sealL_len k n d b; omega)
theorem vb_cov (s n : Int) : (sliceT 5 u8T).vcnt (strm s n) ≤ 1099511627776 := vb_b (by have := strm_len s n; omega)

end Go.Proofs.Ytbimihljaalllaa
