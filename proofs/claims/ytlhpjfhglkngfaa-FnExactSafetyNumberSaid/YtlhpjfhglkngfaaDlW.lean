/- Chapter 18's contracts in the words of the exact laws: NewIdentity, IsValidIdentity, SharedKey, DialRow, MakeInvitation, SafetyNumber. No conditions but numbers that a machine holds. -/
import Derived.Test.YtlhpjfhglkngfaaDl2
import Derived.Test.YtlhpjfhglkngfaaHp18
import Derived.Test.YtlhpjfhglkngfaaBaX
namespace Go.Proofs.Ytlhpjfhglkngfaa
open Go Go.RowKit
set_option linter.unusedVariables false
attribute [local irreducible] kh kid pwm tcm pw

theorem id_wf (s : Int) : (Lit.int .i64 (idS s)).wf = true ∧ (Lit.int .i64 (idP s)).wf = true := by
  have h1 := idS_bound s
  have h2 := idP_bound s
  exact ⟨wf_i64_of (by omega) (by omega), wf_i64_of (by omega) (by omega)⟩
section
variable {l : Nat} {w : World} {c : List Value} {x : VIdentity}
theorem spec_nid_t {s : Int} (hs : (Lit.int .i64 s).wf = true) : Calls Try.prog 9 #[.int .i64 s] w fun e w' => ∃ (c' : List Value) (F : Nat → Prop), e = .returned (.agg c'.toArray) ∧ tyIdentity.own F w' c' (idS s, idP s) ∧ (∀ b, F b → w.heap.size ≤ b ∧ b < w'.heap.size) ∧ Below w.heap.size w w' := by
  obtain ⟨h1, h2⟩ := id_wf s
  refine (spec_nid hs).mono ?_
  rintro e w' ⟨he, hb⟩
  exact ⟨[.int .i64 (idS s), .int .i64 (idP s)], fun _ => False, he, own_mkIdentity (x := (idS s, idP s)) h1 h2, fun b h => h.elim, hb⟩
theorem spec_vid_t (h : tyIdentity.rd l w c x) (hl : l ≤ w.heap.size) : Calls Try.prog 12 #[.agg c.toArray] w fun e w' => e = .returned (.bool (okId x.1 x.2)) ∧ Below w.heap.size w w' := by
  obtain ⟨rfl, h0, h1⟩ := rd_Identity h
  exact spec_vid h0 h1
theorem spec_shk_t {s t : Int} (hs : (Lit.int .i64 s).wf = true) (ht : (Lit.int .i64 t).wf = true) : Calls Try.prog 15 #[.int .i64 s, .int .i64 t] w fun e w' => e = .returned (.int .i64 (skey s t)) ∧ Below w.heap.size w w' := spec_shk hs ht
theorem spec_drow_t {s r n : Int} (hs : (Lit.int .i64 s).wf = true) (hr : (Lit.int .i64 r).wf = true) (hn : (Lit.int .i64 n).wf = true) : Calls Try.prog 17 #[.int .i64 s, .int .i64 r, .int .i64 n] w fun e w' => e = .returned (.int .i64 (drow s r n)) ∧ Below w.heap.size w w' := spec_drow hs hr hn
theorem spec_sfn_t {s t : Int} (hs : (Lit.int .i64 s).wf = true) (ht : (Lit.int .i64 t).wf = true) : Calls Try.prog 24 #[.int .i64 s, .int .i64 t] w fun e w' => e = .returned (.int .i64 (safe s t)) ∧ Below w.heap.size w w' := spec_sfn hs ht
theorem spec_mki_t {q r : Int} (h : tyIdentity.rd l w c x) (hl : l ≤ w.heap.size) (hq : (Lit.int .i64 q).wf = true) (hr : (Lit.int .i64 r).wf = true) : Calls Try.prog 19 #[.agg c.toArray, .int .i64 q, .int .i64 r] w fun e w' => ∃ (v : Value) (F : Nat → Prop), e = .returned (.tuple #[v, .bool (iok x.1 x.2 q r)]) ∧ (sliceT 5 u8T).own F w' [v] (icell x.1 x.2 q r) ∧ (∀ b, F b → w.heap.size ≤ b ∧ b < w'.heap.size) ∧ Below w.heap.size w w' := by
  obtain ⟨rfl, h0, h1⟩ := rd_Identity h
  refine (spec_mki h0 h1 hq hr).mono ?_
  rintro e w' ⟨v, he, hO, hb⟩
  exact ⟨v, ival w.heap.size w'.heap.size, he, slo_of_own hO (fun b h1 h2 => ⟨h1, h2⟩), fun b h => h, hb⟩
theorem impl_nid_t {s : Int} (hs : (Lit.int .i64 s).wf = true) : Calls Try.prog 10 #[.int .i64 s] w fun e w' => ∃ (c' : List Value) (F : Nat → Prop), e = .returned (.agg c'.toArray) ∧ tyIdentity.own F w' c' (idS s, idP s) ∧ (∀ b, F b → w.heap.size ≤ b ∧ b < w'.heap.size) ∧ Below w.heap.size w w' := by
  obtain ⟨h1, h2⟩ := id_wf s
  refine (impl_nid hs).mono ?_
  rintro e w' ⟨he, hb⟩
  exact ⟨[.int .i64 (idS s), .int .i64 (idP s)], fun _ => False, he, own_mkIdentity (x := (idS s, idP s)) h1 h2, fun b h => h.elim, hb⟩
theorem impl_vid_t (h : tyIdentity.rd l w c x) (hl : l ≤ w.heap.size) : Calls Try.prog 14 #[.agg c.toArray] w fun e w' => e = .returned (.bool (okId x.1 x.2)) ∧ Below w.heap.size w w' := by
  obtain ⟨rfl, h0, h1⟩ := rd_Identity h
  exact impl_vid h0 h1
theorem impl_shk_t {s t : Int} (hs : (Lit.int .i64 s).wf = true) (ht : (Lit.int .i64 t).wf = true) : Calls Try.prog 16 #[.int .i64 s, .int .i64 t] w fun e w' => e = .returned (.int .i64 (skey s t)) ∧ Below w.heap.size w w' := impl_shk hs ht
theorem impl_drow_t {s r n : Int} (hs : (Lit.int .i64 s).wf = true) (hr : (Lit.int .i64 r).wf = true) (hn : (Lit.int .i64 n).wf = true) : Calls Try.prog 18 #[.int .i64 s, .int .i64 r, .int .i64 n] w fun e w' => e = .returned (.int .i64 (drow s r n)) ∧ Below w.heap.size w w' := impl_drow hs hr hn
theorem impl_sfn_t {s t : Int} (hs : (Lit.int .i64 s).wf = true) (ht : (Lit.int .i64 t).wf = true) : Calls Try.prog 25 #[.int .i64 s, .int .i64 t] w fun e w' => e = .returned (.int .i64 (safe s t)) ∧ Below w.heap.size w w' := impl_sfn hs ht
theorem impl_mki_t {q r : Int} (h : tyIdentity.rd l w c x) (hl : l ≤ w.heap.size) (hq : (Lit.int .i64 q).wf = true) (hr : (Lit.int .i64 r).wf = true) : Calls Try.prog 20 #[.agg c.toArray, .int .i64 q, .int .i64 r] w fun e w' => ∃ (v : Value) (F : Nat → Prop), e = .returned (.tuple #[v, .bool (iok x.1 x.2 q r)]) ∧ (sliceT 5 u8T).own F w' [v] (icell x.1 x.2 q r) ∧ (∀ b, F b → w.heap.size ≤ b ∧ b < w'.heap.size) ∧ Below w.heap.size w w' := by
  obtain ⟨rfl, h0, h1⟩ := rd_Identity h
  refine (impl_mki h0 h1 hq hr).mono ?_
  rintro e w' ⟨v, he, hO, hb⟩
  exact ⟨v, ival w.heap.size w'.heap.size, he, slo_of_own hO (fun b h1 h2 => ⟨h1, h2⟩), fun b h => h, hb⟩
end

theorem vb_idt (x : VIdentity) : tyIdentity.vcnt x ≤ 1099511627776 := by
  have e1 : tyIdentity.vcnt x = 0 := rfl
  omega
theorem vb_bi {e : TypeId} {xs : List Int} (h : xs.length ≤ 1048576) : (sliceT e u8T).vcnt xs ≤ 1099511627776 := by
  have e1 : (sliceT e u8T).vcnt xs = xs.length := cntL_int _ _ _ _
  rw [e1]; omega
theorem vb_ic (s p c r : Int) : (sliceT 5 u8T).vcnt (icell s p c r) ≤ 1099511627776 := vb_bi (by have := icell_len s p c r; omega)

end Go.Proofs.Ytlhpjfhglkngfaa
