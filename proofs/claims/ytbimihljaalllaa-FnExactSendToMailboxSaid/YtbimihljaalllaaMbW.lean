/- Chapter 14's contracts in the words of the exact laws: MailboxRow, IsValidMailbox, SendToMailbox, DirectionKey, CountCollisions, FreeRound. No conditions but numbers and lengths that a machine holds. -/
import Derived.Test.YtbimihljaalllaaMb3
import Derived.Test.YtbimihljaalllaaMb5
import Derived.Test.YtbimihljaalllaaHp14
import Derived.Test.YtbimihljaalllaaBaX
namespace Go.Proofs.Ytbimihljaalllaa
open Go Go.RowKit
set_option linter.unusedVariables false
attribute [local irreducible] kh kid

section
variable {l : Nat} {w : World} {c : List Value} {x : VMailbox}
theorem spec_mrow_t {k r d n : Int} (hk : (Lit.int .i64 k).wf = true) (hr : (Lit.int .i64 r).wf = true) (hd : (Lit.int .i64 d).wf = true) (hn : (Lit.int .i64 n).wf = true) : Calls Try.prog 16 #[.int .i64 k, .int .i64 r, .int .i64 d, .int .i64 n] w fun e w' => e = .returned (.int .i64 (mrow k r d n)) ∧ Below w.heap.size w w' := spec_mrow hk hr hd hn
theorem impl_mrow_t {k r d n : Int} (hk : (Lit.int .i64 k).wf = true) (hr : (Lit.int .i64 r).wf = true) (hd : (Lit.int .i64 d).wf = true) (hn : (Lit.int .i64 n).wf = true) : Calls Try.prog 17 #[.int .i64 k, .int .i64 r, .int .i64 d, .int .i64 n] w fun e w' => e = .returned (.int .i64 (mrow k r d n)) ∧ Below w.heap.size w w' := impl_mrow hk hr hd hn
theorem spec_dk_t {k n : Int} (hk : (Lit.int .i64 k).wf = true) (hn : (Lit.int .i64 n).wf = true) : Calls Try.prog 47 #[.int .i64 k, .int .i64 n] w fun e w' => e = .returned (.int .i64 (dkey k n)) ∧ Below w.heap.size w w' := spec_dk hk hn
theorem impl_dk_t {k n : Int} (hk : (Lit.int .i64 k).wf = true) (hn : (Lit.int .i64 n).wf = true) : Calls Try.prog 66 #[.int .i64 k, .int .i64 n] w fun e w' => e = .returned (.int .i64 (dkey k n)) ∧ Below w.heap.size w w' := impl_dk hk hn
theorem spec_vm_t (h : tyMailbox.rd l w c x) (hl : l ≤ w.heap.size) : Calls Try.prog 48 #[.agg c.toArray] w fun e w' => e = .returned (.bool (okM x.1 x.2.1 x.2.2)) ∧ Below w.heap.size w w' := by
  obtain ⟨rfl, h0, h1, h2⟩ := rd_Mailbox h
  exact spec_vm h0 h1 h2
theorem spec_sd_t {e : TypeId} {l2 : Nat} {v : Value} {zs : List Int} {d : Int} (h : tyMailbox.rd l w c x) (hl : l ≤ w.heap.size) (h' : (sliceT e u8T).rd l2 w [v] zs) (hl2 : l2 ≤ w.heap.size) (hd : (Lit.int .i64 d).wf = true) : Calls Try.prog 18 #[.agg c.toArray, .int .i64 d, v] w fun e w' => ∃ (c' : List Value) (v' : Value) (F1 F2 : Nat → Prop), e = .returned (.tuple #[.agg c'.toArray, v', .bool (sdok x.1 x.2.1 x.2.2 d zs)]) ∧ tyMailbox.own F1 w' c' (x.1, sdS x.1 x.2.1 x.2.2 d zs, x.2.2) ∧ (sliceT 5 u8T).own F2 w' [v'] (sdL x.1 x.2.1 x.2.2 d zs) ∧ (∀ b, F1 b → w.heap.size ≤ b ∧ b < w'.heap.size) ∧ (∀ b, F2 b → w.heap.size ≤ b ∧ b < w'.heap.size) ∧ (∀ b, F1 b → ¬ F2 b) ∧ Below w.heap.size w w' := by
  obtain ⟨rfl, h0, h1, h2⟩ := rd_Mailbox h
  have hr := rd_of_sl h'
  obtain ⟨a, cap, rfl, _⟩ := hr.open
  refine (spec_sd hr hl2 h0 h1 h2 hd).mono ?_
  rintro e w' ⟨v', he, hO, hb⟩
  exact ⟨_, v', fun _ => False, ival w.heap.size w'.heap.size, he, own_mkMailbox (x := (x.1, sdS x.1 x.2.1 x.2.2 d zs, x.2.2)) h0 (sdS_bound h1) h2, slo_of_own hO (fun b h1 h2 => ⟨h1, h2⟩), fun b h => h.elim, fun b h => h, fun b h => h.elim, hb⟩
theorem impl_sd_t {e : TypeId} {l2 : Nat} {v : Value} {zs : List Int} {d : Int} (h : tyMailbox.rd l w c x) (hl : l ≤ w.heap.size) (h' : (sliceT e u8T).rd l2 w [v] zs) (hl2 : l2 ≤ w.heap.size) (hd : (Lit.int .i64 d).wf = true) : Calls Try.prog 21 #[.agg c.toArray, .int .i64 d, v] w fun e w' => ∃ (c' : List Value) (v' : Value) (F1 F2 : Nat → Prop), e = .returned (.tuple #[.agg c'.toArray, v', .bool (sdok x.1 x.2.1 x.2.2 d zs)]) ∧ tyMailbox.own F1 w' c' (x.1, sdS x.1 x.2.1 x.2.2 d zs, x.2.2) ∧ (sliceT 5 u8T).own F2 w' [v'] (sdL x.1 x.2.1 x.2.2 d zs) ∧ (∀ b, F1 b → w.heap.size ≤ b ∧ b < w'.heap.size) ∧ (∀ b, F2 b → w.heap.size ≤ b ∧ b < w'.heap.size) ∧ (∀ b, F1 b → ¬ F2 b) ∧ Below w.heap.size w w' := by
  obtain ⟨rfl, h0, h1, h2⟩ := rd_Mailbox h
  have hr := rd_of_sl h'
  obtain ⟨a, cap, rfl, _⟩ := hr.open
  refine (impl_sd hr hl2 h0 h1 h2 hd).mono ?_
  rintro e w' ⟨v', he, hO, hb⟩
  exact ⟨_, v', fun _ => False, ival w.heap.size w'.heap.size, he, own_mkMailbox (x := (x.1, sdS x.1 x.2.1 x.2.2 d zs, x.2.2)) h0 (sdS_bound h1) h2, slo_of_own hO (fun b h1 h2 => ⟨h1, h2⟩), fun b h => h.elim, fun b h => h, fun b h => h.elim, hb⟩
theorem spec_col_t {e : TypeId} {v : Value} {zs : List Int} (h : (sliceT e i64T).rd l w [v] zs) (hl : l ≤ w.heap.size) : Calls Try.prog 51 #[v] w fun e w' => e = .returned (.int .i64 (col zs)) ∧ Below w.heap.size w w' := spec_col (rd_of_sl h) hl
theorem impl_col_t {e : TypeId} {v : Value} {zs : List Int} (h : (sliceT e i64T).rd l w [v] zs) (hl : l ≤ w.heap.size) : Calls Try.prog 54 #[v] w fun e w' => e = .returned (.int .i64 (col zs)) ∧ Below w.heap.size w w' := impl_col (rd_of_sl h) hl
theorem spec_fr_t {e : TypeId} {v : Value} {zs : List Int} {r n : Int} (h : (sliceT e i64T).rd l w [v] zs) (hl : l ≤ w.heap.size) (hr : (Lit.int .i64 r).wf = true) (hn : (Lit.int .i64 n).wf = true) (hz : zs.length ≤ 1073741824) : Calls Try.prog 23 #[v, .int .i64 r, .int .i64 n] w fun e w' => e = .returned (.int .i64 (fr zs r n)) ∧ Below w.heap.size w w' := spec_fr (rd_of_sl h) hl hr hn hz
theorem impl_fr_t {e : TypeId} {v : Value} {zs : List Int} {r n : Int} (h : (sliceT e i64T).rd l w [v] zs) (hl : l ≤ w.heap.size) (hr : (Lit.int .i64 r).wf = true) (hn : (Lit.int .i64 n).wf = true) (hz : zs.length ≤ 1073741824) : Calls Try.prog 25 #[v, .int .i64 r, .int .i64 n] w fun e w' => e = .returned (.int .i64 (fr zs r n)) ∧ Below w.heap.size w w' := impl_fr (rd_of_sl h) hl hr hn
end

theorem vb_bm {e : TypeId} {xs : List Int} (h : xs.length ≤ 1048576) : (sliceT e u8T).vcnt xs ≤ 1099511627776 := by
  have e1 : (sliceT e u8T).vcnt xs = xs.length := cntL_int _ _ _ _
  rw [e1]; omega
theorem vb_send (k s r d : Int) (b : List Int) : (sliceT 5 u8T).vcnt (sdL k s r d b) ≤ 1099511627776 := vb_bm (by have := sdL_len k s r d b; omega)

end Go.Proofs.Ytbimihljaalllaa
