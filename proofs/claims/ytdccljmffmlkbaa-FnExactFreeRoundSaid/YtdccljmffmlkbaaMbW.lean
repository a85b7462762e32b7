/- Chapter 14's contracts in the words of the exact laws: MailboxRow, IsValidMailbox, SendToMailbox, DirectionKey, CountCollisions, FreeRound. No conditions but numbers and lengths that a machine holds. -/
import Derived.Test.YtdccljmffmlkbaaMb3
import Derived.Test.YtdccljmffmlkbaaMb5
import Derived.Test.YtdccljmffmlkbaaHp14
import Derived.Test.YtdccljmffmlkbaaBaX
namespace Go.Proofs.Ytdccljmffmlkbaa
open Go Go.RowKit
set_option linter.unusedVariables false
attribute [local irreducible] kh kid

section
variable {l : Nat} {w : World} {c : List Value} {x : VMailbox}
theorem spec_mrow_t {k r d n : Int} (hk : (Lit.int .i64 k).wf = true) (hr : (Lit.int .i64 r).wf = true) (hd : (Lit.int .i64 d).wf = true) (hn : (Lit.int .i64 n).wf = true) : Calls Try.prog 29 #[.int .i64 k, .int .i64 r, .int .i64 d, .int .i64 n] w fun e w' => e = .returned (.int .i64 (mrow k r d n)) ∧ Below w.heap.size w w' := spec_mrow hk hr hd hn
theorem impl_mrow_t {k r d n : Int} (hk : (Lit.int .i64 k).wf = true) (hr : (Lit.int .i64 r).wf = true) (hd : (Lit.int .i64 d).wf = true) (hn : (Lit.int .i64 n).wf = true) : Calls Try.prog 47 #[.int .i64 k, .int .i64 r, .int .i64 d, .int .i64 n] w fun e w' => e = .returned (.int .i64 (mrow k r d n)) ∧ Below w.heap.size w w' := impl_mrow hk hr hd hn
theorem spec_col_t {e : TypeId} {v : Value} {zs : List Int} (h : (sliceT e i64T).rd l w [v] zs) (hl : l ≤ w.heap.size) : Calls Try.prog 9 #[v] w fun e w' => e = .returned (.int .i64 (col zs)) ∧ Below w.heap.size w w' := spec_col (rd_of_sl h) hl
theorem impl_col_t {e : TypeId} {v : Value} {zs : List Int} (h : (sliceT e i64T).rd l w [v] zs) (hl : l ≤ w.heap.size) : Calls Try.prog 11 #[v] w fun e w' => e = .returned (.int .i64 (col zs)) ∧ Below w.heap.size w w' := impl_col (rd_of_sl h) hl
theorem spec_fr_t {e : TypeId} {v : Value} {zs : List Int} {r n : Int} (h : (sliceT e i64T).rd l w [v] zs) (hl : l ≤ w.heap.size) (hr : (Lit.int .i64 r).wf = true) (hn : (Lit.int .i64 n).wf = true) (hz : zs.length ≤ 1073741824) : Calls Try.prog 13 #[v, .int .i64 r, .int .i64 n] w fun e w' => e = .returned (.int .i64 (fr zs r n)) ∧ Below w.heap.size w w' := spec_fr (rd_of_sl h) hl hr hn hz
theorem impl_fr_t {e : TypeId} {v : Value} {zs : List Int} {r n : Int} (h : (sliceT e i64T).rd l w [v] zs) (hl : l ≤ w.heap.size) (hr : (Lit.int .i64 r).wf = true) (hn : (Lit.int .i64 n).wf = true) (hz : zs.length ≤ 1073741824) : Calls Try.prog 14 #[v, .int .i64 r, .int .i64 n] w fun e w' => e = .returned (.int .i64 (fr zs r n)) ∧ Below w.heap.size w w' := impl_fr (rd_of_sl h) hl hr hn
end

theorem vb_bm {e : TypeId} {xs : List Int} (h : xs.length ≤ 1048576) : (sliceT e u8T).vcnt xs ≤ 1099511627776 := by
  have e1 : (sliceT e u8T).vcnt xs = xs.length := cntL_int _ _ _ _
  rw [e1]; omega
theorem vb_send (k s r d : Int) (b : List Int) : (sliceT 5 u8T).vcnt (sdL k s r d b) ≤ 1099511627776 := vb_bm (by have := sdL_len k s r d b; omega)

end Go.Proofs.Ytdccljmffmlkbaa
