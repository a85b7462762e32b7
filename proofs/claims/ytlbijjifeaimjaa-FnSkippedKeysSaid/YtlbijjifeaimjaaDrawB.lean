/- Bytes drawn from the cursor. No conditions. -/
import Derived.Test.YtlbijjifeaimjaaBaD
import Derived.Test.YtlbijjifeaimjaaEnc
namespace Go.Proofs.Ytlbijjifeaimjaa
open Go Go.RowKit
set_option linter.unusedVariables false

/-- A store into a row of the call's own is, to the world before, a new block. -/
theorem grown_own {a b c : World} {r : Option Nat} {row : Option Nat} (h : a.grownBy b row) (k : b.grownBy c r) (hr : ∀ x, r = some x → a.heap.size ≤ x) : a.grownBy c row :=
  ⟨k.os.trans h.os, k.tape.trans h.tape, k.output.trans h.output, Nat.le_trans h.size k.size, fun j hj hn =>
    (k.block j (Nat.lt_of_lt_of_le hj h.size) (fun e => by have := hr j e.symm; omega)).trans (h.block j hj hn)⟩

theorem Cur.kept {B b : Nat} {w w' : World} {row : Option Nat} (h : Cur B b w) (hg : w.grownBy w' row) (hne : row ≠ some b) (hB : ∀ r, row = some r → B ≤ r) : Cur B b w' := by
  obtain ⟨a, len, cap, zs, i, q, h1, h2, h3, h4⟩ := h
  have hlt := lt_of_block h2
  refine ⟨a, len, cap, zs, i, q, h1, ?_, h3, h4.behind ?_⟩
  · rw [hg.block b hlt (fun e => hne e.symm)]; exact h2
  · exact ⟨hg.os, hg.tape, hg.output, hg.size, fun k hk => hg.block k (by omega) (fun e => by have := hB k e.symm; omega)⟩

theorem Own.cur {e : TypeId} {k : IntKind} {B b : Nat} {w w' : World} {v : Value} {zs : List Int} (h : Own e k B w v zs) (hb : b < B) (hg : w.grownBy w' (some b)) : Own e k B w' v zs := by
  refine h.kept hg ?_
  cases hv : v.ownBlock with
  | none => exact .inl rfl
  | some r =>
    right
    intro he
    injection he with he
    have := (h.lt r hv).1
    omega

/-- What a drawn row is told of. -/
def BytesOut (B b : Nat) (lo hi : Nat) (w : World) (e : Ending) (w' : World) : Prop :=
  ∃ v zs, e = .returned v ∧ Own 5 .u8 w.heap.size w' v zs ∧ lo ≤ zs.length ∧ zs.length ≤ hi ∧ Cur B b w' ∧ w.grownBy w' (some b)

/-- A row and a number. -/
def RowNum (B : Nat) (n : Nat) (w : World) (e : Ending) (w' : World) : Prop :=
  ∃ v zs x, e = .returned (.tuple #[v, .int .i64 x]) ∧ (Lit.int .i64 x).wf = true ∧ Own 5 .u8 B w' v zs ∧ zs.length ≤ n ∧ Below B w w'

end Go.Proofs.Ytlbijjifeaimjaa
