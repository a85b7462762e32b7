import Derived.Test.YtdeahjinnnhfkaaRows
import Derived.Test.YtdeahjinnnhfkaaRd
import Derived.Test.YtdeahjinnnhfkaaUpt
import Derived.Test.YtdeahjinnnhfkaaJ2
import Derived.Test.YtdeahjinnnhfkaaCopyByte
import Derived.WalkKit
import Derived.Handy
import Derived.Outline
import Derived.WalkSpells
import Derived.Deep.QuietTactic
import Derived.BigQuiet
import Derived.Lib.Hide
import Derived.Test.YtdeahjinnnhfkaaDrawNum

/- Chapter 2's appending functions, the program's and the document's: what each gives. No conditions but a length that a machine holds. -/
section
namespace Go.Proofs.Ytdeahjinnnhfkaa
open Go Go.RowKit
set_option linter.unusedVariables false

set_option maxHeartbeats 1000000 in
/-- impl.copyBytes: a row of its own with the same elements. -/
theorem copyBytes_any {lim : Nat} {w : World} {v : Value} {zs : List Int} (h : Rd lim .u8 w v zs) (hlim : lim ≤ w.heap.size) (hn : zs.length ≤ 140737488355328) :
    Calls Try.prog 58 #[v] w fun e w' => ∃ v', e = .returned v' ∧ Own 5 .u8 w.heap.size w' v' zs ∧ Below w.heap.size w w' := by
  obtain ⟨i0, hi, hz0, hz1, hz2⟩ := info_parts infou8
  have Hhi := Lib.hid hi
  have HR : Hid (Rd lim .u8 (w.alloc (.cells #[] 5)) v zs) := Lib.hid (h.behind (((Below.refl w.heap.size w).alloc (Nat.le_refl _) _).mono hlim))
  have HO : Hid (Own 5 .u8 w.heap.size (w.alloc (.cells #[] 5)) (.slice (some ⟨w.heap.size, 0, none⟩) 0 0) []) := Lib.hid (Own.lit _ _ (Nat.le_refl _))
  clear h hi
  go_enter Try.func58, Try.ntmps58
  go_wp2_with (first | (at_builtin; refine append_rd _ rfl _ _ 22 rfl 5 i0 (.int .u8 0) 1 Try.underlying22 Hhi.out hz0 hz1 hz2 rfl (by omega) rfl HO.out rfl HR.out (by simpa using hn) ?_))
  intro v' w' h1 h2
  have HB := Lib.hid ((((Below.refl w.heap.size w).alloc (Nat.le_refl _) _).trans (HO.out.below (Nat.le_refl _) h2)))
  have H1 := Lib.hid h1
  clear h1 h2
  go_wp2
  go_ret
  exact ⟨v', rfl, by simpa using H1.out, HB.out⟩

/-- Whether x lies between a and b. -/
def inR (x a b : Int) : Bool := decide (a ≤ x) && decide (x ≤ b)
theorem inR_yes {x a b : Int} (h : a ≤ x ∧ x ≤ b) : inR x a b = true := by simp [inR, h.1, h.2]
theorem inR_no {x a b : Int} (h : ¬ (a ≤ x ∧ x ≤ b)) : inR x a b = false := by
  rw [Bool.eq_false_iff]
  intro h'
  simp [inR] at h'
  exact h h'

theorem impl_in (x a b : Int) (w : World) (hx : (Lit.int .i64 x).wf = true) : Calls Try.prog 49 #[.int .i64 x, .int .i64 a, .int .i64 b] w fun e w' => e = .returned (.bool (inR x a b)) ∧ w' = w := by
  by_cases h1 : a ≤ x
  · have e1 : decide (a ≤ x) = true := by simpa using h1
    go_enter Try.func49, Try.ntmps49
    go_wp2
    go_ret
    unfold inR
    rw [e1]
    exact ⟨rfl, rfl⟩
  · have e1 : decide (a ≤ x) = false := by simpa using h1
    go_enter Try.func49, Try.ntmps49
    go_wp2
    go_ret
    unfold inR
    rw [e1]
    exact ⟨rfl, rfl⟩
theorem spec_in (x a b : Int) (w : World) (hx : (Lit.int .i64 x).wf = true) : Calls Try.prog 69 #[.int .i64 x, .int .i64 a, .int .i64 b] w fun e w' => e = .returned (.bool (inR x a b)) ∧ w' = w := by
  by_cases h1 : a ≤ x
  · have e1 : decide (a ≤ x) = true := by simpa using h1
    go_enter Try.func69, Try.ntmps69
    go_wp2
    go_ret
    unfold inR
    rw [e1]
    exact ⟨rfl, rfl⟩
  · have e1 : decide (a ≤ x) = false := by simpa using h1
    go_enter Try.func69, Try.ntmps69
    go_wp2
    go_ret
    unfold inR
    rw [e1]
    exact ⟨rfl, rfl⟩

end Go.Proofs.Ytdeahjinnnhfkaa
end

/- Bytes drawn from the cursor. No conditions. -/
section
namespace Go.Proofs.Ytdeahjinnnhfkaa
open Go Go.RowKit
set_option linter.unusedVariables false

/-- A store into a row of the call's own is, to the world before, a new block. -/
theorem grown_own {a b c : World} {r : Option Nat} {row : Option Nat} (h : a.grownBy b row) (k : b.grownBy c r) (hr : ∀ x, r = some x → a.heap.size ≤ x) : a.grownBy c row :=
  ⟨k.os.trans h.os, k.tape.trans h.tape, k.output.trans h.output, Nat.le_trans h.size k.size, fun j hj hn =>
    (k.block j (Nat.lt_of_lt_of_le hj h.size) (fun e => by have := hr j e.symm; omega)).trans (h.block j hj hn)⟩

theorem Cur.kept {B b : Nat} {w w' : World} {row : Option Nat} (h : Cur B b w) (hg : w.grownBy w' row) (hne : row ≠ some b) (hB : ∀ r, row = some r → B ≤ r) : Cur B b w' := by
  obtain ⟨a, len, cap, zs, i, q, h1, h2, h3, h4⟩ := h
  have hlt := lt_of_block h2
  refine ⟨a, len, cap, zs, i, q, h1, ?_, h3, h4.behind ?_⟩
  · rw [hg.block b hlt (fun e => hne e.symm)]; exact h2
  · exact ⟨hg.os, hg.tape, hg.output, hg.size, fun k hk => hg.block k (by omega) (fun e => by have := hB k e.symm; omega)⟩

theorem Own.cur {e : TypeId} {k : IntKind} {B b : Nat} {w w' : World} {v : Value} {zs : List Int} (h : Own e k B w v zs) (hb : b < B) (hg : w.grownBy w' (some b)) : Own e k B w' v zs := by
  refine h.kept hg ?_
  cases hv : v.ownBlock with
  | none => exact .inl rfl
  | some r =>
    right
    intro he
    injection he with he
    have := (h.lt r hv).1
    omega

/-- What a drawn row is told of. -/
def BytesOut (B b : Nat) (lo hi : Nat) (w : World) (e : Ending) (w' : World) : Prop :=
  ∃ v zs, e = .returned v ∧ Own 5 .u8 w.heap.size w' v zs ∧ lo ≤ zs.length ∧ zs.length ≤ hi ∧ Cur B b w' ∧ w.grownBy w' (some b)

set_option maxHeartbeats 1000000 in
/-- spec.l1Bytes: n bytes. -/
theorem bytes_any (B b : Nat) (n : Nat) (w : World) (h : Cur B b w) (hn : n ≤ 1000000) :
    Calls Try.prog 82 #[.pointer (some ⟨b, 0, none⟩), .int .i64 n] w (BytesOut B b n n w) := by
  obtain ⟨i0, hi, hz0, hz1, hz2⟩ := info_parts infou8
  have Hhi := Lib.hid hi
  have H := Lib.hid h
  clear h hi
  go_enter Try.func82, Try.ntmps82
  go_wp2_with fail
  go_loopw [5, 6] (fun s i wr => ∃ (j : Nat) (zs : List Int), i = .int .i64 j ∧ j ≤ n ∧ zs.length = j ∧ Own 5 .u8 w.heap.size wr s zs ∧ Cur B b wr ∧ w.grownBy wr (some b)) (fun _ i _ => n - (intOf i).toNat)
  case atStart => exact ⟨0, [], rfl, Nat.zero_le _, rfl, Own.lit _ _ (Nat.le_refl _), H.out.alloc _, World.grownBy_alloc _ _ _⟩
  case round =>
    obtain ⟨j, zs, rfl, hj, hl, hO, hC, hG⟩ := hrel
    have HO := Lib.hid hO
    have HC := Lib.hid hC
    have HG := Lib.hid hG
    have HL := Lib.hid hl
    have hl' : zs.length ≤ 1000000 := by omega
    clear hO hC hG hl
    by_cases hlt : j < n
    · have e1 : decide ((j : Int) < (n : Int)) = true := by simp; omega
      go_wp2_with fail
      refine (byte_any B b _ HC.out).mono ?_
      rintro e w1 ⟨x, x0, x1, rfl, hc1, hg1⟩
      have HC1 := Lib.hid (hc1.alloc (.cells #[.int .u8 x] 5))
      have hb := H.out.lt
      have HO1 := Lib.hid ((HO.out.cur hb.2 hg1).alloc (.cells #[.int .u8 x] 5))
      have HG1 := Lib.hid (grown_trans HG.out (grown_trans hg1 (World.grownBy_alloc w1 (.cells #[.int .u8 x] 5) (some b))))
      have hx8 : x % 256 = x := by omega
      clear hc1 hg1
      go_wp2_with (first | (at_builtin; refine append_rd _ rfl _ _ 22 rfl 5 i0 (.int .u8 0) 1 Try.underlying22 Hhi.out hz0 hz1 hz2 rfl (by omega) rfl HO1.out rfl (Rd.one _ _ _ _ (wf_u8_of (by omega) (by omega))) (by simp; omega) ?_))
      intro v2 w2 h3 h4
      have hr := fun r hr => (HO1.out.lt r hr).1
      have HC2 := Lib.hid (HC1.out.kept h4 (fun e => by have := hr b e; omega) (fun r e => by have := hr r e; omega))
      have HG2 := Lib.hid (grown_own HG1.out h4 hr)
      have H3 := Lib.hid h3
      clear h3 h4 hr
      go_wp2_with fail
      go_roundw
      case rel => exact ⟨j + 1, zs ++ [x], by simp, hlt, by simp [HL.out], H3.out, HC2.out, HG2.out⟩
      case measure => simp [intOf]; omega
    · have e1 : decide ((j : Int) < (n : Int)) = false := by simp; omega
      have hjn : j = n := by omega
      have HJ := Lib.hid hjn
      clear hjn
      go_wp2_with fail
      go_ret
      have h1 := HJ.out
      have h2 := HL.out
      exact ⟨_, zs, rfl, HO.out, by omega, by omega, HC.out, HG.out⟩

/-- A row and a number. -/
def RowNum (B : Nat) (n : Nat) (w : World) (e : Ending) (w' : World) : Prop :=
  ∃ v zs x, e = .returned (.tuple #[v, .int .i64 x]) ∧ (Lit.int .i64 x).wf = true ∧ Own 5 .u8 B w' v zs ∧ zs.length ≤ n ∧ Below B w w'

end Go.Proofs.Ytdeahjinnnhfkaa
end
