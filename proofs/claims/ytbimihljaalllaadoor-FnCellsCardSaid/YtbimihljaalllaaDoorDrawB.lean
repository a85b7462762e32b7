/- Bytes drawn from the cursor. No conditions. -/
import Derived.Test.YtbimihljaalllaaDoorBaD
import Derived.Test.YtbimihljaalllaaDoorEnc
namespace Go.Proofs.YtbimihljaalllaaDoor
open Go Go.RowKit
set_option linter.unusedVariables false

/-- A store into a row of the call's own is, to the world before, a new block. -/
theorem grown_own {a b c : World} {r : Option Nat} {row : Option Nat} (h : a.grownBy b row) (k : b.grownBy c r) (hr : ∀ x, r = some x → a.heap.size ≤ x) : a.grownBy c row :=
  ⟨k.os.trans h.os, k.tape.trans h.tape, k.output.trans h.output, Nat.le_trans h.size k.size, fun j hj hn =>
    (k.block j (Nat.lt_of_lt_of_le hj h.size) (fun e => by have := hr j e.symm; omega)).trans (h.block j hj hn)⟩

theorem Cur.kept {B b : Nat} {w w' : World} {row : Option Nat} (h : Cur B b w) (hg : w.grownBy w' row) (hne : row ≠ some b) (hB : ∀ r, row = some r → B ≤ r) : Cur B b w' := by
  obtain ⟨a, len, cap, zs, i, q, h1, h2, h3, h4⟩ := h
  have hlt := lt_of_block h2
  refine ⟨a, len, cap, zs, i, q, h1, ?_, h3, h4.behind ?_⟩
  · rw [hg.block b hlt (fun e => hne e.symm)]; exact h2
  · exact ⟨hg.os, hg.tape, hg.output, hg.size, fun k hk => hg.block k (by omega) (fun e => by have := hB k e.symm; omega)⟩

theorem Own.cur {e : TypeId} {k : IntKind} {B b : Nat} {w w' : World} {v : Value} {zs : List Int} (h : Own e k B w v zs) (hb : b < B) (hg : w.grownBy w' (some b)) : Own e k B w' v zs := by
  refine h.kept hg ?_
  cases hv : v.ownBlock with
  | none => exact .inl rfl
  | some r =>
    right
    intro he
    injection he with he
    have := (h.lt r hv).1
    omega

/-- What a drawn row is told of. -/
def BytesOut (B b : Nat) (lo hi : Nat) (w : World) (e : Ending) (w' : World) : Prop :=
  ∃ v zs, e = .returned v ∧ Own 5 .u8 w.heap.size w' v zs ∧ lo ≤ zs.length ∧ zs.length ≤ hi ∧ Cur B b w' ∧ w.grownBy w' (some b)

set_option maxHeartbeats 1000000 in
/-- spec.l1Bytes: n bytes. -/
theorem bytes_any (B b : Nat) (n : Nat) (w : World) (h : Cur B b w) (hn : n ≤ 1000000) :
    Calls Tryd.prog 94 #[.pointer (some ⟨b, 0, none⟩), .int .i64 n] w (BytesOut B b n n w) := by
  obtain ⟨i0, hi, hz0, hz1, hz2⟩ := info_parts infou8
  have Hhi := Lib.hid hi
  have H := Lib.hid h
  clear h hi
  go_enter Tryd.func94, Tryd.ntmps94
  go_wp2_with fail
  go_loopw [5, 6] (fun s i wr => ∃ (j : Nat) (zs : List Int), i = .int .i64 j ∧ j ≤ n ∧ zs.length = j ∧ Own 5 .u8 w.heap.size wr s zs ∧ Cur B b wr ∧ w.grownBy wr (some b)) (fun _ i _ => n - (intOf i).toNat)
  case atStart => exact ⟨0, [], rfl, Nat.zero_le _, rfl, Own.lit _ _ (Nat.le_refl _), H.out.alloc _, World.grownBy_alloc _ _ _⟩
  case round =>
    obtain ⟨j, zs, rfl, hj, hl, hO, hC, hG⟩ := hrel
    have HO := Lib.hid hO
    have HC := Lib.hid hC
    have HG := Lib.hid hG
    have HL := Lib.hid hl
    have hl' : zs.length ≤ 1000000 := by omega
    clear hO hC hG hl
    by_cases hlt : j < n
    · have e1 : decide ((j : Int) < (n : Int)) = true := by simp; omega
      go_wp2_with fail
      refine (byte_any B b _ HC.out).mono ?_
      rintro e w1 ⟨x, x0, x1, rfl, hc1, hg1⟩
      have HC1 := Lib.hid (hc1.alloc (.cells #[.int .u8 x] 5))
      have hb := H.out.lt
      have HO1 := Lib.hid ((HO.out.cur hb.2 hg1).alloc (.cells #[.int .u8 x] 5))
      have HG1 := Lib.hid (grown_trans HG.out (grown_trans hg1 (World.grownBy_alloc w1 (.cells #[.int .u8 x] 5) (some b))))
      have hx8 : x % 256 = x := by omega
      clear hc1 hg1
      go_wp2_with (first | (at_builtin; refine append_rd _ rfl _ _ 22 rfl 5 i0 (.int .u8 0) 1 Tryd.underlying22 Hhi.out hz0 hz1 hz2 rfl (by omega) rfl HO1.out rfl (Rd.one _ _ _ _ (wf_u8_of (by omega) (by omega))) (by simp; omega) ?_))
      intro v2 w2 h3 h4
      have hr := fun r hr => (HO1.out.lt r hr).1
      have HC2 := Lib.hid (HC1.out.kept h4 (fun e => by have := hr b e; omega) (fun r e => by have := hr r e; omega))
      have HG2 := Lib.hid (grown_own HG1.out h4 hr)
      have H3 := Lib.hid h3
      clear h3 h4 hr
      go_wp2_with fail
      go_roundw
      case rel => exact ⟨j + 1, zs ++ [x], by simp, hlt, by simp [HL.out], H3.out, HC2.out, HG2.out⟩
      case measure => simp [intOf]; omega
    · have e1 : decide ((j : Int) < (n : Int)) = false := by simp; omega
      have hjn : j = n := by omega
      have HJ := Lib.hid hjn
      clear hjn
      go_wp2_with fail
      go_ret
      have h1 := HJ.out
      have h2 := HL.out
      exact ⟨_, zs, rfl, HO.out, by omega, by omega, HC.out, HG.out⟩

/-- A row and a number. -/
def RowNum (B : Nat) (n : Nat) (w : World) (e : Ending) (w' : World) : Prop :=
  ∃ v zs x, e = .returned (.tuple #[v, .int .i64 x]) ∧ (Lit.int .i64 x).wf = true ∧ Own 5 .u8 B w' v zs ∧ zs.length ≤ n ∧ Below B w w'

end Go.Proofs.YtbimihljaalllaaDoor
