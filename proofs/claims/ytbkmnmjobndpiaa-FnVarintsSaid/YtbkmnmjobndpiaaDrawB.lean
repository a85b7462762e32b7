/- Bytes drawn from the cursor. No conditions. -/
import Derived.Test.YtbkmnmjobndpiaaDrawNum
import Derived.Test.YtbkmnmjobndpiaaEnc4
namespace Go.Proofs.Ytbkmnmjobndpiaa
open Go Go.RowKit
set_option linter.unusedVariables false

/-- A store into a row of the call's own is, to the world before, a new block. -/
theorem grown_own {a b c : World} {r : Option Nat} {row : Option Nat} (h : a.grownBy b row) (k : b.grownBy c r) (hr : ∀ x, r = some x → a.heap.size ≤ x) : a.grownBy c row :=
  ⟨k.os.trans h.os, k.tape.trans h.tape, k.output.trans h.output, Nat.le_trans h.size k.size, fun j hj hn =>
    (k.block j (Nat.lt_of_lt_of_le hj h.size) (fun e => by have := hr j e.symm; omega)).trans (h.block j hj hn)⟩

theorem Cur.kept {B b : Nat} {w w' : World} {row : Option Nat} (h : Cur B b w) (hg : w.grownBy w' row) (hne : row ≠ some b) (hB : ∀ r, row = some r → B ≤ r) : Cur B b w' := by
  obtain ⟨a, len, cap, zs, i, q, h1, h2, h3, h4⟩ := h
  have hlt := lt_of_block h2
  refine ⟨a, len, cap, zs, i, q, h1, ?_, h3, h4.behind ?_⟩
  · rw [hg.block b hlt (fun e => hne e.symm)]; exact h2
  · exact ⟨hg.os, hg.tape, hg.output, hg.size, fun k hk => hg.block k (by omega) (fun e => by have := hB k e.symm; omega)⟩

theorem Own.cur {e : TypeId} {k : IntKind} {B b : Nat} {w w' : World} {v : Value} {zs : List Int} (h : Own e k B w v zs) (hb : b < B) (hg : w.grownBy w' (some b)) : Own e k B w' v zs := by
  refine h.kept hg ?_
  cases hv : v.ownBlock with
  | none => exact .inl rfl
  | some r =>
    right
    intro he
    injection he with he
    have := (h.lt r hv).1
    omega

/-- What a drawn row is told of. -/
def BytesOut (B b : Nat) (lo hi : Nat) (w : World) (e : Ending) (w' : World) : Prop :=
  ∃ v zs, e = .returned v ∧ Own 5 .u8 w.heap.size w' v zs ∧ lo ≤ zs.length ∧ zs.length ≤ hi ∧ Cur B b w' ∧ w.grownBy w' (some b)

set_option maxHeartbeats 1000000 in
/-- spec.l1Bytes: n bytes. -/
theorem bytes_any (B b : Nat) (n : Nat) (w : World) (h : Cur B b w) (hn : n ≤ 1000000) :
    Calls Try.prog 42 #[.pointer (some ⟨b, 0, none⟩), .int .i64 n] w (BytesOut B b n n w) := by
  obtain ⟨i0, hi, hz0, hz1, hz2⟩ := info_parts infou8
  have Hhi := Lib.hid hi
  have H := Lib.hid h
  clear h hi
  go_enter Try.func42, Try.ntmps42
  go_wp2_with fail
  go_loopw [5, 6] (fun s i wr => ∃ (j : Nat) (zs : List Int), i = .int .i64 j ∧ j ≤ n ∧ zs.length = j ∧ Own 5 .u8 w.heap.size wr s zs ∧ Cur B b wr ∧ w.grownBy wr (some b)) (fun _ i _ => n - (intOf i).toNat)
  case atStart => exact ⟨0, [], rfl, Nat.zero_le _, rfl, Own.lit _ _ (Nat.le_refl _), H.out.alloc _, World.grownBy_alloc _ _ _⟩
  case round =>
    obtain ⟨j, zs, rfl, hj, hl, hO, hC, hG⟩ := hrel
    have HO := Lib.hid hO
    have HC := Lib.hid hC
    have HG := Lib.hid hG
    have HL := Lib.hid hl
    have hl' : zs.length ≤ 1000000 := by omega
    clear hO hC hG hl
    by_cases hlt : j < n
    · have e1 : decide ((j : Int) < (n : Int)) = true := by simp; omega
      go_wp2_with fail
      refine (byte_any B b _ HC.out).mono ?_
      rintro e w1 ⟨x, x0, x1, rfl, hc1, hg1⟩
      have HC1 := Lib.hid (hc1.alloc (.cells #[.int .u8 x] 5))
      have hb := H.out.lt
      have HO1 := Lib.hid ((HO.out.cur hb.2 hg1).alloc (.cells #[.int .u8 x] 5))
      have HG1 := Lib.hid (grown_trans HG.out (grown_trans hg1 (World.grownBy_alloc w1 (.cells #[.int .u8 x] 5) (some b))))
      have hx8 : x % 256 = x := by omega
      clear hc1 hg1
      go_wp2_with (first | (at_builtin; refine append_rd _ rfl _ _ 22 rfl 5 i0 (.int .u8 0) 1 Try.underlying22 Hhi.out hz0 hz1 hz2 rfl (by omega) rfl HO1.out rfl (Rd.one _ _ _ _ (wf_u8_of (by omega) (by omega))) (by simp; omega) ?_))
      intro v2 w2 h3 h4
      have hr := fun r hr => (HO1.out.lt r hr).1
      have HC2 := Lib.hid (HC1.out.kept h4 (fun e => by have := hr b e; omega) (fun r e => by have := hr r e; omega))
      have HG2 := Lib.hid (grown_own HG1.out h4 hr)
      have H3 := Lib.hid h3
      clear h3 h4 hr
      go_wp2_with fail
      go_roundw
      case rel => exact ⟨j + 1, zs ++ [x], by simp, hlt, by simp [HL.out], H3.out, HC2.out, HG2.out⟩
      case measure => simp [intOf]; omega
    · have e1 : decide ((j : Int) < (n : Int)) = false := by simp; omega
      have hjn : j = n := by omega
      have HJ := Lib.hid hjn
      clear hjn
      go_wp2_with fail
      go_ret
      have h1 := HJ.out
      have h2 := HL.out
      exact ⟨_, zs, rfl, HO.out, by omega, by omega, HC.out, HG.out⟩

/-- A row and a number. -/
def RowNum (B : Nat) (n : Nat) (w : World) (e : Ending) (w' : World) : Prop :=
  ∃ v zs x, e = .returned (.tuple #[v, .int .i64 x]) ∧ (Lit.int .i64 x).wf = true ∧ Own 5 .u8 B w' v zs ∧ zs.length ≤ n ∧ Below B w w'

/-- spec.DrawAppendUvarint. -/
theorem draw_au (a : Option Addr) (len cap : Nat) (zs : List Int) (w : World) (hrow : RowB w.heap.size .u8 w a len cap zs) (hl : len ≤ maxLen) :
    Calls Try.prog 13 #[.slice a len cap] w (RowNum w.heap.size 2 w) := by
  have HR := Lib.hid hrow
  clear hrow
  go_enter Try.func13, Try.ntmps13
  go_wp2_with fail
  refine (new_any w.heap.size a len cap zs _ (Nat.le_refl _) HR.out hl).mono ?_
  rintro e w1 ⟨rfl, hc, hg⟩
  have HC := Lib.hid hc
  have HG := Lib.hid (grown_none (r := some w.heap.size) hg)
  clear hc hg
  go_wp2_with fail
  refine (below_any w.heap.size w.heap.size 3 _ HC.out (by omega) (by omega)).mono ?_
  rintro e w2 ⟨x, x0, x1, rfl, hc2, hg2⟩
  obtain ⟨n, rfl⟩ : ∃ n : Nat, x = (n : Int) := ⟨x.toNat, by omega⟩
  have HC2 := Lib.hid hc2
  have HG2 := Lib.hid (grown_trans HG.out hg2)
  clear hc2 hg2
  go_wp2_with fail
  refine (bytes_any w.heap.size w.heap.size n _ HC2.out (by omega)).mono ?_
  rintro e w3 ⟨v, ys, rfl, hO, l1, l2, hc3, hg3⟩
  have HC3 := Lib.hid hc3
  have HO3 := Lib.hid hO
  have HG3 := Lib.hid (grown_trans HG2.out hg3)
  clear hc3 hO hg3
  go_wp2_with fail
  refine (one_any w.heap.size w.heap.size _ HC3.out).mono ?_
  rintro e w4 ⟨y, y0, y1, rfl, hc4, hg4⟩
  have HO4 := Lib.hid ((HO3.out.cur HC2.out.lt.2 hg4).mono HG2.out.size)
  have HG4 := Lib.hid (below_of_grown (B := w.heap.size) (grown_trans HG3.out hg4) (Nat.le_refl _) (Nat.le_refl _))
  clear hc4 hg4
  go_wp2_with fail
  go_ret2
  exact ⟨v, ys, y, rfl, wf_i64_of y0 y1, HO4.out, by omega, HG4.out⟩

/-- spec.DrawAppendBytes. -/
theorem draw_ab (a : Option Addr) (len cap : Nat) (zs : List Int) (w : World) (hrow : RowB w.heap.size .u8 w a len cap zs) (hl : len ≤ maxLen) :
    Calls Try.prog 19 #[.slice a len cap] w fun e w' => ∃ v u xs ys, e = .returned (.tuple #[v, u]) ∧ Own 5 .u8 w.heap.size w' v xs ∧ Own 5 .u8 w.heap.size w' u ys ∧ xs.length ≤ 2 ∧ ys.length ≤ 5 ∧ Below w.heap.size w w' := by
  have HR := Lib.hid hrow
  clear hrow
  go_enter Try.func19, Try.ntmps19
  go_wp2_with fail
  refine (new_any w.heap.size a len cap zs _ (Nat.le_refl _) HR.out hl).mono ?_
  rintro e w1 ⟨rfl, hc, hg⟩
  have HC := Lib.hid hc
  have HG := Lib.hid (grown_none (r := some w.heap.size) hg)
  clear hc hg
  go_wp2_with fail
  refine (below_any w.heap.size w.heap.size 3 _ HC.out (by omega) (by omega)).mono ?_
  rintro e w2 ⟨x, x0, x1, rfl, hc2, hg2⟩
  obtain ⟨n, rfl⟩ : ∃ n : Nat, x = (n : Int) := ⟨x.toNat, by omega⟩
  have HC2 := Lib.hid hc2
  have HG2 := Lib.hid (grown_trans HG.out hg2)
  clear hc2 hg2
  go_wp2_with fail
  refine (bytes_any w.heap.size w.heap.size n _ HC2.out (by omega)).mono ?_
  rintro e w3 ⟨v, xs, rfl, hO, l1, l2, hc3, hg3⟩
  have HC3 := Lib.hid hc3
  have HO3 := Lib.hid hO
  have HG3 := Lib.hid (grown_trans HG2.out hg3)
  clear hc3 hO hg3
  go_wp2_with fail
  refine (below_any w.heap.size w.heap.size 6 _ HC3.out (by omega) (by omega)).mono ?_
  rintro e w4 ⟨y, y0, y1, rfl, hc4, hg4⟩
  obtain ⟨m, rfl⟩ : ∃ n : Nat, y = (n : Int) := ⟨y.toNat, by omega⟩
  have HC4 := Lib.hid hc4
  have HO4 := Lib.hid (HO3.out.cur HC2.out.lt.2 hg4)
  have HG4 := Lib.hid (grown_trans HG3.out hg4)
  clear hc4 hg4
  go_wp2_with fail
  refine (bytes_any w.heap.size w.heap.size m _ HC4.out (by omega)).mono ?_
  rintro e w5 ⟨u, ys, rfl, hO, l3, l4, hc5, hg5⟩
  have HO5 := Lib.hid ((HO4.out.cur HC2.out.lt.2 hg5).mono HG2.out.size)
  have HU5 := Lib.hid (hO.mono HG4.out.size)
  have HG5 := Lib.hid (below_of_grown (B := w.heap.size) (grown_trans HG4.out hg5) (Nat.le_refl _) (Nat.le_refl _))
  clear hc5 hO hg5
  go_wp2_with fail
  go_ret2
  exact ⟨v, u, xs, ys, rfl, HO5.out, HU5.out, by omega, by omega, HG5.out⟩

set_option maxHeartbeats 1000000 in
/-- spec.DrawReadUvarint. -/
theorem draw_ru (a : Option Addr) (len cap : Nat) (zs : List Int) (w : World) (hrow : RowB w.heap.size .u8 w a len cap zs) (hl : len ≤ maxLen) :
    Calls Try.prog 17 #[.slice a len cap] w (RowNum w.heap.size 7 w) := by
  obtain ⟨i0, hi, hz0, hz1, hz2⟩ := info_parts infou8
  have Hhi := Lib.hid hi
  have HR := Lib.hid hrow
  clear hrow hi
  go_enter Try.func17, Try.ntmps17
  go_wp2_with fail
  refine (new_any w.heap.size a len cap zs _ (Nat.le_refl _) HR.out hl).mono ?_
  rintro e w1 ⟨rfl, hc, hg⟩
  have HC := Lib.hid hc
  have HG := Lib.hid (grown_none (r := some w.heap.size) hg)
  clear hc hg
  go_wp2_with fail
  refine (once_any w.heap.size w.heap.size 2 _ HC.out (by omega) (by omega)).mono ?_
  rintro e w2 ⟨t, rfl, hc2, hg2⟩
  have HC2 := Lib.hid hc2
  have HG2 := Lib.hid (grown_trans HG.out hg2)
  clear hc2 hg2
  cases t with
  | true =>
    go_wp2_with fail
    refine (bytes_any w.heap.size w.heap.size 1 _ HC2.out (by omega)).mono ?_
    rintro e w3 ⟨v, xs, rfl, hO, l1, l2, hc3, hg3⟩
    have HC3 := Lib.hid hc3
    have HO3 := Lib.hid hO
    have HG3 := Lib.hid (grown_trans HG2.out hg3)
    clear hc3 hO hg3
    go_wp2_with fail
    refine (num_any w.heap.size w.heap.size _ HC3.out).mono ?_
    rintro e w4 ⟨y, y0, y1, rfl, hc4, hg4⟩
    have HO4 := Lib.hid (HO3.out.cur HC2.out.lt.2 hg4)
    have HG4 := Lib.hid (grown_trans HG3.out hg4)
    have hux := uvz_len y
    clear hc4 hg4
    go_wp2_with fail
    refine (spec_au HO4.out.rd (Nat.le_refl _) (wf_i64_of (by omega) (by omega)) (by omega)).mono ?_
    rintro e w5 ⟨u, rfl, hO, hb⟩
    have HO5 := Lib.hid (hO.mono HG4.out.size)
    have HG5 := Lib.hid ((below_of_grown (B := w.heap.size) HG4.out (Nat.le_refl _) (Nat.le_refl _)).trans (hb.mono HG4.out.size))
    clear hO hb
    go_wp2_with fail
    go_ret2
    exact ⟨u, _, 1, rfl, wf_i64_of (by omega) (by omega), HO5.out, by rw [List.length_append]; omega, HG5.out⟩
  | false =>
    have HC2' := Lib.hid (HC2.out.alloc (.cells #[] 5))
    have HG2' := Lib.hid (grown_trans HG2.out (World.grownBy_alloc w2 (.cells #[] 5) (some w.heap.size)))
    go_wp2_with fail
    refine (below_any w.heap.size w.heap.size 8 _ HC2'.out (by omega) (by omega)).mono ?_
    rintro e w3 ⟨x, x0, x1, rfl, hc3, hg3⟩
    obtain ⟨n, rfl⟩ : ∃ n : Nat, x = (n : Int) := ⟨x.toNat, by omega⟩
    have HO3 := Lib.hid ((Own.lit (w := w2) (B := w2.heap.size) 5 .u8 (Nat.le_refl _)).cur HC2.out.lt.2 hg3)
    have HC3 := Lib.hid hc3
    have HG3 := Lib.hid (grown_trans HG2'.out hg3)
    clear hc3 hg3
    go_wp2_with fail
    go_loopw [5, 6] (fun s i wr => ∃ (j : Nat) (ys : List Int), i = .int .i64 j ∧ j + ys.length ≤ 7 ∧ Own 5 .u8 w2.heap.size wr s ys ∧ Cur w.heap.size w.heap.size wr ∧ w.grownBy wr (some w.heap.size)) (fun _ i _ => (intOf i).toNat)
    case atStart => exact ⟨n, [], rfl, by simp; omega, HO3.out, HC3.out, HG3.out⟩
    case round =>
      obtain ⟨j, ys, rfl, hj, hO, hC, hG⟩ := hrel
      have HO := Lib.hid hO
      have HC := Lib.hid hC
      have HG := Lib.hid hG
      have hb := HC2.out.lt
      have HLT := Lib.hid hb
      have hsz := Lib.hid HG2.out.size
      clear hO hC hG hb
      by_cases hlt : 0 < j
      · have e1 : decide ((0 : Int) < (j : Int)) = true := by simp; omega
        have hj' : ¬ j = 0 := by omega
        go_wp2_with fail
        refine (int_alloc w.heap.size w.heap.size 0 255 [128, 255, 0, 1, 127] 3 5 wr HC.out rfl (by omega) (by omega) (by intro x hx; simp at hx; omega)).mono ?_
        rintro e w4 ⟨x, x0, x1, rfl, hc4, hg4⟩
        have HC1 := Lib.hid (hc4.alloc (.cells #[.int .u8 x] 5))
        have HO1 := Lib.hid ((HO.out.cur HLT.out.2 hg4).alloc (.cells #[.int .u8 x] 5))
        have HG1 := Lib.hid (grown_trans HG.out (grown_trans hg4 (World.grownBy_alloc w4 (.cells #[.int .u8 x] 5) (some w.heap.size))))
        have hx8 : x % 256 = x := by omega
        clear hc4 hg4
        go_wp2_with (first | (at_builtin; refine append_rd _ rfl _ _ 22 rfl 5 i0 (.int .u8 0) 1 Try.underlying22 Hhi.out hz0 hz1 hz2 rfl (by omega) rfl HO1.out rfl (Rd.one _ _ _ _ (wf_u8_of (by omega) (by omega))) (by simp; omega) ?_))
        intro v2 w5 h3 h4
        have hr := fun r hr => (HO1.out.lt r hr).1
        have HC5 := Lib.hid (HC1.out.kept h4 (fun e => by have := hr _ e; have := HLT.out.2; omega) (fun r e => by have := hr r e; have := hsz.out; omega))
        have HG5 := Lib.hid (grown_own HG1.out h4 (fun r e => by have := hr r e; have := hsz.out; omega))
        have H3 := Lib.hid h3
        clear h3 h4 hr
        go_wp2_with fail
        go_roundw
        case rel => exact ⟨j - 1, ys ++ [x], by simp; omega, by simp; omega, H3.out, HC5.out, HG5.out⟩
        case measure => simp [intOf]; omega
      · have hj0 : j = 0 := by omega
        subst hj0
        go_wp2_with fail
        refine (below_any w.heap.size w.heap.size 4 _ HC.out (by omega) (by omega)).mono ?_
        rintro e w4 ⟨y, y0, y1, rfl, hc4, hg4⟩
        have HO4 := Lib.hid ((HO.out.cur HLT.out.2 hg4).mono hsz.out)
        have HG4 := Lib.hid (below_of_grown (B := w.heap.size) (grown_trans HG.out hg4) (Nat.le_refl _) (Nat.le_refl _))
        clear hc4 hg4
        go_wp2_with fail
        go_ret2
        exact ⟨_, ys, _, rfl, wf_i64_of (by omega) (by omega), HO4.out, by omega, HG4.out⟩

end Go.Proofs.Ytbkmnmjobndpiaa
