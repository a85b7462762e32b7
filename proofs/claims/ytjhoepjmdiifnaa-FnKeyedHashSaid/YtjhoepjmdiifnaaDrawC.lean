/- What chapter 3's laws draw. No conditions. -/
import Derived.Test.YtjhoepjmdiifnaaDrawB
import Derived.Test.YtjhoepjmdiifnaaDrawStr
import Derived.Test.YtjhoepjmdiifnaaCopyInt
namespace Go.Proofs.Ytjhoepjmdiifnaa
open Go Go.RowKit
set_option linter.unusedVariables false

/-- spec.l3Word. -/
theorem word_any (B b : Nat) (w : World) (h : Cur B b w) :
    Calls Try.prog 45 #[.pointer (some ⟨b, 0, none⟩)] w (StepOut B b (-1) 2147483648 w) := by
  have H := Lib.hid h
  clear h
  go_enter Try.func45, Try.ntmps45
  go_wp2_with fail
  refine (once_any B b _ _ H.out (by omega) (by omega)).mono ?_
  rintro e w1 ⟨t, rfl, hc, hg⟩
  cases t
  · go_wp2_with fail
    refine (once_any B b _ _ hc (by omega) (by omega)).mono ?_
    rintro e w2 ⟨t, rfl, hc2, hg2⟩
    cases t
    · go_wp2_with fail
      refine (below_any B b _ _ hc2 (by omega) (by omega)).mono ?_
      rintro e w3 ⟨y, y0, y1, rfl, hc3, hg3⟩
      go_wp2_with fail
      refine (below_any B b _ _ hc3 (by omega) (by omega)).mono ?_
      rintro e w4 ⟨z, z0, z1, rfl, hc4, hg4⟩
      have m0 : 0 ≤ y * z := Int.mul_nonneg y0 z0
      have m1 : y * z ≤ 999999 * 1999 := Int.mul_le_mul (by omega) (by omega) z0 (by omega)
      have m2 : y * z ≤ 2147483648 := by omega
      clear m1
      go_wp2_with fail
      go_ret
      exact ⟨_, by omega, m2, rfl, hc4, grown_trans hg (grown_trans hg2 (grown_trans hg3 hg4))⟩
    · go_wp2_with fail
      refine (int_alloc B b 0 2147483646 [0, 1, 2147483646] _ 3 _ hc2 rfl (by omega) (by omega) (by decide)).mono ?_
      rintro e w3 ⟨y, y0, y1, rfl, hc3, hg3⟩
      go_wp2_with fail
      go_ret
      exact ⟨y, by omega, by omega, rfl, hc3, grown_trans hg (grown_trans hg2 hg3)⟩
  · go_wp2_with fail
    refine (int_alloc B b (-1) 2147483648 [-1, 2147483647, 2147483648] _ 3 _ hc rfl (by omega) (by omega) (by decide)).mono ?_
    rintro e w2 ⟨y, y0, y1, rfl, hc2, hg2⟩
    go_wp2_with fail
    go_ret
    exact ⟨y, y0, y1, rfl, hc2, grown_trans hg hg2⟩

/-- A drawn row of numbers. -/
def IntsOut (B b : Nat) (n : Nat) (lo hi : Int) (w : World) (e : Ending) (w' : World) : Prop :=
  ∃ v zs, e = .returned v ∧ Own 3 .i64 w.heap.size w' v zs ∧ zs.length ≤ n ∧ (∀ z ∈ zs, lo ≤ z ∧ z ≤ hi) ∧ Cur B b w' ∧ w.grownBy w' (some b)

set_option maxHeartbeats 1000000 in
/-- spec.l3Words. -/
theorem words_any (B b : Nat) (w : World) (h : Cur B b w) :
    Calls Try.prog 51 #[.pointer (some ⟨b, 0, none⟩)] w (IntsOut B b 4 (-1) 2147483648 w) := by
  obtain ⟨i0, hi, hz0, hz1, hz2⟩ := info_parts infoi64
  have Hhi := Lib.hid hi
  have H := Lib.hid h
  have hb := h.lt
  have HLT := Lib.hid hb
  clear h hi hb
  go_enter Try.func51, Try.ntmps51
  go_wp2_with fail
  refine (below_any B b 5 _ (H.out.alloc _) (by omega) (by omega)).mono ?_
  rintro e w1 ⟨x, x0, x1, rfl, hc1, hg1⟩
  obtain ⟨n, rfl⟩ : ∃ n : Nat, x = (n : Int) := ⟨x.toNat, by omega⟩
  have HO1 := Lib.hid ((Own.lit (w := w) (B := w.heap.size) 3 .i64 (Nat.le_refl _)).cur HLT.out.2 hg1)
  have HC1 := Lib.hid hc1
  have HG1 := Lib.hid (grown_trans (World.grownBy_alloc w (.cells #[] 3) (some b)) hg1)
  clear hc1 hg1
  go_wp2_with fail
  go_loopw [3, 4] (fun s i wr => ∃ (j : Nat) (zs : List Int), i = .int .i64 j ∧ zs.length + j ≤ 4 ∧ (∀ z ∈ zs, -1 ≤ z ∧ z ≤ 2147483648) ∧ Own 3 .i64 w.heap.size wr s zs ∧ Cur B b wr ∧ w.grownBy wr (some b)) (fun _ i _ => (intOf i).toNat)
  case atStart => exact ⟨n, [], rfl, by simp; omega, by simp, HO1.out, HC1.out, HG1.out⟩
  case round =>
    obtain ⟨j, zs, rfl, hl, hz, hO, hC, hG⟩ := hrel
    have HO := Lib.hid hO
    have HC := Lib.hid hC
    have HG := Lib.hid hG
    have HZ := Lib.hid hz
    have HL := Lib.hid hl
    have hl' : zs.length ≤ 4 := by omega
    have hj4 : j ≤ 4 := by omega
    clear hO hC hG hz hl
    by_cases hlt : 0 < j
    · have e1 : decide ((0 : Int) < (j : Int)) = true := by simp; omega
      have hj' : ¬ j = 0 := by omega
      go_wp2_with fail
      refine (word_any B b _ HC.out).mono ?_
      rintro e w2 ⟨x, x0, x1, rfl, hc2, hg2⟩
      have HC2 := Lib.hid (hc2.alloc (.cells #[.int .i64 x] 3))
      have HO2 := Lib.hid ((HO.out.cur HLT.out.2 hg2).alloc (.cells #[.int .i64 x] 3))
      have HG2 := Lib.hid (grown_trans HG.out (grown_trans hg2 (World.grownBy_alloc w2 (.cells #[.int .i64 x] 3) (some b))))
      have HX := Lib.hid (And.intro x0 x1)
      clear hc2 hg2
      go_wp2_with (first | (at_builtin; refine append_rd _ rfl _ _ 28 rfl 3 i0 (.int .i64 0) 8 Try.underlying28 Hhi.out hz0 hz1 hz2 rfl (by omega) rfl HO2.out rfl (Rd.one _ _ _ _ (wf_i64_of (by omega) (by omega))) (by simp; omega) ?_))
      intro v2 w3 h3 h4
      have hr := fun r hr => (HO2.out.lt r hr).1
      have HC3 := Lib.hid (HC2.out.kept h4 (fun e => by have := hr b e; have := HLT.out.2; omega) (fun r e => by have := hr r e; have := HLT.out; omega))
      have HG3 := Lib.hid (grown_own HG2.out h4 hr)
      have H3 := Lib.hid h3
      clear h3 h4 hr
      go_wp2_with fail
      go_roundw
      case rel =>
        refine ⟨j - 1, zs ++ [x], by simp; omega, by have := HL.out; simp; omega, ?_, H3.out, HC3.out, HG3.out⟩
        intro z hz
        rcases List.mem_append.1 hz with h | h
        · exact HZ.out z h
        · simp at h; subst h; exact HX.out
      case measure => simp [intOf]; omega
    · have hj0 : j = 0 := by omega
      subst hj0
      go_wp2_with fail
      go_ret
      exact ⟨_, zs, rfl, HO.out, hl', HZ.out, HC.out, HG.out⟩

/-- spec.DrawEncrypt. -/
theorem draw_en (a : Option Addr) (len cap : Nat) (zs : List Int) (w : World) (hrow : RowB w.heap.size .u8 w a len cap zs) (hl : len ≤ maxLen) :
    Calls Try.prog 14 #[.slice a len cap] w fun e w' => ∃ x v ys, e = .returned (.tuple #[.int .i64 x, v]) ∧ (-1 ≤ x ∧ x ≤ 2147483648) ∧ Own 5 .u8 w.heap.size w' v ys ∧ ys.length ≤ 7 ∧ Below w.heap.size w w' := by
  have HR := Lib.hid hrow
  clear hrow
  go_enter Try.func14, Try.ntmps14
  go_wp2_with fail
  refine (new_any w.heap.size a len cap zs _ (Nat.le_refl _) HR.out hl).mono ?_
  rintro e w1 ⟨rfl, hc, hg⟩
  have HC := Lib.hid hc
  have HG := Lib.hid (grown_none (r := some w.heap.size) hg)
  clear hc hg
  go_wp2_with fail
  refine (word_any w.heap.size w.heap.size _ HC.out).mono ?_
  rintro e w2 ⟨x, x0, x1, rfl, hc2, hg2⟩
  have HX := Lib.hid (And.intro x0 x1)
  have HC2 := Lib.hid hc2
  have HG2 := Lib.hid (grown_trans HG.out hg2)
  clear hc2 hg2
  go_wp2_with fail
  refine (below_any w.heap.size w.heap.size 8 _ HC2.out (by omega) (by omega)).mono ?_
  rintro e w3 ⟨y, y0, y1, rfl, hc3, hg3⟩
  obtain ⟨n, rfl⟩ : ∃ n : Nat, y = (n : Int) := ⟨y.toNat, by omega⟩
  have HC3 := Lib.hid hc3
  have HG3 := Lib.hid (grown_trans HG2.out hg3)
  clear hc3 hg3
  go_wp2_with fail
  refine (bytes_any w.heap.size w.heap.size n _ HC3.out (by omega)).mono ?_
  rintro e w4 ⟨v, ys, rfl, hO, l1, l2, hc4, hg4⟩
  have HO4 := Lib.hid (hO.mono HG3.out.size)
  have HG4 := Lib.hid (below_of_grown (B := w.heap.size) (grown_trans HG3.out hg4) (Nat.le_refl _) (Nat.le_refl _))
  clear hc4 hO hg4
  go_wp2_with fail
  go_ret2
  exact ⟨x, v, ys, rfl, HX.out, HO4.out, by omega, HG4.out⟩

/-- spec.DrawKeyedHash. -/
theorem draw_kh (a : Option Addr) (len cap : Nat) (zs : List Int) (w : World) (hrow : RowB w.heap.size .u8 w a len cap zs) (hl : len ≤ maxLen) :
    Calls Try.prog 18 #[.slice a len cap] w fun e w' => ∃ x v ys, e = .returned (.tuple #[.int .i64 x, v]) ∧ (-1 ≤ x ∧ x ≤ 2147483648) ∧ Own 3 .i64 w.heap.size w' v ys ∧ ys.length ≤ 4 ∧ (∀ z ∈ ys, -1 ≤ z ∧ z ≤ 2147483648) ∧ Below w.heap.size w w' := by
  have HR := Lib.hid hrow
  clear hrow
  go_enter Try.func18, Try.ntmps18
  go_wp2_with fail
  refine (new_any w.heap.size a len cap zs _ (Nat.le_refl _) HR.out hl).mono ?_
  rintro e w1 ⟨rfl, hc, hg⟩
  have HC := Lib.hid hc
  have HG := Lib.hid (grown_none (r := some w.heap.size) hg)
  clear hc hg
  go_wp2_with fail
  refine (word_any w.heap.size w.heap.size _ HC.out).mono ?_
  rintro e w2 ⟨x, x0, x1, rfl, hc2, hg2⟩
  have HX := Lib.hid (And.intro x0 x1)
  have HC2 := Lib.hid hc2
  have HG2 := Lib.hid (grown_trans HG.out hg2)
  clear hc2 hg2
  go_wp2_with fail
  refine (words_any w.heap.size w.heap.size _ HC2.out).mono ?_
  rintro e w3 ⟨v, ys, rfl, hO, l1, l2, hc3, hg3⟩
  have HO3 := Lib.hid (hO.mono HG2.out.size)
  have HL2 := Lib.hid l2
  have HG3 := Lib.hid (below_of_grown (B := w.heap.size) (grown_trans HG2.out hg3) (Nat.le_refl _) (Nat.le_refl _))
  clear hc3 hO hg3 l2
  go_wp2_with fail
  go_ret2
  exact ⟨x, v, ys, rfl, HX.out, HO3.out, l1, HL2.out, HG3.out⟩

/-- spec.DrawDeriveFromString. -/
theorem draw_dv (B : Nat) (a : Option Addr) (len cap : Nat) (zs : List Int) (w : World) (hB : B ≤ w.heap.size) (hrow : RowB B .u8 w a len cap zs) (hl : len ≤ maxLen) :
    Calls Try.prog 23 #[.slice a len cap] w fun e w' => ∃ (x : Int) (s : ByteArray), e = .returned (.tuple #[.int .i64 x, .string s]) ∧ (-1 ≤ x ∧ x ≤ 2147483648) ∧ s.size ≤ 4 ∧ Below w.heap.size w w' := by
  have HR := Lib.hid hrow
  clear hrow
  go_enter Try.func23, Try.ntmps23
  go_wp2_with fail
  refine (new_any B a len cap zs _ hB HR.out hl).mono ?_
  rintro e w1 ⟨rfl, hc, hg⟩
  have HC := Lib.hid hc
  have HG := Lib.hid (grown_none (r := some w.heap.size) hg)
  clear hc hg
  go_wp2_with fail
  refine (word_any B w.heap.size _ HC.out).mono ?_
  rintro e w2 ⟨x, x0, x1, rfl, hc2, hg2⟩
  have HX := Lib.hid (And.intro x0 x1)
  have HC2 := Lib.hid hc2
  have HG2 := Lib.hid (grown_trans HG.out hg2)
  clear hc2 hg2
  go_wp2_with fail
  refine (str_alloc B w.heap.size 4 [⟨#[]⟩, ⟨#[97]⟩, ⟨#[98]⟩, ⟨#[97, 98]⟩, ⟨#[110, 101, 119, 115]⟩, ⟨#[120]⟩] _ 6 _ HC2.out rfl (by omega) (by omega) (by decide)).mono ?_
  rintro e w3 ⟨s, hs, rfl, hc3, hg3⟩
  have HG3 := Lib.hid (below_of_grown (B := w.heap.size) (grown_trans HG2.out hg3) (Nat.le_refl _) (Nat.le_refl _))
  clear hc3 hg3
  go_wp2_with fail
  go_ret2
  exact ⟨x, s, rfl, HX.out, hs, HG3.out⟩

end Go.Proofs.Ytjhoepjmdiifnaa
