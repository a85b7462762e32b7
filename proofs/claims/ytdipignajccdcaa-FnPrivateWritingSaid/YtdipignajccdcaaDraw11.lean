/- Chapter 11's draw. No conditions but a length that a machine holds. -/
import Derived.Test.YtdipignajccdcaaDraw7
import Derived.Test.YtdipignajccdcaaDraw8
namespace Go.Proofs.Ytdipignajccdcaa
open Go Go.RowKit
set_option linter.unusedVariables false
attribute [local irreducible] kh

set_option maxHeartbeats 2000000 in
set_option maxRecDepth 20000 in
/-- spec.DrawMakeWrite -/
theorem draw_mkw (B : Nat) (a : Option Addr) (len cap : Nat) (zs : List Int) (w : World) (hB : B ≤ w.heap.size) (hrow : RowB B .u8 w a len cap zs) (hl : len ≤ maxLen) :
    Calls Try.prog 41 #[.slice a len cap] w fun e w' => ∃ (r x : Int) (v u : Value) (xs ys : List Int), e = .returned (.tuple #[.int .i64 r, .int .i64 x, v, u]) ∧ 0 ≤ r ∧ r ≤ 65 ∧ -1 ≤ x ∧ x ≤ 5 ∧ Own 5 .u8 w.heap.size w' v xs ∧ Own 3 .i64 w.heap.size w' u ys ∧ xs.length ≤ 25 ∧ ys.length ≤ 4 ∧ Below w.heap.size w w' := by
  have HR := Lib.hid hrow
  clear hrow
  go_enter Try.func41, Try.ntmps41
  go_wp2_with fail
  refine (new_any B a len cap zs _ hB HR.out hl).mono ?_
  rintro e w1 ⟨rfl, hc, hg⟩
  have HC := Lib.hid hc
  have HG := Lib.hid (grown_none (r := some w.heap.size) hg)
  clear hc hg
  go_wp2_with fail
  refine (int_alloc B w.heap.size 0 65 [0, 1, 3, 6, 64, 65] _ 6 _ HC.out rfl (by omega) (by omega) (by decide)).mono ?_
  rintro e w2 ⟨r, r0, r1, rfl, hc2, hg2⟩
  have HC2 := Lib.hid hc2
  have HG2 := Lib.hid (grown_trans HG.out hg2)
  clear hc2 hg2
  go_wp2_with fail
  refine (below_any B w.heap.size 7 _ HC2.out (by omega) (by omega)).mono ?_
  rintro e w3 ⟨x, x0, x1, rfl, hc3, hg3⟩
  have HC3 := Lib.hid hc3
  have HG3 := Lib.hid (grown_trans HG2.out hg3)
  have hwr : wrap64 (x - 1) = x - 1 := by unfold wrap64; omega
  clear hc3 hg3
  go_wp2_with fail
  refine (cell8_any B w.heap.size _ HC3.out).mono ?_
  rintro e w4 ⟨v, xs, rfl, hO, l1, l2, hc4, hg4⟩
  have HC4 := Lib.hid hc4
  have HO4 := Lib.hid hO
  have HG4 := Lib.hid (grown_trans HG3.out hg4)
  clear hc4 hO hg4
  go_wp2_with fail
  refine (seeds7_any B w.heap.size _ HC4.out).mono ?_
  rintro e w5 ⟨u, ys, rfl, hO, l3, hc5, hg5⟩
  have HO5 := Lib.hid ((HO4.out.cur HC3.out.lt.2 hg5).mono HG3.out.size)
  have HU5 := Lib.hid (hO.mono HG4.out.size)
  have HG5 := Lib.hid (below_of_grown (B := w.heap.size) (grown_trans HG4.out hg5) (Nat.le_refl _) (Nat.le_refl _))
  clear hc5 hO hg5
  go_wp2_with fail
  exact bodyPost_ret (v := .tuple #[.int .i64 r, .int .i64 (x - 1), v, u]) (by simp [results, Try.results41, go_sem]) rfl ⟨_, _, v, u, xs, ys, rfl, r0, r1, by omega, by omega, HO5.out, HU5.out, by omega, by omega, HG5.out⟩

end Go.Proofs.Ytdipignajccdcaa
