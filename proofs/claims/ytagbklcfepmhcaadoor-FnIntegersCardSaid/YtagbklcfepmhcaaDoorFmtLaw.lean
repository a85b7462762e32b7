/- impl.FormatInt answers as its model spec.FormatInt at every int: the law's walk. Conditions: the library's tables as its text lays them. -/
import Derived.Test.YtagbklcfepmhcaaDoorRows
import Derived.Test.YtagbklcfepmhcaaDoorFmt
import Derived.Test.YtagbklcfepmhcaaDoorRowIn
import Derived.Test.YtagbklcfepmhcaaDoorShelf
import Derived.WalkKit
import Derived.Below
import Derived.LaidMore
import Derived.Stop.LaidErr
import Derived.Lib.LaidTab
import Derived.Lib.AppendIntMem
namespace Go.Proofs.YtagbklcfepmhcaaDoor
open Go.RowKit Go.Lib Go.Sort

theorem below_grow (w : World) (k : Nat) (os : Array Obj) : Below w.heap.size w (grow (w.drewN k) os) :=
  ⟨rfl, rfl, rfl, by simp [grow, World.drewN], fun j hj => by
    show (w.heap ++ os)[j]? = w.heap[j]?
    rw [Array.getElem?_append_left hj]⟩

/-- impl.FormatInt: the numeral, behind whatever blocks the call's own have been laid since w. -/
theorem ifmt_any (n : Int) (w : World) (h0 : -9223372036854775808 ≤ n) (h1 : n ≤ 9223372036854775807) (htab : TabIs Tryd.prog w "internal/strconv.uint64pow10" .u64 pow10Tab) :
    Calls Tryd.prog 10 #[.int .i64 n] w fun e w' => e = .returned (.string ⟨(itoa n).toArray⟩) ∧ Below w.heap.size w w' := by
  go_enter Tryd.func10, Tryd.ntmps10
  go_wp2_with fail
  refine (Tryd.strconv_Itoa n h0 h1 _ htab).mono ?_
  rintro e w' ⟨rfl, k, os, rfl⟩
  go_wp2_with fail
  go_ret
  exact ⟨rfl, below_grow _ _ _⟩

theorem g10 : Tryd.prog.globalNamed "internal/strconv.uint64pow10" = some 2 := by kernel_rfl

/-- The table behind whatever the call has laid. -/
theorem tab_behind {w w' : World} (h : TabIs Tryd.prog w "internal/strconv.uint64pow10" .u64 pow10Tab) (hb : Below w.heap.size w w') : TabIs Tryd.prog w' "internal/strconv.uint64pow10" .u64 pow10Tab :=
  tabBelow_of_tabIs h w' hb

/-- What the row's list gives: the table of powers. -/
theorem tab_of_laid3 {W : World} (h : laidMetH Tryd.prog Rows.fnExactFormatIntRow.laid W) : TabIs Tryd.prog W "internal/strconv.uint64pow10" .u64 pow10Tab := by
  rw [MakeChecks.laidMetH_plain _ _ _ (by kernel_rfl)] at h
  have h1 := h.tail.tail
  exact tabIs_of_head g10 (by kernel_rfl) Tryd.underlying78 Tryd.underlying59 (by kernel_rfl) (by kernel_rfl) h1

theorem formatInt_walk (n : Int) (w : World) (wn : (Lit.int .i64 n).wf = true) (hL : laidMetH Tryd.prog Rows.fnExactFormatIntRow.laid w) :
    Calls Tryd.prog 4 #[.int .i64 n] w fun e w' => e = .returned (.bool true) ∧ Below w.heap.size w w' := by
  have htab := Lib.hid (tab_of_laid3 hL)
  clear hL
  obtain ⟨h0, h1⟩ : -9223372036854775808 ≤ n ∧ n ≤ 9223372036854775807 := by
    have e1 : IntKind.i64.min = -9223372036854775808 := rfl
    have e2 : IntKind.i64.max = 9223372036854775807 := rfl
    simp [Lit.wf, e1, e2] at wn
    omega
  clear wn
  go_enter Tryd.func4, Tryd.ntmps4
  go_wp2_with fail
  refine (fmt_any n _ h0 h1).mono ?_
  rintro e w1 ⟨rfl, hb1⟩
  go_wp2_with fail
  refine (ifmt_any n _ h0 h1 (tab_behind htab.out hb1)).mono ?_
  rintro e w2 ⟨rfl, hb2⟩
  have hb := hb1.trans (hb2.mono hb1.size)
  clear hb1 hb2
  go_wp2_with fail
  go_ret
  exact ⟨rfl, hb⟩

end Go.Proofs.YtagbklcfepmhcaaDoor
