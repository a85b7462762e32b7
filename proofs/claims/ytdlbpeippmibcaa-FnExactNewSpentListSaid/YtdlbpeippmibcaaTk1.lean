/- Blind tokens: keys of issuers, requests of the document, replies; what serial numbers and exponents may be. No conditions but numbers that a machine holds. -/
import Derived.Test.YtdlbpeippmibcaaTkN
import Derived.Test.YtdlbpeippmibcaaGr4
import Derived.Test.YtdlbpeippmibcaaCl1
import Derived.Test.YtdlbpeippmibcaaMb1
namespace Go.Proofs.Ytdlbpeippmibcaa
open Go Go.RowKit
set_option linter.unusedVariables false
attribute [local irreducible] kh kid pwm tcm pw chl

/-- impl.isSerial. -/
theorem isS_any {w : World} {n : Int} (hn : (Lit.int .i64 n).wf = true) :
    Calls Try.prog 76 #[.int .i64 n] w fun e w' => e = .returned (.bool (okNr n)) ∧ w' = w := by
  obtain ⟨q, hq⟩ : ∃ q, q = okNr n := ⟨_, rfl⟩
  have HQ : Hid (inR n 0 100000 = q) := Lib.hid hq.symm
  rw [← hq]
  clear hq
  go_enter Try.func76, Try.ntmps76
  go_wp2_with fail
  refine (impl_in _ _ _ _ hn).mono ?_
  rw [HQ.out]
  rintro e w1 ⟨rfl, hw⟩
  subst hw
  go_wp2_with fail
  go_ret
  exact ⟨rfl, rfl⟩

/-- impl.isHiding. -/
theorem isH_any {w : World} {n : Int} (hn : (Lit.int .i64 n).wf = true) :
    Calls Try.prog 75 #[.int .i64 n] w fun e w' => e = .returned (.bool (nz n)) ∧ w' = w := by
  obtain ⟨m, hm⟩ : ∃ m, m = n % 1019 := ⟨_, rfl⟩
  obtain ⟨q, hq⟩ : ∃ q, q = nz n := ⟨_, rfl⟩
  have e1 : (m != 0) = q := by rw [hq, hm]; rfl
  have HM := Lib.hid hm
  rw [← hq]
  clear hq hm
  go_enter Try.func75, Try.ntmps75
  go_wp2_with fail
  refine (fe_any hn).mono ?_
  rw [← HM.out]
  rintro e w1 ⟨rfl, hw⟩
  subst hw
  go_wp2_with fail
  go_ret
  exact ⟨rfl, rfl⟩

/-- impl.serialElement. -/
theorem sel_any {w : World} {n : Int} (hn : (Lit.int .i64 n).wf = true) :
    Calls Try.prog 78 #[.int .i64 n] w fun e w' => e = .returned (.int .i64 (hs n)) ∧ Below w.heap.size w w' := by
  obtain ⟨q, hq⟩ : ∃ q, q = hs n := ⟨_, rfl⟩
  have HQ : Hid (hgr 101 n = q) := Lib.hid hq.symm
  rw [← hq]
  clear hq
  go_enter Try.func78, Try.ntmps78
  go_wp2_with fail
  refine (impl_hgr (by decide) hn).mono ?_
  rw [HQ.out]
  rintro e w1 ⟨rfl, hb⟩
  have HB := Lib.hid hb
  clear hb
  go_wp2_with fail
  go_ret
  exact ⟨rfl, HB.out⟩

/-- A number that a request holds. -/
theorem req_no {n b : Int} (h : blok n b = false) : (Ending.returned (.tuple #[.agg #[.int .i64 0], .bool false]) : Ending) = .returned (.tuple #[.agg #[.int .i64 (blE n b)], .bool (blok n b)]) := by rw [blE_no h, h]
theorem req_yes {n b : Int} (h : blok n b = true) : (Ending.returned (.tuple #[.agg #[.int .i64 (pwG (hs n) b)], .bool true]) : Ending) = .returned (.tuple #[.agg #[.int .i64 (blE n b)], .bool (blok n b)]) := by rw [blE_yes h, h]
theorem hs_wf (n : Int) : (Lit.int .i64 (hs n)).wf = true := by have := el_bound (hs_el n); exact small_wf (by omega) (by omega)

/-- What a reply holds. -/
theorem rep_no {s x : Int} (t : Int) (h : sgok s x = false) : (Ending.returned (.tuple #[.agg #[.int .i64 0, .int .i64 0, .int .i64 0], .bool false]) : Ending) = .returned (.tuple #[.agg #[.int .i64 (sgE s x), .int .i64 (sgC s x t), .int .i64 (sgR s x t)], .bool (sgok s x)]) := by
  obtain ⟨h1, h2, h3⟩ := sg_no t h
  rw [h1, h2, h3, h]
theorem rep_yes {s x : Int} (t : Int) (h : sgok s x = true) : (Ending.returned (.tuple #[.agg #[.int .i64 (pwG x s), .int .i64 (prC 4 x s t), .int .i64 (prR 4 x s t)], .bool true]) : Ending) = .returned (.tuple #[.agg #[.int .i64 (sgE s x), .int .i64 (sgC s x t), .int .i64 (sgR s x t)], .bool (sgok s x)]) := by
  obtain ⟨h1, h2, h3⟩ := sg_yes t h
  rw [h1, h2, h3, h]

end Go.Proofs.Ytdlbpeippmibcaa
