/- IsSelection, CountSelected, UnitSelection, the program's and the document's: what each gives. No conditions. -/
import Derived.Test.YtaekjnacigicoaaSel1
import Derived.Test.YtaekjnacigicoaaBa2
namespace Go.Proofs.Ytaekjnacigicoaa
open Go Go.RowKit
set_option linter.unusedVariables false

set_option maxHeartbeats 1000000 in
/-- impl.IsSelection. -/
theorem impl_is {lim : Nat} {w : World} {v : Value} {zs : List Int} {n : Int} (h : Rd lim .i64 w v zs) (hlim : lim ≤ w.heap.size) (hw : (Lit.int .i64 n).wf = true) :
    Calls Try.prog 22 #[v, .int .i64 n] w fun e w' => e = .returned (.bool (isel zs n)) ∧ Below w.heap.size w w' := by
  have H := Lib.hid h
  clear h
  by_cases hs : isel zs (zs.length : Int) = true
  · have HS := Lib.hid hs
    by_cases hn : (zs.length : Int) = n
    · have e2 : ((zs.length : Int) == n) = true := by simp [hn]
      have HR : Hid (isel zs n = true) := Lib.hid (by rw [← hn]; exact hs)
      clear hs hn
      go_enter Try.func22, Try.ntmps22
      go_wp2_with fail
      refine (so_yes H.out hlim HS.out).mono ?_
      rintro e w1 ⟨rfl, hb⟩
      have HB := Lib.hid hb
      clear hb
      go_wp2_with fail
      go_ret
      exact ⟨by rw [HR.out]; rfl, HB.out.alloc HB.out.size _⟩
    · have e2 : ((zs.length : Int) == n) = false := by simp [hn]
      have HR : Hid (isel zs n = false) := Lib.hid (by
        rw [Bool.eq_false_iff]
        intro h
        exact hn (isel_iff.1 h).2.1)
      clear hs hn
      go_enter Try.func22, Try.ntmps22
      go_wp2_with fail
      refine (so_yes H.out hlim HS.out).mono ?_
      rintro e w1 ⟨rfl, hb⟩
      have HB := Lib.hid hb
      clear hb
      go_wp2_with fail
      go_ret
      exact ⟨by rw [HR.out]; rfl, HB.out.alloc HB.out.size _⟩
  · have HS : Hid (isel zs (zs.length : Int) = false) := Lib.hid (by simpa using hs)
    have HR : Hid (isel zs n = false) := Lib.hid (by
      rw [Bool.eq_false_iff]
      intro h
      have hn := (isel_iff.1 h).2.1
      rw [← hn] at h
      exact hs h)
    clear hs
    go_enter Try.func22, Try.ntmps22
    go_wp2_with fail
    refine (so_no H.out hlim HS.out).mono ?_
    rintro e w1 ⟨rfl, hb⟩
    have HB := Lib.hid hb
    clear hb
    go_wp2_with fail
    go_ret
    exact ⟨by rw [HR.out]; rfl, HB.out.alloc HB.out.size _⟩

end Go.Proofs.Ytaekjnacigicoaa
