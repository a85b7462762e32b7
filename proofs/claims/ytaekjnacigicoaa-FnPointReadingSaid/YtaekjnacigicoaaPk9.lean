/- MakePointKeys, the program's. No conditions but numbers that a machine holds. -/
import Derived.Test.YtaekjnacigicoaaPk8
import Derived.Lib.SliceRun
namespace Go.Proofs.Ytaekjnacigicoaa
open Go Go.RowKit
set_option linter.unusedVariables false
attribute [local irreducible] kh

set_option maxHeartbeats 2000000 in
/-- slices.Clone on corrections -/
theorem clone_any {l g o cap n : Nat} {w : World} {xs : List Cor} (h : RdS corE l w (.slice (some ⟨g, o, none⟩) n cap) xs) (hl : l ≤ w.heap.size) (hn : n = xs.length) (hb : xs.length ≤ 1000) :
    Calls Try.prog 18 #[.slice (some ⟨g, o, none⟩) n cap] w fun e w' => ∃ v', e = .returned v' ∧ OwnS corE 47 w.heap.size w' v' xs ∧ Below w.heap.size w w' := by
  obtain ⟨i0, hi, hz0, hz1, hz2⟩ := info_parts infoCorrection
  have Hhi := Lib.hid hi
  have HB := Lib.hid hb
  have hb0 := (Below.refl w.heap.size w).alloc (Nat.le_refl _) (.cells #[] 47)
  have O1 := Lib.hid (OwnS.lit (w := w) (B := w.heap.size) corE 47 (Nat.le_refl _))
  have R1 := Lib.hid ((h.mono hl).behind hb0)
  have B1 := Lib.hid hb0
  have hnl := fun w' : World => Lib.run_eql_slice_nil (P := Try.prog) w' 29 47 (some ⟨g, o, none⟩) n cap 0 0 Try.underlying29
  clear h hi hb hn hb0
  go_enter Try.func18, Try.ntmps18
  go_wp2_with (first | (at_builtin; refine append_rds _ rfl _ _ 29 rfl 47 i0 (.agg #[.int .i64 0, .int .i64 0, .int .i64 0]) 24 Try.underlying29 Hhi.out hz0 hz1 hz2 rfl (by omega) rfl O1.out rfl R1.out (by have := HB.out; simp only [List.length_nil]; omega) ?_))
  intro v8 w8 h8 hg8
  have H8 := Lib.hid (show OwnS corE 47 w.heap.size w8 v8 xs from h8)
  have B8 := Lib.hid (B1.out.trans (O1.out.below (Nat.le_refl _) hg8))
  clear h8 hg8
  go_wp2_with fail
  go_ret
  exact ⟨_, rfl, H8.out, B8.out⟩

end Go.Proofs.Ytaekjnacigicoaa
