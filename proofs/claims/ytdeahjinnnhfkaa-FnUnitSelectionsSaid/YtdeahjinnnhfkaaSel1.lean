/- Selections as structs: selectionOf, elements. No conditions. -/
import Derived.Test.YtdeahjinnnhfkaaRows
import Derived.Test.YtdeahjinnnhfkaaRd
import Derived.Test.YtdeahjinnnhfkaaUpt
import Derived.Test.YtdeahjinnnhfkaaMade
import Derived.Test.YtdeahjinnnhfkaaSelN
import Derived.Test.YtdeahjinnnhfkaaCopyInt
import Derived.Test.YtdeahjinnnhfkaaEnc
import Derived.WalkKit
import Derived.Handy
import Derived.Outline
import Derived.WalkSpells
import Derived.RegionTactic
import Derived.Deep.RegionWith
import Derived.Deep.QuietTactic
import Derived.BigQuiet
import Derived.Lib.Hide
namespace Go.Proofs.Ytdeahjinnnhfkaa
open Go Go.RowKit
set_option linter.unusedVariables false

theorem two0 (x y : Value) : (#[x, y] : Array Value)[0]? = some x := rfl
theorem two1 (x y : Value) : (#[x, y] : Array Value)[1]? = some y := rfl

set_option maxHeartbeats 1000000 in
/-- elements. -/
theorem els_any {w : World} (n M : Nat) (hn : n ≤ 1000) (hM : M < 18446744073709551616) :
    Calls Try.prog 50 #[.agg #[.int .i64 (n : Int), .int .u64 (M : Int)]] w fun e w' => ∃ v', e = .returned v' ∧ Own 3 .i64 w.heap.size w' v' (els n M) ∧ Below w.heap.size w w' := by
  obtain ⟨i0, hi, hz0, hz1, hz2⟩ := info_parts infoi64
  have Hhi := Lib.hid hi
  clear hi
  go_enter Try.func50, Try.ntmps50
  go_wp2_with (first | (at_make; refine wpList_make_full _ rfl _ _ 26 rfl (w.heap.size + 1) 3 i0 (.int .i64 0) 1 Try.underlying26 Hhi.out hz0 hz1 .i64 .i64 _ _ n rfl rfl rfl rfl (by rw [hz2]; omega) (by unfold maxLen; omega) (by simp) ?_))
  intro w1 hown hg
  have hs1 : w.heap.size + 1 ≤ w1.heap.size := by have := hg.size; rwa [World.size_alloc] at this
  have hO := own_made hown hs1 (by decide)
  rw [← upt_rep (fun i => ((M / 2 ^ i % 2 : Nat) : Int)) n] at hO
  have HO := Lib.hid hO
  have HA : Hid (w1.heap[w.heap.size]? = some (.cells #[.int .i64 (n : Int), .int .u64 (M : Int)] 63)) := Lib.hid ((hg.block w.heap.size (by simp) (by simp)).trans (heap_alloc_new w _))
  have HB := Lib.hid (((Below.refl w.heap.size w).alloc (Nat.le_refl _) _).grown hg (by simp) (fun k hk => by cases hk))
  clear hown hg hO hs1
  go_wp2_with fail
  go_loopw [10] (fun i wr => ∃ j : Nat, i = .int .i64 j ∧ j ≤ n ∧ Own 3 .i64 (w.heap.size + 1) wr (.slice (some ⟨w.heap.size + 1, 0, none⟩) n n) (upt (fun i => ((M / 2 ^ i % 2 : Nat) : Int)) (fun _ => 0) j n) ∧ wr.heap[w.heap.size]? = some (.cells #[.int .i64 (n : Int), .int .u64 (M : Int)] 63) ∧ Below w.heap.size w wr) (fun i _ => n - (intOf i).toNat)
  case atStart => exact ⟨0, rfl, Nat.zero_le _, HO.out, HA.out, HB.out⟩
  case round =>
    obtain ⟨j, rfl, hj, hO, hA, hB⟩ := hrel
    replace HO := Lib.hid hO
    replace HA := Lib.hid hA
    replace HB := Lib.hid hB
    clear hO hA hB
    by_cases hlt : j < n
    · have e1 : decide ((j : Int) < (n : Int)) = true := by simp; omega
      have c1 := blk_cell HA.out 1
      rw [two1] at c1
      have c2 := HO.out.cellAt (upt_length _ _ _ _) hlt
      have f2 := HO.out.free (upt_length _ _ _ _) j
      have HV := Lib.hid (u64_bit hM j)
      go_wp2
      go_roundw
      case rel =>
        obtain ⟨p1, p2⟩ := HO.out.put (f := fun i => ((M / 2 ^ i % 2 : Nat) : Int)) (j := j) (wf_i64_of (by omega) (by omega))
        rw [HV.out]
        refine ⟨j + 1, by simp, hlt, p1, ?_, HB.out.grown p2 HB.out.size (fun k hk => by injection hk with hk; omega)⟩
        exact (p2.block w.heap.size (by have := HO.out.2.1; omega) (by simp)).trans HA.out
      case measure => simp [intOf]; omega
    · have e1 : decide ((j : Int) < (n : Int)) = false := by simp; omega
      have ej : j = n := by omega
      have HE : Hid (Own 3 .i64 w.heap.size wr (.slice (some ⟨w.heap.size + 1, 0, none⟩) n n) (els n M)) := Lib.hid (by
        have := HO.out.mono (Nat.le_succ w.heap.size)
        rwa [ej, upt_full] at this)
      clear ej
      go_wp2
      go_ret
      exact ⟨_, rfl, HE.out, HB.out⟩

end Go.Proofs.Ytdeahjinnnhfkaa
