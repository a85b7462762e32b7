/- Selections as structs: selectionOf, elements. No conditions. -/
import Derived.Test.YtigeghmkkppldaaRows
import Derived.Test.YtigeghmkkppldaaBa1
import Derived.Test.YtigeghmkkppldaaBaM
import Derived.Test.YtigeghmkkppldaaSelN
import Derived.Test.YtigeghmkkppldaaBa3
import Derived.Test.YtigeghmkkppldaaEnc
import Derived.WalkKit
import Derived.Handy
import Derived.Outline
import Derived.WalkSpells
import Derived.RegionTactic
import Derived.Deep.RegionWith
import Derived.Deep.QuietTactic
import Derived.BigQuiet
import Derived.Lib.Hide
namespace Go.Proofs.Ytigeghmkkppldaa
open Go Go.RowKit
set_option linter.unusedVariables false

set_option maxHeartbeats 1000000 in
/-- impl.selectionOf, of a selection. -/
theorem so_yes {lim : Nat} {w : World} {v : Value} {zs : List Int} (h : Rd lim .i64 w v zs) (hlim : lim ≤ w.heap.size) (hs : isel zs (zs.length : Int) = true) :
    Calls Try.prog 66 #[v] w fun e w' => e = .returned (.tuple #[.agg #[.int .i64 (zs.length : Int), .int .u64 (bnat zs : Int)], .bool true]) ∧ Below w.heap.size w w' := by
  obtain ⟨hb, _, hn⟩ := isel_iff.1 hs
  obtain ⟨a, cap, rfl, h1, h2, hc⟩ := h.open
  have Hc := Lib.hid hc
  have HW := Lib.hid (fun i (hi : i < zs.length) => h.wf hi)
  have HB01 := Lib.hid hb
  unfold maxLen at h2
  have e0 : decide ((64 : Int) < (zs.length : Int)) = false := by simp; omega
  obtain ⟨N, hN⟩ : ∃ N, N = bnat zs := ⟨_, rfl⟩
  rw [← hN]
  have HN := Lib.hid hN
  clear h hc hs hb hN
  go_enter Try.func66, Try.ntmps66
  go_wp2_with fail
  go_loopw [16] (fun i wr => ∃ j : Nat, i = .int .i64 j ∧ j ≤ zs.length ∧ wr.heap[w.heap.size]? = some (.cells #[.int .i64 0, .int .u64 0] 82) ∧ wr.heap[w.heap.size + 1]? = some (.cells #[.int .i64 (zs.length : Int), .int .u64 (bnat (zs.take j) : Int)] 82) ∧ Below w.heap.size w wr) (fun i _ => zs.length - (intOf i).toNat)
  case atStart =>
    refine ⟨0, rfl, Nat.zero_le _, ?_, ?_, ?_⟩
    · exact (heap_alloc_old _ _ (by simp)).trans (heap_alloc_new w _)
    · have := heap_alloc_new (w.alloc (.cells #[.int .i64 0, .int .u64 0] 82)) (.cells #[.int .i64 (zs.length : Int), .int .u64 0] 82)
      rwa [World.size_alloc] at this
    · exact ((Below.refl _ _).alloc (Nat.le_refl _) _).alloc (by simp) _
  case round =>
    obtain ⟨j, rfl, hj, hA, hS, hB⟩ := hrel
    have HA := Lib.hid hA
    have HS := Lib.hid hS
    have HB := Lib.hid hB
    clear hA hS hB
    by_cases hlt : j < zs.length
    · have e1 : decide ((j : Int) < (zs.length : Int)) = true := by simp; omega
      obtain ⟨b, o, rfl, hbl, hcell⟩ := Hc.out (by omega)
      have c1 := hcell wr (HB.out.mono hlim) j hlt
      have c2 := blk_cell HS.out 1
      have f2 := blk_free HS.out 1
      simp only [show (#[Value.int IntKind.i64 (zs.length : Int), Value.int IntKind.u64 (bnat (zs.take j) : Int)] : Array Value)[1]? = some (Value.int IntKind.u64 (bnat (zs.take j) : Int)) from rfl] at c2
      have hz := HB01.out j hlt
      have hw := HW.out j hlt
      have Hr : Hid (inR (zs.getD j 0) 0 1 = true) := Lib.hid (inR_yes hz)
      have HM : Hid (bnat (zs.take (j + 1)) = bnat (zs.take j) + (zs.getD j 0).toNat * 2 ^ j) := Lib.hid (bnat_take hlt)
      have HV : Hid (bits .or .u64 (bnat (zs.take j) : Int) (IntKind.u64.wrap (IntKind.u64.wrap (zs.getD j 0) * 2 ^ j)) = ((bnat (zs.take j) + (zs.getD j 0).toNat * 2 ^ j : Nat) : Int)) := Lib.hid (u64_add (bnat_take_lt fun i hi => HB01.out i (by omega)) hz (by omega))
      obtain ⟨z, hz'⟩ : ∃ z, z = zs.getD j 0 := ⟨_, rfl⟩
      rw [← hz'] at c1 hz hw Hr HM HV
      obtain ⟨M, hM⟩ : ∃ M, M = bnat (zs.take j) := ⟨_, rfl⟩
      rw [← hM] at c2 HM HV HS
      have Hw := Lib.hid hw
      have Hsz := Lib.hid (lt_of_block HS.out)
      clear hcell hz' hM hw
      go_wp2_with fail
      refine (impl_in _ _ _ _ Hw.out).mono ?_
      rw [Hr.out]
      rintro e w2 ⟨rfl, hw2⟩
      subst hw2
      go_wp2_with fail
      go_region_with (fail)
      rw [HV.out, ← HM.out]
      have p1 := blk_set HS.out 1 (.int .u64 ((bnat (zs.take (j + 1)) : Nat) : Int))
      have p2 := grown_set w2 (w.heap.size + 1) 1 (.int .u64 ((bnat (zs.take (j + 1)) : Nat) : Int))
      have p3 : (w2.setCell ⟨w.heap.size + 1, 1, none⟩ (.int .u64 ((bnat (zs.take (j + 1)) : Nat) : Int))).heap[w.heap.size]? = _ := (p2.block w.heap.size (by have := Hsz.out; omega) (by simp)).trans HA.out
      have P1 := Lib.hid p1
      have P3 := Lib.hid p3
      have P2 := Lib.hid (HB.out.grown p2 HB.out.size (fun k hk => by injection hk with hk; omega))
      clear p1 p2 p3
      obtain ⟨W5, hW5⟩ : ∃ W5, W5 = w2.setCell ⟨w.heap.size + 1, 1, none⟩ (.int .u64 ((bnat (zs.take (j + 1)) : Nat) : Int)) := ⟨_, rfl⟩
      rw [← hW5] at P1 P2 P3 ⊢
      clear hW5 c2 f2
      go_wp2_with fail
      go_roundw
      case rel => exact ⟨j + 1, by simp, hlt, P3.out, P1.out, P2.out.drew⟩
      case measure => simp [intOf]; omega
    · have e1 : decide ((j : Int) < (zs.length : Int)) = false := by simp; omega
      have ej : j = zs.length := by omega
      have ha0 := blk_cell HA.out 0
      have ha1 := blk_cell HA.out 1
      have hf0 := blk_free HA.out 0
      have hf1 := blk_free HA.out 1
      have HS2 : Hid (wr.heap[w.heap.size + 1]? = some (.cells #[.int .i64 (zs.length : Int), .int .u64 (N : Int)] 82)) := Lib.hid (by have := HS.out; rwa [ej, List.take_length, ← HN.out] at this)
      have hs0 := blk_cell HS2.out 0
      have hs1 := blk_cell HS2.out 1
      simp only [show ∀ x y : Value, (#[x, y] : Array Value)[0]? = some x from fun _ _ => rfl, show ∀ x y : Value, (#[x, y] : Array Value)[1]? = some y from fun _ _ => rfl] at ha0 ha1 hs0 hs1
      clear ej HS
      go_wp2_with fail
      have q1 := blk_set (blk_set HA.out 0 (.int .i64 (zs.length : Int))) 1 (.int .u64 (N : Int))
      have q2 := ((grown_set wr w.heap.size 0 (.int .i64 (zs.length : Int)))).trans (grown_set _ w.heap.size 1 (.int .u64 (N : Int)))
      have Q2 := Lib.hid (HB.out.grown q2 HB.out.size (fun k hk => by injection hk with hk; omega))
      obtain ⟨W5, hW5⟩ : ∃ W5, W5 = (wr.setCell ⟨w.heap.size, 0, none⟩ (.int .i64 (zs.length : Int))).setCell ⟨w.heap.size, 1, none⟩ (.int .u64 (N : Int)) := ⟨_, rfl⟩
      rw [← hW5] at q1 Q2 ⊢
      have r0 := blk_cell q1 0
      have r1 := blk_cell q1 1
      simp only [Array.setIfInBounds] at r0 r1
      simp at r0 r1
      clear hW5 ha0 ha1 hs0 hs1 hf0 hf1 q1
      exact bodyPost_ret (v := .tuple #[.agg #[.int .i64 (zs.length : Int), .int .u64 (N : Int)], .bool true]) (by simp [results, Try.results66, go_sem, r0, r1]) rfl ⟨rfl, Q2.out⟩

theorem two0 (x y : Value) : (#[x, y] : Array Value)[0]? = some x := rfl
theorem two1 (x y : Value) : (#[x, y] : Array Value)[1]? = some y := rfl

set_option maxHeartbeats 1000000 in
/-- impl.selectionOf, of no selection. -/
theorem so_no {lim : Nat} {w : World} {v : Value} {zs : List Int} (h : Rd lim .i64 w v zs) (hlim : lim ≤ w.heap.size) (hs : isel zs (zs.length : Int) = false) :
    Calls Try.prog 66 #[v] w fun e w' => e = .returned (.tuple #[.agg #[.int .i64 0, .int .u64 0], .bool false]) ∧ Below w.heap.size w w' := by
  obtain ⟨a, cap, rfl, h1, h2, hc⟩ := h.open
  have Hc := Lib.hid hc
  have HW := Lib.hid (fun i (hi : i < zs.length) => h.wf hi)
  unfold maxLen at h2
  have HNo : Hid (¬ ((∀ i, i < zs.length → 0 ≤ zs.getD i 0 ∧ zs.getD i 0 ≤ 1) ∧ zs.length ≤ 64)) := Lib.hid (fun ⟨x, y⟩ => by
    have : isel zs (zs.length : Int) = true := isel_iff.2 ⟨x, rfl, by omega⟩
    rw [hs] at this
    cases this)
  clear h hc hs
  by_cases hn : zs.length ≤ 64
  · have e0 : decide ((64 : Int) < (zs.length : Int)) = false := by simp; omega
    go_enter Try.func66, Try.ntmps66
    go_wp2_with fail
    go_loopw [16] (fun i wr => ∃ j : Nat, i = .int .i64 j ∧ j ≤ zs.length ∧ (∀ i, i < j → 0 ≤ zs.getD i 0 ∧ zs.getD i 0 ≤ 1) ∧ wr.heap[w.heap.size]? = some (.cells #[.int .i64 0, .int .u64 0] 82) ∧ (∃ M : Nat, wr.heap[w.heap.size + 1]? = some (.cells #[.int .i64 (zs.length : Int), .int .u64 (M : Int)] 82)) ∧ Below w.heap.size w wr) (fun i _ => zs.length - (intOf i).toNat)
    case atStart =>
      refine ⟨0, rfl, Nat.zero_le _, fun i hi => by omega, ?_, ⟨0, ?_⟩, ?_⟩
      · exact (heap_alloc_old _ _ (by simp)).trans (heap_alloc_new w _)
      · have := heap_alloc_new (w.alloc (.cells #[.int .i64 0, .int .u64 0] 82)) (.cells #[.int .i64 (zs.length : Int), .int .u64 0] 82)
        rwa [World.size_alloc] at this
      · exact ((Below.refl _ _).alloc (Nat.le_refl _) _).alloc (by simp) _
    case round =>
      obtain ⟨j, rfl, hj, hg, hA, ⟨M, hS⟩, hB⟩ := hrel
      have HA := Lib.hid hA
      have HS := Lib.hid hS
      have HB := Lib.hid hB
      have HG := Lib.hid hg
      clear hA hS hB hg
      by_cases hlt : j < zs.length
      · have e1 : decide ((j : Int) < (zs.length : Int)) = true := by simp; omega
        obtain ⟨b, o, rfl, hbl, hcell⟩ := Hc.out (by omega)
        have c1 := hcell wr (HB.out.mono hlim) j hlt
        have c2 := blk_cell HS.out 1
        have f2 := blk_free HS.out 1
        have a0 := blk_cell HA.out 0
        have a1 := blk_cell HA.out 1
        have fa0 := blk_free HA.out 0
        have fa1 := blk_free HA.out 1
        simp only [two0, two1] at c2 a0 a1
        have hw := HW.out j hlt
        obtain ⟨z, hz'⟩ : ∃ z, z = zs.getD j 0 := ⟨_, rfl⟩
        rw [← hz'] at c1 hw
        have HZ := Lib.hid hz'
        have Hw := Lib.hid hw
        have Hsz := Lib.hid (lt_of_block HS.out)
        clear hcell hz' hw
        by_cases hz : 0 ≤ z ∧ z ≤ 1
        · have Hr : Hid (inR z 0 1 = true) := Lib.hid (inR_yes hz)
          have HV : Hid (∃ M' : Nat, bits .or .u64 (M : Int) (IntKind.u64.wrap (IntKind.u64.wrap z * 2 ^ j)) = (M' : Int)) := Lib.hid (by
            have e64 : (2 : Nat) ^ 64 = 18446744073709551616 := by decide
            show ∃ M' : Nat, IntKind.u64.wrap ((BitVec.ofInt 64 (M : Int) ||| BitVec.ofInt 64 (IntKind.u64.wrap (IntKind.u64.wrap z * 2 ^ j))).toNat : Nat) = _
            rw [wrapU64]
            exact ⟨_, (Int.toNat_of_nonneg (Int.emod_nonneg _ (by decide))).symm⟩)
          clear a0 a1 fa0 fa1
          go_wp2_with fail
          refine (impl_in _ _ _ _ Hw.out).mono ?_
          rw [Hr.out]
          rintro e w2 ⟨rfl, hw2⟩
          subst hw2
          go_wp2_with fail
          go_region_with (fail)
          obtain ⟨M', hM'⟩ := HV.out
          rw [hM']
          have p1 := blk_set HS.out 1 (.int .u64 (M' : Int))
          have p2 := grown_set w2 (w.heap.size + 1) 1 (.int .u64 (M' : Int))
          have p3 : (w2.setCell ⟨w.heap.size + 1, 1, none⟩ (.int .u64 (M' : Int))).heap[w.heap.size]? = _ := (p2.block w.heap.size (by have := Hsz.out; omega) (by simp)).trans HA.out
          have P1 := Lib.hid p1
          have P3 := Lib.hid p3
          have P2 := Lib.hid (HB.out.grown p2 HB.out.size (fun k hk => by injection hk with hk; omega))
          have Hz := Lib.hid hz
          clear p1 p2 p3 hM'
          obtain ⟨W5, hW5⟩ : ∃ W5, W5 = w2.setCell ⟨w.heap.size + 1, 1, none⟩ (.int .u64 (M' : Int)) := ⟨_, rfl⟩
          rw [← hW5] at P1 P2 P3 ⊢
          clear hW5 c2 f2
          go_wp2_with fail
          go_roundw
          case rel =>
            refine ⟨j + 1, by simp, hlt, fun i hi => ?_, P3.out, ⟨M', P1.out⟩, P2.out.drew⟩
            by_cases hij : i = j
            · subst hij; rw [← HZ.out]; exact Hz.out
            · exact HG.out i (by omega)
          case measure => simp [intOf]; omega
        · have Hr : Hid (inR z 0 1 = false) := Lib.hid (inR_no hz)
          clear hz
          go_wp2_with fail
          refine (impl_in _ _ _ _ Hw.out).mono ?_
          rw [Hr.out]
          rintro e w2 ⟨rfl, hw2⟩
          subst hw2
          go_wp2_with fail
          have q1 := blk_set (blk_set HA.out 0 (.int .i64 0)) 1 (.int .u64 0)
          have q2 := ((grown_set w2 w.heap.size 0 (.int .i64 0))).trans (grown_set _ w.heap.size 1 (.int .u64 0))
          have Q2 := Lib.hid (HB.out.grown q2 HB.out.size (fun k hk => by injection hk with hk; omega))
          obtain ⟨W5, hW5⟩ : ∃ W5, W5 = (w2.setCell ⟨w.heap.size, 0, none⟩ (.int .i64 0)).setCell ⟨w.heap.size, 1, none⟩ (.int .u64 0) := ⟨_, rfl⟩
          rw [← hW5] at q1 Q2 ⊢
          have r0 := blk_cell q1 0
          have r1 := blk_cell q1 1
          simp only [Array.setIfInBounds] at r0 r1
          simp at r0 r1
          clear hW5 a0 a1 fa0 fa1 q1
          exact bodyPost_ret (v := .tuple #[.agg #[.int .i64 0, .int .u64 0], .bool false]) (by simp [results, Try.results66, go_sem, r0, r1]) rfl ⟨rfl, Q2.out⟩
      · exact absurd ⟨fun i hi => HG.out i (by omega), hn⟩ HNo.out
  · have e0 : decide ((64 : Int) < (zs.length : Int)) = true := by simp; omega
    go_enter Try.func66, Try.ntmps66
    go_wp2_with fail
    exact bodyPost_ret (v := .tuple #[.agg #[.int .i64 0, .int .u64 0], .bool false]) (by simp [results, Try.results66, go_sem]) rfl ⟨rfl, (Below.refl _ _).alloc (Nat.le_refl _) _⟩

set_option maxHeartbeats 1000000 in
/-- elements. -/
theorem els_any {w : World} (n M : Nat) (hn : n ≤ 1000) (hM : M < 18446744073709551616) :
    Calls Try.prog 86 #[.agg #[.int .i64 (n : Int), .int .u64 (M : Int)]] w fun e w' => ∃ v', e = .returned v' ∧ Own 3 .i64 w.heap.size w' v' (els n M) ∧ Below w.heap.size w w' := by
  obtain ⟨i0, hi, hz0, hz1, hz2⟩ := info_parts infoi64
  have Hhi := Lib.hid hi
  clear hi
  go_enter Try.func86, Try.ntmps86
  go_wp2_with (first | (at_make; refine wpList_make_full _ rfl _ _ 27 rfl (w.heap.size + 1) 3 i0 (.int .i64 0) 1 Try.underlying27 Hhi.out hz0 hz1 .i64 .i64 _ _ n rfl rfl rfl rfl (by rw [hz2]; omega) (by unfold maxLen; omega) (by simp) ?_))
  intro w1 hown hg
  have hs1 : w.heap.size + 1 ≤ w1.heap.size := by have := hg.size; rwa [World.size_alloc] at this
  have hO := own_made hown hs1 (by decide)
  rw [← upt_rep (fun i => ((M / 2 ^ i % 2 : Nat) : Int)) n] at hO
  have HO := Lib.hid hO
  have HA : Hid (w1.heap[w.heap.size]? = some (.cells #[.int .i64 (n : Int), .int .u64 (M : Int)] 82)) := Lib.hid ((hg.block w.heap.size (by simp) (by simp)).trans (heap_alloc_new w _))
  have HB := Lib.hid (((Below.refl w.heap.size w).alloc (Nat.le_refl _) _).grown hg (by simp) (fun k hk => by cases hk))
  clear hown hg hO hs1
  go_wp2_with fail
  go_loopw [10] (fun i wr => ∃ j : Nat, i = .int .i64 j ∧ j ≤ n ∧ Own 3 .i64 (w.heap.size + 1) wr (.slice (some ⟨w.heap.size + 1, 0, none⟩) n n) (upt (fun i => ((M / 2 ^ i % 2 : Nat) : Int)) (fun _ => 0) j n) ∧ wr.heap[w.heap.size]? = some (.cells #[.int .i64 (n : Int), .int .u64 (M : Int)] 82) ∧ Below w.heap.size w wr) (fun i _ => n - (intOf i).toNat)
  case atStart => exact ⟨0, rfl, Nat.zero_le _, HO.out, HA.out, HB.out⟩
  case round =>
    obtain ⟨j, rfl, hj, hO, hA, hB⟩ := hrel
    replace HO := Lib.hid hO
    replace HA := Lib.hid hA
    replace HB := Lib.hid hB
    clear hO hA hB
    by_cases hlt : j < n
    · have e1 : decide ((j : Int) < (n : Int)) = true := by simp; omega
      have c1 := blk_cell HA.out 1
      rw [two1] at c1
      have c2 := HO.out.cellAt (upt_length _ _ _ _) hlt
      have f2 := HO.out.free (upt_length _ _ _ _) j
      have HV := Lib.hid (u64_bit hM j)
      go_wp2
      go_roundw
      case rel =>
        obtain ⟨p1, p2⟩ := HO.out.put (f := fun i => ((M / 2 ^ i % 2 : Nat) : Int)) (j := j) (wf_i64_of (by omega) (by omega))
        rw [HV.out]
        refine ⟨j + 1, by simp, hlt, p1, ?_, HB.out.grown p2 HB.out.size (fun k hk => by injection hk with hk; omega)⟩
        exact (p2.block w.heap.size (by have := HO.out.2.1; omega) (by simp)).trans HA.out
      case measure => simp [intOf]; omega
    · have e1 : decide ((j : Int) < (n : Int)) = false := by simp; omega
      have ej : j = n := by omega
      have HE : Hid (Own 3 .i64 w.heap.size wr (.slice (some ⟨w.heap.size + 1, 0, none⟩) n n) (els n M)) := Lib.hid (by
        have := HO.out.mono (Nat.le_succ w.heap.size)
        rwa [ej, upt_full] at this)
      clear ej
      go_wp2
      go_ret
      exact ⟨_, rfl, HE.out, HB.out⟩

end Go.Proofs.Ytigeghmkkppldaa
