/- XorSelections, RandomSelection, SelectXor, the program's and the document's: what each gives. No conditions but a size that a machine holds. -/
import Derived.Test.YtheefkhhafefoaaSel2
import Derived.Test.YtheefkhhafefoaaBa9
import Derived.Test.YtheefkhhafefoaaXor2
import Derived.Test.YtheefkhhafefoaaBa5
import Derived.Deep.RegionHeld3
namespace Go.Proofs.Ytheefkhhafefoaa
open Go Go.RowKit
set_option linter.unusedVariables false

/-- What selectionOf gives, of any list. -/
def soR (zs : List Int) : Nat := if isel zs (zs.length : Int) = true then zs.length else 0
def soS (zs : List Int) : Nat := if isel zs (zs.length : Int) = true then bnat zs else 0
theorem so_any {lim : Nat} {w : World} {v : Value} {zs : List Int} (h : Rd lim .i64 w v zs) (hlim : lim ≤ w.heap.size) :
    Calls Try.prog 88 #[v] w fun e w' => e = .returned (.tuple #[.agg #[.int .i64 (soR zs : Int), .int .u64 (soS zs : Int)], .bool (isel zs (zs.length : Int))]) ∧ Below w.heap.size w w' := by
  unfold soR soS
  by_cases hs : isel zs (zs.length : Int) = true
  · rw [if_pos hs, if_pos hs, hs]
    exact so_yes h hlim hs
  · have hs' : isel zs (zs.length : Int) = false := by simpa using hs
    rw [if_neg hs, if_neg hs, hs']
    exact so_no h hlim hs'

set_option maxHeartbeats 1000000 in
/-- spec.XorSelections. -/
theorem spec_xs {l1 l2 : Nat} {w : World} {u v : Value} {xs ys : List Int} (hu : Rd l1 .i64 w u xs) (hv : Rd l2 .i64 w v ys) (hl1 : l1 ≤ w.heap.size) (hl2 : l2 ≤ w.heap.size) :
    Calls Try.prog 19 #[u, v] w fun e w' => ∃ v', e = .returned v' ∧ Own 3 .i64 w.heap.size w' v' (xs2 xs ys) ∧ Below w.heap.size w w' := by
  obtain ⟨i0, hi, hz0, hz1, hz2⟩ := info_parts infoi64
  have Hhi := Lib.hid hi
  have hlenx := hu.len
  unfold maxLen at hlenx
  have b0 := (Below.refl w.heap.size w).alloc (Nat.le_refl _) (.cells #[] 3)
  have HU := Lib.hid (hu.behind (b0.mono hl1))
  have HV := Lib.hid (hv.behind (b0.mono hl2))
  have HO : Hid (Own 3 .i64 w.heap.size (w.alloc (.cells #[] 3)) (.slice (some ⟨w.heap.size, 0, none⟩) 0 0) []) := Lib.hid (Own.lit _ _ (Nat.le_refl _))
  have HB := Lib.hid b0
  have Hlw : Hid ((Lit.int .i64 (xs.length : Int)).wf = true) := Lib.hid (wf_i64_of (by omega) (by omega))
  have hL1 : l1 ≤ (w.alloc (.cells #[] 3)).heap.size := by simp; omega
  have hL2 : l2 ≤ (w.alloc (.cells #[] 3)).heap.size := by simp; omega
  have HL1 := Lib.hid hL1
  have HL2 := Lib.hid hL2
  obtain ⟨a, cap, rfl, h1, h2, hc⟩ := hu.open
  have Hc := Lib.hid hc
  unfold maxLen at h2
  clear hu hi b0 hL1 hL2 hc
  by_cases ha : isel xs (xs.length : Int) = true
  · by_cases hb : isel ys (xs.length : Int) = true
    · obtain ⟨A1, _, A3⟩ := isel_iff.1 ha
      obtain ⟨B1, B2, _⟩ := isel_iff.1 hb
      have Ha := Lib.hid ha
      have Hb := Lib.hid hb
      have HA1 := Lib.hid A1
      have HB1 := Lib.hid B1
      have HlE : Hid (xs.length = ys.length) := Lib.hid (by omega)
      have HE : Hid (xs2 xs ys = xors xs ys) := Lib.hid (by unfold xs2; rw [if_pos ⟨ha, hb⟩])
      have hyl : ys.length ≤ 64 := by omega
      obtain ⟨a', cap', rfl, h1', h2', hc'⟩ := hv.open
      have Hc' := Lib.hid hc'
      have HO0 : Hid (Own 3 .i64 w.heap.size (w.alloc (.cells #[] 3)) (.slice (some ⟨w.heap.size, 0, none⟩) 0 0) ((xors xs ys).take 0)) := HO
      unfold maxLen at h2'
      clear ha hb A1 B1 B2 hc' hv
      go_enter Try.func19, Try.ntmps19
      go_wp2_with fail
      refine (spec_is HU.out Hlw.out).mono ?_
      rw [Ha.out]
      rintro e w1 ⟨rfl, hw1⟩
      subst hw1
      go_wp2_with fail
      refine (spec_is HV.out Hlw.out).mono ?_
      rw [Hb.out]
      rintro e w1 ⟨rfl, hw1⟩
      subst hw1
      go_wp2_with fail
      go_loopw [5, 6] (fun s i wr => ∃ j : Nat, i = .int .i64 j ∧ j ≤ xs.length ∧ Own 3 .i64 w.heap.size wr s ((xors xs ys).take j) ∧ Below w.heap.size w wr) (fun _ i _ => xs.length - (intOf i).toNat)
      case atStart => exact ⟨0, rfl, Nat.zero_le _, HO0.out, HB.out⟩
      case round =>
        obtain ⟨j, rfl, hj, hO, hB⟩ := hrel
        have HO' := Lib.hid hO
        have HB' := Lib.hid hB
        clear hO hB HO HO0 
        by_cases hlt : j < xs.length
        · have e1 : decide ((j : Int) < (xs.length : Int)) = true := by simp; omega
          have hlt2 : j < ys.length := by have := HlE.out; omega
          have ej1 : (j : Int) < (xs.length : Int) := by omega
          have ej2 : (j : Int) < (ys.length : Int) := by omega
          obtain ⟨b, o, rfl, hbl, hcell⟩ := Hc.out (by omega)
          obtain ⟨b', o', rfl, hbl', hcell'⟩ := Hc'.out (by omega)
          have c1 := hcell _ (HB'.out.mono hl1) j hlt
          have c2 := hcell' _ (HB'.out.mono hl2) j hlt2
          have hx := HA1.out j hlt
          have hy := HB1.out j hlt2
          have HT := Lib.hid (xors_take_succ xs ys hlt)
          have hlen : ((xors xs ys).take j).length ≤ 64 := by rw [List.length_take, xors_len]; omega
          have HLn := Lib.hid hlen
          have HC : Hid (∀ w', Below w.heap.size w w' → w'.cell? ⟨b, o + j, none⟩ = some (.int .i64 (xs.getD j 0)) ∧ w'.cell? ⟨b', o' + j, none⟩ = some (.int .i64 (ys.getD j 0))) := Lib.hid (fun w' hb => ⟨hcell w' (hb.mono hl1) j hlt, hcell' w' (hb.mono hl2) j hlt2⟩)
          obtain ⟨z, hz⟩ : ∃ z, z = xs.getD j 0 := ⟨_, rfl⟩
          obtain ⟨z', hz'⟩ : ∃ z, z = ys.getD j 0 := ⟨_, rfl⟩
          rw [← hz] at c1 hx HT HC
          rw [← hz'] at c2 hy HT HC
          have HE2 := Lib.hid (i64_xor_bit hx hy)
          have hm := bx_bit hx hy
          have HM := Lib.hid hm
          have R1 := Lib.hid ((Rd.one 3 .i64 wr (bits .xor .i64 z z') (by rw [HE2.out]; exact wf_i64_of (by omega) (by omega))).drew)
          have O1 := Lib.hid ((HO'.out.alloc (.cells #[.int .i64 (bits .xor .i64 z z')] 3)).drew)
          have hsz : w.heap.size ≤ wr.heap.size := HB'.out.size
          have B1 := Lib.hid ((HB'.out.alloc hsz (.cells #[.int .i64 (bits .xor .i64 z z')] 3)).drew)
          have d0 := HC.out _ HB'.out.drew
          have d1 := HC.out _ B1.out
          clear hcell hcell' hz hz' hlen hm hsz
          go_wp2_with fail
          go_region_held3 (fun w' => w'.cell? ⟨b, o + j, none⟩ = some (.int .i64 z) ∧ w'.cell? ⟨b', o' + j, none⟩ = some (.int .i64 z')) (first | assumption | go_keep) ((first
            | (go_loud (refine step_append_rd _ (by rfl) _ _ 31 (by rfl) 3 i0 (.int .i64 0) 8 Try.underlying31 Hhi.out hz0 hz1 hz2 rfl (by omega) (by rfl) O1.out (by rfl) R1.out (by have := HLn.out; simp only [List.length_singleton]; omega) ?_
                        intro v5 w5 h5 h6
                        rw [HE2.out, HT.out] at h5
                        have H5 := Lib.hid h5
                        have B5 := Lib.hid (B1.out.trans (O1.out.below (Nat.le_refl _) h6))
                        have d5 := HC.out _ B5.out
                        clear h5 h6))))
          go_wp2_with fail
          go_roundw
          case rel => exact ⟨j + 1, by simp, hlt, H5.out, B5.out⟩
          case measure => simp [intOf]; omega
        · have e1 : decide ((j : Int) < (xs.length : Int)) = false := by simp; omega
          have ej : j = xs.length := by omega
          have HR : Hid (xs2 xs ys = (xors xs ys).take j) := Lib.hid (by rw [HE.out, ej, List.take_of_length_le (by rw [xors_len]; exact Nat.le_refl _)])
          clear ej
          go_wp2
          go_ret
          exact ⟨_, rfl, by rw [HR.out]; exact HO'.out, HB'.out⟩
    · clear hv
      have Ha := Lib.hid ha
      have Hb : Hid (isel ys (xs.length : Int) = false) := Lib.hid (by simpa using hb)
      have HE : Hid (xs2 xs ys = []) := Lib.hid (by unfold xs2; rw [if_neg (fun h => hb h.2)])
      clear ha hb
      go_enter Try.func19, Try.ntmps19
      go_wp2_with fail
      refine (spec_is HU.out Hlw.out).mono ?_
      rw [Ha.out]
      rintro e w1 ⟨rfl, hw1⟩
      subst hw1
      go_wp2_with fail
      refine (spec_is HV.out Hlw.out).mono ?_
      rw [Hb.out]
      rintro e w1 ⟨rfl, hw1⟩
      subst hw1
      go_wp2_with fail
      go_ret
      exact ⟨_, rfl, by rw [HE.out]; exact HO.out, HB.out⟩
  · clear hv
    have Ha : Hid (isel xs (xs.length : Int) = false) := Lib.hid (by simpa using ha)
    have HE : Hid (xs2 xs ys = []) := Lib.hid (by unfold xs2; rw [if_neg (fun h => ha h.1)])
    clear ha
    go_enter Try.func19, Try.ntmps19
    go_wp2_with fail
    refine (spec_is HU.out Hlw.out).mono ?_
    rw [Ha.out]
    rintro e w1 ⟨rfl, hw1⟩
    subst hw1
    go_wp2_with fail
    go_ret
    exact ⟨_, rfl, by rw [HE.out]; exact HO.out, HB.out⟩

end Go.Proofs.Ytheefkhhafefoaa
