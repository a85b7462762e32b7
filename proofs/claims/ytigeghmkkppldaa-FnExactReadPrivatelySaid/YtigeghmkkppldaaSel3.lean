/- XorSelections, RandomSelection, SelectXor, the program's and the document's: what each gives. No conditions but a size that a machine holds. -/
import Derived.Test.YtigeghmkkppldaaSel2
import Derived.Test.YtigeghmkkppldaaBa9
import Derived.Test.YtigeghmkkppldaaXor2
import Derived.Test.YtigeghmkkppldaaBa5
import Derived.Deep.RegionHeld3
namespace Go.Proofs.Ytigeghmkkppldaa
open Go Go.RowKit
set_option linter.unusedVariables false

/-- What selectionOf gives, of any list. -/
def soR (zs : List Int) : Nat := if isel zs (zs.length : Int) = true then zs.length else 0
def soS (zs : List Int) : Nat := if isel zs (zs.length : Int) = true then bnat zs else 0
theorem so_any {lim : Nat} {w : World} {v : Value} {zs : List Int} (h : Rd lim .i64 w v zs) (hlim : lim ≤ w.heap.size) :
    Calls Try.prog 66 #[v] w fun e w' => e = .returned (.tuple #[.agg #[.int .i64 (soR zs : Int), .int .u64 (soS zs : Int)], .bool (isel zs (zs.length : Int))]) ∧ Below w.heap.size w w' := by
  unfold soR soS
  by_cases hs : isel zs (zs.length : Int) = true
  · rw [if_pos hs, if_pos hs, hs]
    exact so_yes h hlim hs
  · have hs' : isel zs (zs.length : Int) = false := by simpa using hs
    rw [if_neg hs, if_neg hs, hs']
    exact so_no h hlim hs'

set_option maxHeartbeats 1000000 in
/-- impl.XorSelections. -/
theorem impl_xs {l1 l2 : Nat} {w : World} {u v : Value} {xs ys : List Int} (hu : Rd l1 .i64 w u xs) (hv : Rd l2 .i64 w v ys) (hl1 : l1 ≤ w.heap.size) (hl2 : l2 ≤ w.heap.size) :
    Calls Try.prog 90 #[u, v] w fun e w' => ∃ v', e = .returned v' ∧ Own 3 .i64 w.heap.size w' v' (xs2 xs ys) ∧ Below w.heap.size w w' := by
  have HU := Lib.hid hu
  have HV := Lib.hid hv
  clear hu hv
  obtain ⟨r1, hr1⟩ : ∃ r, r = soR xs := ⟨_, rfl⟩
  obtain ⟨r2, hr2⟩ : ∃ r, r = soR ys := ⟨_, rfl⟩
  obtain ⟨s1, hs1⟩ : ∃ r, r = soS xs := ⟨_, rfl⟩
  obtain ⟨s2, hs2⟩ : ∃ r, r = soS ys := ⟨_, rfl⟩
  obtain ⟨o1, ho1⟩ : ∃ r, r = isel xs (xs.length : Int) := ⟨_, rfl⟩
  obtain ⟨o2, ho2⟩ : ∃ r, r = isel ys (ys.length : Int) := ⟨_, rfl⟩
  have HC1 := fun (w : World) (h : Rd l1 .i64 w u xs) (hl : l1 ≤ w.heap.size) => so_any h hl
  have HC2 := fun (w : World) (h : Rd l2 .i64 w v ys) (hl : l2 ≤ w.heap.size) => so_any h hl
  rw [← hr1, ← hs1, ← ho1] at HC1
  rw [← hr2, ← hs2, ← ho2] at HC2
  have C1 := Lib.hid HC1
  have C2 := Lib.hid HC2
  clear HC1 HC2
  have HX : Hid (o1 = true → o2 = true → r1 = r2 → xs2 xs ys = els r1 (s1 ^^^ s2) ∧ r1 ≤ 1000 ∧ s1 < 18446744073709551616 ∧ s2 < 18446744073709551616) := Lib.hid (fun a1 a2 a3 => by
    rw [ho1] at a1
    rw [ho2] at a2
    have b1 := isel_iff.1 a1
    have b2 := isel_iff.1 a2
    have e1 : r1 = xs.length := by rw [hr1]; exact if_pos a1
    have e2 : r2 = ys.length := by rw [hr2]; exact if_pos a2
    have e3 : s1 = bnat xs := by rw [hs1]; exact if_pos a1
    have e4 : s2 = bnat ys := by rw [hs2]; exact if_pos a2
    have hl : xs.length = ys.length := by omega
    have q1 := bnat_lt b1.1
    have q2 := bnat_lt b2.1
    have e64 : (2 : Nat) ^ 64 = 18446744073709551616 := by decide
    have q3 : 2 ^ xs.length ≤ 2 ^ 64 := Nat.pow_le_pow_right (by decide) (by omega)
    have q4 : 2 ^ ys.length ≤ 2 ^ 64 := Nat.pow_le_pow_right (by decide) (by omega)
    refine ⟨?_, by omega, by omega, by omega⟩
    unfold xs2
    rw [if_pos ⟨a1, by rw [hl]; exact a2⟩, e1, e3, e4, els_xor b1.1 b2.1 hl])
  have HN : Hid ((o1 = false ∨ o2 = false ∨ r1 ≠ r2) → xs2 xs ys = []) := Lib.hid (fun h => by
    unfold xs2
    rw [if_neg]
    rintro ⟨a1, a2⟩
    have hl := (isel_iff.1 a2).2.1
    have a3 := a2
    rw [← hl] at a3
    rcases h with h | h | h
    · rw [ho1, a1] at h; cases h
    · rw [ho2, a3] at h; cases h
    · apply h
      rw [hr1, hr2]
      unfold soR
      rw [if_pos a1, if_pos a3]
      omega)
  clear hr1 hr2 hs1 hs2 ho1 ho2
  go_enter Try.func90, Try.ntmps90
  go_wp2_with fail
  refine (C1.out w HU.out hl1).mono ?_
  rintro e w1 ⟨rfl, hb1⟩
  have HB1 := Lib.hid (hb1.alloc hb1.size (.cells #[.int .i64 (r1 : Int), .int .u64 (s1 : Int)] 82))
  have HV1 := Lib.hid (HV.out.behind (HB1.out.mono hl2))
  have hle1 : l2 ≤ (w1.alloc (.cells #[.int .i64 (r1 : Int), .int .u64 (s1 : Int)] 82)).heap.size := by have := hb1.size; simp; omega
  have HL1 := Lib.hid hle1
  have HS1 := Lib.hid hb1.size
  clear hb1 hle1
  go_wp2_with fail
  refine (C2.out _ HV1.out HL1.out).mono ?_
  rintro e w2 ⟨rfl, hb2⟩
  have hk : w2.heap[w1.heap.size]? = some (.cells #[.int .i64 (r1 : Int), .int .u64 (s1 : Int)] 82) := (hb2.block w1.heap.size (by simp)).trans (heap_alloc_new w1 _)
  have HB2 := Lib.hid ((HB1.out.trans (hb2.mono HB1.out.size)).alloc (Nat.le_trans HB1.out.size hb2.size) (.cells #[.int .i64 (r2 : Int), .int .u64 (s2 : Int)] 82))
  have hz := lt_of_block hk
  have HSz : Hid (w.heap.size ≤ w2.heap.size) := Lib.hid (Nat.le_trans HB1.out.size hb2.size)
  have k0 := blk_cell hk 0
  have k1 := blk_cell hk 1
  rw [two0] at k0
  rw [two1] at k1
  clear hk hb2
  cases o1
  · have HE := Lib.hid (HN.out (.inl rfl))
    go_wp2_with fail
    go_ret
    exact ⟨_, rfl, by rw [HE.out]; exact Own.lit2 _ HSz.out, HB2.out.alloc HB2.out.size _⟩
  · cases o2
    · have HE := Lib.hid (HN.out (.inr (.inl rfl)))
      go_wp2_with fail
      go_ret
      exact ⟨_, rfl, by rw [HE.out]; exact Own.lit2 _ HSz.out, HB2.out.alloc HB2.out.size _⟩
    · by_cases hr : r1 = r2
      · obtain ⟨q0, q1, q2, q3⟩ := HX.out rfl rfl hr
        have e2 : ((r1 : Int) != (r2 : Int)) = false := by simp [hr]
        have HE := Lib.hid q0
        have HQ : Hid (bits .xor .u64 (s1 : Int) (s2 : Int) = ((s1 ^^^ s2 : Nat) : Int)) := Lib.hid (u64_xor s1 s2 q2 q3)
        have HQ2 : Hid (s1 ^^^ s2 < 18446744073709551616) := Lib.hid (by
          have e64 : (2 : Nat) ^ 64 = 18446744073709551616 := by decide
          have : s1 ^^^ s2 < 2 ^ 64 := Nat.xor_lt_two_pow (by omega) (by omega)
          omega)
        clear hr q0 q2 q3
        go_wp2_with fail
        rw [HQ.out]
        refine (els_any r1 (s1 ^^^ s2) q1 HQ2.out).mono ?_
        rintro e w3 ⟨v3, rfl, hO, hB⟩
        have HO := Lib.hid (hO.mono HB2.out.size)
        have HB3 := Lib.hid (HB2.out.trans (hB.mono HB2.out.size))
        clear hO hB
        go_wp2_with fail
        go_ret
        exact ⟨_, rfl, by rw [HE.out]; exact HO.out, HB3.out⟩
      · have HE := Lib.hid (HN.out (.inr (.inr hr)))
        have e2 : ((r1 : Int) != (r2 : Int)) = true := by simp; omega
        clear hr
        go_wp2_with fail
        go_ret
        exact ⟨_, rfl, by rw [HE.out]; exact Own.lit2 _ HSz.out, HB2.out.alloc HB2.out.size _⟩

set_option maxHeartbeats 1000000 in
/-- spec.XorSelections. -/
theorem spec_xs {l1 l2 : Nat} {w : World} {u v : Value} {xs ys : List Int} (hu : Rd l1 .i64 w u xs) (hv : Rd l2 .i64 w v ys) (hl1 : l1 ≤ w.heap.size) (hl2 : l2 ≤ w.heap.size) :
    Calls Try.prog 69 #[u, v] w fun e w' => ∃ v', e = .returned v' ∧ Own 3 .i64 w.heap.size w' v' (xs2 xs ys) ∧ Below w.heap.size w w' := by
  obtain ⟨i0, hi, hz0, hz1, hz2⟩ := info_parts infoi64
  have Hhi := Lib.hid hi
  have hlenx := hu.len
  unfold maxLen at hlenx
  have b0 := (Below.refl w.heap.size w).alloc (Nat.le_refl _) (.cells #[] 3)
  have HU := Lib.hid (hu.behind (b0.mono hl1))
  have HV := Lib.hid (hv.behind (b0.mono hl2))
  have HO : Hid (Own 3 .i64 w.heap.size (w.alloc (.cells #[] 3)) (.slice (some ⟨w.heap.size, 0, none⟩) 0 0) []) := Lib.hid (Own.lit _ _ (Nat.le_refl _))
  have HB := Lib.hid b0
  have Hlw : Hid ((Lit.int .i64 (xs.length : Int)).wf = true) := Lib.hid (wf_i64_of (by omega) (by omega))
  have hL1 : l1 ≤ (w.alloc (.cells #[] 3)).heap.size := by simp; omega
  have hL2 : l2 ≤ (w.alloc (.cells #[] 3)).heap.size := by simp; omega
  have HL1 := Lib.hid hL1
  have HL2 := Lib.hid hL2
  obtain ⟨a, cap, rfl, h1, h2, hc⟩ := hu.open
  have Hc := Lib.hid hc
  unfold maxLen at h2
  clear hu hi b0 hL1 hL2 hc
  by_cases ha : isel xs (xs.length : Int) = true
  · by_cases hb : isel ys (xs.length : Int) = true
    · obtain ⟨A1, _, A3⟩ := isel_iff.1 ha
      obtain ⟨B1, B2, _⟩ := isel_iff.1 hb
      have Ha := Lib.hid ha
      have Hb := Lib.hid hb
      have HA1 := Lib.hid A1
      have HB1 := Lib.hid B1
      have HlE : Hid (xs.length = ys.length) := Lib.hid (by omega)
      have HE : Hid (xs2 xs ys = xors xs ys) := Lib.hid (by unfold xs2; rw [if_pos ⟨ha, hb⟩])
      have hyl : ys.length ≤ 64 := by omega
      obtain ⟨a', cap', rfl, h1', h2', hc'⟩ := hv.open
      have Hc' := Lib.hid hc'
      have HO0 : Hid (Own 3 .i64 w.heap.size (w.alloc (.cells #[] 3)) (.slice (some ⟨w.heap.size, 0, none⟩) 0 0) ((xors xs ys).take 0)) := HO
      unfold maxLen at h2'
      clear ha hb A1 B1 B2 hc' hv
      go_enter Try.func69, Try.ntmps69
      go_wp2_with fail
      refine (spec_is HU.out Hlw.out).mono ?_
      rw [Ha.out]
      rintro e w1 ⟨rfl, hw1⟩
      subst hw1
      go_wp2_with fail
      refine (spec_is HV.out Hlw.out).mono ?_
      rw [Hb.out]
      rintro e w1 ⟨rfl, hw1⟩
      subst hw1
      go_wp2_with fail
      go_loopw [5, 6] (fun s i wr => ∃ j : Nat, i = .int .i64 j ∧ j ≤ xs.length ∧ Own 3 .i64 w.heap.size wr s ((xors xs ys).take j) ∧ Below w.heap.size w wr) (fun _ i _ => xs.length - (intOf i).toNat)
      case atStart => exact ⟨0, rfl, Nat.zero_le _, HO0.out, HB.out⟩
      case round =>
        obtain ⟨j, rfl, hj, hO, hB⟩ := hrel
        have HO' := Lib.hid hO
        have HB' := Lib.hid hB
        clear hO hB HO HO0 
        by_cases hlt : j < xs.length
        · have e1 : decide ((j : Int) < (xs.length : Int)) = true := by simp; omega
          have hlt2 : j < ys.length := by have := HlE.out; omega
          have ej1 : (j : Int) < (xs.length : Int) := by omega
          have ej2 : (j : Int) < (ys.length : Int) := by omega
          obtain ⟨b, o, rfl, hbl, hcell⟩ := Hc.out (by omega)
          obtain ⟨b', o', rfl, hbl', hcell'⟩ := Hc'.out (by omega)
          have c1 := hcell _ (HB'.out.mono hl1) j hlt
          have c2 := hcell' _ (HB'.out.mono hl2) j hlt2
          have hx := HA1.out j hlt
          have hy := HB1.out j hlt2
          have HT := Lib.hid (xors_take_succ xs ys hlt)
          have hlen : ((xors xs ys).take j).length ≤ 64 := by rw [List.length_take, xors_len]; omega
          have HLn := Lib.hid hlen
          have HC : Hid (∀ w', Below w.heap.size w w' → w'.cell? ⟨b, o + j, none⟩ = some (.int .i64 (xs.getD j 0)) ∧ w'.cell? ⟨b', o' + j, none⟩ = some (.int .i64 (ys.getD j 0))) := Lib.hid (fun w' hb => ⟨hcell w' (hb.mono hl1) j hlt, hcell' w' (hb.mono hl2) j hlt2⟩)
          obtain ⟨z, hz⟩ : ∃ z, z = xs.getD j 0 := ⟨_, rfl⟩
          obtain ⟨z', hz'⟩ : ∃ z, z = ys.getD j 0 := ⟨_, rfl⟩
          rw [← hz] at c1 hx HT HC
          rw [← hz'] at c2 hy HT HC
          have HE2 := Lib.hid (i64_xor_bit hx hy)
          have hm := bx_bit hx hy
          have HM := Lib.hid hm
          have R1 := Lib.hid ((Rd.one 3 .i64 wr (bits .xor .i64 z z') (by rw [HE2.out]; exact wf_i64_of (by omega) (by omega))).drew)
          have O1 := Lib.hid ((HO'.out.alloc (.cells #[.int .i64 (bits .xor .i64 z z')] 3)).drew)
          have hsz : w.heap.size ≤ wr.heap.size := HB'.out.size
          have B1 := Lib.hid ((HB'.out.alloc hsz (.cells #[.int .i64 (bits .xor .i64 z z')] 3)).drew)
          have d0 := HC.out _ HB'.out.drew
          have d1 := HC.out _ B1.out
          clear hcell hcell' hz hz' hlen hm hsz
          go_wp2_with fail
          go_region_held3 (fun w' => w'.cell? ⟨b, o + j, none⟩ = some (.int .i64 z) ∧ w'.cell? ⟨b', o' + j, none⟩ = some (.int .i64 z')) (first | assumption | go_keep) ((first
            | (go_loud (refine step_append_rd _ (by rfl) _ _ 27 (by rfl) 3 i0 (.int .i64 0) 8 Try.underlying27 Hhi.out hz0 hz1 hz2 rfl (by omega) (by rfl) O1.out (by rfl) R1.out (by have := HLn.out; simp only [List.length_singleton]; omega) ?_
                        intro v5 w5 h5 h6
                        rw [HE2.out, HT.out] at h5
                        have H5 := Lib.hid h5
                        have B5 := Lib.hid (B1.out.trans (O1.out.below (Nat.le_refl _) h6))
                        have d5 := HC.out _ B5.out
                        clear h5 h6))))
          go_wp2_with fail
          go_roundw
          case rel => exact ⟨j + 1, by simp, hlt, H5.out, B5.out⟩
          case measure => simp [intOf]; omega
        · have e1 : decide ((j : Int) < (xs.length : Int)) = false := by simp; omega
          have ej : j = xs.length := by omega
          have HR : Hid (xs2 xs ys = (xors xs ys).take j) := Lib.hid (by rw [HE.out, ej, List.take_of_length_le (by rw [xors_len]; exact Nat.le_refl _)])
          clear ej
          go_wp2
          go_ret
          exact ⟨_, rfl, by rw [HR.out]; exact HO'.out, HB'.out⟩
    · clear hv
      have Ha := Lib.hid ha
      have Hb : Hid (isel ys (xs.length : Int) = false) := Lib.hid (by simpa using hb)
      have HE : Hid (xs2 xs ys = []) := Lib.hid (by unfold xs2; rw [if_neg (fun h => hb h.2)])
      clear ha hb
      go_enter Try.func69, Try.ntmps69
      go_wp2_with fail
      refine (spec_is HU.out Hlw.out).mono ?_
      rw [Ha.out]
      rintro e w1 ⟨rfl, hw1⟩
      subst hw1
      go_wp2_with fail
      refine (spec_is HV.out Hlw.out).mono ?_
      rw [Hb.out]
      rintro e w1 ⟨rfl, hw1⟩
      subst hw1
      go_wp2_with fail
      go_ret
      exact ⟨_, rfl, by rw [HE.out]; exact HO.out, HB.out⟩
  · clear hv
    have Ha : Hid (isel xs (xs.length : Int) = false) := Lib.hid (by simpa using ha)
    have HE : Hid (xs2 xs ys = []) := Lib.hid (by unfold xs2; rw [if_neg (fun h => ha h.1)])
    clear ha
    go_enter Try.func69, Try.ntmps69
    go_wp2_with fail
    refine (spec_is HU.out Hlw.out).mono ?_
    rw [Ha.out]
    rintro e w1 ⟨rfl, hw1⟩
    subst hw1
    go_wp2_with fail
    go_ret
    exact ⟨_, rfl, by rw [HE.out]; exact HO.out, HB.out⟩

end Go.Proofs.Ytigeghmkkppldaa
