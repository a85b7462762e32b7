/- Checks of writes: the shares of a vector; the document's. No conditions but a length that a machine holds. -/
import Derived.Test.YtckhmjdhdoomdaaSk7
import Derived.Test.YtckhmjdhdoomdaaCopyR
namespace Go.Proofs.Ytckhmjdhdoomdaa
open Go Go.RowKit
set_option linter.unusedVariables false
attribute [local irreducible] kh kid chl

/-- A row of which j components are filled in. -/
def urow (v s : List Int) (k j : Nat) : List Int := upt (fun i => (shN (v.getD i 0) (sds s i)).getD k 0) (fun _ => 0) j v.length
theorem urow_len (v s : List Int) (k j : Nat) : (urow v s k j).length = v.length := upt_length _ _ _ _
theorem urow_full (v s : List Int) (k : Nat) : urow v s k v.length = vrow v s k v.length := by unfold urow vrow; rw [upt_full]
theorem urow_zero (v s : List Int) (k : Nat) : urow v s k 0 = List.replicate v.length 0 := upt_rep _ _
/-- The first k rows hold j + 1 components, the others j. -/
def midU (v s : List Int) (N j k : Nat) : List (List Int) := (List.range N).map fun i => urow v s i (if i < k then j + 1 else j)
theorem midU_len (v s : List Int) (N j k : Nat) : (midU v s N j k).length = N := by simp [midU]
theorem midU_at {v s : List Int} {N j k i : Nat} (hi : i < N) : (midU v s N j k)[i]? = some (urow v s i (if i < k then j + 1 else j)) := by
  unfold midU
  rw [List.getElem?_map, List.getElem?_range hi]; rfl
theorem midU_get {v s : List Int} {N j k : Nat} (hk : k < N) : (midU v s N j k)[k]? = some (urow v s k j) := by
  rw [midU_at hk, if_neg (Nat.lt_irrefl _)]
theorem midU_full (v s : List Int) (N j : Nat) : midU v s N j N = midU v s N (j + 1) 0 := by
  refine List.ext_getElem? fun i => ?_
  by_cases hi : i < N
  · rw [midU_at hi, midU_at hi, if_pos hi, if_neg (Nat.not_lt_zero _)]
  · rw [List.getElem?_eq_none (by rw [midU_len]; omega), List.getElem?_eq_none (by rw [midU_len]; omega)]
theorem midU_set {v s : List Int} {N j k : Nat} (hk : k < N) : (midU v s N j k).set k (urow v s k (j + 1)) = midU v s N j (k + 1) := by
  refine List.ext_getElem? fun i => ?_
  by_cases hi : i < N
  · rw [midU_at hi]
    by_cases hik : k = i
    · subst hik
      rw [List.getElem?_set_self (by rw [midU_len]; exact hi), if_pos (Nat.lt_succ_self _)]
    · rw [List.getElem?_set_ne hik, midU_at hi]
      by_cases h : i < k
      · rw [if_pos h, if_pos (by omega)]
      · rw [if_neg h, if_neg (by omega)]
  · rw [List.getElem?_eq_none (by rw [List.length_set, midU_len]; omega), List.getElem?_eq_none (by rw [midU_len]; omega)]
theorem midU_start (v s : List Int) (N : Nat) : midU v s N 0 0 = List.replicate N (List.replicate v.length 0) := by
  refine List.ext_getElem? fun i => ?_
  by_cases hi : i < N
  · rw [midU_at hi, if_neg (Nat.not_lt_zero _), List.getElem?_replicate, if_pos hi, urow_zero]
  · rw [List.getElem?_eq_none (by rw [midU_len]; omega), List.getElem?_eq_none (by simp; omega)]
theorem midU_end {v s : List Int} (h : v.length ≤ 64 ∧ 1 ≤ s.length ∧ s.length ≤ 3) : midU v s (s.length + 1) v.length 0 = shV v s := by
  rw [shV_yes h]
  refine List.ext_getElem? fun i => ?_
  by_cases hi : i < s.length + 1
  · rw [midU_at hi, if_neg (Nat.not_lt_zero _), List.getElem?_map, List.getElem?_range hi, urow_full]; rfl
  · rw [List.getElem?_eq_none (by rw [midU_len]; omega), List.getElem?_eq_none (by simp; omega)]
theorem rep_snoc {α : Type} (k : Nat) (x : α) : List.replicate k x ++ [x] = List.replicate (k + 1) x := by rw [List.replicate_succ']
theorem sds_take {s : List Int} {i j : Nat} (hj : j < s.length) : (sds s i).take j ++ [wrap64 (s.getD j 0 + 77 * (i : Int))] = (sds s i).take (j + 1) := by
  rw [List.take_add_one, List.getElem?_eq_getElem (by rw [sds_len]; exact hj), ← sds_at hj, List.getD_eq_getElem?_getD, List.getElem?_eq_getElem (by rw [sds_len]; exact hj)]
  rfl

set_option maxHeartbeats 4000000 in
/-- spec.ShareVector. -/
theorem spec_shV {l1 l2 : Nat} {w : World} {u v : Value} {vs ss : List Int} (hu : Rd l1 .i64 w u vs) (hv : Rd l2 .i64 w v ss) (hl1 : l1 ≤ w.heap.size) (hl2 : l2 ≤ w.heap.size) (hs : ss.length ≤ 1099511627776) :
    Calls Try.prog 24 #[u, v] w fun e w' => ∃ v', e = .returned v' ∧ Own2 25 3 .i64 (ival w.heap.size w'.heap.size) w' v' (shV vs ss) ∧ Below w.heap.size w w' := by
  obtain ⟨i0, hi0, hz0, hz1, hz2⟩ := info_parts infoi64
  have Hhi := Lib.hid hi0
  obtain ⟨i1, hi1, hy0, hy1, hy2⟩ := info_parts infoi64s
  have Hhi' := Lib.hid hi1
  have HU := Lib.hid hu
  have HV := Lib.hid hv
  obtain ⟨a, cap, rfl, h1, h2, hc⟩ := hu.open
  obtain ⟨a', cap', rfl, h1', h2', hc'⟩ := hv.open
  have Hc := Lib.hid hc
  have Hc' := Lib.hid hc'
  unfold maxLen at h2 h2'
  have HCt := Lib.hid (fun w1 => count_any (w := w1) (n := (ss.length : Int) + 1) (wf_i64_of (by omega) (by omega)))
  obtain ⟨W0, hW0⟩ : ∃ W, W = w.alloc (.cells #[] 25) := ⟨_, rfl⟩
  have HB0 : Hid (Below w.heap.size w W0) := Lib.hid (by rw [hW0]; exact (Below.refl _ _).alloc (Nat.le_refl _) _)
  have HO0 : Hid (Own2 25 3 .i64 (ival w.heap.size W0.heap.size) W0 (.slice (some ⟨w.heap.size, 0, none⟩) 0 0) []) := Lib.hid (by
    rw [hW0]
    refine Own2.lit _ _ _ ?_
    unfold ival
    simp)
  have HW0 := Lib.hid hW0
  clear hu hv hc hc' hi0 hi1 hW0
  by_cases hvl : vs.length ≤ 64
  · have e0 : decide ((vs.length : Int) > 64) = false := by simp; omega
    by_cases hin : 1 ≤ ss.length ∧ ss.length ≤ 3
    · have hok : vs.length ≤ 64 ∧ 1 ≤ ss.length ∧ ss.length ≤ 3 := ⟨hvl, hin.1, hin.2⟩
      have HE := Lib.hid (midU_end hok)
      have HI : Hid (inR ((ss.length : Int) + 1) 2 4 = true) := Lib.hid (inR_yes (by omega))
      obtain ⟨N, hN⟩ : ∃ N, N = ss.length + 1 := ⟨_, rfl⟩
      rw [← hN] at HE
      have HSt := Lib.hid (midU_start vs ss N)
      have hN4 : N ≤ 4 := by omega
      have HN := Lib.hid hN
      have HShl : Hid (∀ j, (shN (vs.getD j 0) (sds ss j)).length = N) := Lib.hid (fun j => by
        have h' : 1 ≤ (sds ss j).length ∧ (sds ss j).length ≤ 3 := by rw [sds_len]; exact hin
        rw [shN_len_yes h', sds_len, hN])
      have Hin := Lib.hid hin
      clear hok hN hin
      go_enter Try.func24, Try.ntmps24
      go_wp2_with fail
      rw [← HW0.out]
      refine (HCt.out _).mono ?_
      rw [HI.out]
      rintro e w1 ⟨rfl, hw⟩
      obtain rfl : W0 = w1 := hw.symm
      go_wp2_with fail
      go_loopw [5, 6] (fun s i wr => ∃ j : Nat, i = .int .i64 j ∧ j ≤ N ∧ Own2 25 3 .i64 (ival w.heap.size wr.heap.size) wr s (List.replicate j (List.replicate vs.length 0)) ∧ Below w.heap.size w wr) (fun _ i _ => N - (intOf i).toNat)
      case atStart => exact ⟨0, rfl, Nat.zero_le _, HO0.out, HB0.out⟩
      case round =>
        obtain ⟨j, rfl, hj, hO, hB⟩ := hrel
        have HO := Lib.hid hO
        have HB := Lib.hid hB
        obtain ⟨ao, co, hao, _⟩ := hO.open
        rw [List.length_replicate] at hao
        subst hao
        clear hO hB
        by_cases hlt : j < N
        · have hle : j ≤ ss.length := by have := HN.out; omega
          have e1 : decide (j ≤ ss.length) = true := decide_eq_true hle
          go_wp2_with (first | (at_make; refine wpList_make_full _ rfl _ _ 25 rfl wr.heap.size 3 i0 (.int .i64 0) 1 Try.underlying25 Hhi.out hz0 hz1 .i64 .i64 _ _ vs.length rfl rfl rfl rfl (by rw [hz2]; omega) (by unfold maxLen; omega) (Nat.le_refl _) ?_))
          intro w2 hown hg
          have hO1 := own_made hown hg.size (by decide)
          have hB1 : Below wr.heap.size wr w2 := (Below.refl wr.heap.size wr).grown hg (Nat.le_refl _) (fun k hk => by cases hk)
          have HU2 := Lib.hid (hO1.alloc (.cells #[.slice (some ⟨wr.heap.size, 0, none⟩) vs.length vs.length] 25))
          have HO2 := Lib.hid ((HO.out.next hB1).alloc (.cells #[.slice (some ⟨wr.heap.size, 0, none⟩) vs.length vs.length] 25))
          have hB2 := (HB.out.trans (hB1.mono HB.out.size))
          have HB2 := Lib.hid (hB2.alloc hB2.size (.cells #[.slice (some ⟨wr.heap.size, 0, none⟩) vs.length vs.length] 25))
          have HE2 : Hid (wr.heap.size ≤ (w2.alloc (.cells #[.slice (some ⟨wr.heap.size, 0, none⟩) vs.length vs.length] 25)).heap.size) := Lib.hid (by rw [World.size_alloc]; have := hB1.size; omega)
          have HC2 : Hid ((w2.alloc (.cells #[.slice (some ⟨wr.heap.size, 0, none⟩) vs.length vs.length] 25)).cell? ((⟨w2.heap.size, 0, none⟩ : Addr).add 0) = some (.slice (some ⟨wr.heap.size, 0, none⟩) vs.length vs.length)) := Lib.hid (blk_cell (heap_alloc_new w2 _) 0)
          have HLe : Hid (((List.replicate j (List.replicate vs.length (0 : Int))).length + 1) * 24 ≤ 140737488355328) := Lib.hid (by rw [List.length_replicate]; omega)
          have HLo := Lib.hid HB.out.size
          clear hown hg hO1 hB1 hB2
          go_wp2_with (first | (at_builtin; refine append_row _ rfl _ _ 26 rfl 25 3 i1 24 Try.underlying26 Hhi'.out hy0 hy1 hy2 (by omega) rfl HO2.out HLo.out HE2.out rfl HC2.out HU2.out HLe.out ?_))
          intro v5 w5 h5 h6
          rw [rep_snoc] at h5
          have H5 := Lib.hid h5
          have HB5 := Lib.hid (HB2.out.grown h6 HB2.out.size (fun k hk => (HO2.out.in_ k hk).1))
          clear h5 h6
          go_wp2_with fail
          go_roundw
          case rel => exact ⟨j + 1, by simp, hlt, H5.out, HB5.out⟩
          case measure => simp [intOf]; omega
        · have hnle : ¬ j ≤ ss.length := by have := HN.out; omega
          have e1 : decide (j ≤ ss.length) = false := decide_eq_false hnle
          obtain rfl : N = j := by omega
          rw [← HSt.out] at HO
          obtain ⟨ax, cx, hx1, _, _, hx2⟩ := HO.out.open
          obtain ⟨go, hgo, hgF⟩ := hx2 (by rw [midU_len]; have := HN.out; omega)
          injection hx1 with q1 q2 q3
          subst q1
          subst hgo
          clear hx2 q2 q3
          have hgF' := hgF.1
          go_wp2_with fail
          go_loopw [7] (fun i wr => ∃ j : Nat, i = .int .i64 j ∧ j ≤ vs.length ∧ Own2 25 3 .i64 (ival w.heap.size wr.heap.size) wr (.slice (some ⟨go, 0, none⟩) N co) (midU vs ss N j 0) ∧ Below w.heap.size w wr) (fun i _ => vs.length - (intOf i).toNat)
          case atStart => exact ⟨0, rfl, Nat.zero_le _, HO.out, HB.out⟩
          case round =>
            clear HO HB hgF hgF'
            obtain ⟨j, rfl, hj, hO, hB⟩ := hrel
            have HO := Lib.hid hO
            have HB := Lib.hid hB
            clear hO hB
            by_cases hlt : j < vs.length
            · obtain ⟨wo, hwo⟩ : ∃ x, x = wr := ⟨_, rfl⟩
              subst hwo
              have e2 : decide ((j : Int) < (vs.length : Int)) = true := by simp; omega
              obtain ⟨W2, hW2⟩ : ∃ W, W = wo.alloc (.cells #[] 3) := ⟨_, rfl⟩
              have HW2 := Lib.hid hW2
              have HBa : Hid (Below wo.heap.size wo W2) := Lib.hid (by rw [hW2]; exact (Below.refl _ _).alloc (Nat.le_refl _) _)
              have HS0 : Hid (Own 3 .i64 wo.heap.size W2 (.slice (some ⟨wo.heap.size, 0, none⟩) 0 0) []) := Lib.hid (by rw [hW2]; exact Own.lit _ _ (Nat.le_refl _))
              clear hW2
              go_wp2_with fail
              rw [← HW2.out]
              go_loopw [8, 9] (fun s i wr => ∃ m : Nat, i = .int .i64 m ∧ m ≤ ss.length ∧ Own 3 .i64 wo.heap.size wr s ((sds ss j).take m) ∧ Below wo.heap.size wo wr) (fun _ i _ => ss.length - (intOf i).toNat)
              case atStart => exact ⟨0, rfl, Nat.zero_le _, by rw [List.take_zero]; exact HS0.out, HBa.out⟩
              case round =>
                obtain ⟨m, rfl, hm, hS, hBx⟩ := hrel
                have HS := Lib.hid hS
                have HBx := Lib.hid hBx
                clear hS hBx
                by_cases hlm : m < ss.length
                · have e3 : decide ((m : Int) < (ss.length : Int)) = true := by simp; omega
                  obtain ⟨bs, os, rfl, hbs, hcell⟩ := Hc'.out (by omega)
                  have c1 := hcell wr ((HB.out.trans (HBx.out.mono HB.out.size)).mono hl2) m hlm
                  have HT := Lib.hid (sds_take (i := j) hlm)
                  obtain ⟨z, hz⟩ : ∃ z, z = ss.getD m 0 := ⟨_, rfl⟩
                  rw [← hz] at c1 HT
                  have HLb : Hid (((sds ss j).take m).length ≤ 3) := Lib.hid (by rw [List.length_take, sds_len]; have := Hin.out.2; omega)
                  have O1 := Lib.hid (HS.out.alloc (.cells #[.int .i64 (wrap64 (z + 77 * (j : Int)))] 3))
                  have B1 := Lib.hid (HBx.out.alloc HS.out.2.1 (.cells #[.int .i64 (wrap64 (z + 77 * (j : Int)))] 3))
                  have R1 := Lib.hid (Rd.one 3 .i64 wr (wrap64 (z + 77 * (j : Int))) (wrap64_wf _))
                  clear hcell hz
                  go_wp2_with (first | (at_builtin; refine append_rd _ rfl _ _ 25 rfl 3 i0 (.int .i64 0) 8 Try.underlying25 Hhi.out hz0 hz1 hz2 rfl (by omega) rfl O1.out rfl R1.out (by have := HLb.out; simp only [List.length_singleton]; omega) ?_))
                  intro v5 w5 h5 h6
                  rw [HT.out] at h5
                  have H5 := Lib.hid h5
                  have B5 := Lib.hid (B1.out.trans (O1.out.below (Nat.le_refl _) h6))
                  clear h5 h6
                  go_wp2_with fail
                  go_roundw
                  case rel => exact ⟨m + 1, by simp, hlm, H5.out, B5.out⟩
                  case measure => simp [intOf]; omega
                · have e3 : decide ((m : Int) < (ss.length : Int)) = false := by simp; omega
                  have em : (sds ss j).take m = sds ss j := List.take_of_length_le (by rw [sds_len]; omega)
                  rw [em] at HS
                  obtain ⟨bs, os, rfl, hbs, hcell⟩ := Hc.out (by omega)
                  have c1 := hcell wr ((HB.out.trans (HBx.out.mono HB.out.size)).mono hl1) j hlt
                  have HXw := Lib.hid (HU.out.wf hlt)
                  have HSl := Lib.hid (HShl.out j)
                  obtain ⟨R, hR⟩ : ∃ R, R = shN (vs.getD j 0) (sds ss j) := ⟨_, rfl⟩
                  have HR := Lib.hid hR
                  have HSet : Hid (∀ k, k < N → (midU vs ss N j k).set k (urow vs ss k (j + 1)) = midU vs ss N j (k + 1)) := Lib.hid (fun k hk => midU_set hk)
                  have HCall := Lib.hid (spec_shN HS.out.rd (Nat.le_refl _) HXw.out (by rw [sds_len]; have := Hin.out.2; omega))
                  rw [← hR] at HSl HCall
                  obtain ⟨x, hx⟩ : ∃ x, x = vs.getD j 0 := ⟨_, rfl⟩
                  rw [← hx] at c1 HXw HCall
                  clear hcell hx em hR
                  go_wp2_with fail
                  refine HCall.out.mono ?_
                  rintro e w4 ⟨v4, rfl, h4, hb4⟩
                  obtain ⟨al, cl, hv4, hgl⟩ := h4.open
                  rw [HSl.out] at hv4 hgl
                  obtain ⟨gl, rfl⟩ := hgl (by have := HN.out; omega)
                  subst hv4
                  have HBo : Hid (Below wo.heap.size wo w4) := Lib.hid (HBx.out.trans (hb4.mono HBx.out.size))
                  have HL : Hid (Own 3 .i64 wo.heap.size w4 (.slice (some ⟨gl, 0, none⟩) N cl) R) := Lib.hid (h4.mono HBx.out.size)
                  have HO4 := Lib.hid (HO.out.next HBo.out)
                  have hglo := (HL.out.lt gl rfl).1
                  have HGl := Lib.hid hglo
                  clear h4 hb4 hgl hglo
                  go_wp2_with fail
                  go_loopw [11] (fun i wr => ∃ (k : Nat), i = .int .i64 k ∧ k ≤ N ∧ Own2 25 3 .i64 (ival w.heap.size wo.heap.size) wr (.slice (some ⟨go, 0, none⟩) N co) (midU vs ss N j k) ∧ Own 3 .i64 wo.heap.size wr (.slice (some ⟨gl, 0, none⟩) N cl) R ∧ Below w.heap.size w wr ∧ wo.heap.size ≤ wr.heap.size) (fun i _ => N - (intOf i).toNat)
                  case atStart => exact ⟨0, rfl, Nat.zero_le _, HO4.out, HL.out, HB.out.trans (HBo.out.mono HB.out.size), HBo.out.size⟩
                  case round =>
                    obtain ⟨k, rfl, hk, hO, hL, hB, hSz⟩ := hrel
                    have HOk := Lib.hid hO
                    have HLk := Lib.hid hL
                    have HBk := Lib.hid hB
                    have HSz := Lib.hid hSz
                    clear hO hL hB hSz
                    by_cases hlk : k < N
                    · have e4 : decide ((k : Int) < (N : Int)) = true := by simp; omega
                      have hlki : (k : Int) < (N : Int) := by omega
                      have hlti : (j : Int) < (vs.length : Int) := by omega
                      obtain ⟨u, cu, hu, hin, hup⟩ := HOk.out.upd (midU_get hlk)
                      obtain ⟨au, cu', hue, hgu⟩ := hu.open
                      rw [urow_len] at hue hgu
                      obtain ⟨gu, rfl⟩ := hgu (by omega)
                      subst hue
                      have HSe := Lib.hid (HSet.out k hlk)
                      have hz : R.getD k 0 = (shN (vs.getD j 0) (sds ss j)).getD k 0 := by rw [HR.out]
                      have hzw : (Lit.int .i64 (R.getD k 0)).wf = true := HLk.out.rd.wf (i := k) (by rw [HSl.out]; exact hlk)
                      have hput := hu.put (f := fun i => (shN (vs.getD i 0) (sds ss i)).getD k 0) (j := j) (by rw [← hz]; exact hzw)
                      obtain ⟨p1, p2⟩ := hput
                      have hc1 := HLk.out.cellAt HSl.out hlk
                      have hf1 := hu.free (urow_len _ _ _ _) j
                      have hc3 := hu.cellAt (urow_len _ _ _ _) hlt
                      rw [← hz] at p1 p2
                      obtain ⟨z, hz'⟩ : ∃ z, z = R.getD k 0 := ⟨_, rfl⟩
                      rw [← hz'] at p1 p2 hc1
                      obtain ⟨y, hy⟩ : ∃ y, y = (urow vs ss k j).getD j 0 := ⟨_, rfl⟩
                      rw [← hy] at hc3
                      have hguF : ival w.heap.size wo.heap.size gu := hin gu rfl
                      have hk5 : KeptF (fun b => (Value.slice (some ⟨gu, 0, none⟩) vs.length cu').ownBlock = some b) wr (wr.setCell ⟨gu, j, none⟩ (.int .i64 z)) := KeptF.of_grown p2 (fun b hb => hb)
                      have p3 := hup _ _ hk5 p1
                      rw [show upt (fun i => (shN (vs.getD i 0) (sds ss i)).getD k 0) (fun _ => 0) (j + 1) vs.length = urow vs ss k (j + 1) from rfl, HSe.out] at p3
                      have P3 := Lib.hid p3
                      have P4 := Lib.hid (HLk.out.kept p2 (.inr (by
                        intro e
                        injection e with e
                        have h1 := HGl.out
                        have h2 := hguF.2
                        have h3 : gl = gu := e
                        omega)))
                      have P5 := Lib.hid (HBk.out.grown p2 HBk.out.size (fun k hk => by injection hk with hk; have := hguF.1; omega))
                      have P6 : Hid (wo.heap.size ≤ (wr.setCell ⟨gu, j, none⟩ (.int .i64 z)).heap.size) := Lib.hid (Nat.le_trans HSz.out p2.size)
                      clear hu hin hup p1 p2 p3 hz hzw hz' hy hguF hk5 hgu
                      go_wp2_with fail
                      go_region_with (fail)
                      all_goals
                        go_wp2_with fail
                        go_roundw
                        case rel => exact ⟨k + 1, by simp, hlk, P3.out.drew, P4.out.drew, P5.out.drew, P6.out⟩
                        case measure => simp [intOf]; omega
                    · have e4 : decide ((k : Int) < (N : Int)) = false := by simp; omega
                      obtain rfl : N = k := by omega
                      have HO5 : Hid (Own2 25 3 .i64 (ival w.heap.size wr.heap.size) wr (.slice (some ⟨go, 0, none⟩) N co) (midU vs ss N (j + 1) 0)) := Lib.hid (by
                        rw [← midU_full]
                        exact HOk.out.mono fun b hb => ⟨hb.1, Nat.lt_of_lt_of_le hb.2 HSz.out⟩)
                      go_wp2_with fail
                      go_roundw
                      case rel => exact ⟨j + 1, by simp, hlt, HO5.out, HBk.out⟩
                      case measure => simp [intOf]; omega
            · have e2 : decide ((j : Int) < (vs.length : Int)) = false := by simp; omega
              obtain rfl : j = vs.length := by omega
              rw [HE.out] at HO
              go_wp2_with fail
              go_ret
              exact ⟨_, rfl, HO.out, HB.out⟩
    · have HNo : Hid (shV vs ss = []) := Lib.hid (shV_no (fun h => hin h.2))
      have HI : Hid (inR ((ss.length : Int) + 1) 2 4 = false) := Lib.hid (by unfold inR; simp; omega)
      rw [HNo.out]
      clear hin
      go_enter Try.func24, Try.ntmps24
      go_wp2_with fail
      rw [← HW0.out]
      refine (HCt.out _).mono ?_
      rw [HI.out]
      rintro e w1 ⟨rfl, hw⟩
      obtain rfl : W0 = w1 := hw.symm
      go_wp2_with fail
      go_ret
      exact ⟨_, rfl, HO0.out, HB0.out⟩
  · have e0 : decide ((vs.length : Int) > 64) = true := by simp; omega
    have HNo : Hid (shV vs ss = []) := Lib.hid (shV_no (fun h => hvl h.1))
    rw [HNo.out]
    clear hvl
    go_enter Try.func24, Try.ntmps24
    go_wp2_with fail
    go_ret
    rw [← HW0.out]
    exact ⟨_, rfl, HO0.out, HB0.out⟩

          
end Go.Proofs.Ytckhmjdhdoomdaa
