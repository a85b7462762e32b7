/- Spent lists: BudgetLeft of the program and of the document. No conditions but numbers and lengths that a machine holds. -/
import Derived.Test.YtdlbpeippmibcaaSp6
namespace Go.Proofs.Ytdlbpeippmibcaa
open Go Go.RowKit Go.Maps
set_option linter.unusedVariables false
set_option maxRecDepth 20000
attribute [local irreducible] kh kid pwm tcm pw chl

theorem mem_snoc {ys : List Int} {t : Nat} (h : t < ys.length) (y : Int) : memS (ys.take (t + 1)) y = (memS (ys.take t) y || (ys.getD t 0 == y)) := by
  rw [Bool.eq_iff_iff, memS_iff, Bool.or_eq_true, memS_iff, beq_iff_eq, List.take_add_one, List.getElem?_eq_getElem h, List.mem_append, List.getD_eq_getElem?_getD, List.getElem?_eq_getElem h]
  simp [eq_comm]
theorem bud_succ (zs ys : List Int) (k : Nat) : budL zs ys (k + 1) = budL zs ys k + (if budAt zs ys k = true then 1 else 0) := rfl

set_option maxRecDepth 100000 in
set_option maxHeartbeats 8000000 in
/-- impl.BudgetLeft -/
theorem impl_bud {l1 l2 : Nat} {w : World} {u v : Value} {zs ys : List Int} {e : Int} (hu : Rd l1 .i64 w u zs) (hv : Rd l2 .i64 w v ys) (hl1 : l1 ≤ w.heap.size) (hl2 : l2 ≤ w.heap.size) :
    Calls Try.prog 23 #[.agg #[.int .i64 e, u], v] w fun x w' => x = .returned (.int .i64 ((budL zs ys ys.length : Nat) : Int)) ∧ Below w.heap.size w w' := by
  obtain ⟨p, cap, rfl, h1, h2, hc⟩ := hu.open
  obtain ⟨p2, cap2, rfl, k1, k2, kc⟩ := hv.open
  have hk := heap_alloc_new w (.cells #[.int .i64 e, .slice p zs.length cap] 26)
  have hb := (Below.refl w.heap.size w).alloc (Nat.le_refl _) (.cells #[.int .i64 e, .slice p zs.length cap] 26)
  obtain ⟨W0, hW0⟩ : ∃ W, W = w.alloc (.cells #[.int .i64 e, .slice p zs.length cap] 26) := ⟨_, rfl⟩
  rw [← hW0] at hk hb
  have HW0 := Lib.hid hW0
  have HA := Lib.hid hk
  have HB0 := Lib.hid hb
  have HB := Lib.hid (Below.refl W0.heap.size W0)
  have HRa := Lib.hid (hu.behind (hb.mono hl1))
  have HRb := Lib.hid (hv.behind (hb.mono hl2))
  have HLa := Lib.hid (show l1 ≤ W0.heap.size from Nat.le_trans hl1 hb.size)
  have HLb := Lib.hid (show l2 ≤ W0.heap.size from Nat.le_trans hl2 hb.size)
  obtain ⟨c0, c1, _⟩ := scs hk
  rw [hW0] at c0 c1
  have hla : zs.length ≤ 9223372036854775807 := by unfold maxLen at h2; omega
  have hlb : ys.length ≤ 9223372036854775807 := by unfold maxLen at k2; omega
  clear hu hv hc kc hk hb hW0 h1 h2 k1 k2
  obtain ⟨m, hm⟩ : ∃ m, m = budL zs ys ys.length := ⟨_, rfl⟩
  have hmb : m ≤ ys.length := by rw [hm]; exact budL_le _ _ _
  have HSz : Hid (Maps.size (delL (mset ys ys.length) zs) = m) := Lib.hid (by rw [hm]; exact size_bud zs ys _ (Nat.le_refl _))
  rw [← hm]
  clear hm
  go_enter Try.func23, Try.ntmps23
  go_wp2_with fail
  rw [← HW0.out]
  refine (impl_dn HRb.out HLb.out).mono ?_
  rintro e' w3 ⟨bm, rfl, hbm, hO, hb⟩
  have HBm := Lib.hid hbm
  have HMap := Lib.hid hO
  replace HB := Lib.hid hb
  clear c0 c1 hbm hO hb
  obtain ⟨c0, c1, _⟩ := scs (stands (l := 0) HA.out HB.out)
  go_wp2_with fail
  go_loopw [13] (fun i wr => ∃ j : Nat, i = .int .i64 j ∧ j ≤ zs.length ∧ wr.ownsMap Try.prog 3 (plainElem (H := Unit) Try.prog 4) bm ys.length (delL (mset ys ys.length) (zs.take j)) ∧ Below W0.heap.size W0 wr) (fun i _ => zs.length - (intOf i).toNat)
  case atStart => exact ⟨0, rfl, Nat.zero_le _, HMap.out, HB.out⟩
  case round =>
    obtain ⟨j, rfl, hj, hO, hB⟩ := hrel
    clear HB HMap c0 c1
    have HO := Lib.hid hO
    have HB := Lib.hid hB
    clear hO hB
    by_cases hlt : j < zs.length
    · have e1 : decide ((j : Int) < (zs.length : Int)) = true := by simp; omega
      obtain ⟨a, cp, hv, _, _, hc⟩ := HRa.out.open
      injection hv with hv1 _ hv3
      subst hv1 hv3
      obtain ⟨b, o, hp, hb, hcell⟩ := hc (by omega)
      have y1 := hcell _ (HB.out.mono HLa.out) j hlt
      have hw := HRa.out.wf hlt
      have HD := Lib.hid (delL_take (D := mset ys ys.length) hlt)
      obtain ⟨z, hz⟩ : ∃ z, z = zs.getD j 0 := ⟨_, rfl⟩
      rw [← hz] at y1 hw HD
      have HZw := Lib.hid hw
      subst hp
      clear hc hcell hb hw hz
      go_wp2_with (first
        | (at_delete; refine wpList_delete_own _ rfl _ _ 66 3 rfl 4 lawInt Try.underlying66 (plainElem (H := Unit) Try.prog 4) bm ys.length _ rfl HO.out _ _ rfl (keyOf_int_mk Try.underlying3 HZw.out) ?_; intro w4 hown hturn))
      rw [← HD.out] at hown
      have HO4 := Lib.hid hown
      have HB4 := Lib.hid (HB.out.grown hturn.grown HB.out.size (fun k hk => by injection hk with hk; have := HBm.out; omega))
      clear hown hturn
      go_wp2_with fail
      go_roundw
      case rel => exact ⟨j + 1, by simp, hlt, HO4.out, HB4.out⟩
      case measure => simp [intOf]; omega
    · have e1 : decide ((j : Int) < (zs.length : Int)) = false := by simp; omega
      have HTk : Hid (zs.take j = zs) := Lib.hid (List.take_of_length_le (by omega))
      have HO' := HO.out
      rw [HTk.out] at HO'
      replace HO := Lib.hid HO'
      clear HO'
      go_wp2_with (first
        | (at_len; refine wpList_len_own _ rfl _ 66 rfl 3 4 Try.underlying66 _ bm ys.length _ rfl HO.out ?_; rw [HSz.out]))
      go_ret
      exact ⟨rfl, HB0.out.trans (HB.out.mono HB0.out.size)⟩

set_option maxRecDepth 100000 in
set_option maxHeartbeats 8000000 in
/-- spec.BudgetLeft -/
theorem spec_bud {l1 l2 : Nat} {w : World} {u v : Value} {zs ys : List Int} {e : Int} (hu : Rd l1 .i64 w u zs) (hv : Rd l2 .i64 w v ys) (hl1 : l1 ≤ w.heap.size) (hl2 : l2 ≤ w.heap.size) :
    Calls Try.prog 38 #[.agg #[.int .i64 e, u], v] w fun x w' => x = .returned (.int .i64 ((budL zs ys ys.length : Nat) : Int)) ∧ Below w.heap.size w w' := by
  obtain ⟨p, cap, rfl, h1, h2, hc⟩ := hu.open
  obtain ⟨p2, cap2, rfl, k1, k2, kc⟩ := hv.open
  have hk := heap_alloc_new w (.cells #[.int .i64 e, .slice p zs.length cap] 26)
  have hb := (Below.refl w.heap.size w).alloc (Nat.le_refl _) (.cells #[.int .i64 e, .slice p zs.length cap] 26)
  obtain ⟨W0, hW0⟩ : ∃ W, W = w.alloc (.cells #[.int .i64 e, .slice p zs.length cap] 26) := ⟨_, rfl⟩
  rw [← hW0] at hk hb
  have HW0 := Lib.hid hW0
  have HA := Lib.hid hk
  have HB0 := Lib.hid hb
  have HB := Lib.hid (Below.refl W0.heap.size W0)
  have HRa := Lib.hid (hu.behind (hb.mono hl1))
  have HRb := Lib.hid (hv.behind (hb.mono hl2))
  have HLa := Lib.hid (show l1 ≤ W0.heap.size from Nat.le_trans hl1 hb.size)
  have HLb := Lib.hid (show l2 ≤ W0.heap.size from Nat.le_trans hl2 hb.size)
  obtain ⟨c0, c1, _⟩ := scs hk
  rw [hW0] at c0 c1
  have hla : zs.length ≤ 9223372036854775807 := by unfold maxLen at h2; omega
  have hlb : ys.length ≤ 9223372036854775807 := by unfold maxLen at k2; omega
  clear hu hv hc kc hk hb hW0 h1 h2 k1 k2
  go_enter Try.func38, Try.ntmps38
  go_wp2_with fail
  rw [← HW0.out]
  go_loopw [5, 6] (fun n i wr => ∃ j : Nat, i = .int .i64 j ∧ j ≤ ys.length ∧ n = .int .i64 ((budL zs ys j : Nat) : Int) ∧ Below W0.heap.size W0 wr) (fun _ i _ => ys.length - (intOf i).toNat)
  case atStart => exact ⟨0, rfl, Nat.zero_le _, rfl, HB.out⟩
  case round =>
    obtain ⟨j, rfl, hj, rfl, hB⟩ := hrel
    clear HB c0 c1
    have HB := Lib.hid hB
    obtain ⟨n, hn⟩ : ∃ n, n = budL zs ys j := ⟨_, rfl⟩
    have hnj : n ≤ j := by rw [hn]; exact budL_le _ _ _
    rw [← hn]
    have HNn := Lib.hid hn
    clear hB hn
    by_cases hlt : j < ys.length
    case neg =>
      have e1 : decide ((j : Int) < (ys.length : Int)) = false := by simp; omega
      have HE : Hid (budL zs ys ys.length = n) := Lib.hid (by rw [HNn.out, show j = ys.length by omega])
      go_wp2_with fail
      go_ret
      exact ⟨by rw [HE.out]; rfl, HB0.out.trans (HB.out.mono HB0.out.size)⟩
    have e1 : decide ((j : Int) < (ys.length : Int)) = true := by simp; omega
    have hji : (j : Int) < (ys.length : Int) := by omega
    obtain ⟨a, cp, hv, _, _, hc⟩ := HRb.out.open
    injection hv with hv1 _ hv3
    subst hv1 hv3
    obtain ⟨b, o, hp, hb, hcell⟩ := hc (by omega)
    have HCell := Lib.hid hcell
    have HJ := Lib.hid hlt
    obtain ⟨y, hy⟩ : ∃ y, y = ys.getD j 0 := ⟨_, rfl⟩
    have HYv := Lib.hid hy
    subst hp
    obtain ⟨wo, hwo⟩ : ∃ x, x = wr := ⟨_, rfl⟩
    subst hwo
    clear hc hcell hb hy
    go_wp2_with fail
    go_loopw [7, 8] (fun g k wr => ∃ t : Nat, k = .int .i64 t ∧ t ≤ j ∧ g = .bool (memS (ys.take t) y) ∧ Below W0.heap.size W0 wr) (fun _ k _ => j - (intOf k).toNat)
    case atStart => exact ⟨0, rfl, Nat.zero_le _, rfl, HB.out⟩
    case round =>
      obtain ⟨t, rfl, ht, rfl, hB⟩ := hrel
      clear HB
      have HB := Lib.hid hB
      clear hB
      by_cases htj : t < j
      · have e2 : decide ((t : Int) < (j : Int)) = true := by simp; omega
        have hti : (t : Int) < (ys.length : Int) := by omega
        have y1 := HCell.out _ (HB.out.mono HLb.out) j hlt
        have y2 := HCell.out _ (HB.out.mono HLb.out) t (by omega)
        rw [← HYv.out] at y1
        have HSn := Lib.hid (mem_snoc (ys := ys) (t := t) (by omega) y)
        obtain ⟨x, hx⟩ : ∃ x, x = ys.getD t 0 := ⟨_, rfl⟩
        rw [← hx] at y2 HSn
        obtain ⟨g, hg⟩ : ∃ g, g = memS (ys.take t) y := ⟨_, rfl⟩
        rw [← hg] at HSn ⊢
        obtain ⟨q, hq⟩ : ∃ q, (x == y) = q := ⟨_, rfl⟩
        clear hx hg
        cases g with
        | true =>
          have HE : Hid (memS (ys.take (t + 1)) y = true) := Lib.hid (by rw [HSn.out]; rfl)
          clear hq
          go_wp2_with fail
          go_quiet (fail)
          go_wp2_with fail
          go_roundw
          case rel => exact ⟨t + 1, by simp, htj, by rw [HE.out], HB.out.trans (below_drewN ⟨_, rfl⟩)⟩
          case measure => simp [intOf]; omega
        | false =>
          have HE : Hid (memS (ys.take (t + 1)) y = q) := Lib.hid (by rw [HSn.out, hq]; rfl)
          go_wp2_with fail
          go_quiet (fail)
          go_wp2_with fail
          go_roundw
          case rel => exact ⟨t + 1, by simp, htj, by rw [HE.out], HB.out.trans (below_drewN ⟨_, rfl⟩)⟩
          case measure => simp [intOf]; omega
      · have e2 : decide ((t : Int) < (j : Int)) = false := by simp; omega
        obtain rfl : j = t := by omega
        obtain ⟨g, hg⟩ : ∃ g, g = memS (ys.take j) y := ⟨_, rfl⟩
        obtain ⟨m, hm⟩ : ∃ m, m = memS zs y := ⟨_, rfl⟩
        have HBu : Hid (budL zs ys (j + 1) = n + (if (!g && !m) = true then 1 else 0)) := Lib.hid (by rw [bud_succ, ← HNn.out, hg, hm, HYv.out]; rfl)
        have HMem : Hid (memS zs y = m) := Lib.hid hm.symm
        rw [← hg]
        clear hg hm
        cases g with
        | true =>
          have HE : Hid (budL zs ys (j + 1) = n) := Lib.hid (by rw [HBu.out]; rfl)
          go_wp2_with fail
          refine region_quiet_c (C := Below wr.heap.size wr) (by kernel_rfl) (by kernel_rfl) ((Below.refl _ _).drew) ?_
          repeat (first
            | go_big_quiet_skip
            | (apply quiet_on
               · kernel_rfl
               · intro wq hq
                 have hBq := HB.out.trans (hq.mono HB.out.size)
                 obtain ⟨c0, c1, _⟩ := scs (stands (l := 0) HA.out hBq)
                 have y1 := HCell.out _ (hBq.mono HLb.out) j HJ.out
                 rw [← HYv.out] at y1
                 go_simp
                 first
                   | done
                   | rfl
                   | exact ⟨rfl, hq⟩
               simp only [Act.put, List.setIfInBounds_toArray, List.set_cons_zero, List.set_cons_succ]))
          refine wpQuiet_nil ?_
          intro w7 hb
          replace HB := Lib.hid (HB.out.trans (hb.mono HB.out.size))
          clear hb
          go_wp2_with fail
          go_roundw
          case rel => exact ⟨j + 1, by simp, HJ.out, by rw [HE.out], HB.out⟩
          case measure => simp [intOf]; omega
        | false =>
        cases m with
        | true =>
          have HE : Hid (budL zs ys (j + 1) = n) := Lib.hid (by rw [HBu.out]; rfl)
          go_wp2_with fail
          refine region_quiet_c (C := Below wr.heap.size wr) (by kernel_rfl) (by kernel_rfl) ((Below.refl _ _).drew) ?_
          repeat (first
            | go_big_quiet_skip
            | (apply quiet_on
               · kernel_rfl
               · intro wq hq
                 have hBq := HB.out.trans (hq.mono HB.out.size)
                 obtain ⟨c0, c1, _⟩ := scs (stands (l := 0) HA.out hBq)
                 have y1 := HCell.out _ (hBq.mono HLb.out) j HJ.out
                 rw [← HYv.out] at y1
                 go_simp
                 first
                   | done
                   | (go_at_call 26
                      refine (spec_iss (HRa.out.behind (hBq.mono HLa.out)) (Nat.le_trans HLa.out hBq.size)).mono ?_
                      rintro e' w7 ⟨he, hb⟩
                      rw [HMem.out] at he
                      exact ⟨he, hq.trans (hb.mono hq.size)⟩)
                   | rfl
                   | exact ⟨rfl, hq⟩
               simp only [Act.put, List.setIfInBounds_toArray, List.set_cons_zero, List.set_cons_succ]))
          refine wpQuiet_nil ?_
          intro w7 hb
          replace HB := Lib.hid (HB.out.trans (hb.mono HB.out.size))
          clear hb
          go_wp2_with fail
          go_roundw
          case rel => exact ⟨j + 1, by simp, HJ.out, by rw [HE.out], HB.out⟩
          case measure => simp [intOf]; omega
        | false =>
          have HE : Hid (budL zs ys (j + 1) = n + 1) := Lib.hid (by rw [HBu.out]; rfl)
          go_wp2_with fail
          refine region_quiet_c (C := Below wr.heap.size wr) (by kernel_rfl) (by kernel_rfl) ((Below.refl _ _).drew) ?_
          repeat (first
            | go_big_quiet_skip
            | (apply quiet_on
               · kernel_rfl
               · intro wq hq
                 have hBq := HB.out.trans (hq.mono HB.out.size)
                 obtain ⟨c0, c1, _⟩ := scs (stands (l := 0) HA.out hBq)
                 have y1 := HCell.out _ (hBq.mono HLb.out) j HJ.out
                 rw [← HYv.out] at y1
                 go_simp
                 first
                   | done
                   | (go_at_call 26
                      refine (spec_iss (HRa.out.behind (hBq.mono HLa.out)) (Nat.le_trans HLa.out hBq.size)).mono ?_
                      rintro e' w7 ⟨he, hb⟩
                      rw [HMem.out] at he
                      exact ⟨he, hq.trans (hb.mono hq.size)⟩)
                   | rfl
                   | exact ⟨rfl, hq⟩
               simp only [Act.put, List.setIfInBounds_toArray, List.set_cons_zero, List.set_cons_succ]))
          refine wpQuiet_nil ?_
          intro w7 hb
          replace HB := Lib.hid (HB.out.trans (hb.mono HB.out.size))
          clear hb
          go_wp2_with fail
          go_roundw
          case rel => exact ⟨j + 1, by simp, HJ.out, by rw [HE.out]; simp, HB.out⟩
          case measure => simp [intOf]; omega

end Go.Proofs.Ytdlbpeippmibcaa
