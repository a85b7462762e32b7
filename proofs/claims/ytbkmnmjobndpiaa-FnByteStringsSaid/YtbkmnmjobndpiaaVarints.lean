/- FnVarints: the walk. No conditions. -/
import Derived.Test.YtbkmnmjobndpiaaDrawB
import Derived.Test.YtbkmnmjobndpiaaSameByte
import Derived.Deep.RegionHeld3
namespace Go.Proofs.Ytbkmnmjobndpiaa
open Go Go.RowKit
set_option linter.unusedVariables false

theorem big_is (a : Option Addr) (len cap : Nat) (w : World) (hl : len ≤ 9223372036854775807) :
    Calls Try.prog 12 #[.slice a len cap] w fun e w' => e = .returned (.bool (decide ((1048576 : Int) < (len : Int)))) ∧ w' = w := by
  go_enter Try.func12, Try.ntmps12
  go_wp2
  go_ret
  exact ⟨rfl, rfl⟩

theorem row_own {k : IntKind} {w : World} {a : Option Addr} {len cap : Nat} {zs : List Int} (h : IsRow k w a len cap zs) : RowB w.heap.size k w a len cap zs ∧ len ≤ maxLen := by
  rcases h with h | ⟨x, h1, h2, h3, h4, h5, h6, h7⟩
  · exact ⟨.inl h, by rw [h.2.1]; unfold maxLen; omega⟩
  · exact ⟨.inr ⟨x, h1, h2, h3, h4, h5, h6, h7⟩, by omega⟩

theorem RowB.mono {B B' : Nat} {k : IntKind} {w : World} {a : Option Addr} {len cap : Nat} {zs : List Int} (h : RowB B k w a len cap zs) (hB : B ≤ B') : RowB B' k w a len cap zs := by
  rcases h with h | ⟨x, h1, h2, h3, h4, h5, h6, h7⟩
  · exact .inl h
  · exact .inr ⟨x, h1, h2, h3, h4, h5, h6, by omega⟩

theorem rdv_end (zs : List Int) : rdv zs (zs.length : Int) = none := by
  unfold rdv
  rw [if_pos (by omega), rdu_next, if_neg (by omega)]

set_option maxHeartbeats 4000000 in
set_option maxRecDepth 20000 in
theorem varints_walk (a : Option Addr) (len cap : Nat) (zs : List Int) (w : World) (hrow : IsRow .u8 w a len cap zs) :
    Calls Try.prog 3 #[.slice a len cap] w fun e w' => e = .returned (.bool true) ∧ Below w.heap.size w w' := by
  obtain ⟨hr, hl⟩ := row_own hrow
  have HR := Lib.hid hr
  have HL := Lib.hid hl
  have hl' : len ≤ 9223372036854775807 := by unfold maxLen at hl; omega
  clear hr hrow hl
  by_cases hbig : 1048576 < len
  · have e0 : decide ((1048576 : Int) < (len : Int)) = true := by simp; omega
    go_enter Try.func3, Try.ntmps3
    go_wp2_with fail
    refine (big_is a len cap _ hl').mono ?_
    rw [e0]
    rintro e w0 ⟨rfl, rfl⟩
    go_wp2_with fail
    go_ret
    exact ⟨rfl, Below.refl _ _⟩
  · have e0 : decide ((1048576 : Int) < (len : Int)) = false := by simp; omega
    go_enter Try.func3, Try.ntmps3
    go_wp2_with fail
    refine (big_is a len cap _ hl').mono ?_
    rw [e0]
    rintro e w0 ⟨rfl, rfl⟩
    go_wp2_with fail
    refine (draw_au a len cap zs _ HR.out HL.out).mono ?_
    rintro e w1 ⟨v, bs, n, rfl, hn, hO, hbs, hb⟩
    have hn' := wf_i64 hn
    have Hn := Lib.hid hn
    have HO := Lib.hid hO
    have HB := Lib.hid hb
    have hux := uvz_len n
    clear hn hO hb
    go_wp2_with fail
    refine (impl_au HO.out.rd (Nat.le_refl _) Hn.out (by omega)).mono ?_
    rintro e w2 ⟨x, rfl, hX, hb⟩
    obtain ⟨X, hXe⟩ : ∃ X, X = bs ++ uvz n := ⟨_, rfl⟩
    rw [← hXe] at hX
    have hxl : X.length ≤ 8 := by rw [hXe, List.length_append]; omega
    have HXE := Lib.hid hXe
    have HX := Lib.hid hX
    replace HO := Lib.hid (HO.out.next hb)
    have HB2 := Lib.hid (HB.out.trans (hb.mono HB.out.size))
    clear hX hb HB hXe
    obtain ⟨av, cv, rfl, _⟩ := HO.out.open
    obtain ⟨ax, cx, rfl, _⟩ := HX.out.open
    go_wp2_with fail
    refine (impl_ru HX.out.rd (Nat.le_refl _) (wf_i64_of (by omega) (by omega))).mono ?_
    rintro e w3 ⟨rfl, hw3⟩
    subst hw3
    by_cases hin : 0 ≤ n ∧ n ≤ 1000000000000
    · have hr := rdv_uvz X [] bs.length n hin.1 hin.2 (by rw [HXE.out]; simp)
      have e1 : decide (n < 0) = false := by simp; omega
      have e2 : decide ((1000000000000 : Int) < n) = false := by simp; omega
      have q1 : rvN (some (n.toNat, bs.length + (uvz n).length)) = n := by show ((n.toNat : Nat) : Int) = n; omega
      have q2 : rvE (some (n.toNat, bs.length + (uvz n).length)) = (X.length : Int) := by
        show ((bs.length + (uvz n).length : Nat) : Int) = _
        rw [HXE.out, List.length_append]
      have q3 : rvB (some (n.toNat, bs.length + (uvz n).length)) = true := rfl
      rw [hr, q1, q2, q3]
      clear hr q1 q2 q3 hin
      go_wp2_with fail
      refine (draw_ru a len cap zs _ ((HR.out.behind HB2.out).mono HB2.out.size) HL.out).mono ?_
      rintro e w4 ⟨vy, ys, o, rfl, hwo, hO, hyl, hb⟩
      have HW := Lib.hid hwo
      have hwo' := wf_i64 hwo
      have HY := Lib.hid hO
      have HB4 := Lib.hid (HB2.out.trans (hb.mono HB2.out.size))
      clear hwo hO hb HB2 HR HX HO
      obtain ⟨ay, cy, rfl, _⟩ := HY.out.open
      go_wp2_with fail
      refine (impl_ru HY.out.rd (Nat.le_refl _) HW.out).mono ?_
      rintro e w5 ⟨rfl, hw5⟩
      subst hw5
      cases hrv : rdv ys o with
      | none =>
        have r1 : rvN (none : Option (Nat × Nat)) = 0 := rfl
        have r2 : rvE (none : Option (Nat × Nat)) = 0 := rfl
        have r3 : rvB (none : Option (Nat × Nat)) = false := rfl
        have HRV := Lib.hid hrv
        clear hrv
        go_wp2_with fail
        refine (spec_ru HY.out.rd (Nat.le_refl _) HW.out).mono ?_
        rw [HRV.out]
        rintro e w6 ⟨rfl, hw6⟩
        subst hw6
        go_wp2_with fail
        go_ret
        exact ⟨rfl, HB4.out⟩
      | some r =>
        obtain ⟨m, e⟩ := r
        obtain ⟨b1, b2, b3, b4⟩ := rdv_bound hrv
        have r1 : rvN (some (m, e)) = (m : Int) := rfl
        have r2 : rvE (some (m, e)) = (e : Int) := rfl
        have r3 : rvB (some (m, e)) = true := rfl
        rw [r1, r2, r3]
        obtain ⟨o', rfl⟩ : ∃ k : Nat, o = (k : Int) := ⟨o.toNat, by omega⟩
        rw [Int.toNat_natCast] at b3
        have HBK := Lib.hid (rdv_back (fun z hz => wf_u8 (HY.out.1 z hz)) hrv)
        obtain ⟨by_, oy, cy', hv, _, _, _, _⟩ := HY.out.rd.at (by omega)
        injection hv with hv1 hv2 hv3
        subst hv1
        clear hrv r1 r2 r3 hv2 hv3
        have hm0 : Hid ((Lit.int .i64 (m : Int)).wf = true) := Lib.hid (wf_i64_of (by omega) (by omega))
        have g0 : (o' : Int) ≤ (e : Int) := by omega
        have hcy : ys.length ≤ cy := by rcases HY.out.2.2.2 with ⟨h, _⟩ | ⟨_, _, _, h, _, _, h2, _⟩
                                        · cases h
                                        · injection h with _ _ h3; omega
        have hcm : cy ≤ 9223372036854775807 := by
          obtain ⟨_, a', c', hv, h1, h2, _⟩ := HY.out.rd
          injection hv with _ _ h3
          unfold maxLen at h2
          omega
        have f1 : (0 : Int) ≤ (o' : Int) := by omega
        have f2 : (0 : Int) ≤ (e : Int) := by omega
        have f3 : (e : Int) ≤ (cy : Int) := by omega
        have f4 : ¬ cy = o' := by omega
        have g1 : decide ((0 : Int) ≤ (o' : Int)) = true := by simp
        have g2 : decide ((e : Int) ≤ (ys.length : Int)) = true := by simp; omega
        have g3 : decide ((o' : Int) < (e : Int)) = true := by simp; omega
        go_wp2_with fail
        have gd : (w5.alloc (.cells #[] 5)).grownBy (w5.alloc (.cells #[] 5)).drew none := ⟨rfl, rfl, rfl, Nat.le_refl _, fun _ _ _ => rfl⟩
        have L5 : Hid (Own 5 .u8 w5.heap.size (w5.alloc (.cells #[] 5)).drew (.slice (some ⟨w5.heap.size, 0, none⟩) 0 0) []) := Lib.hid ((Own.lit _ _ (Nat.le_refl _)).kept gd (.inr (by simp [Value.ownBlock])))
        have HY5 := Lib.hid ((HY.out.alloc (.cells #[] 5)).kept gd (.inr (by simp [Value.ownBlock])))
        have HB5 := Lib.hid (((HB4.out.alloc HB4.out.size (.cells #[] 5))).grown gd (Nat.le_trans HB4.out.size (by simp)) (fun k hk => by cases hk))
        have hP : Hid ((ys.drop o').take (e - o') = uv m) := Lib.hid (by
          obtain ⟨h1, h2⟩ := HBK.out
          rw [Int.toNat_natCast] at h1 h2
          rw [h1, show e - o' = (uv m).length by omega]
          simp)
        have hUV : Hid ([] ++ uvz (m : Int) = uv m) := Lib.hid (by unfold uvz; rw [if_pos (by omega), Int.toNat_natCast]; rfl)
        clear gd
        go_region_held3 (fun _ => True) (trivial) ((first
          | (go_at_call 14
             go_loud (refine (impl_au L5.out.rd (Nat.le_refl _) hm0.out (by simp)).mono ?_
                      rintro e' w6 ⟨u, rfl, hU, hb6⟩
                      have HU := Lib.hid hU
                      have HY6 := Lib.hid (HY5.out.next hb6)
                      have HB6 := Lib.hid (HB5.out.trans (hb6.mono HB5.out.size))
                      clear hU hb6))
          | (go_at_call 16
             go_loud (have q1 := HU.out.rd
                      rw [hUV.out] at q1
                      have q2 := HY6.out.rd.part o' (e - o') (by omega) (some ⟨by_, oy + o', none⟩) (cy - o') (fun _ => rfl) (fun h => by cases h) (by omega) (by unfold maxLen; omega)
                      rw [hP.out] at q2
                      refine (sameBytes_same q1 q2 (Nat.le_refl _) (Nat.le_refl _)).mono ?_
                      clear q1 q2
                      rintro e' w7 ⟨rfl, hb7⟩
                      have HB7 := Lib.hid (HB6.out.trans (hb7.mono HB6.out.size))
                      clear hb7))))
        go_wp2
        go_ret
        exact ⟨rfl, HB7.out⟩
    · have hu0 : uvz n = [] := by unfold uvz; rw [if_neg hin]
      have hXb : X = bs := by rw [HXE.out, hu0, List.append_nil]
      subst hXb
      have r1 : rvN (none : Option (Nat × Nat)) = 0 := rfl
      have r2 : rvE (none : Option (Nat × Nat)) = 0 := rfl
      have r3 : rvB (none : Option (Nat × Nat)) = false := rfl
      rw [rdv_end, r1, r2, r3]
      clear r1 r2 r3 hu0
      by_cases hneg : n < 0
      · have e1 : decide (n < 0) = true := by simp; omega
        clear hin
        go_wp2_with fail
        refine (sameBytes_same HX.out.rd HO.out.rd (Nat.le_refl _) (Nat.le_refl _)).mono ?_
        rintro e ws ⟨rfl, hbs7⟩
        replace HB2 := Lib.hid (HB2.out.trans (hbs7.mono HB2.out.size))
        clear hbs7
        go_wp2_with fail
        refine (draw_ru a len cap zs _ ((HR.out.behind HB2.out).mono HB2.out.size) HL.out).mono ?_
        rintro e w4 ⟨vy, ys, o, rfl, hwo, hO, hyl, hb⟩
        have HW := Lib.hid hwo
        have hwo' := wf_i64 hwo
        have HY := Lib.hid hO
        have HB4 := Lib.hid (HB2.out.trans (hb.mono HB2.out.size))
        clear hwo hO hb HB2 HR HX HO
        obtain ⟨ay, cy, rfl, _⟩ := HY.out.open
        go_wp2_with fail
        refine (impl_ru HY.out.rd (Nat.le_refl _) HW.out).mono ?_
        rintro e w5 ⟨rfl, hw5⟩
        subst hw5
        cases hrv : rdv ys o with
        | none =>
          have r1 : rvN (none : Option (Nat × Nat)) = 0 := rfl
          have r2 : rvE (none : Option (Nat × Nat)) = 0 := rfl
          have r3 : rvB (none : Option (Nat × Nat)) = false := rfl
          have HRV := Lib.hid hrv
          clear hrv
          go_wp2_with fail
          refine (spec_ru HY.out.rd (Nat.le_refl _) HW.out).mono ?_
          rw [HRV.out]
          rintro e w6 ⟨rfl, hw6⟩
          subst hw6
          go_wp2_with fail
          go_ret
          exact ⟨rfl, HB4.out⟩
        | some r =>
          obtain ⟨m, e⟩ := r
          obtain ⟨b1, b2, b3, b4⟩ := rdv_bound hrv
          have r1 : rvN (some (m, e)) = (m : Int) := rfl
          have r2 : rvE (some (m, e)) = (e : Int) := rfl
          have r3 : rvB (some (m, e)) = true := rfl
          rw [r1, r2, r3]
          obtain ⟨o', rfl⟩ : ∃ k : Nat, o = (k : Int) := ⟨o.toNat, by omega⟩
          rw [Int.toNat_natCast] at b3
          have HBK := Lib.hid (rdv_back (fun z hz => wf_u8 (HY.out.1 z hz)) hrv)
          obtain ⟨by_, oy, cy', hv, _, _, _, _⟩ := HY.out.rd.at (by omega)
          injection hv with hv1 hv2 hv3
          subst hv1
          clear hrv r1 r2 r3 hv2 hv3
          have hm0 : Hid ((Lit.int .i64 (m : Int)).wf = true) := Lib.hid (wf_i64_of (by omega) (by omega))
          have g0 : (o' : Int) ≤ (e : Int) := by omega
          have hcy : ys.length ≤ cy := by rcases HY.out.2.2.2 with ⟨h, _⟩ | ⟨_, _, _, h, _, _, h2, _⟩
                                          · cases h
                                          · injection h with _ _ h3; omega
          have hcm : cy ≤ 9223372036854775807 := by
            obtain ⟨_, a', c', hv, h1, h2, _⟩ := HY.out.rd
            injection hv with _ _ h3
            unfold maxLen at h2
            omega
          have f1 : (0 : Int) ≤ (o' : Int) := by omega
          have f2 : (0 : Int) ≤ (e : Int) := by omega
          have f3 : (e : Int) ≤ (cy : Int) := by omega
          have f4 : ¬ cy = o' := by omega
          have g1 : decide ((0 : Int) ≤ (o' : Int)) = true := by simp
          have g2 : decide ((e : Int) ≤ (ys.length : Int)) = true := by simp; omega
          have g3 : decide ((o' : Int) < (e : Int)) = true := by simp; omega
          go_wp2_with fail
          have gd : (w5.alloc (.cells #[] 5)).grownBy (w5.alloc (.cells #[] 5)).drew none := ⟨rfl, rfl, rfl, Nat.le_refl _, fun _ _ _ => rfl⟩
          have L5 : Hid (Own 5 .u8 w5.heap.size (w5.alloc (.cells #[] 5)).drew (.slice (some ⟨w5.heap.size, 0, none⟩) 0 0) []) := Lib.hid ((Own.lit _ _ (Nat.le_refl _)).kept gd (.inr (by simp [Value.ownBlock])))
          have HY5 := Lib.hid ((HY.out.alloc (.cells #[] 5)).kept gd (.inr (by simp [Value.ownBlock])))
          have HB5 := Lib.hid (((HB4.out.alloc HB4.out.size (.cells #[] 5))).grown gd (Nat.le_trans HB4.out.size (by simp)) (fun k hk => by cases hk))
          have hP : Hid ((ys.drop o').take (e - o') = uv m) := Lib.hid (by
            obtain ⟨h1, h2⟩ := HBK.out
            rw [Int.toNat_natCast] at h1 h2
            rw [h1, show e - o' = (uv m).length by omega]
            simp)
          have hUV : Hid ([] ++ uvz (m : Int) = uv m) := Lib.hid (by unfold uvz; rw [if_pos (by omega), Int.toNat_natCast]; rfl)
          clear gd
          go_region_held3 (fun _ => True) (trivial) ((first
            | (go_at_call 14
               go_loud (refine (impl_au L5.out.rd (Nat.le_refl _) hm0.out (by simp)).mono ?_
                        rintro e' w6 ⟨u, rfl, hU, hb6⟩
                        have HU := Lib.hid hU
                        have HY6 := Lib.hid (HY5.out.next hb6)
                        have HB6 := Lib.hid (HB5.out.trans (hb6.mono HB5.out.size))
                        clear hU hb6))
            | (go_at_call 16
               go_loud (have q1 := HU.out.rd
                        rw [hUV.out] at q1
                        have q2 := HY6.out.rd.part o' (e - o') (by omega) (some ⟨by_, oy + o', none⟩) (cy - o') (fun _ => rfl) (fun h => by cases h) (by omega) (by unfold maxLen; omega)
                        rw [hP.out] at q2
                        refine (sameBytes_same q1 q2 (Nat.le_refl _) (Nat.le_refl _)).mono ?_
                        clear q1 q2
                        rintro e' w7 ⟨rfl, hb7⟩
                        have HB7 := Lib.hid (HB6.out.trans (hb7.mono HB6.out.size))
                        clear hb7))))
          go_wp2
          go_ret
          exact ⟨rfl, HB7.out⟩
      · have e1 : decide (n < 0) = false := by simp; omega
        have e2 : decide ((1000000000000 : Int) < n) = true := by simp; omega
        clear hin
        go_wp2_with fail
        refine (sameBytes_same HX.out.rd HO.out.rd (Nat.le_refl _) (Nat.le_refl _)).mono ?_
        rintro e ws ⟨rfl, hbs7⟩
        replace HB2 := Lib.hid (HB2.out.trans (hbs7.mono HB2.out.size))
        clear hbs7
        go_wp2_with fail
        refine (draw_ru a len cap zs _ ((HR.out.behind HB2.out).mono HB2.out.size) HL.out).mono ?_
        rintro e w4 ⟨vy, ys, o, rfl, hwo, hO, hyl, hb⟩
        have HW := Lib.hid hwo
        have hwo' := wf_i64 hwo
        have HY := Lib.hid hO
        have HB4 := Lib.hid (HB2.out.trans (hb.mono HB2.out.size))
        clear hwo hO hb HB2 HR HX HO
        obtain ⟨ay, cy, rfl, _⟩ := HY.out.open
        go_wp2_with fail
        refine (impl_ru HY.out.rd (Nat.le_refl _) HW.out).mono ?_
        rintro e w5 ⟨rfl, hw5⟩
        subst hw5
        cases hrv : rdv ys o with
        | none =>
          have r1 : rvN (none : Option (Nat × Nat)) = 0 := rfl
          have r2 : rvE (none : Option (Nat × Nat)) = 0 := rfl
          have r3 : rvB (none : Option (Nat × Nat)) = false := rfl
          have HRV := Lib.hid hrv
          clear hrv
          go_wp2_with fail
          refine (spec_ru HY.out.rd (Nat.le_refl _) HW.out).mono ?_
          rw [HRV.out]
          rintro e w6 ⟨rfl, hw6⟩
          subst hw6
          go_wp2_with fail
          go_ret
          exact ⟨rfl, HB4.out⟩
        | some r =>
          obtain ⟨m, e⟩ := r
          obtain ⟨b1, b2, b3, b4⟩ := rdv_bound hrv
          have r1 : rvN (some (m, e)) = (m : Int) := rfl
          have r2 : rvE (some (m, e)) = (e : Int) := rfl
          have r3 : rvB (some (m, e)) = true := rfl
          rw [r1, r2, r3]
          obtain ⟨o', rfl⟩ : ∃ k : Nat, o = (k : Int) := ⟨o.toNat, by omega⟩
          rw [Int.toNat_natCast] at b3
          have HBK := Lib.hid (rdv_back (fun z hz => wf_u8 (HY.out.1 z hz)) hrv)
          obtain ⟨by_, oy, cy', hv, _, _, _, _⟩ := HY.out.rd.at (by omega)
          injection hv with hv1 hv2 hv3
          subst hv1
          clear hrv r1 r2 r3 hv2 hv3
          have hm0 : Hid ((Lit.int .i64 (m : Int)).wf = true) := Lib.hid (wf_i64_of (by omega) (by omega))
          have g0 : (o' : Int) ≤ (e : Int) := by omega
          have hcy : ys.length ≤ cy := by rcases HY.out.2.2.2 with ⟨h, _⟩ | ⟨_, _, _, h, _, _, h2, _⟩
                                          · cases h
                                          · injection h with _ _ h3; omega
          have hcm : cy ≤ 9223372036854775807 := by
            obtain ⟨_, a', c', hv, h1, h2, _⟩ := HY.out.rd
            injection hv with _ _ h3
            unfold maxLen at h2
            omega
          have f1 : (0 : Int) ≤ (o' : Int) := by omega
          have f2 : (0 : Int) ≤ (e : Int) := by omega
          have f3 : (e : Int) ≤ (cy : Int) := by omega
          have f4 : ¬ cy = o' := by omega
          have g1 : decide ((0 : Int) ≤ (o' : Int)) = true := by simp
          have g2 : decide ((e : Int) ≤ (ys.length : Int)) = true := by simp; omega
          have g3 : decide ((o' : Int) < (e : Int)) = true := by simp; omega
          go_wp2_with fail
          have gd : (w5.alloc (.cells #[] 5)).grownBy (w5.alloc (.cells #[] 5)).drew none := ⟨rfl, rfl, rfl, Nat.le_refl _, fun _ _ _ => rfl⟩
          have L5 : Hid (Own 5 .u8 w5.heap.size (w5.alloc (.cells #[] 5)).drew (.slice (some ⟨w5.heap.size, 0, none⟩) 0 0) []) := Lib.hid ((Own.lit _ _ (Nat.le_refl _)).kept gd (.inr (by simp [Value.ownBlock])))
          have HY5 := Lib.hid ((HY.out.alloc (.cells #[] 5)).kept gd (.inr (by simp [Value.ownBlock])))
          have HB5 := Lib.hid (((HB4.out.alloc HB4.out.size (.cells #[] 5))).grown gd (Nat.le_trans HB4.out.size (by simp)) (fun k hk => by cases hk))
          have hP : Hid ((ys.drop o').take (e - o') = uv m) := Lib.hid (by
            obtain ⟨h1, h2⟩ := HBK.out
            rw [Int.toNat_natCast] at h1 h2
            rw [h1, show e - o' = (uv m).length by omega]
            simp)
          have hUV : Hid ([] ++ uvz (m : Int) = uv m) := Lib.hid (by unfold uvz; rw [if_pos (by omega), Int.toNat_natCast]; rfl)
          clear gd
          go_region_held3 (fun _ => True) (trivial) ((first
            | (go_at_call 14
               go_loud (refine (impl_au L5.out.rd (Nat.le_refl _) hm0.out (by simp)).mono ?_
                        rintro e' w6 ⟨u, rfl, hU, hb6⟩
                        have HU := Lib.hid hU
                        have HY6 := Lib.hid (HY5.out.next hb6)
                        have HB6 := Lib.hid (HB5.out.trans (hb6.mono HB5.out.size))
                        clear hU hb6))
            | (go_at_call 16
               go_loud (have q1 := HU.out.rd
                        rw [hUV.out] at q1
                        have q2 := HY6.out.rd.part o' (e - o') (by omega) (some ⟨by_, oy + o', none⟩) (cy - o') (fun _ => rfl) (fun h => by cases h) (by omega) (by unfold maxLen; omega)
                        rw [hP.out] at q2
                        refine (sameBytes_same q1 q2 (Nat.le_refl _) (Nat.le_refl _)).mono ?_
                        clear q1 q2
                        rintro e' w7 ⟨rfl, hb7⟩
                        have HB7 := Lib.hid (HB6.out.trans (hb7.mono HB6.out.size))
                        clear hb7))))
          go_wp2
          go_ret
          exact ⟨rfl, HB7.out⟩

end Go.Proofs.Ytbkmnmjobndpiaa
