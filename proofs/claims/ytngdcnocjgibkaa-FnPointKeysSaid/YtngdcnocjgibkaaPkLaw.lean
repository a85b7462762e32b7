/- FnPointKeys: the walk. No conditions. -/
import Derived.Test.YtngdcnocjgibkaaPkP
import Derived.Test.YtngdcnocjgibkaaPkW
import Derived.Test.YtngdcnocjgibkaaCells
import Derived.Test.YtngdcnocjgibkaaBaD
import Derived.Test.YtngdcnocjgibkaaBa4
import Derived.Test.YtngdcnocjgibkaaSel3
import Derived.Deep.RegionHeld3
namespace Go.Proofs.Ytngdcnocjgibkaa
open Go Go.RowKit
set_option linter.unusedVariables false
attribute [local irreducible] kh

theorem pkpow {D N : Nat} (h : N = 2 ^ D) : (2 : Int) ^ D = (N : Int) := by rw [h]; simp

set_option maxHeartbeats 8000000 in
set_option maxRecDepth 100000 in
theorem fnPointKeys_walk (a : Option Addr) (len cap : Nat) (zs : List Int) (w : World) (hrow : IsRow .u8 w a len cap zs) :
    Calls Try.prog 3 #[.slice a len cap] w fun e w' => e = .returned (.bool true) ∧ Below w.heap.size w w' := by
  obtain ⟨s, A, l⟩ : ∃ s, Rd w.heap.size .u8 w (.slice a len cap) s ∧ len = s.length := ⟨zs.take len, hrow.rd, hrow.rd.len_eq⟩
  subst l
  have HA := Lib.hid A
  have hl' : s.length ≤ 9223372036854775807 := by have := A.len; unfold maxLen at this; omega
  clear hrow A
  by_cases hbig : 1048576 < s.length
  · have e0 : decide ((1048576 : Int) < (s.length : Int)) = true := by simp; omega
    go_enter Try.func3, Try.ntmps3
    go_wp2_with fail
    refine (big_is a s.length cap _ hl').mono ?_
    rw [e0]
    rintro e w0 ⟨rfl, rfl⟩
    go_wp2_with fail
    go_ret
    exact ⟨rfl, Below.refl _ _⟩
  have e0 : decide ((1048576 : Int) < (s.length : Int)) = false := by simp; omega
  have hs : s.length ≤ 1048576 := by omega
  have HAb := Lib.hid (fun i => atv_bound (s := s) (fun i hi => HA.out.wf hi) i)
  obtain ⟨t0, ht0⟩ : ∃ t, t = atv s 0 := ⟨_, rfl⟩
  have hA0 := HAb.out 0
  rw [← ht0] at hA0
  have HT0 := Lib.hid ht0
  obtain ⟨t1, ht1⟩ : ∃ t, t = atv s 1 := ⟨_, rfl⟩
  have hA1 := HAb.out 1
  rw [← ht1] at hA1
  have HT1 := Lib.hid ht1
  obtain ⟨t2, ht2⟩ : ∃ t, t = atv s 2 := ⟨_, rfl⟩
  have hA2 := HAb.out 2
  rw [← ht2] at hA2
  have HT2 := Lib.hid ht2
  obtain ⟨t3, ht3⟩ : ∃ t, t = atv s 3 := ⟨_, rfl⟩
  have hA3 := HAb.out 3
  rw [← ht3] at hA3
  have HT3 := Lib.hid ht3
  obtain ⟨D, hD⟩ : ∃ D : Nat, 1 + t0 % 6 = (D : Int) := ⟨(1 + t0 % 6).toNat, by omega⟩
  have hD0 : 1 ≤ D := by omega
  have hD6 : D ≤ 6 := by omega
  obtain ⟨N, hN⟩ : ∃ N, N = 2 ^ D := ⟨_, rfl⟩
  have hN6 := pow_le6 hD6
  rw [← hN] at hN6
  have ep := pkpow hN
  have HN := Lib.hid hN
  obtain ⟨I, hI⟩ : ∃ I : Nat, t1 % (N : Int) = (I : Int) := ⟨(t1 % (N : Int)).toNat, by have := Int.emod_nonneg t1 (show (N : Int) ≠ 0 by omega); omega⟩
  have hIN : I < N := by have := Int.emod_lt_of_pos t1 (show (0 : Int) < (N : Int) by omega); omega
  obtain ⟨R, hR⟩ : ∃ R : Nat, t2 * 77 = (R : Int) := ⟨(t2 * 77).toNat, by omega⟩
  obtain ⟨Q, hQ⟩ : ∃ Q : Nat, t3 * 91 + 5 = (Q : Int) := ⟨(t3 * 91 + 5).toNat, by omega⟩
  have hRb : (0 : Int) ≤ R ∧ (R : Int) ≤ 2147483646 := by omega
  have hQb : (0 : Int) ≤ Q ∧ (Q : Int) ≤ 2147483646 := by omega
  have HI2 : I < 2 ^ D := by rw [← hN]; exact hIN
  have HOk : Hid (pkOk (D : Int) (I : Int) (R : Int) (Q : Int) = true) := Lib.hid (pk_ok hD0 hD6 HI2 hRb hQb)
  have HDw : Hid ((Lit.int .i64 (D : Int)).wf = true) := Lib.hid (wf_i64_of (by omega) (by omega))
  have HIw : Hid ((Lit.int .i64 (I : Int)).wf = true) := Lib.hid (wf_i64_of (by omega) (by omega))
  have HRw : Hid ((Lit.int .i64 (R : Int)).wf = true) := Lib.hid (wf_i64_of (by omega) (by omega))
  have HQw : Hid ((Lit.int .i64 (Q : Int)).wf = true) := Lib.hid (wf_i64_of (by omega) (by omega))
  have HNw : Hid ((Lit.int .i64 (N : Int)).wf = true) := Lib.hid (wf_i64_of (by omega) (by omega))
  obtain ⟨cs, hcs⟩ : ∃ cs, cs = mkc D I ((R : Int), 0) ((Q : Int), 1) := ⟨_, rfl⟩
  have hpcs : pcs (D : Int) (I : Int) (R : Int) (Q : Int) = cs := by unfold pcs; rw [if_pos HOk.out, hcs, Int.toNat_natCast, Int.toNat_natCast]
  have HPc := Lib.hid hpcs
  have HLc : Hid (cs.length = D) := Lib.hid (by rw [hcs]; exact mkc_len _ _ _ _)
  have HVa : Hid (vk (R : Int) 0 cs = true) := Lib.hid (by rw [hcs]; exact vk_mk hD0 hD6 _ _ _ hRb (.inl rfl))
  have HVb : Hid (vk (Q : Int) 1 cs = true) := Lib.hid (by rw [hcs]; exact vk_mk hD0 hD6 _ _ _ hQb (.inr rfl))
  have HXs : Hid (xs2 (eall (R : Int) 0 cs) (eall (Q : Int) 1 cs) = unitV (N : Int) (I : Int)) := Lib.hid (by rw [hcs, hN]; exact eall_xs2 hD0 hD6 HI2 hRb hQb)
  have hpn : ept (R : Int) 0 cs (I : Int) ≠ ept (Q : Int) 1 cs (I : Int) := by rw [hcs]; exact ept_ne hD0 hD6 HI2 hRb hQb
  obtain ⟨pa, hpa⟩ : ∃ p, p = ept (R : Int) 0 cs (I : Int) := ⟨_, rfl⟩
  obtain ⟨pb, hpb⟩ : ∃ p, p = ept (Q : Int) 1 cs (I : Int) := ⟨_, rfl⟩
  rw [← hpa, ← hpb] at hpn
  have HPa := Lib.hid hpa
  have HPb := Lib.hid hpb
  have HPn : Hid ((pa != pb) = true) := Lib.hid (by simpa using hpn)
  have HEk : Hid (epk (R : Int) 0 cs (Q : Int) 1 cs = false) := Lib.hid (by unfold epk; rw [show ((0 : Int) == 1) = false from rfl]; simp)
  have HEn : Hid (3 ≤ (epkBytes (R : Int) 0 cs).length) := Lib.hid (by unfold epkBytes; rw [if_pos HVa.out]; exact enc_ge HVa.out)
  have HSv : Hid (sav (D : Int) = (N : Int) - 2 - 3 * (D : Int)) := Lib.hid (by rw [hN]; exact sav_eq hD0 hD6)
  have HLx : Hid ((eall (R : Int) 0 cs).length = N) := Lib.hid (by rw [eall_len HVa.out, HLc.out, hN])
  have HLy : Hid ((eall (Q : Int) 1 cs).length = N) := Lib.hid (by rw [eall_len HVb.out, HLc.out, hN])
  have hD2 : 1 + t0.tmod 6 = (D : Int) := by rw [Int.tmod_eq_emod_of_nonneg hA0.1]; exact hD
  have hI2 : t1.tmod (N : Int) = (I : Int) := by rw [Int.tmod_eq_emod_of_nonneg hA1.1]; exact hI
  have hNz : ¬ N = 0 := by omega
  have hN0 : ((N : Int) == 0) = false := by simp; omega
  have hNw : IntKind.i64.wrap (N : Int) = (N : Int) := by rw [IntKind.wrap_i64]; omega
  clear hbig ht0 ht1 ht2 ht3 HAb hN hcs hpcs hpa hpb hpn HI2
  have HB := Lib.hid (Below.refl w.heap.size w)
  go_enter Try.func3, Try.ntmps3
  go_wp2_with fail
  refine (big_is a s.length cap _ hl').mono ?_
  rw [e0]
  rintro e w0 ⟨rfl, hw0⟩
  obtain rfl : w = w0 := hw0.symm
  clear hw0
  go_wp2_with fail
  refine (at_any HA.out 0 (by omega) hs).mono ?_
  rintro e w1 ⟨⟨he, _, _⟩, hw⟩
  rw [← HT0.out] at he
  subst he
  obtain rfl : w = w1 := hw.symm
  clear hw
  go_wp2_with fail
  go_region_held3 (fun w' => True) (first | trivial | go_keep) ((first
    | (go_at_call 14
       go_loud (refine (at_any HA.out.drew 1 (by omega) hs).mono ?_
                rintro e' w2 ⟨⟨he, _, _⟩, hw⟩
                rw [← HT1.out] at he
                subst he
                subst hw))))
  replace HA := Lib.hid HA.out.drew
  replace HB := Lib.hid HB.out.drew
  obtain ⟨w1, hw1⟩ : ∃ w1, w1 = w.drew := ⟨_, rfl⟩
  rw [← hw1] at HA HB ⊢
  clear hw1
  go_wp2_with fail
  refine (at_any HA.out 2 (by omega) hs).mono ?_
  rintro e w2 ⟨⟨he, _, _⟩, hw⟩
  rw [← HT2.out] at he
  subst he
  obtain rfl : w1 = w2 := hw.symm
  clear hw
  go_wp2_with fail
  refine (at_any HA.out 3 (by omega) hs).mono ?_
  rintro e w2 ⟨⟨he, _, _⟩, hw⟩
  rw [← HT3.out] at he
  subst he
  obtain rfl : w1 = w2 := hw.symm
  clear hw
  go_wp2_with fail
  refine (impl_mk_t HDw.out HIw.out HRw.out HQw.out).mono ?_
  rw [show prt (D : Int) (I : Int) (R : Int) (Q : Int) (R : Int) = (R : Int) from if_pos HOk.out, show prt (D : Int) (I : Int) (R : Int) (Q : Int) (Q : Int) = (Q : Int) from if_pos HOk.out, show prt (D : Int) (I : Int) (R : Int) (Q : Int) 1 = 1 from if_pos HOk.out, HPc.out, HOk.out]
  rintro e w3 ⟨c1, c2, F1, F2, he, hO1, hO2, _, _, _, hb⟩
  obtain ⟨aa, na, _, h1, _⟩ := own_PointKey hO1
  obtain ⟨ab, nb, _, h2, _⟩ := own_PointKey hO2
  simp only [HLc.out] at h1 h2
  subst h1
  subst h2
  subst he
  replace hO1 : tyPointKey.own F1 w3 [.int .i64 (R : Int), .int .i64 0, .slice aa D na] ((R : Int), (0 : Int), cs) := hO1
  replace hO2 : tyPointKey.own F2 w3 [.int .i64 (Q : Int), .int .i64 1, .slice ab D nb] ((Q : Int), (1 : Int), cs) := hO2
  obtain ⟨b0, hb0⟩ : ∃ b, b = w3.heap.size := ⟨_, rfl⟩
  obtain ⟨k0, k1⟩ := blocks2T w3 (.cells #[.int .i64 (R : Int), .int .i64 0, .slice aa D na] 27) (.cells #[.int .i64 (Q : Int), .int .i64 1, .slice ab D nb] 27)
  have c10 := (blk_cell k0 0).trans (cell3_0 _ _ _)
  have c11 := (blk_cell k0 1).trans (cell3_1 _ _ _)
  have c12 := (blk_cell k0 2).trans (cell3_2 _ _ _)
  have c20 := (blk_cell k1 0).trans (cell3_0 _ _ _)
  have c21 := (blk_cell k1 1).trans (cell3_1 _ _ _)
  have c22 := (blk_cell k1 2).trans (cell3_2 _ _ _)
  obtain ⟨W, hW⟩ : ∃ W, W = (w3.alloc (.cells #[.int .i64 (R : Int), .int .i64 0, .slice aa D na] 27)).alloc (.cells #[.int .i64 (Q : Int), .int .i64 1, .slice ab D nb] 27) := ⟨_, rfl⟩
  have hb2 : Below w3.heap.size w3 W := by rw [hW]; exact ((Below.refl _ _).alloc (Nat.le_refl _) _).alloc (by simp) _
  have HK0 := Lib.hid (show W.heap[b0]? = some (.cells #[.int .i64 (R : Int), .int .i64 0, .slice aa D na] 27) by rw [hW, hb0]; exact k0)
  have HK1 := Lib.hid (show W.heap[b0 + 1]? = some (.cells #[.int .i64 (Q : Int), .int .i64 1, .slice ab D nb] 27) by rw [hW, hb0]; exact k1)
  have HRa := Lib.hid (tyPointKey.mono (tyPointKey.behind (tyPointKey.ord hO1) hb2) hb2.size)
  have HRb := Lib.hid (tyPointKey.mono (tyPointKey.behind (tyPointKey.ord hO2) hb2) hb2.size)
  have HB0 := Lib.hid (HB.out.trans ((hb.mono HB.out.size).trans (hb2.mono (Nat.le_trans HB.out.size hb.size))))
  have HWe := Lib.hid hW
  have Hb0 := Lib.hid hb0
  clear hb2 hO1 hO2 hb hW hb0 k0 k1
  have HRw' : Hid (∀ w', Below W.heap.size W w' → W.heap.size ≤ w'.heap.size ∧ tyPointKey.rd W.heap.size w' [.int .i64 (R : Int), .int .i64 0, .slice aa D na] ((R : Int), (0 : Int), cs) ∧ tyPointKey.rd W.heap.size w' [.int .i64 (Q : Int), .int .i64 1, .slice ab D nb] ((Q : Int), (1 : Int), cs)) := Lib.hid (fun w' h => ⟨h.size, tyPointKey.behind HRa.out h, tyPointKey.behind HRb.out h⟩)
  have HCs : Hid (∀ w', Below W.heap.size W w' → (w'.cell? ⟨b0, 0, none⟩ = some (.int .i64 (R : Int)) ∧ w'.cell? ⟨b0, 1, none⟩ = some (.int .i64 0) ∧ w'.cell? ⟨b0, 2, none⟩ = some (.slice aa D na)) ∧ w'.cell? ⟨b0 + 1, 0, none⟩ = some (.int .i64 (Q : Int)) ∧ w'.cell? ⟨b0 + 1, 1, none⟩ = some (.int .i64 1) ∧ w'.cell? ⟨b0 + 1, 2, none⟩ = some (.slice ab D nb)) := Lib.hid (fun w' h => by
    have q0 := (h.block b0 (lt_of_block HK0.out)).trans HK0.out
    have q1 := (h.block (b0 + 1) (lt_of_block HK1.out)).trans HK1.out
    exact ⟨⟨(blk_cell q0 0).trans (cell3_0 _ _ _), (blk_cell q0 1).trans (cell3_1 _ _ _), (blk_cell q0 2).trans (cell3_2 _ _ _)⟩, (blk_cell q1 0).trans (cell3_0 _ _ _), (blk_cell q1 1).trans (cell3_1 _ _ _), (blk_cell q1 2).trans (cell3_2 _ _ _)⟩)
  clear HRa HRb HK0 HK1
  go_wp2_with fail
  rw [← HWe.out, ← Hb0.out]
  clear c10 c11 c12 c20 c21 c22
  have HBm := Lib.hid (Below.refl W.heap.size W)
  refine (impl_vk_t (HRw'.out _ HBm.out).2.1 (Nat.le_refl _)).mono ?_
  rw [show vk ((R : Int), (0 : Int), cs).1 ((R : Int), (0 : Int), cs).2.1 ((R : Int), (0 : Int), cs).2.2 = true from HVa.out]
  rintro e w4 ⟨rfl, hb⟩
  replace HBm := Lib.hid (HBm.out.trans (hb.mono (HRw'.out _ HBm.out).1))
  clear hb
  obtain ⟨⟨c10, c11, c12⟩, c20, c21, c22⟩ := HCs.out _ HBm.out
  go_wp2_with fail
  clear c10 c11 c12 c20 c21 c22
  refine (impl_vk_t (HRw'.out _ HBm.out).2.2 (HRw'.out _ HBm.out).1).mono ?_
  rw [show vk ((Q : Int), (1 : Int), cs).1 ((Q : Int), (1 : Int), cs).2.1 ((Q : Int), (1 : Int), cs).2.2 = true from HVb.out]
  rintro e w5 ⟨rfl, hb⟩
  replace HBm := Lib.hid (HBm.out.trans (hb.mono (HRw'.out _ HBm.out).1))
  clear hb
  obtain ⟨⟨c10, c11, c12⟩, c20, c21, c22⟩ := HCs.out _ HBm.out
  go_wp2_with fail
  clear c10 c11 c12 c20 c21 c22
  refine (impl_eall_t (HRw'.out _ HBm.out).2.1 (HRw'.out _ HBm.out).1).mono ?_
  rintro e w6 ⟨vx, Fx, rfl, hx, _, hb⟩
  replace hx := (sliceT 3 i64T).ord hx
  replace hx : Rd w6.heap.size .i64 w6 vx (eall (R : Int) 0 cs) := rd_of_sl hx
  obtain ⟨ax, nx, hv, _⟩ := hx.open
  rw [HLx.out] at hv
  subst hv
  have HX := Lib.hid hx
  clear hx
  replace HBm := Lib.hid (HBm.out.trans (hb.mono (HRw'.out _ HBm.out).1))
  clear hb
  obtain ⟨⟨c10, c11, c12⟩, c20, c21, c22⟩ := HCs.out _ HBm.out
  go_wp2_with fail
  clear c10 c11 c12 c20 c21 c22
  refine (impl_eall_t (HRw'.out _ HBm.out).2.2 (HRw'.out _ HBm.out).1).mono ?_
  rintro e w7 ⟨vy, Fy, rfl, hy, _, hb⟩
  replace hy := (sliceT 3 i64T).ord hy
  replace hy : Rd w7.heap.size .i64 w7 vy (eall (Q : Int) 1 cs) := rd_of_sl hy
  obtain ⟨ay, ny, hv, _⟩ := hy.open
  rw [HLy.out] at hv
  subst hv
  have HY := Lib.hid hy
  replace HX := Lib.hid ((HX.out.behind hb).mono hb.size)
  clear hy
  replace HBm := Lib.hid (HBm.out.trans (hb.mono (HRw'.out _ HBm.out).1))
  clear hb
  obtain ⟨X, hX⟩ : ∃ X, X = eall (R : Int) 0 cs := ⟨_, rfl⟩
  obtain ⟨Y, hY⟩ : ∃ Y, Y = eall (Q : Int) 1 cs := ⟨_, rfl⟩
  rw [← hX] at HX HXs
  rw [← hY] at HY HXs
  have HXe := Lib.hid hX
  have HYe := Lib.hid hY
  clear hX hY
  -- the last line
  have d1 := HCs.out _ HBm.out.drew
  obtain ⟨w9, hw9⟩ : ∃ x, x = w7.drew := ⟨_, rfl⟩
  have HX9 : Hid (Rd w9.heap.size .i64 w9 (.slice ax N nx) X) := Lib.hid (by rw [hw9]; exact HX.out.drew)
  have HY9 : Hid (Rd w9.heap.size .i64 w9 (.slice ay N ny) Y) := Lib.hid (by rw [hw9]; exact HY.out.drew)
  have B9 : Hid (Below W.heap.size W w9) := Lib.hid (by rw [hw9]; exact HBm.out.drew)
  go_wp2_with fail
  refine wp_region_held_drew (S := fun w' => (w'.cell? ⟨b0, 0, none⟩ = some (.int .i64 (R : Int)) ∧ w'.cell? ⟨b0, 1, none⟩ = some (.int .i64 0) ∧ w'.cell? ⟨b0, 2, none⟩ = some (.slice aa D na)) ∧ w'.cell? ⟨b0 + 1, 0, none⟩ = some (.int .i64 (Q : Int)) ∧ w'.cell? ⟨b0 + 1, 1, none⟩ = some (.int .i64 1) ∧ w'.cell? ⟨b0 + 1, 2, none⟩ = some (.slice ab D nb)) (by kernel_rfl) d1 (fun _ => ?_)
  rw [← hw9] at d1 ⊢
  clear hw9 HX HY
  apply wpAnyH_take (i := 0)
  · simp only [List.getElem?_toArray, List.getElem?_cons_zero]
    rfl
  · kernel_rfl
  · kernel_rfl
  · kernel_rfl
  · exact fun _ _ _ h => h
  · first
      | exact Or.inr ⟨by rfl, rfl⟩
      | (refine Or.inl ⟨by rfl, fun wq hwq => ?_⟩
         obtain ⟨⟨q0, q1, q2⟩, q3, q4, q5⟩ := hwq
         go_simp
         first
           | done
           | rfl)
  · exact d1
  simp only [Act.put, List.setIfInBounds_toArray, List.set_cons_zero, List.set_cons_succ]
  apply wpAnyH_take (i := 1)
  · simp only [List.getElem?_toArray, List.getElem?_cons_succ, List.getElem?_cons_zero]
    rfl
  · kernel_rfl
  · kernel_rfl
  · kernel_rfl
  · exact fun _ _ _ h => h
  · first
      | exact Or.inr ⟨by rfl, rfl⟩
      | (refine Or.inl ⟨by rfl, fun wq hwq => ?_⟩
         obtain ⟨⟨q0, q1, q2⟩, q3, q4, q5⟩ := hwq
         go_simp
         first
           | done
           | rfl)
  · exact d1
  simp only [Act.put, List.setIfInBounds_toArray, List.set_cons_zero, List.set_cons_succ]
  apply wpAnyH_take (i := 3)
  · simp only [List.getElem?_toArray, List.getElem?_cons_succ, List.getElem?_cons_zero]
    rfl
  · kernel_rfl
  · kernel_rfl
  · kernel_rfl
  · exact fun _ _ _ h => h
  · first
      | exact Or.inr ⟨by rfl, rfl⟩
      | (refine Or.inl ⟨by rfl, fun wq hwq => ?_⟩
         obtain ⟨⟨q0, q1, q2⟩, q3, q4, q5⟩ := hwq
         go_simp
         first
           | done
           | rfl)
  · exact d1
  simp only [Act.put, List.setIfInBounds_toArray, List.set_cons_zero, List.set_cons_succ]
  apply wpAnyH_take (i := 4) (v := .int .i64 (N : Int))
  · simp only [List.getElem?_toArray, List.getElem?_cons_succ, List.getElem?_cons_zero]
    rfl
  · kernel_rfl
  · kernel_rfl
  · kernel_rfl
  · exact fun _ _ _ h => h
  · first
      | exact Or.inr ⟨by rfl, rfl⟩
      | (refine Or.inl ⟨by rfl, fun wq hwq => ?_⟩
         obtain ⟨⟨q0, q1, q2⟩, q3, q4, q5⟩ := hwq
         go_simp
         first
           | done
           | rfl)
  · exact d1
  simp only [Act.put, List.setIfInBounds_toArray, List.set_cons_zero, List.set_cons_succ]
  apply wpAnyH_take (i := 5)
  · simp only [List.getElem?_toArray, List.getElem?_cons_succ, List.getElem?_cons_zero]
    rfl
  · kernel_rfl
  · kernel_rfl
  · kernel_rfl
  · exact fun _ _ _ h => h
  · first
      | exact Or.inr ⟨by rfl, rfl⟩
      | (refine Or.inl ⟨by rfl, fun wq hwq => ?_⟩
         obtain ⟨⟨q0, q1, q2⟩, q3, q4, q5⟩ := hwq
         go_simp
         first
           | done
           | rfl)
  · exact d1
  simp only [Act.put, List.setIfInBounds_toArray, List.set_cons_zero, List.set_cons_succ]
  refine wpAnyH_ready (rs := [2]) (by kernel_rfl) (by simp) ?_
  apply AllReadyH.cons
  · simp only [List.getElem?_toArray, List.getElem?_cons_succ, List.getElem?_cons_zero]
    rfl
  rotate_left
  · exact AllReadyH.nil
  intro K hK
  go_simp
  refine (spec_xs HX9.out HY9.out (Nat.le_refl _) (Nat.le_refl _)).mono ?_
  rw [HXs.out]
  rintro e' w10 ⟨vj, he, hj', hb⟩
  subst he
  have HJ := Lib.hid hj'.rd
  clear hj'
  replace B9 := Lib.hid (B9.out.trans (hb.mono (HRw'.out _ B9.out).1))
  clear d1
  have d1 := HCs.out _ B9.out
  clear hb
  refine hK.out _ _ d1 (fun _ => ?_)
  clear hK K
  try simp only [Act.put, List.setIfInBounds_toArray, List.set_cons_zero, List.set_cons_succ]
  refine wpAnyH_ready (rs := [6]) (by kernel_rfl) (by simp) ?_
  apply AllReadyH.cons
  · simp only [List.getElem?_toArray, List.getElem?_cons_succ, List.getElem?_cons_zero]
    rfl
  rotate_left
  · exact AllReadyH.nil
  intro K hK
  go_simp
  refine (spec_us HNw.out HIw.out).mono ?_
  rintro e' w11 ⟨vu, he, hj', hb⟩
  subst he
  have HUn := Lib.hid hj'.rd
  clear hj'
  replace HJ := Lib.hid ((HJ.out.behind hb).mono hb.size)
  replace B9 := Lib.hid (B9.out.trans (hb.mono (HRw'.out _ B9.out).1))
  clear d1
  have d1 := HCs.out _ B9.out
  clear hb
  refine hK.out _ _ d1 (fun _ => ?_)
  clear hK K
  try simp only [Act.put, List.setIfInBounds_toArray, List.set_cons_zero, List.set_cons_succ]
  refine wpAnyH_ready (rs := [7]) (by kernel_rfl) (by simp) ?_
  apply AllReadyH.cons
  · simp only [List.getElem?_toArray, List.getElem?_cons_succ, List.getElem?_cons_zero]
    rfl
  rotate_left
  · exact AllReadyH.nil
  intro K hK
  go_simp
  refine (sameInts_same HJ.out HUn.out (Nat.le_refl _) (Nat.le_refl _)).mono ?_
  rintro e' w12 ⟨he, hb⟩
  subst he
  replace B9 := Lib.hid (B9.out.trans (hb.mono (HRw'.out _ B9.out).1))
  clear d1
  have d1 := HCs.out _ B9.out
  clear hb
  clear HJ HUn HX9 HY9
  refine hK.out _ _ d1 (fun _ => ?_)
  clear hK K
  try simp only [Act.put, List.setIfInBounds_toArray, List.set_cons_zero, List.set_cons_succ]
  apply wpAnyH_take (i := 8)
  · simp only [List.getElem?_toArray, List.getElem?_cons_succ, List.getElem?_cons_zero]
    rfl
  · kernel_rfl
  · kernel_rfl
  · kernel_rfl
  · exact fun _ _ _ h => h
  · first
      | exact Or.inr ⟨by rfl, rfl⟩
      | (refine Or.inl ⟨by rfl, fun wq hwq => ?_⟩
         obtain ⟨⟨q0, q1, q2⟩, q3, q4, q5⟩ := hwq
         go_simp
         first
           | done
           | rfl)
  · exact d1
  simp only [Act.put, List.setIfInBounds_toArray, List.set_cons_zero, List.set_cons_succ]
  apply wpAnyH_take (i := 9) (v := .agg #[.int .i64 (R : Int), .int .i64 0, .slice aa D na])
  · simp only [List.getElem?_toArray, List.getElem?_cons_succ, List.getElem?_cons_zero]
    rfl
  · kernel_rfl
  · kernel_rfl
  · kernel_rfl
  · exact fun _ _ _ h => h
  · first
      | exact Or.inr ⟨by rfl, rfl⟩
      | (refine Or.inl ⟨by rfl, fun wq hwq => ?_⟩
         obtain ⟨⟨q0, q1, q2⟩, q3, q4, q5⟩ := hwq
         go_simp
         first
           | done
           | rfl)
  · exact d1
  simp only [Act.put, List.setIfInBounds_toArray, List.set_cons_zero, List.set_cons_succ]
  apply wpAnyH_take (i := 10)
  · simp only [List.getElem?_toArray, List.getElem?_cons_succ, List.getElem?_cons_zero]
    rfl
  · kernel_rfl
  · kernel_rfl
  · kernel_rfl
  · exact fun _ _ _ h => h
  · first
      | exact Or.inr ⟨by rfl, rfl⟩
      | (refine Or.inl ⟨by rfl, fun wq hwq => ?_⟩
         obtain ⟨⟨q0, q1, q2⟩, q3, q4, q5⟩ := hwq
         go_simp
         first
           | done
           | rfl)
  · exact d1
  simp only [Act.put, List.setIfInBounds_toArray, List.set_cons_zero, List.set_cons_succ]
  apply wpAnyH_take (i := 12) (v := .agg #[.int .i64 (Q : Int), .int .i64 1, .slice ab D nb])
  · simp only [List.getElem?_toArray, List.getElem?_cons_succ, List.getElem?_cons_zero]
    rfl
  · kernel_rfl
  · kernel_rfl
  · kernel_rfl
  · exact fun _ _ _ h => h
  · first
      | exact Or.inr ⟨by rfl, rfl⟩
      | (refine Or.inl ⟨by rfl, fun wq hwq => ?_⟩
         obtain ⟨⟨q0, q1, q2⟩, q3, q4, q5⟩ := hwq
         go_simp
         first
           | done
           | rfl)
  · exact d1
  simp only [Act.put, List.setIfInBounds_toArray, List.set_cons_zero, List.set_cons_succ]
  apply wpAnyH_take (i := 13)
  · simp only [List.getElem?_toArray, List.getElem?_cons_succ, List.getElem?_cons_zero]
    rfl
  · kernel_rfl
  · kernel_rfl
  · kernel_rfl
  · exact fun _ _ _ h => h
  · first
      | exact Or.inr ⟨by rfl, rfl⟩
      | (refine Or.inl ⟨by rfl, fun wq hwq => ?_⟩
         obtain ⟨⟨q0, q1, q2⟩, q3, q4, q5⟩ := hwq
         go_simp
         first
           | done
           | rfl)
  · exact d1
  simp only [Act.put, List.setIfInBounds_toArray, List.set_cons_zero, List.set_cons_succ]
  refine wpAnyH_ready (rs := [11]) (by kernel_rfl) (by simp) ?_
  apply AllReadyH.cons
  · simp only [List.getElem?_toArray, List.getElem?_cons_succ, List.getElem?_cons_zero]
    rfl
  rotate_left
  · exact AllReadyH.nil
  intro K hK
  go_simp
  refine (impl_ept_t (HRw'.out _ B9.out).2.1 (HRw'.out _ B9.out).1 HIw.out).mono ?_
  rw [show ept ((R : Int), (0 : Int), cs).1 ((R : Int), (0 : Int), cs).2.1 ((R : Int), (0 : Int), cs).2.2 (I : Int) = pa from HPa.out.symm]
  rintro e' w13 ⟨he, hb⟩
  subst he
  replace B9 := Lib.hid (B9.out.trans (hb.mono (HRw'.out _ B9.out).1))
  clear d1
  have d1 := HCs.out _ B9.out
  clear hb
  refine hK.out _ _ d1 (fun _ => ?_)
  clear hK K
  try simp only [Act.put, List.setIfInBounds_toArray, List.set_cons_zero, List.set_cons_succ]
  refine wpAnyH_ready (rs := [14]) (by kernel_rfl) (by simp) ?_
  apply AllReadyH.cons
  · simp only [List.getElem?_toArray, List.getElem?_cons_succ, List.getElem?_cons_zero]
    rfl
  rotate_left
  · exact AllReadyH.nil
  intro K hK
  go_simp
  refine (impl_ept_t (HRw'.out _ B9.out).2.2 (HRw'.out _ B9.out).1 HIw.out).mono ?_
  rw [show ept ((Q : Int), (1 : Int), cs).1 ((Q : Int), (1 : Int), cs).2.1 ((Q : Int), (1 : Int), cs).2.2 (I : Int) = pb from HPb.out.symm]
  rintro e' w14 ⟨he, hb⟩
  subst he
  replace B9 := Lib.hid (B9.out.trans (hb.mono (HRw'.out _ B9.out).1))
  clear d1
  have d1 := HCs.out _ B9.out
  clear hb
  have epn := HPn.out
  refine hK.out _ _ d1 (fun _ => ?_)
  clear hK K
  try simp only [Act.put, List.setIfInBounds_toArray, List.set_cons_zero, List.set_cons_succ]
  apply wpAnyH_take (i := 15) (v := .bool true)
  · simp only [List.getElem?_toArray, List.getElem?_cons_succ, List.getElem?_cons_zero]
    rfl
  · kernel_rfl
  · kernel_rfl
  · kernel_rfl
  · exact fun _ _ _ h => h
  · first
      | exact Or.inr ⟨by rfl, rfl⟩
      | (refine Or.inl ⟨by rfl, fun wq hwq => ?_⟩
         obtain ⟨⟨q0, q1, q2⟩, q3, q4, q5⟩ := hwq
         go_simp
         first
           | done
           | rfl)
  · exact d1
  simp only [Act.put, List.setIfInBounds_toArray, List.set_cons_zero, List.set_cons_succ]
  clear epn
  apply wpAnyH_take (i := 16)
  · simp only [List.getElem?_toArray, List.getElem?_cons_succ, List.getElem?_cons_zero]
    rfl
  · kernel_rfl
  · kernel_rfl
  · kernel_rfl
  · exact fun _ _ _ h => h
  · first
      | exact Or.inr ⟨by rfl, rfl⟩
      | (refine Or.inl ⟨by rfl, fun wq hwq => ?_⟩
         obtain ⟨⟨q0, q1, q2⟩, q3, q4, q5⟩ := hwq
         go_simp
         first
           | done
           | rfl)
  · exact d1
  simp only [Act.put, List.setIfInBounds_toArray, List.set_cons_zero, List.set_cons_succ]
  apply wpAnyH_take (i := 17)
  · simp only [List.getElem?_toArray, List.getElem?_cons_succ, List.getElem?_cons_zero]
    rfl
  · kernel_rfl
  · kernel_rfl
  · kernel_rfl
  · exact fun _ _ _ h => h
  · first
      | exact Or.inr ⟨by rfl, rfl⟩
      | (refine Or.inl ⟨by rfl, fun wq hwq => ?_⟩
         obtain ⟨⟨q0, q1, q2⟩, q3, q4, q5⟩ := hwq
         go_simp
         first
           | done
           | rfl)
  · exact d1
  simp only [Act.put, List.setIfInBounds_toArray, List.set_cons_zero, List.set_cons_succ]
  apply wpAnyH_take (i := 18)
  · simp only [List.getElem?_toArray, List.getElem?_cons_succ, List.getElem?_cons_zero]
    rfl
  · kernel_rfl
  · kernel_rfl
  · kernel_rfl
  · exact fun _ _ _ h => h
  · first
      | exact Or.inr ⟨by rfl, rfl⟩
      | (refine Or.inl ⟨by rfl, fun wq hwq => ?_⟩
         obtain ⟨⟨q0, q1, q2⟩, q3, q4, q5⟩ := hwq
         go_simp
         first
           | done
           | rfl)
  · exact d1
  simp only [Act.put, List.setIfInBounds_toArray, List.set_cons_zero, List.set_cons_succ]
  apply wpAnyH_take (i := 19) (v := .slice aa D na)
  · simp only [List.getElem?_toArray, List.getElem?_cons_succ, List.getElem?_cons_zero]
    rfl
  · kernel_rfl
  · kernel_rfl
  · kernel_rfl
  · exact fun _ _ _ h => h
  · first
      | exact Or.inr ⟨by rfl, rfl⟩
      | (refine Or.inl ⟨by rfl, fun wq hwq => ?_⟩
         obtain ⟨⟨q0, q1, q2⟩, q3, q4, q5⟩ := hwq
         go_simp
         first
           | done
           | rfl)
  · exact d1
  simp only [Act.put, List.setIfInBounds_toArray, List.set_cons_zero, List.set_cons_succ]
  apply wpAnyH_take (i := 20)
  · simp only [List.getElem?_toArray, List.getElem?_cons_succ, List.getElem?_cons_zero]
    rfl
  · kernel_rfl
  · kernel_rfl
  · kernel_rfl
  · exact fun _ _ _ h => h
  · first
      | exact Or.inr ⟨by rfl, rfl⟩
      | (refine Or.inl ⟨by rfl, fun wq hwq => ?_⟩
         obtain ⟨⟨q0, q1, q2⟩, q3, q4, q5⟩ := hwq
         go_simp
         first
           | done
           | rfl)
  · exact d1
  simp only [Act.put, List.setIfInBounds_toArray, List.set_cons_zero, List.set_cons_succ]
  apply wpAnyH_take (i := 21)
  · simp only [List.getElem?_toArray, List.getElem?_cons_succ, List.getElem?_cons_zero]
    rfl
  · kernel_rfl
  · kernel_rfl
  · kernel_rfl
  · exact fun _ _ _ h => h
  · first
      | exact Or.inr ⟨by rfl, rfl⟩
      | (refine Or.inl ⟨by rfl, fun wq hwq => ?_⟩
         obtain ⟨⟨q0, q1, q2⟩, q3, q4, q5⟩ := hwq
         go_simp
         first
           | done
           | rfl)
  · exact d1
  simp only [Act.put, List.setIfInBounds_toArray, List.set_cons_zero, List.set_cons_succ]
  apply wpAnyH_take (i := 22) (v := .bool true)
  · simp only [List.getElem?_toArray, List.getElem?_cons_succ, List.getElem?_cons_zero]
    rfl
  · kernel_rfl
  · kernel_rfl
  · kernel_rfl
  · exact fun _ _ _ h => h
  · first
      | exact Or.inr ⟨by rfl, rfl⟩
      | (refine Or.inl ⟨by rfl, fun wq hwq => ?_⟩
         obtain ⟨⟨q0, q1, q2⟩, q3, q4, q5⟩ := hwq
         go_simp
         first
           | done
           | rfl)
  · exact d1
  simp only [Act.put, List.setIfInBounds_toArray, List.set_cons_zero, List.set_cons_succ]
  apply wpAnyH_take (i := 23)
  · simp only [List.getElem?_toArray, List.getElem?_cons_succ, List.getElem?_cons_zero]
    rfl
  · kernel_rfl
  · kernel_rfl
  · kernel_rfl
  · exact fun _ _ _ h => h
  · first
      | exact Or.inr ⟨by rfl, rfl⟩
      | (refine Or.inl ⟨by rfl, fun wq hwq => ?_⟩
         obtain ⟨⟨q0, q1, q2⟩, q3, q4, q5⟩ := hwq
         go_simp
         first
           | done
           | rfl)
  · exact d1
  simp only [Act.put, List.setIfInBounds_toArray, List.set_cons_zero, List.set_cons_succ]
  apply wpAnyH_take (i := 24)
  · simp only [List.getElem?_toArray, List.getElem?_cons_succ, List.getElem?_cons_zero]
    rfl
  · kernel_rfl
  · kernel_rfl
  · kernel_rfl
  · exact fun _ _ _ h => h
  · first
      | exact Or.inr ⟨by rfl, rfl⟩
      | (refine Or.inl ⟨by rfl, fun wq hwq => ?_⟩
         obtain ⟨⟨q0, q1, q2⟩, q3, q4, q5⟩ := hwq
         go_simp
         first
           | done
           | rfl)
  · exact d1
  simp only [Act.put, List.setIfInBounds_toArray, List.set_cons_zero, List.set_cons_succ]
  apply wpAnyH_take (i := 25) (v := .agg #[.int .i64 (R : Int), .int .i64 0, .slice aa D na])
  · simp only [List.getElem?_toArray, List.getElem?_cons_succ, List.getElem?_cons_zero]
    rfl
  · kernel_rfl
  · kernel_rfl
  · kernel_rfl
  · exact fun _ _ _ h => h
  · first
      | exact Or.inr ⟨by rfl, rfl⟩
      | (refine Or.inl ⟨by rfl, fun wq hwq => ?_⟩
         obtain ⟨⟨q0, q1, q2⟩, q3, q4, q5⟩ := hwq
         go_simp
         first
           | done
           | rfl)
  · exact d1
  simp only [Act.put, List.setIfInBounds_toArray, List.set_cons_zero, List.set_cons_succ]
  apply wpAnyH_take (i := 26) (v := .agg #[.int .i64 (Q : Int), .int .i64 1, .slice ab D nb])
  · simp only [List.getElem?_toArray, List.getElem?_cons_succ, List.getElem?_cons_zero]
    rfl
  · kernel_rfl
  · kernel_rfl
  · kernel_rfl
  · exact fun _ _ _ h => h
  · first
      | exact Or.inr ⟨by rfl, rfl⟩
      | (refine Or.inl ⟨by rfl, fun wq hwq => ?_⟩
         obtain ⟨⟨q0, q1, q2⟩, q3, q4, q5⟩ := hwq
         go_simp
         first
           | done
           | rfl)
  · exact d1
  simp only [Act.put, List.setIfInBounds_toArray, List.set_cons_zero, List.set_cons_succ]
  refine wpAnyH_ready (rs := [27]) (by kernel_rfl) (by simp) ?_
  apply AllReadyH.cons
  · simp only [List.getElem?_toArray, List.getElem?_cons_succ, List.getElem?_cons_zero]
    rfl
  rotate_left
  · exact AllReadyH.nil
  intro K hK
  go_simp
  refine (impl_epk_t (HRw'.out _ B9.out).2.1 (HRw'.out _ B9.out).1 (HRw'.out _ B9.out).2.2 (HRw'.out _ B9.out).1).mono ?_
  rw [show epk ((R : Int), (0 : Int), cs).1 ((R : Int), (0 : Int), cs).2.1 ((R : Int), (0 : Int), cs).2.2 ((Q : Int), (1 : Int), cs).1 ((Q : Int), (1 : Int), cs).2.1 ((Q : Int), (1 : Int), cs).2.2 = false from HEk.out]
  rintro e' w15 ⟨he, hb⟩
  subst he
  replace B9 := Lib.hid (B9.out.trans (hb.mono (HRw'.out _ B9.out).1))
  clear d1
  have d1 := HCs.out _ B9.out
  clear hb
  refine hK.out _ _ d1 (fun _ => ?_)
  clear hK K
  try simp only [Act.put, List.setIfInBounds_toArray, List.set_cons_zero, List.set_cons_succ]
  apply wpAnyH_take (i := 28)
  · simp only [List.getElem?_toArray, List.getElem?_cons_succ, List.getElem?_cons_zero]
    rfl
  · kernel_rfl
  · kernel_rfl
  · kernel_rfl
  · exact fun _ _ _ h => h
  · first
      | exact Or.inr ⟨by rfl, rfl⟩
      | (refine Or.inl ⟨by rfl, fun wq hwq => ?_⟩
         obtain ⟨⟨q0, q1, q2⟩, q3, q4, q5⟩ := hwq
         go_simp
         first
           | done
           | rfl)
  · exact d1
  simp only [Act.put, List.setIfInBounds_toArray, List.set_cons_zero, List.set_cons_succ]
  apply wpAnyH_take (i := 29)
  · simp only [List.getElem?_toArray, List.getElem?_cons_succ, List.getElem?_cons_zero]
    rfl
  · kernel_rfl
  · kernel_rfl
  · kernel_rfl
  · exact fun _ _ _ h => h
  · first
      | exact Or.inr ⟨by rfl, rfl⟩
      | (refine Or.inl ⟨by rfl, fun wq hwq => ?_⟩
         obtain ⟨⟨q0, q1, q2⟩, q3, q4, q5⟩ := hwq
         go_simp
         first
           | done
           | rfl)
  · exact d1
  simp only [Act.put, List.setIfInBounds_toArray, List.set_cons_zero, List.set_cons_succ]
  apply wpAnyH_take (i := 30)
  · simp only [List.getElem?_toArray, List.getElem?_cons_succ, List.getElem?_cons_zero]
    rfl
  · kernel_rfl
  · kernel_rfl
  · kernel_rfl
  · exact fun _ _ _ h => h
  · first
      | exact Or.inr ⟨by rfl, rfl⟩
      | (refine Or.inl ⟨by rfl, fun wq hwq => ?_⟩
         obtain ⟨⟨q0, q1, q2⟩, q3, q4, q5⟩ := hwq
         go_simp
         first
           | done
           | rfl)
  · exact d1
  simp only [Act.put, List.setIfInBounds_toArray, List.set_cons_zero, List.set_cons_succ]
  apply wpAnyH_take (i := 31) (v := .agg #[.int .i64 (R : Int), .int .i64 0, .slice aa D na])
  · simp only [List.getElem?_toArray, List.getElem?_cons_succ, List.getElem?_cons_zero]
    rfl
  · kernel_rfl
  · kernel_rfl
  · kernel_rfl
  · exact fun _ _ _ h => h
  · first
      | exact Or.inr ⟨by rfl, rfl⟩
      | (refine Or.inl ⟨by rfl, fun wq hwq => ?_⟩
         obtain ⟨⟨q0, q1, q2⟩, q3, q4, q5⟩ := hwq
         go_simp
         first
           | done
           | rfl)
  · exact d1
  simp only [Act.put, List.setIfInBounds_toArray, List.set_cons_zero, List.set_cons_succ]
  refine wpAnyH_ready (rs := [32]) (by kernel_rfl) (by simp) ?_
  apply AllReadyH.cons
  · simp only [List.getElem?_toArray, List.getElem?_cons_succ, List.getElem?_cons_zero]
    rfl
  rotate_left
  · exact AllReadyH.nil
  intro K hK
  go_simp
  refine (impl_enk_t (HRw'.out _ B9.out).2.1 (HRw'.out _ B9.out).1).mono ?_
  obtain ⟨ek, hek⟩ : ∃ k, k = epkBytes (R : Int) 0 cs := ⟨_, rfl⟩
  rw [show epkBytes ((R : Int), (0 : Int), cs).1 ((R : Int), (0 : Int), cs).2.1 ((R : Int), (0 : Int), cs).2.2 = ek from hek.symm]
  rintro e' w16 ⟨vk, Fk, he, hk, _, hb⟩
  subst he
  obtain ⟨ak, nk, hkv, _⟩ := slo_open hk
  injection hkv with hkv
  obtain ⟨L, hL⟩ : ∃ L, L = ek.length := ⟨_, rfl⟩
  rw [← hL] at hkv
  have hL3 : 3 ≤ L := by rw [hL, hek]; exact HEn.out
  subst hkv
  have eL : decide ((2 : Int) < (L : Int)) = true := by simp; omega
  clear hk hL hek
  replace B9 := Lib.hid (B9.out.trans (hb.mono (HRw'.out _ B9.out).1))
  clear d1
  have d1 := HCs.out _ B9.out
  clear hb
  refine hK.out _ _ d1 (fun _ => ?_)
  clear hK K
  try simp only [Act.put, List.setIfInBounds_toArray, List.set_cons_zero, List.set_cons_succ]
  apply wpAnyH_take (i := 33)
  · simp only [List.getElem?_toArray, List.getElem?_cons_succ, List.getElem?_cons_zero]
    rfl
  · kernel_rfl
  · kernel_rfl
  · kernel_rfl
  · exact fun _ _ _ h => h
  · first
      | exact Or.inr ⟨by rfl, rfl⟩
      | (refine Or.inl ⟨by rfl, fun wq hwq => ?_⟩
         obtain ⟨⟨q0, q1, q2⟩, q3, q4, q5⟩ := hwq
         go_simp
         first
           | done
           | rfl)
  · exact d1
  simp only [Act.put, List.setIfInBounds_toArray, List.set_cons_zero, List.set_cons_succ]
  apply wpAnyH_take (i := 34) (v := .bool true)
  · simp only [List.getElem?_toArray, List.getElem?_cons_succ, List.getElem?_cons_zero]
    rfl
  · kernel_rfl
  · kernel_rfl
  · kernel_rfl
  · exact fun _ _ _ h => h
  · first
      | exact Or.inr ⟨by rfl, rfl⟩
      | (refine Or.inl ⟨by rfl, fun wq hwq => ?_⟩
         obtain ⟨⟨q0, q1, q2⟩, q3, q4, q5⟩ := hwq
         go_simp
         first
           | done
           | rfl)
  · exact d1
  simp only [Act.put, List.setIfInBounds_toArray, List.set_cons_zero, List.set_cons_succ]
  clear eL
  apply wpAnyH_take (i := 35)
  · simp only [List.getElem?_toArray, List.getElem?_cons_succ, List.getElem?_cons_zero]
    rfl
  · kernel_rfl
  · kernel_rfl
  · kernel_rfl
  · exact fun _ _ _ h => h
  · first
      | exact Or.inr ⟨by rfl, rfl⟩
      | (refine Or.inl ⟨by rfl, fun wq hwq => ?_⟩
         obtain ⟨⟨q0, q1, q2⟩, q3, q4, q5⟩ := hwq
         go_simp
         first
           | done
           | rfl)
  · exact d1
  simp only [Act.put, List.setIfInBounds_toArray, List.set_cons_zero, List.set_cons_succ]
  apply wpAnyH_take (i := 36)
  · simp only [List.getElem?_toArray, List.getElem?_cons_succ, List.getElem?_cons_zero]
    rfl
  · kernel_rfl
  · kernel_rfl
  · kernel_rfl
  · exact fun _ _ _ h => h
  · first
      | exact Or.inr ⟨by rfl, rfl⟩
      | (refine Or.inl ⟨by rfl, fun wq hwq => ?_⟩
         obtain ⟨⟨q0, q1, q2⟩, q3, q4, q5⟩ := hwq
         go_simp
         first
           | done
           | rfl)
  · exact d1
  simp only [Act.put, List.setIfInBounds_toArray, List.set_cons_zero, List.set_cons_succ]
  apply wpAnyH_take (i := 37)
  · simp only [List.getElem?_toArray, List.getElem?_cons_succ, List.getElem?_cons_zero]
    rfl
  · kernel_rfl
  · kernel_rfl
  · kernel_rfl
  · exact fun _ _ _ h => h
  · first
      | exact Or.inr ⟨by rfl, rfl⟩
      | (refine Or.inl ⟨by rfl, fun wq hwq => ?_⟩
         obtain ⟨⟨q0, q1, q2⟩, q3, q4, q5⟩ := hwq
         go_simp
         first
           | done
           | rfl)
  · exact d1
  simp only [Act.put, List.setIfInBounds_toArray, List.set_cons_zero, List.set_cons_succ]
  apply wpAnyH_take (i := 39)
  · simp only [List.getElem?_toArray, List.getElem?_cons_succ, List.getElem?_cons_zero]
    rfl
  · kernel_rfl
  · kernel_rfl
  · kernel_rfl
  · exact fun _ _ _ h => h
  · first
      | exact Or.inr ⟨by rfl, rfl⟩
      | (refine Or.inl ⟨by rfl, fun wq hwq => ?_⟩
         obtain ⟨⟨q0, q1, q2⟩, q3, q4, q5⟩ := hwq
         go_simp
         first
           | done
           | rfl)
  · exact d1
  simp only [Act.put, List.setIfInBounds_toArray, List.set_cons_zero, List.set_cons_succ]
  apply wpAnyH_take (i := 40)
  · simp only [List.getElem?_toArray, List.getElem?_cons_succ, List.getElem?_cons_zero]
    rfl
  · kernel_rfl
  · kernel_rfl
  · kernel_rfl
  · exact fun _ _ _ h => h
  · first
      | exact Or.inr ⟨by rfl, rfl⟩
      | (refine Or.inl ⟨by rfl, fun wq hwq => ?_⟩
         obtain ⟨⟨q0, q1, q2⟩, q3, q4, q5⟩ := hwq
         go_simp
         first
           | done
           | rfl)
  · exact d1
  simp only [Act.put, List.setIfInBounds_toArray, List.set_cons_zero, List.set_cons_succ]
  have hw1 : IntKind.i64.wrap ((N : Int) - 2) = (N : Int) - 2 := by rw [IntKind.wrap_i64]; omega
  have hw2 : IntKind.i64.wrap (3 * (D : Int)) = 3 * (D : Int) := by rw [IntKind.wrap_i64]; omega
  have hw3 : IntKind.i64.wrap ((N : Int) - 2 - 3 * (D : Int)) = (N : Int) - 2 - 3 * (D : Int) := by rw [IntKind.wrap_i64]; omega
  apply wpAnyH_take (i := 41) (v := .int .i64 ((N : Int) - 2))
  · simp only [List.getElem?_toArray, List.getElem?_cons_succ, List.getElem?_cons_zero]
    rfl
  · kernel_rfl
  · kernel_rfl
  · kernel_rfl
  · exact fun _ _ _ h => h
  · first
      | exact Or.inr ⟨by rfl, rfl⟩
      | (refine Or.inl ⟨by rfl, fun wq hwq => ?_⟩
         obtain ⟨⟨q0, q1, q2⟩, q3, q4, q5⟩ := hwq
         go_simp
         first
           | done
           | rfl)
  · exact d1
  simp only [Act.put, List.setIfInBounds_toArray, List.set_cons_zero, List.set_cons_succ]
  apply wpAnyH_take (i := 42)
  · simp only [List.getElem?_toArray, List.getElem?_cons_succ, List.getElem?_cons_zero]
    rfl
  · kernel_rfl
  · kernel_rfl
  · kernel_rfl
  · exact fun _ _ _ h => h
  · first
      | exact Or.inr ⟨by rfl, rfl⟩
      | (refine Or.inl ⟨by rfl, fun wq hwq => ?_⟩
         obtain ⟨⟨q0, q1, q2⟩, q3, q4, q5⟩ := hwq
         go_simp
         first
           | done
           | rfl)
  · exact d1
  simp only [Act.put, List.setIfInBounds_toArray, List.set_cons_zero, List.set_cons_succ]
  apply wpAnyH_take (i := 43) (v := .int .i64 (3 * (D : Int)))
  · simp only [List.getElem?_toArray, List.getElem?_cons_succ, List.getElem?_cons_zero]
    rfl
  · kernel_rfl
  · kernel_rfl
  · kernel_rfl
  · exact fun _ _ _ h => h
  · first
      | exact Or.inr ⟨by rfl, rfl⟩
      | (refine Or.inl ⟨by rfl, fun wq hwq => ?_⟩
         obtain ⟨⟨q0, q1, q2⟩, q3, q4, q5⟩ := hwq
         go_simp
         first
           | done
           | rfl)
  · exact d1
  simp only [Act.put, List.setIfInBounds_toArray, List.set_cons_zero, List.set_cons_succ]
  apply wpAnyH_take (i := 44) (v := .int .i64 ((N : Int) - 2 - 3 * (D : Int)))
  · simp only [List.getElem?_toArray, List.getElem?_cons_succ, List.getElem?_cons_zero]
    rfl
  · kernel_rfl
  · kernel_rfl
  · kernel_rfl
  · exact fun _ _ _ h => h
  · first
      | exact Or.inr ⟨by rfl, rfl⟩
      | (refine Or.inl ⟨by rfl, fun wq hwq => ?_⟩
         obtain ⟨⟨q0, q1, q2⟩, q3, q4, q5⟩ := hwq
         go_simp
         first
           | done
           | rfl)
  · exact d1
  simp only [Act.put, List.setIfInBounds_toArray, List.set_cons_zero, List.set_cons_succ]
  refine wpAnyH_ready (rs := [38]) (by kernel_rfl) (by simp) ?_
  apply AllReadyH.cons
  · simp only [List.getElem?_toArray, List.getElem?_cons_succ, List.getElem?_cons_zero]
    rfl
  rotate_left
  · exact AllReadyH.nil
  intro K hK
  go_simp
  refine (impl_sav_t HDw.out).mono ?_
  rintro e' w17 ⟨he, hw⟩
  subst he
  subst hw
  refine hK.out _ _ d1 (fun _ => ?_)
  clear hK K
  try simp only [Act.put, List.setIfInBounds_toArray, List.set_cons_zero, List.set_cons_succ]
  have eSv : (sav (D : Int) == (N : Int) - 2 - 3 * (D : Int)) = true := by rw [HSv.out]; simp
  apply wpAnyH_take (i := 45) (v := .bool true)
  · simp only [List.getElem?_toArray, List.getElem?_cons_succ, List.getElem?_cons_zero]
    rfl
  · kernel_rfl
  · kernel_rfl
  · kernel_rfl
  · exact fun _ _ _ h => h
  · first
      | exact Or.inr ⟨by rfl, rfl⟩
      | (refine Or.inl ⟨by rfl, fun wq hwq => ?_⟩
         obtain ⟨⟨q0, q1, q2⟩, q3, q4, q5⟩ := hwq
         go_simp
         first
           | done
           | rfl)
  · exact d1
  simp only [Act.put, List.setIfInBounds_toArray, List.set_cons_zero, List.set_cons_succ]
  apply wpAnyH_take (i := 46)
  · simp only [List.getElem?_toArray, List.getElem?_cons_succ, List.getElem?_cons_zero]
    rfl
  · kernel_rfl
  · kernel_rfl
  · kernel_rfl
  · exact fun _ _ _ h => h
  · first
      | exact Or.inr ⟨by rfl, rfl⟩
      | (refine Or.inl ⟨by rfl, fun wq hwq => ?_⟩
         obtain ⟨⟨q0, q1, q2⟩, q3, q4, q5⟩ := hwq
         go_simp
         first
           | done
           | rfl)
  · exact d1
  simp only [Act.put, List.setIfInBounds_toArray, List.set_cons_zero, List.set_cons_succ]
  apply wpAnyH_take (i := 47)
  · simp only [List.getElem?_toArray, List.getElem?_cons_succ, List.getElem?_cons_zero]
    rfl
  · kernel_rfl
  · kernel_rfl
  · kernel_rfl
  · exact fun _ _ _ h => h
  · first
      | exact Or.inr ⟨by rfl, rfl⟩
      | (refine Or.inl ⟨by rfl, fun wq hwq => ?_⟩
         obtain ⟨⟨q0, q1, q2⟩, q3, q4, q5⟩ := hwq
         go_simp
         first
           | done
           | rfl)
  · exact d1
  simp only [Act.put, List.setIfInBounds_toArray, List.set_cons_zero, List.set_cons_succ]
  refine wpAnyH_done (by kernel_rfl) ?_ _
  go_wp2_with fail
  go_ret
  exact ⟨rfl, HB0.out.trans (B9.out.mono HB0.out.size)⟩

end Go.Proofs.Ytngdcnocjgibkaa
