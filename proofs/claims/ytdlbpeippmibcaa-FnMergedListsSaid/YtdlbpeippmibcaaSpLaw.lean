/- FnSpending: the walk. What the program spends, the document spends; a token that was accepted is refused a second time, its number is in the list and was not before; a list merged with itself is itself; what is spent is no longer left of a budget; an epoch's secret is an exponent. No conditions. -/
import Derived.Test.YtdlbpeippmibcaaDraw17b
import Derived.Test.YtdlbpeippmibcaaSpC
namespace Go.Proofs.Ytdlbpeippmibcaa
open Go Go.RowKit
set_option linter.unusedVariables false
set_option maxRecDepth 20000
attribute [local irreducible] kh kid pwm tcm pw chl

theorem eqSL_self (e : Int) (xs : List Int) : eqSL e e xs xs = true := by
  unfold eqSL
  rw [beq_self_eq_true, decide_eq_true rfl]; rfl
theorem sp_same {e : Int} {zs : List Int} {s n v : Int} (h : spR e zs s n v ≠ 0) : spL e zs s n v = zs := if_neg h
theorem sp_law {e : Int} {xs : List Int} {s n u : Int} (h : spR e xs s n u = 0) :
    spL e xs s n u = insS xs n ∧ slv e (insS xs n) = true ∧ memS (insS xs n) n = true ∧ memS xs n = false ∧ (insS xs n).length ≤ 40 ∧ spR e (insS xs n) s n u = 2 ∧ spL e (insS xs n) s n u = insS xs n ∧
      mgL e e (insS xs n) (insS xs n) = insS xs n ∧ mgN e e (insS xs n) (insS xs n) = ((insS xs n).length : Int) := by
  obtain ⟨⟨h1, h2⟩, h3, h4, h5⟩ := sp_parts h
  obtain ⟨h6, h7⟩ := vtok_in h2
  have h8 := slv_ins h1 h6 h7 h3 h4
  have h9 : memS (insS xs n) n = true := memS_iff.2 (insS_mem.2 (Or.inl rfl))
  have h10 : (slv e (insS xs n) && vtok s n u) = true := by rw [h8, h2]; rfl
  have h11 : mgq e e (insS xs n) (insS xs n) = true := by unfold mgq; rw [h8, beq_self_eq_true]; rfl
  obtain ⟨h12, h13⟩ := sp_twice h10 h9
  obtain ⟨h14, h15⟩ := mg_yes h11
  rw [mgs_self] at h14 h15
  exact ⟨h5, h8, h9, h3, by rw [insS_len]; omega, h12, h13, h14, h15⟩

set_option maxHeartbeats 16000000 in
theorem fnSpending_walk (a : Option Addr) (len cap : Nat) (zs : List Int) (w : World) (hrow : IsRow .u8 w a len cap zs) :
    Calls Try.prog 3 #[.slice a len cap] w fun e w' => e = .returned (.bool true) ∧ Below w.heap.size w w' := by
  obtain ⟨hr, hl⟩ := row_own hrow
  obtain ⟨s, A, l⟩ : ∃ s, Rd w.heap.size .u8 w (.slice a len cap) s ∧ len = s.length := ⟨zs.take len, hrow.rd, hrow.rd.len_eq⟩
  subst l
  have HA := Lib.hid A
  have HRow := Lib.hid hr
  have HLen := Lib.hid hl
  have hl' : s.length ≤ 9223372036854775807 := by unfold maxLen at hl; omega
  clear hr hrow hl A
  by_cases hbig : 1048576 < s.length
  · have e0 : decide ((1048576 : Int) < (s.length : Int)) = true := by simp; omega
    go_enter Try.func3, Try.ntmps3
    go_wp2_with fail
    refine (big_is a s.length cap _ hl').mono ?_
    rw [e0]
    rintro e w0 ⟨rfl, rfl⟩
    go_wp2_with fail
    go_ret
    exact ⟨rfl, Below.refl _ _⟩
  have e0 : decide ((1048576 : Int) < (s.length : Int)) = false := by simp; omega
  have HS := Lib.hid (show s.length ≤ 1048576 by omega)
  clear hbig
  go_enter Try.func3, Try.ntmps3
  go_wp2_with fail
  refine (big_is a s.length cap _ hl').mono ?_
  rw [e0]
  rintro e w0 ⟨rfl, hw⟩
  obtain rfl : w = w0 := hw.symm
  clear e0 hw
  go_wp2_with fail
  refine (draw_spt w.heap.size a s.length cap zs _ (Nat.le_refl _) HRow.out HLen.out).mono ?_
  rintro e w1 ⟨x, sc, n, u, v, xs, rfl, hx, hs, hn, hu, hO, hxl, hb⟩
  obtain ⟨av, cv, hv, _⟩ := hO.open
  subst hv
  have HB := Lib.hid hb
  replace HA := Lib.hid (HA.out.behind hb)
  have Wx := Lib.hid hx
  have Ws := Lib.hid (small_wf (x := sc) (by omega) (by omega))
  have Wn := Lib.hid (small_wf (x := n) (by omega) (by omega))
  have Wu := Lib.hid hu
  have HXl := Lib.hid hxl
  have HOl := Lib.hid hO
  obtain ⟨nxs, hnx⟩ : ∃ m, m = xs.length := ⟨_, rfl⟩
  rw [← hnx] at HOl ⊢
  clear hb hx hs hn hu hO hxl HRow hnx
  have K := blocks2T w1 (.cells #[.int .i64 x, .slice av nxs cv] 26) (.cells #[.int .i64 n, .int .i64 u] 28)
  have hb := ((Below.refl w1.heap.size w1).alloc (Nat.le_refl _) (.cells #[.int .i64 x, .slice av nxs cv] 26)).alloc (by simp) (.cells #[.int .i64 n, .int .i64 u] 28)
  obtain ⟨W1, hW1⟩ : ∃ W, W = (w1.alloc (.cells #[.int .i64 x, .slice av nxs cv] 26)).alloc (.cells #[.int .i64 n, .int .i64 u] 28) := ⟨_, rfl⟩
  obtain ⟨DL, hDL⟩ : ∃ D, D = w1.heap.size := ⟨_, rfl⟩
  obtain ⟨DT, hDT⟩ : ∃ D, D = DL + 1 := ⟨_, rfl⟩
  have hO := HOl.out.next hb
  have hA := HA.out.behind (hb.mono HB.out.size)
  have hB := HB.out.trans (hb.mono HB.out.size)
  have HKl := Lib.hid K.1
  have HKt := Lib.hid K.2
  obtain ⟨c0, c1, -⟩ := scs K.1
  obtain ⟨d0, d1, -⟩ := scs K.2
  rw [← hW1] at hO hA hB HKl HKt
  rw [← hDL] at HKl HKt
  rw [← hDT] at HKt
  have HOl := Lib.hid hO
  replace HA := Lib.hid hA
  replace HB := Lib.hid hB
  have HW1 : Hid (W1 = (w1.alloc (.cells #[.int .i64 x, .slice av nxs cv] 26)).alloc (.cells #[.int .i64 n, .int .i64 u] 28)) := Lib.hid hW1
  have HDL := Lib.hid hDL
  have HDT := Lib.hid hDT
  clear K hb hW1 hDL hDT hO hA hB
  obtain ⟨r, hr⟩ : ∃ r, r = spR x xs sc n u := ⟨_, rfl⟩
  have hrb : 0 ≤ r ∧ r ≤ 3 := by rw [hr]; exact spR_bound _ _ _ _ _
  obtain ⟨ys, hys⟩ : ∃ ys, ys = spL x xs sc n u := ⟨_, rfl⟩
  have HRr := Lib.hid hr
  have HYs := Lib.hid hys
  have HYl : Hid (ys.length ≤ 42) := Lib.hid (by rw [hys]; have := spL_len x xs sc n u; have := HXl.out; omega)
  clear hr hys
  go_wp2_with fail
  rw [← HW1.out, ← HDL.out, ← HDT.out]
  clear c0 c1 d0 d1
  refine (impl_spt HOl.out.rd (Nat.le_refl _) (by have := HXl.out; omega) Wx.out Ws.out Wn.out Wu.out).mono ?_
  rw [← HRr.out, ← HYs.out]
  rintro e w2 ⟨vn, rfl, hO, hb⟩
  obtain ⟨ax, cx, hv, -⟩ := hO.open
  subst hv
  have hO := hO.mono HB.out.size
  replace HKl := Lib.hid ((hb.block _ (lt_of_block HKl.out)).trans HKl.out)
  replace HKt := Lib.hid ((hb.block _ (lt_of_block HKt.out)).trans HKt.out)
  replace HOl := Lib.hid (HOl.out.next hb)
  replace HA := Lib.hid (HA.out.behind (hb.mono HB.out.size))
  replace HB := Lib.hid (HB.out.trans (hb.mono HB.out.size))
  clear hb
  obtain ⟨nx, hnl⟩ : ∃ m, m = (ys : List Int).length := ⟨_, rfl⟩
  rw [← hnl] at hO ⊢
  have HNx := Lib.hid hnl
  have HOx := Lib.hid hO
  clear hO hnl
  have hE := heap_alloc_new w2 (.cells #[.int .i64 x, .slice ax nx cx] 26)
  have hb : Below w2.heap.size w2 (w2.alloc (.cells #[.int .i64 x, .slice ax nx cx] 26)) := (Below.refl _ _).alloc (Nat.le_refl _) _
  replace HKl := Lib.hid ((hb.block _ (lt_of_block HKl.out)).trans HKl.out)
  replace HKt := Lib.hid ((hb.block _ (lt_of_block HKt.out)).trans HKt.out)
  replace HOl := Lib.hid (HOl.out.next hb)
  replace HOx := Lib.hid (HOx.out.next hb)
  replace HA := Lib.hid (HA.out.behind (hb.mono HB.out.size))
  replace HB := Lib.hid (HB.out.trans (hb.mono HB.out.size))
  clear hb
  obtain ⟨kHKl0, kHKl1, -⟩ := scs HKl.out
  obtain ⟨kHKt0, kHKt1, -⟩ := scs HKt.out
  obtain ⟨W2, hW⟩ : ∃ W, W = w2.alloc (.cells #[.int .i64 x, .slice ax nx cx] 26) := ⟨_, rfl⟩
  obtain ⟨Dx, hD⟩ : ∃ D, D = w2.heap.size := ⟨_, rfl⟩
  obtain ⟨kHKx0, kHKx1, -⟩ := scs hE
  rw [← hW] at HKl HKt HOl HOx HA HB hE
  rw [← hD] at hE
  have HKx := Lib.hid hE
  have HWn := Lib.hid hW
  have HDn := Lib.hid hD
  clear hW hD hE
  go_wp2_with fail
  rw [← HWn.out, ← HDn.out]
  clear HWn HDn
  clear kHKl0 kHKl1 kHKt0 kHKt1 kHKx0 kHKx1
  refine (spec_spt HOl.out.rd (Nat.le_refl _) (by have := HXl.out; omega) Wx.out Ws.out Wn.out Wu.out).mono ?_
  rw [← HRr.out, ← HYs.out]
  rintro e w3 ⟨vn, rfl, hO, hb⟩
  obtain ⟨ay, cy, hv, -⟩ := hO.open
  subst hv
  have hO := hO.mono HB.out.size
  replace HKl := Lib.hid ((hb.block _ (lt_of_block HKl.out)).trans HKl.out)
  replace HKt := Lib.hid ((hb.block _ (lt_of_block HKt.out)).trans HKt.out)
  replace HKx := Lib.hid ((hb.block _ (lt_of_block HKx.out)).trans HKx.out)
  replace HOl := Lib.hid (HOl.out.next hb)
  replace HOx := Lib.hid (HOx.out.next hb)
  replace HA := Lib.hid (HA.out.behind (hb.mono HB.out.size))
  replace HB := Lib.hid (HB.out.trans (hb.mono HB.out.size))
  clear hb
  obtain ⟨ny, hnl⟩ : ∃ m, m = (ys : List Int).length := ⟨_, rfl⟩
  rw [← hnl] at hO ⊢
  have HNy := Lib.hid hnl
  have HOy := Lib.hid hO
  clear hO hnl
  have hE := heap_alloc_new w3 (.cells #[.int .i64 x, .slice ay ny cy] 26)
  have hb : Below w3.heap.size w3 (w3.alloc (.cells #[.int .i64 x, .slice ay ny cy] 26)) := (Below.refl _ _).alloc (Nat.le_refl _) _
  replace HKl := Lib.hid ((hb.block _ (lt_of_block HKl.out)).trans HKl.out)
  replace HKt := Lib.hid ((hb.block _ (lt_of_block HKt.out)).trans HKt.out)
  replace HKx := Lib.hid ((hb.block _ (lt_of_block HKx.out)).trans HKx.out)
  replace HOl := Lib.hid (HOl.out.next hb)
  replace HOx := Lib.hid (HOx.out.next hb)
  replace HOy := Lib.hid (HOy.out.next hb)
  replace HA := Lib.hid (HA.out.behind (hb.mono HB.out.size))
  replace HB := Lib.hid (HB.out.trans (hb.mono HB.out.size))
  clear hb
  obtain ⟨kHKl0, kHKl1, -⟩ := scs HKl.out
  obtain ⟨kHKt0, kHKt1, -⟩ := scs HKt.out
  obtain ⟨kHKx0, kHKx1, -⟩ := scs HKx.out
  obtain ⟨W3, hW⟩ : ∃ W, W = w3.alloc (.cells #[.int .i64 x, .slice ay ny cy] 26) := ⟨_, rfl⟩
  obtain ⟨Dy, hD⟩ : ∃ D, D = w3.heap.size := ⟨_, rfl⟩
  obtain ⟨kHKy0, kHKy1, -⟩ := scs hE
  rw [← hW] at HKl HKt HKx HOl HOx HOy HA HB hE
  rw [← hD] at hE
  have HKy := Lib.hid hE
  have HWn := Lib.hid hW
  have HDn := Lib.hid hD
  clear hW hD hE
  have enn : (r != r) = false := by simp
  go_wp2_with fail
  rw [← HWn.out, ← HDn.out]
  clear HWn HDn
  clear kHKl0 kHKl1 kHKt0 kHKt1 kHKx0 kHKx1 kHKy0 kHKy1
  clear enn
  refine (impl_esl HOx.out.rd HOy.out.rd (Nat.le_refl _) (Nat.le_refl _)).mono ?_
  rw [eqSL_self]
  rintro e w4 ⟨rfl, hb⟩
  replace HKl := Lib.hid ((hb.block _ (lt_of_block HKl.out)).trans HKl.out)
  replace HKt := Lib.hid ((hb.block _ (lt_of_block HKt.out)).trans HKt.out)
  replace HKx := Lib.hid ((hb.block _ (lt_of_block HKx.out)).trans HKx.out)
  replace HKy := Lib.hid ((hb.block _ (lt_of_block HKy.out)).trans HKy.out)
  replace HOl := Lib.hid (HOl.out.next hb)
  replace HOx := Lib.hid (HOx.out.next hb)
  replace HOy := Lib.hid (HOy.out.next hb)
  replace HA := Lib.hid (HA.out.behind (hb.mono HB.out.size))
  replace HB := Lib.hid (HB.out.trans (hb.mono HB.out.size))
  clear hb
  by_cases hr0 : r = 0
  case neg =>
    have e1 : (r != 0) = true := by simp [hr0]
    have HSm : Hid (ys = xs) := Lib.hid (by rw [HYs.out]; exact sp_same (by rw [← HRr.out]; exact hr0))
    clear hr0
    have enn : (r != r) = false := by simp

    obtain ⟨kHKl0, kHKl1, -⟩ := scs HKl.out
    obtain ⟨kHKt0, kHKt1, -⟩ := scs HKt.out
    obtain ⟨kHKx0, kHKx1, -⟩ := scs HKx.out
    obtain ⟨kHKy0, kHKy1, -⟩ := scs HKy.out
    go_wp2_with fail
    clear kHKl0 kHKl1 kHKt0 kHKt1 kHKx0 kHKx1 kHKy0 kHKy1
    refine (impl_esl HOx.out.rd HOl.out.rd (Nat.le_refl _) (Nat.le_refl _)).mono ?_
    rw [HSm.out, eqSL_self]
    rintro e w5 ⟨rfl, hb⟩
    replace HKl := Lib.hid ((hb.block _ (lt_of_block HKl.out)).trans HKl.out)
    replace HKt := Lib.hid ((hb.block _ (lt_of_block HKt.out)).trans HKt.out)
    replace HKx := Lib.hid ((hb.block _ (lt_of_block HKx.out)).trans HKx.out)
    replace HKy := Lib.hid ((hb.block _ (lt_of_block HKy.out)).trans HKy.out)
    replace HOl := Lib.hid (HOl.out.next hb)
    replace HOx := Lib.hid (HOx.out.next hb)
    replace HOy := Lib.hid (HOy.out.next hb)
    replace HA := Lib.hid (HA.out.behind (hb.mono HB.out.size))
    replace HB := Lib.hid (HB.out.trans (hb.mono HB.out.size))
    clear hb
    go_wp2_with fail
    go_ret
    exact ⟨rfl, HB.out⟩
  case pos =>
    subst hr0
    obtain ⟨hY, hV, hM1, hM0, hY40, hR2, hL2, hML, hMN⟩ := sp_law HRr.out.symm
    rw [← HYs.out] at hY
    rw [← hY] at hV hM1 hY40 hR2 hL2 hML hMN
    have HV := Lib.hid hV
    have HM1 := Lib.hid hM1
    have HM0 := Lib.hid hM0
    have HR2 := Lib.hid hR2
    have HL2 := Lib.hid hL2
    have HML := Lib.hid hML
    have HMN := Lib.hid hMN
    have HBu2 := Lib.hid (bud_two hM0)
    have HBu1 := Lib.hid (bud_one hM1)
    clear hY hV hM1 hM0 hY40 hR2 hL2 hML hMN hrb
    obtain ⟨kHKl0, kHKl1, -⟩ := scs HKl.out
    obtain ⟨kHKt0, kHKt1, -⟩ := scs HKt.out
    obtain ⟨kHKx0, kHKx1, -⟩ := scs HKx.out
    obtain ⟨kHKy0, kHKy1, -⟩ := scs HKy.out
    go_wp2_with fail
    clear kHKl0 kHKl1 kHKt0 kHKt1 kHKx0 kHKx1 kHKy0 kHKy1
    refine (impl_spt HOx.out.rd (Nat.le_refl _) (by have := HYl.out; omega) Wx.out Ws.out Wn.out Wu.out).mono ?_
    rw [HR2.out, HL2.out]
    rintro e w5 ⟨vn, rfl, hO, hb⟩
    obtain ⟨az, cz, hv, -⟩ := hO.open
    subst hv
    have hO := hO.mono HB.out.size
    replace HKl := Lib.hid ((hb.block _ (lt_of_block HKl.out)).trans HKl.out)
    replace HKt := Lib.hid ((hb.block _ (lt_of_block HKt.out)).trans HKt.out)
    replace HKx := Lib.hid ((hb.block _ (lt_of_block HKx.out)).trans HKx.out)
    replace HKy := Lib.hid ((hb.block _ (lt_of_block HKy.out)).trans HKy.out)
    replace HOl := Lib.hid (HOl.out.next hb)
    replace HOx := Lib.hid (HOx.out.next hb)
    replace HOy := Lib.hid (HOy.out.next hb)
    replace HA := Lib.hid (HA.out.behind (hb.mono HB.out.size))
    replace HB := Lib.hid (HB.out.trans (hb.mono HB.out.size))
    clear hb
    obtain ⟨nz, hnl⟩ : ∃ m, m = (ys : List Int).length := ⟨_, rfl⟩
    rw [← hnl] at hO ⊢
    have HNz := Lib.hid hnl
    have HOz := Lib.hid hO
    clear hO hnl
    have hE := heap_alloc_new w5 (.cells #[.int .i64 x, .slice az nz cz] 26)
    have hb : Below w5.heap.size w5 (w5.alloc (.cells #[.int .i64 x, .slice az nz cz] 26)) := (Below.refl _ _).alloc (Nat.le_refl _) _
    replace HKl := Lib.hid ((hb.block _ (lt_of_block HKl.out)).trans HKl.out)
    replace HKt := Lib.hid ((hb.block _ (lt_of_block HKt.out)).trans HKt.out)
    replace HKx := Lib.hid ((hb.block _ (lt_of_block HKx.out)).trans HKx.out)
    replace HKy := Lib.hid ((hb.block _ (lt_of_block HKy.out)).trans HKy.out)
    replace HOl := Lib.hid (HOl.out.next hb)
    replace HOx := Lib.hid (HOx.out.next hb)
    replace HOy := Lib.hid (HOy.out.next hb)
    replace HOz := Lib.hid (HOz.out.next hb)
    replace HA := Lib.hid (HA.out.behind (hb.mono HB.out.size))
    replace HB := Lib.hid (HB.out.trans (hb.mono HB.out.size))
    clear hb
    obtain ⟨kHKl0, kHKl1, -⟩ := scs HKl.out
    obtain ⟨kHKt0, kHKt1, -⟩ := scs HKt.out
    obtain ⟨kHKx0, kHKx1, -⟩ := scs HKx.out
    obtain ⟨kHKy0, kHKy1, -⟩ := scs HKy.out
    obtain ⟨W5, hW⟩ : ∃ W, W = w5.alloc (.cells #[.int .i64 x, .slice az nz cz] 26) := ⟨_, rfl⟩
    obtain ⟨Dz, hD⟩ : ∃ D, D = w5.heap.size := ⟨_, rfl⟩
    obtain ⟨kHKz0, kHKz1, -⟩ := scs hE
    rw [← hW] at HKl HKt HKx HKy HOl HOx HOy HOz HA HB hE
    rw [← hD] at hE
    have HKz := Lib.hid hE
    have HWn := Lib.hid hW
    have HDn := Lib.hid hD
    clear hW hD hE
    go_wp2_with fail
    rw [← HWn.out, ← HDn.out]
    clear HWn HDn
    clear kHKl0 kHKl1 kHKt0 kHKt1 kHKx0 kHKx1 kHKy0 kHKy1 kHKz0 kHKz1
    refine (impl_mrg HOx.out.rd HOx.out.rd (Nat.le_refl _) (Nat.le_refl _) (by have := HYl.out; omega) Wx.out Wx.out).mono ?_
    rw [HML.out, HMN.out]
    rintro e w6 ⟨vn, rfl, hO, hb⟩
    obtain ⟨am, cm, hv, -⟩ := hO.open
    subst hv
    have hO := hO.mono HB.out.size
    replace HKl := Lib.hid ((hb.block _ (lt_of_block HKl.out)).trans HKl.out)
    replace HKt := Lib.hid ((hb.block _ (lt_of_block HKt.out)).trans HKt.out)
    replace HKx := Lib.hid ((hb.block _ (lt_of_block HKx.out)).trans HKx.out)
    replace HKy := Lib.hid ((hb.block _ (lt_of_block HKy.out)).trans HKy.out)
    replace HKz := Lib.hid ((hb.block _ (lt_of_block HKz.out)).trans HKz.out)
    replace HOl := Lib.hid (HOl.out.next hb)
    replace HOx := Lib.hid (HOx.out.next hb)
    replace HOy := Lib.hid (HOy.out.next hb)
    replace HOz := Lib.hid (HOz.out.next hb)
    replace HA := Lib.hid (HA.out.behind (hb.mono HB.out.size))
    replace HB := Lib.hid (HB.out.trans (hb.mono HB.out.size))
    clear hb
    obtain ⟨nm, hnl⟩ : ∃ m, m = (ys : List Int).length := ⟨_, rfl⟩
    rw [← hnl] at hO ⊢
    have HNm := Lib.hid hnl
    have HOm := Lib.hid hO
    clear hO hnl
    have hE := heap_alloc_new w6 (.cells #[.int .i64 x, .slice am nm cm] 26)
    have hb : Below w6.heap.size w6 (w6.alloc (.cells #[.int .i64 x, .slice am nm cm] 26)) := (Below.refl _ _).alloc (Nat.le_refl _) _
    replace HKl := Lib.hid ((hb.block _ (lt_of_block HKl.out)).trans HKl.out)
    replace HKt := Lib.hid ((hb.block _ (lt_of_block HKt.out)).trans HKt.out)
    replace HKx := Lib.hid ((hb.block _ (lt_of_block HKx.out)).trans HKx.out)
    replace HKy := Lib.hid ((hb.block _ (lt_of_block HKy.out)).trans HKy.out)
    replace HKz := Lib.hid ((hb.block _ (lt_of_block HKz.out)).trans HKz.out)
    replace HOl := Lib.hid (HOl.out.next hb)
    replace HOx := Lib.hid (HOx.out.next hb)
    replace HOy := Lib.hid (HOy.out.next hb)
    replace HOz := Lib.hid (HOz.out.next hb)
    replace HOm := Lib.hid (HOm.out.next hb)
    replace HA := Lib.hid (HA.out.behind (hb.mono HB.out.size))
    replace HB := Lib.hid (HB.out.trans (hb.mono HB.out.size))
    clear hb
    obtain ⟨kHKl0, kHKl1, -⟩ := scs HKl.out
    obtain ⟨kHKt0, kHKt1, -⟩ := scs HKt.out
    obtain ⟨kHKx0, kHKx1, -⟩ := scs HKx.out
    obtain ⟨kHKy0, kHKy1, -⟩ := scs HKy.out
    obtain ⟨kHKz0, kHKz1, -⟩ := scs HKz.out
    obtain ⟨W6, hW⟩ : ∃ W, W = w6.alloc (.cells #[.int .i64 x, .slice am nm cm] 26) := ⟨_, rfl⟩
    obtain ⟨Dm, hD⟩ : ∃ D, D = w6.heap.size := ⟨_, rfl⟩
    obtain ⟨kHKm0, kHKm1, -⟩ := scs hE
    rw [← hW] at HKl HKt HKx HKy HKz HOl HOx HOy HOz HOm HA HB hE
    rw [← hD] at hE
    have HKm := Lib.hid hE
    have HWn := Lib.hid hW
    have HDn := Lib.hid hD
    clear hW hD hE
    go_wp2_with fail
    rw [← HWn.out, ← HDn.out]
    clear HWn HDn
    clear kHKl0 kHKl1 kHKt0 kHKt1 kHKx0 kHKx1 kHKy0 kHKy1 kHKz0 kHKz1 kHKm0 kHKm1
    refine (at_any HA.out 0 (by omega) HS.out).mono ?_
    obtain ⟨y0, hy0⟩ : ∃ y, y = atv s 0 := ⟨_, rfl⟩
    rw [← hy0]
    rintro e w70 ⟨⟨rfl, y00, y01⟩, hw⟩
    obtain rfl := hw.symm
    clear hy0 hw
    go_wp2_with fail
    refine (at_any HA.out 1 (by omega) HS.out).mono ?_
    obtain ⟨y1, hy1⟩ : ∃ y, y = atv s 1 := ⟨_, rfl⟩
    rw [← hy1]
    rintro e w71 ⟨⟨rfl, y10, y11⟩, hw⟩
    obtain rfl := hw.symm
    clear hy1 hw
    go_wp2_with fail
    have hep := epS_bound y0 y1
    obtain ⟨ep, hepe⟩ : ∃ ep, ep = epS y0 y1 := ⟨_, rfl⟩
    rw [← hepe] at hep
    have HEp := Lib.hid hepe
    have HEb := Lib.hid hep
    clear hepe hep
    refine (impl_eps (small_wf (by omega) (by omega)) (small_wf (by omega) (by omega))).mono ?_
    rw [← HEp.out]
    rintro e w8 ⟨rfl, hb⟩
    clear y00 y01 y10 y11
    replace HKl := Lib.hid ((hb.block _ (lt_of_block HKl.out)).trans HKl.out)
    replace HKt := Lib.hid ((hb.block _ (lt_of_block HKt.out)).trans HKt.out)
    replace HKx := Lib.hid ((hb.block _ (lt_of_block HKx.out)).trans HKx.out)
    replace HKy := Lib.hid ((hb.block _ (lt_of_block HKy.out)).trans HKy.out)
    replace HKz := Lib.hid ((hb.block _ (lt_of_block HKz.out)).trans HKz.out)
    replace HKm := Lib.hid ((hb.block _ (lt_of_block HKm.out)).trans HKm.out)
    replace HOl := Lib.hid (HOl.out.next hb)
    replace HOx := Lib.hid (HOx.out.next hb)
    replace HOy := Lib.hid (HOy.out.next hb)
    replace HOz := Lib.hid (HOz.out.next hb)
    replace HOm := Lib.hid (HOm.out.next hb)
    replace HA := Lib.hid (HA.out.behind (hb.mono HB.out.size))
    replace HB := Lib.hid (HB.out.trans (hb.mono HB.out.size))
    clear hb
    obtain ⟨kHKl0, kHKl1, -⟩ := scs HKl.out
    obtain ⟨kHKt0, kHKt1, -⟩ := scs HKt.out
    obtain ⟨kHKx0, kHKx1, -⟩ := scs HKx.out
    obtain ⟨kHKy0, kHKy1, -⟩ := scs HKy.out
    obtain ⟨kHKz0, kHKz1, -⟩ := scs HKz.out
    obtain ⟨kHKm0, kHKm1, -⟩ := scs HKm.out
    go_wp2_with fail
    clear kHKl0 kHKl1 kHKt0 kHKt1 kHKx0 kHKx1 kHKy0 kHKy1 kHKz0 kHKz1 kHKm0 kHKm1
    refine (impl_iss HOx.out.rd (Nat.le_refl _)).mono ?_
    rw [HM1.out]
    rintro e w9 ⟨rfl, hb⟩
    replace HKl := Lib.hid ((hb.block _ (lt_of_block HKl.out)).trans HKl.out)
    replace HKt := Lib.hid ((hb.block _ (lt_of_block HKt.out)).trans HKt.out)
    replace HKx := Lib.hid ((hb.block _ (lt_of_block HKx.out)).trans HKx.out)
    replace HKy := Lib.hid ((hb.block _ (lt_of_block HKy.out)).trans HKy.out)
    replace HKz := Lib.hid ((hb.block _ (lt_of_block HKz.out)).trans HKz.out)
    replace HKm := Lib.hid ((hb.block _ (lt_of_block HKm.out)).trans HKm.out)
    replace HOl := Lib.hid (HOl.out.next hb)
    replace HOx := Lib.hid (HOx.out.next hb)
    replace HOy := Lib.hid (HOy.out.next hb)
    replace HOz := Lib.hid (HOz.out.next hb)
    replace HOm := Lib.hid (HOm.out.next hb)
    replace HA := Lib.hid (HA.out.behind (hb.mono HB.out.size))
    replace HB := Lib.hid (HB.out.trans (hb.mono HB.out.size))
    clear hb
    obtain ⟨kHKl0, kHKl1, -⟩ := scs HKl.out
    obtain ⟨kHKt0, kHKt1, -⟩ := scs HKt.out
    obtain ⟨kHKx0, kHKx1, -⟩ := scs HKx.out
    obtain ⟨kHKy0, kHKy1, -⟩ := scs HKy.out
    obtain ⟨kHKz0, kHKz1, -⟩ := scs HKz.out
    obtain ⟨kHKm0, kHKm1, -⟩ := scs HKm.out
    go_wp2_with fail
    clear kHKl0 kHKl1 kHKt0 kHKt1 kHKx0 kHKx1 kHKy0 kHKy1 kHKz0 kHKz1 kHKm0 kHKm1
    refine (impl_iss HOl.out.rd (Nat.le_refl _)).mono ?_
    rw [HM0.out]
    rintro e w10 ⟨rfl, hb⟩
    replace HKl := Lib.hid ((hb.block _ (lt_of_block HKl.out)).trans HKl.out)
    replace HKt := Lib.hid ((hb.block _ (lt_of_block HKt.out)).trans HKt.out)
    replace HKx := Lib.hid ((hb.block _ (lt_of_block HKx.out)).trans HKx.out)
    replace HKy := Lib.hid ((hb.block _ (lt_of_block HKy.out)).trans HKy.out)
    replace HKz := Lib.hid ((hb.block _ (lt_of_block HKz.out)).trans HKz.out)
    replace HKm := Lib.hid ((hb.block _ (lt_of_block HKm.out)).trans HKm.out)
    replace HOl := Lib.hid (HOl.out.next hb)
    replace HOx := Lib.hid (HOx.out.next hb)
    replace HOy := Lib.hid (HOy.out.next hb)
    replace HOz := Lib.hid (HOz.out.next hb)
    replace HOm := Lib.hid (HOm.out.next hb)
    replace HA := Lib.hid (HA.out.behind (hb.mono HB.out.size))
    replace HB := Lib.hid (HB.out.trans (hb.mono HB.out.size))
    clear hb
    obtain ⟨kHKl0, kHKl1, -⟩ := scs HKl.out
    obtain ⟨kHKt0, kHKt1, -⟩ := scs HKt.out
    obtain ⟨kHKx0, kHKx1, -⟩ := scs HKx.out
    obtain ⟨kHKy0, kHKy1, -⟩ := scs HKy.out
    obtain ⟨kHKz0, kHKz1, -⟩ := scs HKz.out
    obtain ⟨kHKm0, kHKm1, -⟩ := scs HKm.out
    go_wp2_with fail
    clear kHKl0 kHKl1 kHKt0 kHKt1 kHKx0 kHKx1 kHKy0 kHKy1 kHKz0 kHKz1 kHKm0 kHKm1
    refine (impl_vsl HOx.out.rd (Nat.le_refl _) Wx.out).mono ?_
    rw [HV.out]
    rintro e w11 ⟨rfl, hb⟩
    replace HKl := Lib.hid ((hb.block _ (lt_of_block HKl.out)).trans HKl.out)
    replace HKt := Lib.hid ((hb.block _ (lt_of_block HKt.out)).trans HKt.out)
    replace HKx := Lib.hid ((hb.block _ (lt_of_block HKx.out)).trans HKx.out)
    replace HKy := Lib.hid ((hb.block _ (lt_of_block HKy.out)).trans HKy.out)
    replace HKz := Lib.hid ((hb.block _ (lt_of_block HKz.out)).trans HKz.out)
    replace HKm := Lib.hid ((hb.block _ (lt_of_block HKm.out)).trans HKm.out)
    replace HOl := Lib.hid (HOl.out.next hb)
    replace HOx := Lib.hid (HOx.out.next hb)
    replace HOy := Lib.hid (HOy.out.next hb)
    replace HOz := Lib.hid (HOz.out.next hb)
    replace HOm := Lib.hid (HOm.out.next hb)
    replace HA := Lib.hid (HA.out.behind (hb.mono HB.out.size))
    replace HB := Lib.hid (HB.out.trans (hb.mono HB.out.size))
    clear hb
    obtain ⟨kHKl0, kHKl1, -⟩ := scs HKl.out
    obtain ⟨kHKt0, kHKt1, -⟩ := scs HKt.out
    obtain ⟨kHKx0, kHKx1, -⟩ := scs HKx.out
    obtain ⟨kHKy0, kHKy1, -⟩ := scs HKy.out
    obtain ⟨kHKz0, kHKz1, -⟩ := scs HKz.out
    obtain ⟨kHKm0, kHKm1, -⟩ := scs HKm.out
    go_wp2_with fail
    clear kHKl0 kHKl1 kHKt0 kHKt1 kHKx0 kHKx1 kHKy0 kHKy1 kHKz0 kHKz1 kHKm0 kHKm1
    refine (impl_esl HOm.out.rd HOx.out.rd (Nat.le_refl _) (Nat.le_refl _)).mono ?_
    rw [eqSL_self]
    rintro e w12 ⟨rfl, hb⟩
    replace HKl := Lib.hid ((hb.block _ (lt_of_block HKl.out)).trans HKl.out)
    replace HKt := Lib.hid ((hb.block _ (lt_of_block HKt.out)).trans HKt.out)
    replace HKx := Lib.hid ((hb.block _ (lt_of_block HKx.out)).trans HKx.out)
    replace HKy := Lib.hid ((hb.block _ (lt_of_block HKy.out)).trans HKy.out)
    replace HKz := Lib.hid ((hb.block _ (lt_of_block HKz.out)).trans HKz.out)
    replace HKm := Lib.hid ((hb.block _ (lt_of_block HKm.out)).trans HKm.out)
    replace HOl := Lib.hid (HOl.out.next hb)
    replace HOx := Lib.hid (HOx.out.next hb)
    replace HOy := Lib.hid (HOy.out.next hb)
    replace HOz := Lib.hid (HOz.out.next hb)
    replace HOm := Lib.hid (HOm.out.next hb)
    replace HA := Lib.hid (HA.out.behind (hb.mono HB.out.size))
    replace HB := Lib.hid (HB.out.trans (hb.mono HB.out.size))
    clear hb
    have hle : ((nm : Int) == (nx : Int)) = true := by rw [HNm.out, HNx.out]; simp
    have HRt := Lib.hid (Rd.two 3 .i64 w12 n n Wn.out Wn.out)
    obtain ⟨kHKl0, kHKl1, -⟩ := scs HKl.out
    obtain ⟨kHKt0, kHKt1, -⟩ := scs HKt.out
    obtain ⟨kHKx0, kHKx1, -⟩ := scs HKx.out
    obtain ⟨kHKy0, kHKy1, -⟩ := scs HKy.out
    obtain ⟨kHKz0, kHKz1, -⟩ := scs HKz.out
    obtain ⟨kHKm0, kHKm1, -⟩ := scs HKm.out
    go_wp2_with fail
    clear hle
    clear kHKl0 kHKl1 kHKt0 kHKt1 kHKx0 kHKx1 kHKy0 kHKy1 kHKz0 kHKz1 kHKm0 kHKm1
    have hb : Below w12.heap.size w12 (w12.alloc (.cells #[.int .i64 n, .int .i64 n] 3)) := (Below.refl _ _).alloc (Nat.le_refl _) _
    replace HKl := Lib.hid ((hb.block _ (lt_of_block HKl.out)).trans HKl.out)
    replace HKt := Lib.hid ((hb.block _ (lt_of_block HKt.out)).trans HKt.out)
    replace HKx := Lib.hid ((hb.block _ (lt_of_block HKx.out)).trans HKx.out)
    replace HKy := Lib.hid ((hb.block _ (lt_of_block HKy.out)).trans HKy.out)
    replace HKz := Lib.hid ((hb.block _ (lt_of_block HKz.out)).trans HKz.out)
    replace HKm := Lib.hid ((hb.block _ (lt_of_block HKm.out)).trans HKm.out)
    replace HOl := Lib.hid (HOl.out.next hb)
    replace HOx := Lib.hid (HOx.out.next hb)
    replace HOy := Lib.hid (HOy.out.next hb)
    replace HOz := Lib.hid (HOz.out.next hb)
    replace HOm := Lib.hid (HOm.out.next hb)
    replace HA := Lib.hid (HA.out.behind (hb.mono HB.out.size))
    replace HB := Lib.hid (HB.out.trans (hb.mono HB.out.size))
    clear hb
    refine (impl_bud HOl.out.rd HRt.out (Nat.le_refl _) (by simp)).mono ?_
    rintro e w13 ⟨he, hb⟩
    rw [show ([n, n] : List Int).length = 2 from rfl, HBu2.out] at he
    subst he
    clear HRt
    replace HKl := Lib.hid ((hb.block _ (lt_of_block HKl.out)).trans HKl.out)
    replace HKt := Lib.hid ((hb.block _ (lt_of_block HKt.out)).trans HKt.out)
    replace HKx := Lib.hid ((hb.block _ (lt_of_block HKx.out)).trans HKx.out)
    replace HKy := Lib.hid ((hb.block _ (lt_of_block HKy.out)).trans HKy.out)
    replace HKz := Lib.hid ((hb.block _ (lt_of_block HKz.out)).trans HKz.out)
    replace HKm := Lib.hid ((hb.block _ (lt_of_block HKm.out)).trans HKm.out)
    replace HOl := Lib.hid (HOl.out.next hb)
    replace HOx := Lib.hid (HOx.out.next hb)
    replace HOy := Lib.hid (HOy.out.next hb)
    replace HOz := Lib.hid (HOz.out.next hb)
    replace HOm := Lib.hid (HOm.out.next hb)
    replace HA := Lib.hid (HA.out.behind (hb.mono HB.out.size))
    replace HB := Lib.hid (HB.out.trans (hb.mono HB.out.size))
    clear hb
    have HRt := Lib.hid (Rd.one 3 .i64 w13 n Wn.out)
    obtain ⟨kHKl0, kHKl1, -⟩ := scs HKl.out
    obtain ⟨kHKt0, kHKt1, -⟩ := scs HKt.out
    obtain ⟨kHKx0, kHKx1, -⟩ := scs HKx.out
    obtain ⟨kHKy0, kHKy1, -⟩ := scs HKy.out
    obtain ⟨kHKz0, kHKz1, -⟩ := scs HKz.out
    obtain ⟨kHKm0, kHKm1, -⟩ := scs HKm.out
    go_wp2_with fail
    clear kHKl0 kHKl1 kHKt0 kHKt1 kHKx0 kHKx1 kHKy0 kHKy1 kHKz0 kHKz1 kHKm0 kHKm1
    have hb : Below w13.heap.size w13 (w13.alloc (.cells #[.int .i64 n] 3)) := (Below.refl _ _).alloc (Nat.le_refl _) _
    replace HKl := Lib.hid ((hb.block _ (lt_of_block HKl.out)).trans HKl.out)
    replace HKt := Lib.hid ((hb.block _ (lt_of_block HKt.out)).trans HKt.out)
    replace HKx := Lib.hid ((hb.block _ (lt_of_block HKx.out)).trans HKx.out)
    replace HKy := Lib.hid ((hb.block _ (lt_of_block HKy.out)).trans HKy.out)
    replace HKz := Lib.hid ((hb.block _ (lt_of_block HKz.out)).trans HKz.out)
    replace HKm := Lib.hid ((hb.block _ (lt_of_block HKm.out)).trans HKm.out)
    replace HOl := Lib.hid (HOl.out.next hb)
    replace HOx := Lib.hid (HOx.out.next hb)
    replace HOy := Lib.hid (HOy.out.next hb)
    replace HOz := Lib.hid (HOz.out.next hb)
    replace HOm := Lib.hid (HOm.out.next hb)
    replace HA := Lib.hid (HA.out.behind (hb.mono HB.out.size))
    replace HB := Lib.hid (HB.out.trans (hb.mono HB.out.size))
    clear hb
    refine (impl_bud HOx.out.rd HRt.out (Nat.le_refl _) (by simp)).mono ?_
    rintro e w14 ⟨he, hb⟩
    rw [show ([n] : List Int).length = 1 from rfl, HBu1.out] at he
    subst he
    clear HRt
    replace HKl := Lib.hid ((hb.block _ (lt_of_block HKl.out)).trans HKl.out)
    replace HKt := Lib.hid ((hb.block _ (lt_of_block HKt.out)).trans HKt.out)
    replace HKx := Lib.hid ((hb.block _ (lt_of_block HKx.out)).trans HKx.out)
    replace HKy := Lib.hid ((hb.block _ (lt_of_block HKy.out)).trans HKy.out)
    replace HKz := Lib.hid ((hb.block _ (lt_of_block HKz.out)).trans HKz.out)
    replace HKm := Lib.hid ((hb.block _ (lt_of_block HKm.out)).trans HKm.out)
    replace HOl := Lib.hid (HOl.out.next hb)
    replace HOx := Lib.hid (HOx.out.next hb)
    replace HOy := Lib.hid (HOy.out.next hb)
    replace HOz := Lib.hid (HOz.out.next hb)
    replace HOm := Lib.hid (HOm.out.next hb)
    replace HA := Lib.hid (HA.out.behind (hb.mono HB.out.size))
    replace HB := Lib.hid (HB.out.trans (hb.mono HB.out.size))
    clear hb
    have e5 : decide ((1 : Int) ≤ ep) = true := decide_eq_true HEb.out.1
    have e6 : decide (ep < (1019 : Int)) = true := decide_eq_true (by have := HEb.out.2; omega)
    go_wp2_with fail
    go_ret
    exact ⟨rfl, HB.out⟩

end Go.Proofs.Ytdlbpeippmibcaa
