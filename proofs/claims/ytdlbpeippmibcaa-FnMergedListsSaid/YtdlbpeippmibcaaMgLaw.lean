/- FnMergedLists: the walk. A merged list holds what both hold and nothing else, as far as there is room; of lists that are not valid or of different epochs it is the first. No conditions. -/
import Derived.Test.YtdlbpeippmibcaaSpLaw
import Derived.Test.YtdlbpeippmibcaaBcX
import Derived.Test.YtdlbpeippmibcaaQuietC
import Derived.BigQuiet
namespace Go.Proofs.Ytdlbpeippmibcaa
open Go Go.RowKit
set_option linter.unusedVariables false
set_option maxRecDepth 20000
attribute [local irreducible] kh kid pwm tcm pw chl

theorem mg_law {e f : Int} {xs ys : List Int} (h : mgq e f xs ys = true) :
    (∀ z ∈ (mgs xs ys).1, memS xs z = true ∨ memS ys z = true) ∧ (∀ z ∈ xs, memS (mgs xs ys).1 z = true) ∧ slv e (mgs xs ys).1 = true ∧ (mgs xs ys).1.length = min 40 (xs.length + ys.length - (mgs xs ys).2) ∧ (mgs xs ys).2 ≤ ys.length ∧ xs.length ≤ 40 ∧ ys.length ≤ 40 := by
  have h' := h
  unfold mgq at h'
  simp only [Bool.and_eq_true] at h'
  obtain ⟨a1, a2⟩ := slv_parts h'.1
  obtain ⟨b1, b2⟩ := slv_parts h'.2.1
  obtain ⟨c1, c2, c3, c4, c5⟩ := mgs_inv a1 b1 a2 ys.length (Nat.le_refl _)
  rw [List.take_length] at c1 c2 c3 c4 c5
  refine ⟨fun z hz => (c3 z hz).imp memS_iff.2 memS_iff.2, fun z hz => memS_iff.2 (c2 z hz), ?_, c4, c5, a2, b2⟩
  have hv := h'.1
  unfold slv at hv ⊢
  simp only [Bool.and_eq_true] at hv ⊢
  exact ⟨c1, hv.2.1, decide_eq_true (by omega)⟩

set_option maxHeartbeats 16000000 in
theorem fnMergedLists_walk (a : Option Addr) (len cap : Nat) (zs : List Int) (w : World) (hrow : IsRow .u8 w a len cap zs) :
    Calls Try.prog 4 #[.slice a len cap] w fun e w' => e = .returned (.bool true) ∧ Below w.heap.size w w' := by
  obtain ⟨hr, hl⟩ := row_own hrow
  obtain ⟨s, A, l⟩ : ∃ s, Rd w.heap.size .u8 w (.slice a len cap) s ∧ len = s.length := ⟨zs.take len, hrow.rd, hrow.rd.len_eq⟩
  subst l
  have HRow := Lib.hid hr
  have HLen := Lib.hid hl
  have hl' : s.length ≤ 9223372036854775807 := by unfold maxLen at hl; omega
  clear hr hrow hl A
  by_cases hbig : 1048576 < s.length
  · have e0 : decide ((1048576 : Int) < (s.length : Int)) = true := by simp; omega
    go_enter Try.func4, Try.ntmps4
    go_wp2_with fail
    refine (big_is a s.length cap _ hl').mono ?_
    rw [e0]
    rintro e w0 ⟨rfl, rfl⟩
    go_wp2_with fail
    go_ret
    exact ⟨rfl, Below.refl _ _⟩
  have e0 : decide ((1048576 : Int) < (s.length : Int)) = false := by simp; omega
  clear hbig
  go_enter Try.func4, Try.ntmps4
  go_wp2_with fail
  refine (big_is a s.length cap _ hl').mono ?_
  rw [e0]
  rintro e w0 ⟨rfl, hw⟩
  obtain rfl : w = w0 := hw.symm
  clear e0 hw
  go_wp2_with fail
  refine (draw_mrg w.heap.size a s.length cap zs _ (Nat.le_refl _) HRow.out HLen.out).mono ?_
  rintro e w1 ⟨x, y, u, v, xs, ys, rfl, hx, hy, hO, hQ, hxl, hyl, hb⟩
  obtain ⟨au, cu, hu, -⟩ := hO.open
  subst hu
  obtain ⟨av, cv, hv, -⟩ := hQ.open
  subst hv
  have HB := Lib.hid hb
  have Wx := Lib.hid hx
  have Wy := Lib.hid hy
  have HXl := Lib.hid hxl
  have HYl := Lib.hid hyl
  have HOl := Lib.hid hO
  have HOr := Lib.hid hQ
  obtain ⟨nxs, hnx⟩ : ∃ m, m = xs.length := ⟨_, rfl⟩
  obtain ⟨nys, hny⟩ : ∃ m, m = ys.length := ⟨_, rfl⟩
  have hnxb : nxs ≤ 41 := by omega
  have hnyb : nys ≤ 41 := by omega
  rw [← hnx] at HOl ⊢
  rw [← hny] at HOr ⊢
  have HNxs := Lib.hid hnx
  have HNys := Lib.hid hny
  clear hb hx hy hO hQ hxl hyl HRow hnx hny
  have K := blocks2T w1 (.cells #[.int .i64 x, .slice au nxs cu] 26) (.cells #[.int .i64 y, .slice av nys cv] 26)
  have hb := ((Below.refl w1.heap.size w1).alloc (Nat.le_refl _) (.cells #[.int .i64 x, .slice au nxs cu] 26)).alloc (by simp) (.cells #[.int .i64 y, .slice av nys cv] 26)
  obtain ⟨W1, hW1⟩ : ∃ W, W = (w1.alloc (.cells #[.int .i64 x, .slice au nxs cu] 26)).alloc (.cells #[.int .i64 y, .slice av nys cv] 26) := ⟨_, rfl⟩
  obtain ⟨DL, hDL⟩ : ∃ D, D = w1.heap.size := ⟨_, rfl⟩
  obtain ⟨DT, hDT⟩ : ∃ D, D = DL + 1 := ⟨_, rfl⟩
  have hO := HOl.out.next hb
  have hQ := HOr.out.next hb
  have hB := HB.out.trans (hb.mono HB.out.size)
  have HKl := Lib.hid K.1
  have HKr := Lib.hid K.2
  obtain ⟨c0, c1, -⟩ := scs K.1
  obtain ⟨d0, d1, -⟩ := scs K.2
  rw [← hW1] at hO hQ hB HKl HKr
  rw [← hDL] at HKl HKr
  rw [← hDT] at HKr
  replace HOl := Lib.hid hO
  replace HOr := Lib.hid hQ
  replace HB := Lib.hid hB
  have HW1 : Hid (W1 = (w1.alloc (.cells #[.int .i64 x, .slice au nxs cu] 26)).alloc (.cells #[.int .i64 y, .slice av nys cv] 26)) := Lib.hid hW1
  have HDL := Lib.hid hDL
  have HDT := Lib.hid hDT
  clear K hb hW1 hDL hDT hO hQ hB
  go_wp2_with fail
  rw [← HW1.out, ← HDL.out, ← HDT.out]
  clear c0 c1 d0 d1
  obtain ⟨ms, hms⟩ : ∃ ms, ms = mgL x y xs ys := ⟨_, rfl⟩
  obtain ⟨c, hc⟩ : ∃ c, c = mgN x y xs ys := ⟨_, rfl⟩
  have HMs := Lib.hid hms
  have HCc := Lib.hid hc
  refine (impl_mrg HOl.out.rd HOr.out.rd (Nat.le_refl _) (Nat.le_refl _) (by have := HXl.out; omega) Wx.out Wy.out).mono ?_
  rw [← hms, ← hc]
  clear hms hc
  rintro e w2 ⟨vm, rfl, hO, hb⟩
  obtain ⟨am, cm, hv, -⟩ := hO.open
  subst hv
  have hO := hO.mono HB.out.size
  replace HKl := Lib.hid ((hb.block _ (lt_of_block HKl.out)).trans HKl.out)
  replace HKr := Lib.hid ((hb.block _ (lt_of_block HKr.out)).trans HKr.out)
  replace HOl := Lib.hid (HOl.out.next hb)
  replace HOr := Lib.hid (HOr.out.next hb)
  replace HB := Lib.hid (HB.out.trans (hb.mono HB.out.size))
  clear hb
  obtain ⟨nm, hnm⟩ : ∃ m, m = ms.length := ⟨_, rfl⟩
  rw [← hnm] at hO ⊢
  have HNm := Lib.hid hnm
  have HOm := Lib.hid hO
  clear hO hnm
  have hE := heap_alloc_new w2 (.cells #[.int .i64 x, .slice am nm cm] 26)
  have hb : Below w2.heap.size w2 (w2.alloc (.cells #[.int .i64 x, .slice am nm cm] 26)) := (Below.refl _ _).alloc (Nat.le_refl _) _
  replace HKl := Lib.hid ((hb.block _ (lt_of_block HKl.out)).trans HKl.out)
  replace HKr := Lib.hid ((hb.block _ (lt_of_block HKr.out)).trans HKr.out)
  replace HOl := Lib.hid (HOl.out.next hb)
  replace HOr := Lib.hid (HOr.out.next hb)
  replace HOm := Lib.hid (HOm.out.next hb)
  replace HB := Lib.hid (HB.out.trans (hb.mono HB.out.size))
  clear hb
  obtain ⟨W2, hW⟩ : ∃ W, W = w2.alloc (.cells #[.int .i64 x, .slice am nm cm] 26) := ⟨_, rfl⟩
  obtain ⟨DM, hD⟩ : ∃ D, D = w2.heap.size := ⟨_, rfl⟩
  obtain ⟨kHKl0, kHKl1, -⟩ := scs HKl.out
  obtain ⟨kHKr0, kHKr1, -⟩ := scs HKr.out
  obtain ⟨kHKm0, kHKm1, -⟩ := scs hE
  rw [← hW] at HKl HKr HOl HOr HOm HB hE
  rw [← hD] at hE
  have HKm := Lib.hid hE
  have HWn := Lib.hid hW
  have HDn := Lib.hid hD
  clear hW hD hE
  obtain ⟨qa, hqa⟩ : ∃ q, q = slv x xs := ⟨_, rfl⟩
  obtain ⟨qb, hqb⟩ : ∃ q, q = slv y ys := ⟨_, rfl⟩
  have HQa := Lib.hid hqa
  have HQb := Lib.hid hqb
  clear hqa hqb
  go_wp2_with fail
  rw [← HWn.out, ← HDn.out]
  clear kHKm0 kHKm1 kHKl0 kHKl1 kHKr0 kHKr1
  refine (spec_vsl HOl.out.rd (Nat.le_refl _) Wx.out).mono ?_
  rw [← HQa.out]
  rintro e w3 ⟨rfl, hb⟩
  replace HKl := Lib.hid ((hb.block _ (lt_of_block HKl.out)).trans HKl.out)
  replace HKr := Lib.hid ((hb.block _ (lt_of_block HKr.out)).trans HKr.out)
  replace HKm := Lib.hid ((hb.block _ (lt_of_block HKm.out)).trans HKm.out)
  replace HOl := Lib.hid (HOl.out.next hb)
  replace HOr := Lib.hid (HOr.out.next hb)
  replace HOm := Lib.hid (HOm.out.next hb)
  replace HB := Lib.hid (HB.out.trans (hb.mono HB.out.size))
  clear hb
  cases qa with
  | false =>
    have HEQ := Lib.hid (mg_no (e := x) (f := y) (zs := xs) (ys := ys) (by unfold mgq; rw [← HQa.out]; rfl))
    obtain ⟨kHKl0, kHKl1, -⟩ := scs HKl.out
    obtain ⟨kHKr0, kHKr1, -⟩ := scs HKr.out
    obtain ⟨kHKm0, kHKm1, -⟩ := scs HKm.out
    have e9 : (c == 0) = true := by have := HEQ.out.2; rw [HCc.out, this]; rfl
    go_wp2_with fail
    clear kHKl0 kHKl1 kHKr0 kHKr1 kHKm0 kHKm1
    have HSm : Hid (ms = xs) := Lib.hid (by rw [HMs.out]; exact HEQ.out.1)
    refine (impl_esl HOm.out.rd HOl.out.rd (Nat.le_refl _) (Nat.le_refl _)).mono ?_
    rw [HSm.out, eqSL_self]
    rintro e w5 ⟨rfl, hb⟩
    replace HKl := Lib.hid ((hb.block _ (lt_of_block HKl.out)).trans HKl.out)
    replace HKr := Lib.hid ((hb.block _ (lt_of_block HKr.out)).trans HKr.out)
    replace HKm := Lib.hid ((hb.block _ (lt_of_block HKm.out)).trans HKm.out)
    replace HOl := Lib.hid (HOl.out.next hb)
    replace HOr := Lib.hid (HOr.out.next hb)
    replace HOm := Lib.hid (HOm.out.next hb)
    replace HB := Lib.hid (HB.out.trans (hb.mono HB.out.size))
    clear hb
    go_wp2_with fail
    go_ret
    exact ⟨rfl, HB.out⟩
  | true =>
  obtain ⟨kHKl0, kHKl1, -⟩ := scs HKl.out
  obtain ⟨kHKr0, kHKr1, -⟩ := scs HKr.out
  obtain ⟨kHKm0, kHKm1, -⟩ := scs HKm.out
  go_wp2_with fail
  clear kHKl0 kHKl1 kHKr0 kHKr1 kHKm0 kHKm1
  refine (spec_vsl HOr.out.rd (Nat.le_refl _) Wy.out).mono ?_
  rw [← HQb.out]
  rintro e w4 ⟨rfl, hb⟩
  replace HKl := Lib.hid ((hb.block _ (lt_of_block HKl.out)).trans HKl.out)
  replace HKr := Lib.hid ((hb.block _ (lt_of_block HKr.out)).trans HKr.out)
  replace HKm := Lib.hid ((hb.block _ (lt_of_block HKm.out)).trans HKm.out)
  replace HOl := Lib.hid (HOl.out.next hb)
  replace HOr := Lib.hid (HOr.out.next hb)
  replace HOm := Lib.hid (HOm.out.next hb)
  replace HB := Lib.hid (HB.out.trans (hb.mono HB.out.size))
  clear hb
  cases qb with
  | false =>
    have HEQ := Lib.hid (mg_no (e := x) (f := y) (zs := xs) (ys := ys) (by unfold mgq; rw [← HQb.out]; simp))
    obtain ⟨kHKl0, kHKl1, -⟩ := scs HKl.out
    obtain ⟨kHKr0, kHKr1, -⟩ := scs HKr.out
    obtain ⟨kHKm0, kHKm1, -⟩ := scs HKm.out
    have e9 : (c == 0) = true := by have := HEQ.out.2; rw [HCc.out, this]; rfl
    go_wp2_with fail
    clear kHKl0 kHKl1 kHKr0 kHKr1 kHKm0 kHKm1
    have HSm : Hid (ms = xs) := Lib.hid (by rw [HMs.out]; exact HEQ.out.1)
    refine (impl_esl HOm.out.rd HOl.out.rd (Nat.le_refl _) (Nat.le_refl _)).mono ?_
    rw [HSm.out, eqSL_self]
    rintro e w5 ⟨rfl, hb⟩
    replace HKl := Lib.hid ((hb.block _ (lt_of_block HKl.out)).trans HKl.out)
    replace HKr := Lib.hid ((hb.block _ (lt_of_block HKr.out)).trans HKr.out)
    replace HKm := Lib.hid ((hb.block _ (lt_of_block HKm.out)).trans HKm.out)
    replace HOl := Lib.hid (HOl.out.next hb)
    replace HOr := Lib.hid (HOr.out.next hb)
    replace HOm := Lib.hid (HOm.out.next hb)
    replace HB := Lib.hid (HB.out.trans (hb.mono HB.out.size))
    clear hb
    go_wp2_with fail
    go_ret
    exact ⟨rfl, HB.out⟩
  | true =>
  by_cases hef : x = y
  case neg =>
    have HEQ := Lib.hid (mg_no (e := x) (f := y) (zs := xs) (ys := ys) (by unfold mgq; rw [beq_eq_false_iff_ne.2 hef]; simp))
    have e1 : (x != y) = true := by simp [bne, hef]
    clear hef
    obtain ⟨kHKl0, kHKl1, -⟩ := scs HKl.out
    obtain ⟨kHKr0, kHKr1, -⟩ := scs HKr.out
    obtain ⟨kHKm0, kHKm1, -⟩ := scs HKm.out
    have e9 : (c == 0) = true := by have := HEQ.out.2; rw [HCc.out, this]; rfl
    go_wp2_with fail
    clear kHKl0 kHKl1 kHKr0 kHKr1 kHKm0 kHKm1
    have HSm : Hid (ms = xs) := Lib.hid (by rw [HMs.out]; exact HEQ.out.1)
    refine (impl_esl HOm.out.rd HOl.out.rd (Nat.le_refl _) (Nat.le_refl _)).mono ?_
    rw [HSm.out, eqSL_self]
    rintro e w5 ⟨rfl, hb⟩
    replace HKl := Lib.hid ((hb.block _ (lt_of_block HKl.out)).trans HKl.out)
    replace HKr := Lib.hid ((hb.block _ (lt_of_block HKr.out)).trans HKr.out)
    replace HKm := Lib.hid ((hb.block _ (lt_of_block HKm.out)).trans HKm.out)
    replace HOl := Lib.hid (HOl.out.next hb)
    replace HOr := Lib.hid (HOr.out.next hb)
    replace HOm := Lib.hid (HOm.out.next hb)
    replace HB := Lib.hid (HB.out.trans (hb.mono HB.out.size))
    clear hb
    go_wp2_with fail
    go_ret
    exact ⟨rfl, HB.out⟩
  have e1 : (x != y) = false := by simp [bne, hef]
  have HOk : Hid (mgq x y xs ys = true) := Lib.hid (by unfold mgq; rw [← HQa.out, ← HQb.out, beq_iff_eq.2 hef]; rfl)
  clear hef
  have HEQ := Lib.hid (mg_yes HOk.out)
  have HLaw := Lib.hid (mg_law HOk.out)
  obtain ⟨n2, hn2⟩ : ∃ k, k = (mgs xs ys).2 := ⟨_, rfl⟩
  have hms : (mgs xs ys).1 = ms := by rw [HMs.out, HEQ.out.1]
  obtain ⟨g1, g2, g3, g4, g5, g6, g7⟩ := HLaw.out
  rw [hms] at g1 g2 g3 g4
  rw [← hn2] at g4 g5
  have hcn : c = (n2 : Int) := by rw [HCc.out, HEQ.out.2, hn2]
  subst hcn
  have G1 := Lib.hid g1
  have G2 := Lib.hid g2
  have G3 := Lib.hid g3
  have hnmb : nm ≤ 40 := by rw [HNm.out, g4]; exact Nat.min_le_left _ _
  have hn2b : n2 ≤ nys := by rw [HNys.out]; exact g5
  have hmin : nm = min 40 (nxs + nys - n2) := by rw [HNm.out, HNxs.out, HNys.out]; exact g4
  have HMin := Lib.hid hmin
  clear g1 g2 g3 g4 g5 g6 g7 hn2 hms hmin HLaw HEQ HOk HMs
  obtain ⟨W4, hW4⟩ : ∃ W, W = w4 := ⟨_, rfl⟩
  rw [← hW4] at HKl HKr HKm HOl HOr HOm HB ⊢
  clear hW4
  have HRm : Hid (Rd W4.heap.size .i64 W4 (.slice am nm cm) ms) := Lib.hid HOm.out.rd
  have HRl : Hid (Rd W4.heap.size .i64 W4 (.slice au nxs cu) xs) := Lib.hid HOl.out.rd
  obtain ⟨kHKl0, kHKl1, -⟩ := scs HKl.out
  obtain ⟨kHKr0, kHKr1, -⟩ := scs HKr.out
  obtain ⟨kHKm0, kHKm1, -⟩ := scs HKm.out
  go_wp2_with fail
  clear kHKl0 kHKl1 kHKr0 kHKr1 kHKm0 kHKm1
  go_loopw [7] (fun i wr => ∃ j : Nat, i = .int .i64 j ∧ j ≤ nm ∧ Below W4.heap.size W4 wr) (fun i _ => nm - (intOf i).toNat)
  case atStart => exact ⟨0, rfl, Nat.zero_le _, Below.refl _ _⟩
  case round =>
    obtain ⟨j, rfl, hj, hB⟩ := hrel
    have HBr := Lib.hid hB
    clear hB
    obtain ⟨kHKl0, kHKl1, -⟩ := scs (stands (l := 0) HKl.out HBr.out)
    obtain ⟨kHKr0, kHKr1, -⟩ := scs (stands (l := 0) HKr.out HBr.out)
    obtain ⟨kHKm0, kHKm1, -⟩ := scs (stands (l := 0) HKm.out HBr.out)
    by_cases hlt : j < nm
    case pos =>
      have e2 : decide ((j : Int) < (nm : Int)) = true := by simp; omega
      have hji : (j : Int) < (nm : Int) := by omega
      have hjm : j < ms.length := by rw [← HNm.out]; exact hlt
      obtain ⟨a', c', hv, _, _, hc⟩ := HRm.out.open
      injection hv with hv1 _ hv3
      obtain ⟨b, o, hp, hb, hcell⟩ := hc (by omega)
      have HCell := Lib.hid hcell
      have HJ := Lib.hid hjm
      have hz1 := G1.out (ms.getD j 0) (by rw [List.getD_eq_getElem?_getD, List.getElem?_eq_getElem hjm]; exact List.getElem_mem hjm)
      obtain ⟨z, hz⟩ : ∃ z, z = ms.getD j 0 := ⟨_, rfl⟩
      rw [← hz] at hz1
      have HZv := Lib.hid hz
      obtain rfl : am = some ⟨b, o, none⟩ := by rw [hv1, hp]
      clear hc hcell hb hz hjm hv1 hv3 hp
      cases hmx : memS xs z with
      | true =>
        have HMx := Lib.hid hmx
        clear hmx hz1
        go_wp2_with fail
        clear kHKl0 kHKl1 kHKr0 kHKr1 kHKm0 kHKm1
        refine region_quiet_c (C := Below W4.heap.size W4) (by kernel_rfl) (by kernel_rfl) (HBr.out.drew) ?_
        repeat (first
          | go_big_quiet_skip
          | (apply quiet_on
             · kernel_rfl
             · intro wq hq
               obtain ⟨kHKl0, kHKl1, -⟩ := scs (stands (l := 0) HKl.out hq)
               obtain ⟨kHKr0, kHKr1, -⟩ := scs (stands (l := 0) HKr.out hq)
               obtain ⟨kHKm0, kHKm1, -⟩ := scs (stands (l := 0) HKm.out hq)
               have y1 := HCell.out _ hq j HJ.out
               rw [← HZv.out] at y1
               go_simp
               first
                 | done
                 | (go_at_call 26
                    with_reducible (show Calls _ _ #[.agg #[.int .i64 x, _], _] _ _)
                    refine (spec_iss (HRl.out.behind hq) hq.size).mono ?_
                    rintro e' w7 ⟨he, hb⟩
                    rw [HMx.out] at he
                    exact ⟨he, hq.trans (hb.mono hq.size)⟩)
                 | rfl
                 | exact ⟨rfl, hq⟩
             simp only [Act.put, List.setIfInBounds_toArray, List.set_cons_zero, List.set_cons_succ]))
        refine wpQuiet_nil ?_
        intro w7 hb
        replace HBr := Lib.hid hb
        clear hb
        obtain ⟨kHKl0, kHKl1, -⟩ := scs (stands (l := 0) HKl.out HBr.out)
        obtain ⟨kHKr0, kHKr1, -⟩ := scs (stands (l := 0) HKr.out HBr.out)
        obtain ⟨kHKm0, kHKm1, -⟩ := scs (stands (l := 0) HKm.out HBr.out)
        go_wp2_with fail
        go_roundw
        case rel => exact ⟨j + 1, by simp, hlt, HBr.out⟩
        case measure => simp [intOf]; omega
      | false =>
        have HMx := Lib.hid hmx
        have HMy : Hid (memS ys z = true) := Lib.hid (hz1.resolve_left (by rw [hmx]; decide))
        clear hmx hz1
        go_wp2_with fail
        clear kHKl0 kHKl1 kHKr0 kHKr1 kHKm0 kHKm1
        refine region_quiet_c (C := Below W4.heap.size W4) (by kernel_rfl) (by kernel_rfl) (HBr.out.drew) ?_
        repeat (first
          | go_big_quiet_skip
          | (apply quiet_on
             · kernel_rfl
             · intro wq hq
               obtain ⟨kHKl0, kHKl1, -⟩ := scs (stands (l := 0) HKl.out hq)
               obtain ⟨kHKr0, kHKr1, -⟩ := scs (stands (l := 0) HKr.out hq)
               obtain ⟨kHKm0, kHKm1, -⟩ := scs (stands (l := 0) HKm.out hq)
               have y1 := HCell.out _ hq j HJ.out
               rw [← HZv.out] at y1
               go_simp
               first
                 | done
                 | (go_at_call 26
                    with_reducible (show Calls _ _ #[.agg #[.int .i64 x, _], _] _ _)
                    refine (spec_iss (HRl.out.behind hq) hq.size).mono ?_
                    rintro e' w7 ⟨he, hb⟩
                    rw [HMx.out] at he
                    exact ⟨he, hq.trans (hb.mono hq.size)⟩)
                 | (go_at_call 26
                    refine (spec_iss ((HOr.out.rd : Rd W4.heap.size .i64 W4 (.slice av nys cv) ys).behind hq) hq.size).mono ?_
                    rintro e' w7 ⟨he, hb⟩
                    rw [HMy.out] at he
                    exact ⟨he, hq.trans (hb.mono hq.size)⟩)
                 | rfl
                 | exact ⟨rfl, hq⟩
             simp only [Act.put, List.setIfInBounds_toArray, List.set_cons_zero, List.set_cons_succ]))
        refine wpQuiet_nil ?_
        intro w7 hb
        replace HBr := Lib.hid hb
        clear hb
        obtain ⟨kHKl0, kHKl1, -⟩ := scs (stands (l := 0) HKl.out HBr.out)
        obtain ⟨kHKr0, kHKr1, -⟩ := scs (stands (l := 0) HKr.out HBr.out)
        obtain ⟨kHKm0, kHKm1, -⟩ := scs (stands (l := 0) HKm.out HBr.out)
        go_wp2_with fail
        go_roundw
        case rel => exact ⟨j + 1, by simp, hlt, HBr.out⟩
        case measure => simp [intOf]; omega
    case neg =>
    have e2 : decide ((j : Int) < (nm : Int)) = false := by simp; omega
    go_wp2_with fail
    clear e2
    go_loopw [8] (fun i wr => ∃ j : Nat, i = .int .i64 j ∧ j ≤ nxs ∧ Below W4.heap.size W4 wr) (fun i _ => nxs - (intOf i).toNat)
    case atStart => exact ⟨0, rfl, Nat.zero_le _, HBr.out⟩
    case round =>
      clear hlt hj kHKl0 kHKl1 kHKr0 kHKr1 kHKm0 kHKm1 HBr
      obtain ⟨j, rfl, hj, hB⟩ := hrel
      have HBr := Lib.hid hB
      clear hB
      obtain ⟨kHKl0, kHKl1, -⟩ := scs (stands (l := 0) HKl.out HBr.out)
      obtain ⟨kHKr0, kHKr1, -⟩ := scs (stands (l := 0) HKr.out HBr.out)
      obtain ⟨kHKm0, kHKm1, -⟩ := scs (stands (l := 0) HKm.out HBr.out)
      by_cases hlt : j < nxs
      case pos =>
        have e2 : decide ((j : Int) < (nxs : Int)) = true := by simp; omega
        have hji : (j : Int) < (nxs : Int) := by omega
        have hjm : j < xs.length := by rw [← HNxs.out]; exact hlt
        obtain ⟨a', c', hv, _, _, hc⟩ := HRl.out.open
        injection hv with hv1 _ hv3
        obtain ⟨b, o, hp, hb, hcell⟩ := hc (by omega)
        have HCell := Lib.hid hcell
        have HJ := Lib.hid hjm
        have hz1 := G2.out (xs.getD j 0) (by rw [List.getD_eq_getElem?_getD, List.getElem?_eq_getElem hjm]; exact List.getElem_mem hjm)
        obtain ⟨z, hz⟩ : ∃ z, z = xs.getD j 0 := ⟨_, rfl⟩
        rw [← hz] at hz1
        have HZv := Lib.hid hz
        have HMz := Lib.hid hz1
        obtain rfl : au = some ⟨b, o, none⟩ := by rw [hv1, hp]
        clear hc hcell hb hz hjm hv1 hv3 hp hz1
        go_wp2_with fail
        clear kHKl0 kHKl1 kHKr0 kHKr1 kHKm0 kHKm1
        refine region_quiet_c (C := Below W4.heap.size W4) (by kernel_rfl) (by kernel_rfl) (HBr.out.drew) ?_
        repeat (first
          | go_big_quiet_skip
          | (apply quiet_on
             · kernel_rfl
             · intro wq hq
               obtain ⟨kHKl0, kHKl1, -⟩ := scs (stands (l := 0) HKl.out hq)
               obtain ⟨kHKr0, kHKr1, -⟩ := scs (stands (l := 0) HKr.out hq)
               obtain ⟨kHKm0, kHKm1, -⟩ := scs (stands (l := 0) HKm.out hq)
               have y1 := HCell.out _ hq j HJ.out
               rw [← HZv.out] at y1
               go_simp
               first
                 | done
                 | (go_at_call 21
                    refine (impl_iss (HRm.out.behind hq) hq.size).mono ?_
                    rintro e' w7 ⟨he, hb⟩
                    rw [HMz.out] at he
                    exact ⟨he, hq.trans (hb.mono hq.size)⟩)
                 | rfl
                 | exact ⟨rfl, hq⟩
             simp only [Act.put, List.setIfInBounds_toArray, List.set_cons_zero, List.set_cons_succ]))
        refine wpQuiet_nil ?_
        intro w7 hb
        replace HBr := Lib.hid hb
        clear hb
        obtain ⟨kHKl0, kHKl1, -⟩ := scs (stands (l := 0) HKl.out HBr.out)
        obtain ⟨kHKr0, kHKr1, -⟩ := scs (stands (l := 0) HKr.out HBr.out)
        obtain ⟨kHKm0, kHKm1, -⟩ := scs (stands (l := 0) HKm.out HBr.out)
        go_wp2_with fail
        go_roundw
        case rel => exact ⟨j + 1, by simp, hlt, HBr.out⟩
        case measure => simp [intOf]; omega
      case neg =>
      have e2 : decide ((j : Int) < (nxs : Int)) = false := by simp; omega
      obtain ⟨k, hk⟩ : ∃ k, k = nxs + nys - n2 := ⟨_, rfl⟩
      obtain ⟨sm, hsm⟩ : ∃ k, k = nxs + nys := ⟨_, rfl⟩
      have r1 : IntKind.i64.wrap ((nxs : Int) + (nys : Int)) = (sm : Int) := by rw [IntKind.wrap_i64]; omega
      have r2 : IntKind.i64.wrap ((sm : Int) - (n2 : Int)) = (k : Int) := by rw [IntKind.wrap_i64]; omega
      have HKb := Lib.hid (show k ≤ 82 by omega)
      have HMn : Hid (mn (40 : Int) (k : Int) = (nm : Int)) := Lib.hid (by have h := HMin.out; rw [← hk] at h; rw [h]; unfold mn; split <;> omega)
      clear hk hsm
      go_wp2_with fail
      clear kHKl0 kHKl1 kHKr0 kHKr1 kHKm0 kHKm1
      refine region_quiet_c (C := Below W4.heap.size W4) (by kernel_rfl) (by kernel_rfl) (HBr.out.drew) ?_
      repeat (first
        | go_big_quiet_skip
        | (apply quiet_on
           · kernel_rfl
           · intro wq hq
             obtain ⟨kHKl0, kHKl1, -⟩ := scs (stands (l := 0) HKl.out hq)
             obtain ⟨kHKr0, kHKr1, -⟩ := scs (stands (l := 0) HKr.out hq)
             obtain ⟨kHKm0, kHKm1, -⟩ := scs (stands (l := 0) HKm.out hq)

             go_simp
             first
               | done
               | (go_at_call 22
                  refine (impl_vsl (HRm.out.behind hq) hq.size Wx.out).mono ?_
                  rintro e' w7 ⟨he, hb⟩
                  rw [G3.out] at he
                  exact ⟨he, hq.trans (hb.mono hq.size)⟩)
               | (go_at_call 27
                  refine (spec_mn 40 (k : Int) _).mono ?_
                  rintro e' w7 ⟨he, hw⟩
                  rw [HMn.out] at he
                  subst hw
                  exact ⟨he, hq⟩)
               | rfl
               | exact ⟨rfl, hq⟩
           simp only [Act.put, List.setIfInBounds_toArray, List.set_cons_zero, List.set_cons_succ]))
      refine wpQuiet_nil ?_
      intro w7 hb
      replace HBr := Lib.hid hb
      clear hb
      go_wp2_with fail
      go_ret
      exact ⟨rfl, HB.out.trans (HBr.out.mono HB.out.size)⟩

end Go.Proofs.Ytdlbpeippmibcaa
