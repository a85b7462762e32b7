/- JoinWrites and ExplainWrite, the document's. No conditions but a size that a machine holds. ExplainWrite, the document's. No conditions but a size that a machine holds. MakeWrite, the document's: the databases of a write. No conditions but a size that a machine holds. -/
import Derived.Test.YtdipignajccdcaaWrN
import Derived.Test.YtdipignajccdcaaBbT
import Derived.Test.YtdipignajccdcaaDb5
import Derived.Test.YtdipignajccdcaaDb8
import Derived.Test.YtdipignajccdcaaHeldL
import Derived.Test.YtdipignajccdcaaSh1
import Derived.Test.YtdipignajccdcaaWrA
import Derived.Test.YtdipignajccdcaaDb3

/-! Wr4 -/
namespace Go.Proofs.Ytdipignajccdcaa
open Go Go.RowKit
set_option linter.unusedVariables false
attribute [local irreducible] kh

/-- spec.l11Row -/
theorem row_any {lim : Nat} {w : World} {u : Value} {r x : Int} {c : List Int} (hu : Rd lim .u8 w u c) (hr : (Lit.int .i64 r).wf = true) (hx : (Lit.int .i64 x).wf = true) :
    Calls Try.prog 47 #[.int .i64 r, .int .i64 x, u] w fun e w' => e = .returned (.bool (rowOk r x c)) ∧ w' = w := by
  obtain ⟨au, cu, rfl, hu2, hu3, _⟩ := hu.open
  unfold maxLen at hu3
  have HR := Lib.hid hr
  have HX := Lib.hid hx
  obtain ⟨q, hq⟩ : ∃ q, q = rowOk r x c := ⟨_, rfl⟩
  have HQ := Lib.hid hq
  rw [← hq]
  clear hu hr hx hq
  by_cases h1 : 1 ≤ r ∧ r ≤ 64
  · have HI : Hid (inR r 1 64 = true) := Lib.hid (inR_yes h1)
    have e0 : wrap64 (r - 1) = r - 1 := by unfold wrap64; omega
    by_cases h2 : inR x 0 (r - 1) = true
    · have H2 := Lib.hid h2
      have HE : Hid (q = ((c.length : Int) == 24)) := Lib.hid (by
        rw [HQ.out]; unfold rowOk
        rw [HI.out, h2, Bool.true_and, Bool.true_and]
        by_cases h : c.length = 24
        · rw [decide_eq_true h, h]; rfl
        · rw [decide_eq_false h]; exact (beq_eq_false_iff_ne.2 (by omega)).symm)
      rw [HE.out]
      clear h1 h2
      go_enter Try.func47, Try.ntmps47
      go_wp2_with fail
      refine (spec_in _ _ _ _ HR.out).mono ?_
      rw [HI.out]
      rintro e w1 ⟨rfl, hw1⟩
      obtain rfl : w = w1 := hw1.symm
      go_wp2_with fail
      refine (spec_in _ _ _ _ HX.out).mono ?_
      rw [H2.out]
      rintro e w1 ⟨rfl, hw1⟩
      obtain rfl : w = w1 := hw1.symm
      go_wp2_with fail
      go_ret
      exact ⟨rfl, rfl⟩
    · have h2' : inR x 0 (r - 1) = false := by simpa using h2
      have H2 := Lib.hid h2'
      have HE : Hid (q = false) := Lib.hid (by rw [HQ.out]; unfold rowOk; rw [h2', Bool.and_false, Bool.false_and])
      rw [HE.out]
      clear h1 h2 h2'
      go_enter Try.func47, Try.ntmps47
      go_wp2_with fail
      refine (spec_in _ _ _ _ HR.out).mono ?_
      rw [HI.out]
      rintro e w1 ⟨rfl, hw1⟩
      obtain rfl : w = w1 := hw1.symm
      go_wp2_with fail
      refine (spec_in _ _ _ _ HX.out).mono ?_
      rw [H2.out]
      rintro e w1 ⟨rfl, hw1⟩
      obtain rfl : w = w1 := hw1.symm
      go_wp2_with fail
      go_ret
      exact ⟨rfl, rfl⟩
  · have HI : Hid (inR r 1 64 = false) := Lib.hid (inR_no h1)
    have HE : Hid (q = false) := Lib.hid (by rw [HQ.out]; unfold rowOk; rw [HI.out, Bool.false_and, Bool.false_and])
    rw [HE.out]
    clear h1
    go_enter Try.func47, Try.ntmps47
    go_wp2_with fail
    refine (spec_in _ _ _ _ HR.out).mono ?_
    rw [HI.out]
    rintro e w1 ⟨rfl, hw1⟩
    obtain rfl : w = w1 := hw1.symm
    go_wp2_with fail
    go_ret
    exact ⟨rfl, rfl⟩


set_option maxRecDepth 20000 in
set_option maxHeartbeats 8000000 in
/-- spec.JoinWrites -/
theorem spec_jw {l1 : Nat} {e0 : TypeId} {w : World} {v : Value} {zs : List VDatabase} (hv : (sliceT e0 tyDatabase).rd l1 w [v] zs) (hl1 : l1 ≤ w.heap.size) (hm : totL tyDatabase zs ≤ 1099511627776) :
    Calls Try.prog 30 #[v] w fun e w' => ∃ v', e = .returned (.tuple #[.agg #[v'], .bool (jwK zs)]) ∧ Own2 22 5 .u8 (ival w.heap.size w'.heap.size) w' v' (jw zs) ∧ Below w.heap.size w w' := by
  obtain ⟨av, cv, hv1, hv2, hv3, hvc⟩ := sl_open hv
  have hv1 := (List.cons.inj hv1).1
  subst hv1
  have hb0 := (Below.refl w.heap.size w).alloc (Nat.le_refl _) (.cells #[.slice none 0 0] 39)
  have ha0 := heap_alloc_new w (.cells #[.slice none 0 0] 39)
  have hz0 : (w.alloc (.cells #[.slice none 0 0] 39)).heap.size = w.heap.size + 1 := by simp
  obtain ⟨W0, hW0⟩ : ∃ W, W = w.alloc (.cells #[.slice none 0 0] 39) := ⟨_, rfl⟩
  rw [← hW0] at hb0 ha0 hz0
  have HB := Lib.hid hb0
  have HR := Lib.hid ha0
  have HW0 := Lib.hid hW0
  have HZ0 := Lib.hid hz0
  clear hb0 ha0 hW0 hz0
  obtain ⟨n, hn⟩ : ∃ n, n = zs.length := ⟨_, rfl⟩
  have HN := Lib.hid hn
  have HNs : Hid (∀ (j : Nat) (x : VDatabase), zs[j]? = some x → tot x ≤ 1099511627776) := Lib.hid (fun j x hx => Nat.le_trans (tot_mem hx) hm)
  have hn40 : n ≤ 1099511627776 := by have := totL_eq tyDatabase zs; omega
  have HWn : Hid ((Lit.int .i64 (n : Int)).wf = true) := Lib.hid (wf_i64_of (by omega) (by omega))
  have HVC := Lib.hid hvc
  rw [← hn] at HVC hv2 ⊢
  unfold maxLen at hv3
  clear hv hvc hm
  by_cases hin : 2 ≤ n ∧ n ≤ 4
  case neg =>
    have HI : Hid (inR (n : Int) 2 4 = false) := Lib.hid (inR_no (by omega))
    have HE : Hid (jwK zs = false) := Lib.hid (by unfold jwK; rw [← HN.out, HI.out, Bool.false_and])
    have HE2 := Lib.hid (jw_no HE.out)
    rw [HE.out, HE2.out]
    clear hin hn
    go_enter Try.func30, Try.ntmps30
    go_wp2_with fail
    rw [← HW0.out]
    refine (count_any HWn.out).mono ?_
    rw [HI.out]
    rintro e w1 ⟨rfl, hw1⟩
    obtain rfl : W0 = w1 := hw1.symm
    have cA := blk_cell HR.out 0
    have fA := blk_free HR.out 0
    rw [one0] at cA
    go_wp2_with fail
    clear cA fA
    obtain ⟨s1, s2, s3⟩ := store1 HR.out (.slice none 0 0)
    obtain ⟨w8, hw8⟩ : ∃ w8, w8 = W0.setCell ⟨w.heap.size, 0, none⟩ (.slice none 0 0) := ⟨_, rfl⟩
    rw [← hw8] at s1 s2 s3 ⊢
    have Q2 := Lib.hid (HB.out.trans (s3.below (B := w.heap.size) (fun b hb => by omega) HB.out.size))
    clear hw8 s1 s3
    exact bodyPost_ret (v := .tuple #[.agg #[.slice none 0 0], .bool false]) (by simp [results, Try.results30, go_sem, s2]) rfl ⟨_, rfl, Own2.nil _ _ _ _ _, Q2.out⟩
  have HI : Hid (inR (n : Int) 2 4 = true) := Lib.hid (inR_yes (by omega))
  obtain ⟨z0, hz0⟩ : ∃ x, zs[0]? = some x := ⟨_, List.getElem?_eq_getElem (by omega)⟩
  have HE : Hid (jwK zs = adK z0 (zs.drop 1)) := Lib.hid (by unfold jwK; rw [← HN.out, HI.out, Bool.true_and, List.getD_eq_getElem?_getD, hz0]; rfl)
  have HE2 : Hid (jw zs = ad z0 (zs.drop 1)) := Lib.hid (by unfold jw ad; rw [HE.out, List.getD_eq_getElem?_getD, hz0]; rfl)
  have HNa := Lib.hid (HNs.out 0 z0 hz0)
  have hVb := HVC.out (by omega)
  obtain ⟨b, o, hab, hbl0, hcell0⟩ := hVb
  obtain ⟨c, hr, hcl⟩ := hcell0 W0 (HB.out.mono hl1) 0 z0 hz0
  obtain ⟨az, cz, rfl, hr'⟩ := rd_Database hr
  have hrx : Rd2 l1 .u8 W0 (.slice az z0.length cz) z0 := rd2_of_sl2 hr'
  obtain ⟨nz, hnz⟩ : ∃ n, n = z0.length := ⟨_, rfl⟩
  rw [← hnz] at hrx hcl
  have k0 : W0.cell? ⟨b, o, none⟩ = some (.slice az nz cz) := by
    have := hcl 0 _ rfl
    rwa [Nat.zero_mul] at this
  have HBl0 : Hid (b < W0.heap.size ∧ l1 ≤ W0.heap.size) := Lib.hid (by have := HB.out.size; omega)
  have HK0 := Lib.hid k0
  have HRz := Lib.hid hrx
  have H2 : Hid (2 ≤ n ∧ n ≤ 4) := Lib.hid hin
  rw [HE.out, HE2.out]
  by_cases hvd : vd z0 = true
  case neg =>
    have hvd' : vd z0 = false := by simpa using hvd
    have HVd := Lib.hid hvd'
    have HF0 : Hid (adK z0 (zs.drop 1) = false) := Lib.hid (by
      cases hd : zs.drop 1 with
      | nil => have := congrArg List.length hd; rw [List.length_drop] at this; simp at this; omega
      | cons y r => rw [adK, xdK_a hvd', Bool.false_and])
    have HF1 := Lib.hid (ad_no HF0.out)
    rw [HF0.out, HF1.out]
    subst hab
    clear hcell0 hcl hr hr' hrx hnz hin hn k0 hvd hvd' hz0
    go_enter Try.func30, Try.ntmps30
    go_wp2_with fail
    rw [← HW0.out]
    refine (count_any HWn.out).mono ?_
    rw [HI.out]
    rintro e w1 ⟨rfl, hw1⟩
    obtain rfl : W0 = w1 := hw1.symm
    have k0 := HK0.out
    have h0n : (0 : Int) < (n : Int) := by have := H2.out; omega
    have h0n' : 0 < n := by have := H2.out; omega
    go_wp2_with fail
    clear k0
    refine (spec_vd HRz.out HBl0.out.2).mono ?_
    rw [HVd.out]
    rintro e w1 ⟨rfl, hb⟩
    replace HR := Lib.hid ((hb.block _ (lt_of_block HR.out)).trans HR.out)
    replace HB := Lib.hid (HB.out.trans (hb.mono HB.out.size))
    clear hb
    have cA := blk_cell HR.out 0
    have fA := blk_free HR.out 0
    rw [one0] at cA
    go_wp2_with fail
    clear cA fA
    obtain ⟨s1, s2, s3⟩ := store1 HR.out (.slice none 0 0)
    obtain ⟨w8, hw8⟩ : ∃ w8, w8 = w1.setCell ⟨w.heap.size, 0, none⟩ (.slice none 0 0) := ⟨_, rfl⟩
    rw [← hw8] at s1 s2 s3 ⊢
    have Q2 := Lib.hid (HB.out.trans (s3.below (B := w.heap.size) (fun b hb => by omega) HB.out.size))
    clear hw8 s1 s3
    exact bodyPost_ret (v := .tuple #[.agg #[.slice none 0 0], .bool false]) (by simp [results, Try.results30, go_sem, s2]) rfl ⟨_, rfl, Own2.nil _ _ _ _ _, Q2.out⟩
  have HVd := Lib.hid hvd
  subst hab
  clear hcell0 hcl hr hr' hrx hnz hin hn k0 hvd hz0
  go_enter Try.func30, Try.ntmps30
  go_wp2_with fail
  rw [← HW0.out]
  refine (count_any HWn.out).mono ?_
  rw [HI.out]
  rintro e w1 ⟨rfl, hw1⟩
  obtain rfl : W0 = w1 := hw1.symm
  have k0 := HK0.out
  have h0n : (0 : Int) < (n : Int) := by have := H2.out; omega
  have h0n' : 0 < n := by have := H2.out; omega
  go_wp2_with fail
  clear k0
  refine (spec_vd HRz.out HBl0.out.2).mono ?_
  rw [HVd.out]
  rintro e w1 ⟨rfl, hb⟩
  have k0 := (hb.cell (p := ⟨b, o, none⟩) HBl0.out.1).trans HK0.out
  have HRz1 := Lib.hid (HRz.out.behind (hb.mono HBl0.out.2))
  have HLe1 := Lib.hid (Nat.le_trans HBl0.out.2 hb.size)
  replace HR := Lib.hid ((hb.block _ (lt_of_block HR.out)).trans HR.out)
  replace HB := Lib.hid (HB.out.trans (hb.mono HB.out.size))
  clear hb
  go_wp2_with fail
  clear k0
  refine (l8Copy_any HRz1.out HLe1.out HNa.out).mono ?_
  rintro e w4 ⟨v4, rfl, h4, hb4⟩
  obtain ⟨a4, c4, hv4, _⟩ := h4.open
  obtain ⟨n4, hn4⟩ : ∃ n, n = z0.length := ⟨_, rfl⟩
  rw [← hn4] at hv4
  subst hv4
  obtain ⟨D, hD⟩ : ∃ D, D = w4.heap.size := ⟨_, rfl⟩
  have HO4 : Hid (Own2 22 5 .u8 (ival w1.heap.size D) (w4.alloc (.cells #[.slice a4 n4 c4] 39)) (.slice a4 n4 c4) z0) := Lib.hid (by rw [hD]; exact h4.alloc (.cells #[.slice a4 n4 c4] 39))
  have HDw : Hid (w.heap.size < D) := Lib.hid (by rw [hD]; exact Nat.lt_of_lt_of_le (lt_of_block HR.out) hb4.size)
  have HD : Hid ((w4.alloc (.cells #[.slice a4 n4 c4] 39)).heap[D]? = some (.cells #[.slice a4 n4 c4] 39)) := Lib.hid (by rw [hD]; exact heap_alloc_new w4 (.cells #[.slice a4 n4 c4] 39))
  have HZ4 : Hid ((w4.alloc (.cells #[.slice a4 n4 c4] 39)).heap.size = D + 1 ∧ w.heap.size + 1 ≤ w1.heap.size) := Lib.hid ⟨by rw [hD]; simp, lt_of_block HR.out⟩
  replace HR := Lib.hid ((heap_alloc_old w4 (.cells #[.slice a4 n4 c4] 39) (Nat.lt_of_lt_of_le (lt_of_block HR.out) hb4.size)).trans ((hb4.block _ (lt_of_block HR.out)).trans HR.out))
  replace HB := Lib.hid ((HB.out.trans (hb4.mono HB.out.size)).alloc (Nat.le_trans HB.out.size hb4.size) (.cells #[.slice a4 n4 c4] 39))
  have cD : (w4.alloc (.cells #[.slice a4 n4 c4] 39)).cell? ⟨w4.heap.size, 0, none⟩ = some (.slice a4 n4 c4) := blk_cell (heap_alloc_new w4 (.cells #[.slice a4 n4 c4] 39)) 0
  clear h4 hb4 hn4
  go_wp2_with fail
  rw [← hD]
  clear cD hD
  go_loopw [5] (fun i wr => ∃ (j : Nat) (s : Value) (F : Nat → Prop), i = .int .i64 j ∧ 1 ≤ j ∧ j ≤ n ∧ adK z0 ((zs.drop 1).take (j - 1)) = true ∧ Own2 22 5 .u8 F wr s (adF z0 ((zs.drop 1).take (j - 1))) ∧
    (∀ b, F b → w.heap.size + 1 ≤ b ∧ b < wr.heap.size ∧ b ≠ D) ∧ wr.heap[w.heap.size]? = some (.cells #[.slice none 0 0] 39) ∧ wr.heap[D]? = some (.cells #[s] 39 ) ∧ Below w.heap.size w wr) (fun i _ => n - (intOf i).toNat)
  case atStart => exact ⟨1, _, ival w1.heap.size D, rfl, Nat.le_refl _, by have := H2.out; omega, rfl, HO4.out, fun b hb => by have h := HZ4.out; unfold ival at hb; omega, HR.out, HD.out, HB.out⟩
  case round =>
    obtain ⟨j, s, F, rfl, hjq, hj, hK, hO, hF, hR, hD, hB⟩ := hrel
    replace HR := Lib.hid hR
    replace HD := Lib.hid hD
    replace HB := Lib.hid hB
    have HK := Lib.hid hK
    have HF := Lib.hid hF
    have HO := Lib.hid hO
    obtain ⟨aq, cq, hs0, _⟩ := hO.open
    obtain ⟨nq, hnq⟩ : ∃ n, n = (adF z0 ((zs.drop 1).take (j - 1))).length := ⟨_, rfl⟩
    rw [← hnq] at hs0
    subst hs0
    have HJq : Hid ((j + 1 - 1) = (j - 1) + 1) := Lib.hid (by omega)
    clear hnq hK hO hF hR hD hB
    by_cases hlt : j < n
    · have e1 : decide ((j : Int) < (n : Int)) = true := by simp; omega
      have hjn : (j : Int) < (n : Int) := by omega
      obtain ⟨b', o', hab, hbl, hcell⟩ := HVC.out (by omega)
      obtain ⟨rfl, rfl⟩ : b = b' ∧ o = o' := by simpa using hab
      obtain ⟨x, hx⟩ : ∃ x, zs[j]? = some x := ⟨_, List.getElem?_eq_getElem (by rw [← HN.out]; exact hlt)⟩
      obtain ⟨c, hr, hcl⟩ := hcell wr (HB.out.mono hl1) j x hx
      have hcl : ∀ (k : Nat) (y : Value), c[k]? = some y → wr.cell? ⟨b, o + (j + k), none⟩ = some y := fun k y hy => by have := hcl k y hy; rwa [show j * tyDatabase.sz = j from Nat.mul_one j] at this
      have hxl : (zs.drop 1)[(j - 1)]? = some x := by rw [List.getElem?_drop, show 1 + (j - 1) = j by omega]; exact hx
      have HTx := Lib.hid (HNs.out j x hx)
      have HTf := Lib.hid (adF_take (u := z0) hxl)
      have HTk := Lib.hid (adK_take hxl HK.out)
      have HTs := Lib.hid (adF_tot_le (N := 1099511627776) HK.out (by decide) HNa.out)
      obtain ⟨a0, c0, rfl, hr'⟩ := rd_Database hr
      have hrx : Rd2 l1 .u8 wr (.slice a0 x.length c0) x := rd2_of_sl2 hr'
      obtain ⟨nx, hnx⟩ : ∃ n, n = x.length := ⟨_, rfl⟩
      rw [← hnx] at hrx hcl
      have k0 : wr.cell? ⟨b, o + j, none⟩ = some (.slice a0 nx c0) := hcl 0 _ rfl
      have HBl : Hid (b < wr.heap.size ∧ l1 ≤ wr.heap.size) := Lib.hid (by have := HB.out.size; omega)
      have HS : Hid (∀ w', Below wr.heap.size wr w' → w'.cell? ⟨D, 0, none⟩ = some (.slice aq nq cq) ∧ w'.cell? ⟨b, o + j, none⟩ = some (.slice a0 nx c0)) := Lib.hid (fun w' hb => ⟨blk_cell ((hb.block _ (lt_of_block HD.out)).trans HD.out) 0, (hb.cell (p := ⟨b, o + j, none⟩) HBl.out.1).trans k0⟩)
      have d0 := HS.out wr.drew (Below.refl _ _).drew
      obtain ⟨wd, hwd⟩ : ∃ x, x = wr.drew := ⟨_, rfl⟩
      have HWd0 := Lib.hid hwd
      have HWd : Hid (wr.heap.size = wd.heap.size) := Lib.hid (by rw [hwd]; rfl)
      have HBd : Hid (Below wr.heap.size wr wd) := Lib.hid (by rw [hwd]; exact (Below.refl _ _).drew)
      have HSd : Hid (∀ w', Below wd.heap.size wd w' → w'.cell? ⟨D, 0, none⟩ = some (.slice aq nq cq) ∧ w'.cell? ⟨b, o + j, none⟩ = some (.slice a0 nx c0)) := Lib.hid (fun w' hb => HS.out w' (HBd.out.trans (by rw [HWd.out]; exact hb)))
      have HOd : Hid (Own2 22 5 .u8 F wd (.slice aq nq cq) (adF z0 ((zs.drop 1).take (j - 1)))) := Lib.hid (HO.out.next HBd.out)
      have HRxd : Hid (Rd2 l1 .u8 wd (.slice a0 nx c0) x) := Lib.hid (hrx.behind (HBd.out.mono HBl.out.2))
      have HLd : Hid (l1 ≤ wd.heap.size) := Lib.hid (by rw [← HWd.out]; exact HBl.out.2)
      clear hcell hcl hr hr' hrx hx hxl hnx hwd
      go_wp2_with fail
      refine region_till (fun w' => w'.cell? ⟨D, 0, none⟩ = some (.slice aq nq cq) ∧ w'.cell? ⟨b, o + j, none⟩ = some (.slice a0 nx c0)) 11 (by kernel_rfl) ?_
      
      apply Till.take (i := 0) [0, 5, 6, 8, 11]
      · simp only [List.getElem?_toArray, List.getElem?_cons_zero]
        rfl
      · kernel_rfl
      · kernel_rfl
      · kernel_rfl
      · kernel_rfl
      · exact fun _ _ _ h => h
      · first
          | exact Or.inr ⟨by rfl, rfl⟩
          | (refine Or.inl ⟨by rfl, fun wq hwq => ?_⟩
             dsimp only at hwq
             go_simp
             first
               | done
               | rfl)
      · exact d0
      simp only [Act.put, List.setIfInBounds_toArray, List.set_cons_zero, List.set_cons_succ]
      apply Till.take (i := 1) [1, 3, 4, 5, 6, 8, 11]
      · simp only [List.getElem?_toArray, List.getElem?_cons_succ, List.getElem?_cons_zero]
        rfl
      · kernel_rfl
      · kernel_rfl
      · kernel_rfl
      · kernel_rfl
      · exact fun _ _ _ h => h
      · first
          | exact Or.inr ⟨by rfl, rfl⟩
          | (refine Or.inl ⟨by rfl, fun wq hwq => ?_⟩
             dsimp only at hwq
             go_simp
             first
               | done
               | rfl)
      · exact d0
      simp only [Act.put, List.setIfInBounds_toArray, List.set_cons_zero, List.set_cons_succ]
      apply Till.take (i := 2) [2, 3, 4, 5, 6, 8, 11]
      · simp only [List.getElem?_toArray, List.getElem?_cons_succ, List.getElem?_cons_zero]
        rfl
      · kernel_rfl
      · kernel_rfl
      · kernel_rfl
      · kernel_rfl
      · exact fun _ _ _ h => h
      · first
          | exact Or.inr ⟨by rfl, rfl⟩
          | (refine Or.inl ⟨by rfl, fun wq hwq => ?_⟩
             dsimp only at hwq
             go_simp
             first
               | done
               | rfl)
      · exact d0
      simp only [Act.put, List.setIfInBounds_toArray, List.set_cons_zero, List.set_cons_succ]
      apply Till.take (i := 3) [3, 4, 5, 6, 8, 11]
      · simp only [List.getElem?_toArray, List.getElem?_cons_succ, List.getElem?_cons_zero]
        rfl
      · kernel_rfl
      · kernel_rfl
      · kernel_rfl
      · kernel_rfl
      · exact fun _ _ _ h => h
      · first
          | exact Or.inr ⟨by rfl, rfl⟩
          | (refine Or.inl ⟨by rfl, fun wq hwq => ?_⟩
             dsimp only at hwq
             go_simp
             first
               | done
               | rfl)
      · exact d0
      simp only [Act.put, List.setIfInBounds_toArray, List.set_cons_zero, List.set_cons_succ]
      apply Till.take (i := 4) [4, 5, 6, 8, 11]
      · simp only [List.getElem?_toArray, List.getElem?_cons_succ, List.getElem?_cons_zero]
        rfl
      · kernel_rfl
      · kernel_rfl
      · kernel_rfl
      · kernel_rfl
      · exact fun _ _ _ h => h
      · first
          | exact Or.inr ⟨by rfl, rfl⟩
          | (refine Or.inl ⟨by rfl, fun wq hwq => ?_⟩
             dsimp only at hwq
             go_simp
             first
               | done
               | rfl)
      · exact d0
      simp only [Act.put, List.setIfInBounds_toArray, List.set_cons_zero, List.set_cons_succ]
      
      rw [← HWd0.out]
      apply Till.two (i := 5) (j := 9)
      · kernel_rfl
      · simp only [List.getElem?_toArray, List.getElem?_cons_succ, List.getElem?_cons_zero]
        rfl
      · simp only [List.getElem?_toArray, List.getElem?_cons_succ, List.getElem?_cons_zero]
        rfl
      · intro K hK
        go_simp
        refine (spec_xd HOd.out.rd2 HRxd.out (Nat.le_refl _) HLd.out HTs.out HTx.out).mono ?_
        rw [← HTk.out, HTf.out]
        rintro e' w2 ⟨v2, he, h2, hb⟩
        subst he
        obtain ⟨a2, c2, hv2', _⟩ := h2.open
        obtain ⟨n2, hn2⟩ : ∃ n, n = (adF z0 ((zs.drop 1).take ((j - 1) + 1))).length := ⟨_, rfl⟩
        rw [← hn2] at hv2'
        subst hv2'
        obtain ⟨ok, hok⟩ : ∃ q, q = adK z0 ((zs.drop 1).take ((j - 1) + 1)) := ⟨_, rfl⟩
        rw [← hok]
        have HOk := Lib.hid hok
        clear hn2 hok
        have HO2 := Lib.hid (h2.alloc (.cells #[.slice none 0 0] 39))
        have HX1 := Lib.hid (heap_alloc_new w2 (.cells #[.slice none 0 0] 39))
        have HBA : Hid (Below wd.heap.size wd (w2.alloc (.cells #[.slice none 0 0] 39))) := Lib.hid (hb.alloc hb.size (.cells #[.slice none 0 0] 39))
        have HZw := Lib.hid hb.size
        have d2 := HSd.out w2 hb
        have d3 := HSd.out _ HBA.out
        clear h2 hb
        refine hK.out _ _ (Or.inr d2) ?_
        clear hK K
        try simp only [Act.put, List.setIfInBounds_toArray, List.set_cons_zero, List.set_cons_succ]
        apply Till.take (i := 6) [6, 8, 11]
        · simp only [List.getElem?_toArray, List.getElem?_cons_succ, List.getElem?_cons_zero]
          rfl
        · kernel_rfl
        · kernel_rfl
        · kernel_rfl
        · kernel_rfl
        · exact fun _ _ _ h => h
        · first
            | exact Or.inr ⟨by rfl, rfl⟩
            | (refine Or.inl ⟨by rfl, fun wq hwq => ?_⟩
               dsimp only at hwq
               go_simp
               first
                 | done
                 | rfl)
        · exact d2
        simp only [Act.put, List.setIfInBounds_toArray, List.set_cons_zero, List.set_cons_succ]
        apply Till.take (i := 7) [7, 10, 11]
        · simp only [List.getElem?_toArray, List.getElem?_cons_succ, List.getElem?_cons_zero]
          rfl
        · kernel_rfl
        · kernel_rfl
        · kernel_rfl
        · kernel_rfl
        · exact fun _ _ _ h => h
        · first
            | exact Or.inr ⟨by rfl, rfl⟩
            | (refine Or.inl ⟨by rfl, fun wq hwq => ?_⟩
               dsimp only at hwq
               go_simp
               first
                 | done
                 | rfl)
        · exact d2
        simp only [Act.put, List.setIfInBounds_toArray, List.set_cons_zero, List.set_cons_succ]
        apply Till.take (i := 8) [8, 11]
        · simp only [List.getElem?_toArray, List.getElem?_cons_succ, List.getElem?_cons_zero]
          rfl
        · kernel_rfl
        · kernel_rfl
        · kernel_rfl
        · kernel_rfl
        · exact fun _ _ _ h => h
        · first
            | exact Or.inr ⟨by rfl, rfl⟩
            | (refine Or.inl ⟨by rfl, fun wq hwq => ?_⟩
               dsimp only at hwq
               go_simp
               first
                 | done
                 | rfl)
        · exact d2
        simp only [Act.put, List.setIfInBounds_toArray, List.set_cons_zero, List.set_cons_succ]
        apply Till.one (i := 9)
        · kernel_rfl
        · simp only [List.getElem?_toArray, List.getElem?_cons_succ, List.getElem?_cons_zero]
          rfl
        intro K hK
        go_simp
        skip
        refine hK.out _ _ (Or.inr d3) ?_
        clear hK K
        try simp only [Act.put, List.setIfInBounds_toArray, List.set_cons_zero, List.set_cons_succ]
        clear d2
        obtain ⟨w3, hw3⟩ : ∃ x, x = w2.alloc (.cells #[.slice none 0 0] 39) := ⟨_, rfl⟩
        have HE3 : Hid (wr.heap.size ≤ w2.heap.size ∧ w2.heap.size < w3.heap.size) := Lib.hid (by rw [hw3]; have h1 := HZw.out; have h2 := HWd.out; simp; omega)
        have HF3 : Hid (∀ b, ival wd.heap.size w2.heap.size b → wr.heap.size ≤ b ∧ b < w3.heap.size ∧ b ≠ w2.heap.size) := Lib.hid (fun b hb => by rw [hw3]; have h2 := HWd.out; unfold ival at hb; simp; omega)
        have HB3 : Hid (Below wr.heap.size wr w3) := Lib.hid (by rw [hw3]; have h := HBA.out; rw [← HWd.out] at h; exact HBd.out.trans h)
        rw [← hw3] at HO2 HX1 d3 ⊢
        obtain ⟨E, hE⟩ : ∃ x, x = w2.heap.size := ⟨_, rfl⟩
        obtain ⟨F3, hF3⟩ : ∃ F, F = ival wd.heap.size w2.heap.size := ⟨_, rfl⟩
        rw [← hF3] at HO2 HF3
        rw [← hE] at HX1 HE3 HF3 ⊢
        have HO3 := HO2
        have HX := HX1
        clear hw3 hE hF3 HO2 HX1 HBA HZw d3
        have HD3 := Lib.hid ((HB3.out.block _ (lt_of_block HD.out)).trans HD.out)
        have HR3 := Lib.hid ((HB3.out.block _ (lt_of_block HR.out)).trans HR.out)
        have cE := blk_cell HX.out 0
        have fE := blk_free HX.out 0
        rw [one0] at cE
        obtain ⟨t1, t2, t3⟩ := store1 HX.out (.slice a2 n2 c2)
        have d4 : (w3.setCell ⟨E, 0, none⟩ (.slice a2 n2 c2)).cell? ⟨D, 0, none⟩ = some (.slice aq nq cq) ∧ (w3.setCell ⟨E, 0, none⟩ (.slice a2 n2 c2)).cell? ⟨b, o + j, none⟩ = some (.slice a0 nx c0) := ⟨blk_cell ((t3.block D (lt_of_block HD3.out) (fun e => by have h1 := lt_of_block HD.out; have h2 := HE3.out.1; omega)).trans HD3.out) 0, ((t3.block b (by have h1 := HB3.out.size; have h2 := HBl.out.1; omega) (fun e => by have h2 := HBl.out.1; have h3 := HE3.out.1; omega)) |> fun h => by have h4 := (HS.out w3 HB3.out).2; rw [World.cell?] at h4 ⊢; simp only [h]; exact h4)⟩
        have HX4 := Lib.hid t1
        have HK4 := Lib.hid t3
        clear t1 t2 t3
        apply Till.one (i := 10)
        · kernel_rfl
        · simp only [List.getElem?_toArray, List.getElem?_cons_succ, List.getElem?_cons_zero]
          rfl
        intro K hK
        go_simp
        skip
        refine hK.out _ _ (Or.inr d4) ?_
        clear hK K
        try simp only [Act.put, List.setIfInBounds_toArray, List.set_cons_zero, List.set_cons_succ]
        apply Till.one (i := 11)
        · kernel_rfl
        · simp only [List.getElem?_toArray, List.getElem?_cons_succ, List.getElem?_cons_zero]
          rfl
        intro K hK
        go_simp
        skip
        refine hK.out _ _ (Or.inl (by rfl)) ?_
        clear hK K
        try simp only [Act.put, List.setIfInBounds_toArray, List.set_cons_zero, List.set_cons_succ]
        refine Till.done (by kernel_rfl) ?_ _
        clear cE fE d4
        obtain ⟨w4, hw4⟩ : ∃ w4, w4 = w3.setCell ⟨E, 0, none⟩ (.slice a2 n2 c2) := ⟨_, rfl⟩
        rw [← hw4] at HX4 HK4 ⊢
        have HZ4 : Hid (w4.heap.size = w3.heap.size) := Lib.hid (by rw [hw4, World.setCell_size])
        have HD4 := Lib.hid ((HK4.out.block D (lt_of_block HD3.out) (fun e => by have h1 := lt_of_block HD.out; have h2 := HE3.out.1; omega)).trans HD3.out)
        have HR4 := Lib.hid ((HK4.out.block w.heap.size (lt_of_block HR3.out) (fun e => by have h1 := lt_of_block HR.out; have h2 := HE3.out.1; omega)).trans HR3.out)
        have HO4 := Lib.hid (HO3.out.keptF HK4.out (fun b hb e => (HF3.out b hb).2.2 e))
        have HB4 := Lib.hid ((HB.out.trans (HB3.out.mono HB.out.size)).trans (HK4.out.below (B := w.heap.size) (fun b hb => by have h1 := HE3.out.1; have h2 := HB.out.size; omega) (by have h1 := HB3.out.size; have h2 := HB.out.size; omega)))
        clear hw4 k0
        cases ok with
        | true =>
          have HKn := Lib.hid HOk.out.symm
          have cE := blk_cell HX4.out 0
          have cD := blk_cell HD4.out 0
          have fD := blk_free HD4.out 0
          rw [one0] at cE cD
          go_wp2_with fail
          clear cE cD fD
          obtain ⟨s1, s2, s3⟩ := store1 HD4.out (.slice a2 n2 c2)
          obtain ⟨w5, hw5⟩ : ∃ w5, w5 = w4.setCell ⟨D, 0, none⟩ (.slice a2 n2 c2) := ⟨_, rfl⟩
          rw [← hw5] at s1 s2 s3 ⊢
          have HZ5 : Hid (w5.heap.size = w4.heap.size) := Lib.hid (by rw [hw5, World.setCell_size])
          have H1 := Lib.hid s1
          have H3 := Lib.hid s3
          clear hw5 s1 s2 s3
          go_roundw
          case rel =>
            refine ⟨j + 1, _, F3, by simp, by omega, by omega, by rw [HJq.out]; exact HKn.out, by rw [HJq.out]; exact HO4.out.keptF H3.out (fun b hb e => by have h1 := (HF3.out b hb).1; have h2 := lt_of_block HD.out; omega), fun b hb => by have h1 := HF3.out b hb; have h2 := HZ5.out; have h3 := HZ4.out; have h4 := lt_of_block HD.out; have h5 := HDw.out; omega, (H3.out.block _ (lt_of_block HR4.out) (fun e => by have := HDw.out; omega)).trans HR4.out, H1.out, HB4.out.trans (H3.out.below (B := w.heap.size) (fun b hb => by have := HDw.out; omega) HB4.out.size)⟩
          case measure => simp [intOf]; omega
        | false =>
          have HKn := Lib.hid (adK_stop HOk.out.symm)
          have cR := blk_cell HR4.out 0
          have fR := blk_free HR4.out 0
          rw [one0] at cR
          go_wp2_with fail
          clear cR fR
          obtain ⟨s1, s2, s3⟩ := store1 HR4.out (.slice none 0 0)
          obtain ⟨w5, hw5⟩ : ∃ w5, w5 = w4.setCell ⟨w.heap.size, 0, none⟩ (.slice none 0 0) := ⟨_, rfl⟩
          rw [← hw5] at s1 s2 s3 ⊢
          have Q2 := Lib.hid (HB4.out.trans (s3.below (B := w.heap.size) (fun b hb => by omega) HB4.out.size))
          clear hw5 s1 s3
          exact bodyPost_ret (v := .tuple #[.agg #[.slice none 0 0], .bool false]) (by simp [results, Try.results30, go_sem, s2]) rfl ⟨_, by rw [HKn.out], by rw [ad_no HKn.out]; exact Own2.nil _ _ _ _ _, Q2.out⟩
      · intro K hK
        go_simp
        have HB1 : Hid (Below wd.heap.size wd (wd.alloc (.cells #[.slice none 0 0] 39))) := Lib.hid ((Below.refl _ _).alloc (Nat.le_refl _) (.cells #[.slice none 0 0] 39))
        have HX0 := Lib.hid (heap_alloc_new wd (.cells #[.slice none 0 0] 39))
        have d2 := HSd.out _ HB1.out
        refine hK.out _ _ (Or.inr d2) ?_
        clear hK K
        try simp only [Act.put, List.setIfInBounds_toArray, List.set_cons_zero, List.set_cons_succ]
        obtain ⟨w1, hw1⟩ : ∃ x, x = wd.alloc (.cells #[.slice none 0 0] 39) := ⟨_, rfl⟩
        have HZ1 : Hid (w1.heap.size = wd.heap.size + 1) := Lib.hid (by rw [hw1]; simp)
        rw [← hw1] at HB1 HX0 d2 ⊢
        obtain ⟨E, hE⟩ : ∃ x, x = wd.heap.size := ⟨_, rfl⟩
        have HE0 := Lib.hid hE
        rw [← hE] at HX0 ⊢
        clear hw1 hE
        apply Till.one (i := 5)
        · kernel_rfl
        · simp only [List.getElem?_toArray, List.getElem?_cons_succ, List.getElem?_cons_zero]
          rfl
        intro K hK
        go_simp
        refine (spec_xd (HOd.out.next HB1.out).rd2 (HRxd.out.behind (HB1.out.mono HLd.out)) (Nat.le_refl _) (Nat.le_trans HLd.out HB1.out.size) HTs.out HTx.out).mono ?_
        rw [← HTk.out, HTf.out]
        rintro e' w2 ⟨v2, he, h2, hb⟩
        subst he
        obtain ⟨a2, c2, hv2', _⟩ := h2.open
        obtain ⟨n2, hn2⟩ : ∃ n, n = (adF z0 ((zs.drop 1).take ((j - 1) + 1))).length := ⟨_, rfl⟩
        rw [← hn2] at hv2'
        subst hv2'
        obtain ⟨ok, hok⟩ : ∃ q, q = adK z0 ((zs.drop 1).take ((j - 1) + 1)) := ⟨_, rfl⟩
        rw [← hok]
        have HOk := Lib.hid hok
        clear hn2 hok
        have HX := Lib.hid ((hb.block _ (lt_of_block HX0.out)).trans HX0.out)
        have HB12 : Hid (Below wd.heap.size wd w2) := Lib.hid (HB1.out.trans (hb.mono HB1.out.size))
        have d3 := HSd.out w2 HB12.out
        have HO2 := Lib.hid h2
        have HZw := Lib.hid hb.size
        clear h2 hb d2
        refine hK.out _ _ (Or.inr d3) ?_
        clear hK K
        try simp only [Act.put, List.setIfInBounds_toArray, List.set_cons_zero, List.set_cons_succ]
        apply Till.take (i := 6) [6, 8, 11]
        · simp only [List.getElem?_toArray, List.getElem?_cons_succ, List.getElem?_cons_zero]
          rfl
        · kernel_rfl
        · kernel_rfl
        · kernel_rfl
        · kernel_rfl
        · exact fun _ _ _ h => h
        · first
            | exact Or.inr ⟨by rfl, rfl⟩
            | (refine Or.inl ⟨by rfl, fun wq hwq => ?_⟩
               dsimp only at hwq
               go_simp
               first
                 | done
                 | rfl)
        · exact d3
        simp only [Act.put, List.setIfInBounds_toArray, List.set_cons_zero, List.set_cons_succ]
        apply Till.take (i := 7) [7, 10, 11]
        · simp only [List.getElem?_toArray, List.getElem?_cons_succ, List.getElem?_cons_zero]
          rfl
        · kernel_rfl
        · kernel_rfl
        · kernel_rfl
        · kernel_rfl
        · exact fun _ _ _ h => h
        · first
            | exact Or.inr ⟨by rfl, rfl⟩
            | (refine Or.inl ⟨by rfl, fun wq hwq => ?_⟩
               dsimp only at hwq
               go_simp
               first
                 | done
                 | rfl)
        · exact d3
        simp only [Act.put, List.setIfInBounds_toArray, List.set_cons_zero, List.set_cons_succ]
        apply Till.take (i := 8) [8, 11]
        · simp only [List.getElem?_toArray, List.getElem?_cons_succ, List.getElem?_cons_zero]
          rfl
        · kernel_rfl
        · kernel_rfl
        · kernel_rfl
        · kernel_rfl
        · exact fun _ _ _ h => h
        · first
            | exact Or.inr ⟨by rfl, rfl⟩
            | (refine Or.inl ⟨by rfl, fun wq hwq => ?_⟩
               dsimp only at hwq
               go_simp
               first
                 | done
                 | rfl)
        · exact d3
        simp only [Act.put, List.setIfInBounds_toArray, List.set_cons_zero, List.set_cons_succ]
        obtain ⟨w3, hw3⟩ : ∃ x, x = w2 := ⟨_, rfl⟩
        have HE3 : Hid (wr.heap.size ≤ E ∧ E < w3.heap.size) := Lib.hid (by rw [hw3, HE0.out]; have h1 := HZw.out; have h2 := HZ1.out; have h3 := HWd.out; omega)
        have HF3 : Hid (∀ b, ival w1.heap.size w2.heap.size b → wr.heap.size ≤ b ∧ b < w3.heap.size ∧ b ≠ E) := Lib.hid (fun b hb => by rw [hw3, HE0.out]; have h2 := HZ1.out; have h3 := HWd.out; unfold ival at hb; omega)
        have HB3 : Hid (Below wr.heap.size wr w3) := Lib.hid (by rw [hw3]; have h := HB12.out; rw [← HWd.out] at h; exact HBd.out.trans h)
        obtain ⟨F3, hF3⟩ : ∃ F, F = ival w1.heap.size w2.heap.size := ⟨_, rfl⟩
        rw [← hF3] at HO2 HF3
        rw [← hw3] at HO2 HX d3 ⊢
        have HO3 := HO2
        clear hw3 hF3 HO2 HB12 HZw d3
        have HD3 := Lib.hid ((HB3.out.block _ (lt_of_block HD.out)).trans HD.out)
        have HR3 := Lib.hid ((HB3.out.block _ (lt_of_block HR.out)).trans HR.out)
        have cE := blk_cell HX.out 0
        have fE := blk_free HX.out 0
        rw [one0] at cE
        obtain ⟨t1, t2, t3⟩ := store1 HX.out (.slice a2 n2 c2)
        have d4 : (w3.setCell ⟨E, 0, none⟩ (.slice a2 n2 c2)).cell? ⟨D, 0, none⟩ = some (.slice aq nq cq) ∧ (w3.setCell ⟨E, 0, none⟩ (.slice a2 n2 c2)).cell? ⟨b, o + j, none⟩ = some (.slice a0 nx c0) := ⟨blk_cell ((t3.block D (lt_of_block HD3.out) (fun e => by have h1 := lt_of_block HD.out; have h2 := HE3.out.1; omega)).trans HD3.out) 0, ((t3.block b (by have h1 := HB3.out.size; have h2 := HBl.out.1; omega) (fun e => by have h2 := HBl.out.1; have h3 := HE3.out.1; omega)) |> fun h => by have h4 := (HS.out w3 HB3.out).2; rw [World.cell?] at h4 ⊢; simp only [h]; exact h4)⟩
        have HX4 := Lib.hid t1
        have HK4 := Lib.hid t3
        clear t1 t2 t3
        apply Till.one (i := 10)
        · kernel_rfl
        · simp only [List.getElem?_toArray, List.getElem?_cons_succ, List.getElem?_cons_zero]
          rfl
        intro K hK
        go_simp
        skip
        refine hK.out _ _ (Or.inr d4) ?_
        clear hK K
        try simp only [Act.put, List.setIfInBounds_toArray, List.set_cons_zero, List.set_cons_succ]
        apply Till.one (i := 11)
        · kernel_rfl
        · simp only [List.getElem?_toArray, List.getElem?_cons_succ, List.getElem?_cons_zero]
          rfl
        intro K hK
        go_simp
        skip
        refine hK.out _ _ (Or.inl (by rfl)) ?_
        clear hK K
        try simp only [Act.put, List.setIfInBounds_toArray, List.set_cons_zero, List.set_cons_succ]
        refine Till.done (by kernel_rfl) ?_ _
        clear cE fE d4
        obtain ⟨w4, hw4⟩ : ∃ w4, w4 = w3.setCell ⟨E, 0, none⟩ (.slice a2 n2 c2) := ⟨_, rfl⟩
        rw [← hw4] at HX4 HK4 ⊢
        have HZ4 : Hid (w4.heap.size = w3.heap.size) := Lib.hid (by rw [hw4, World.setCell_size])
        have HD4 := Lib.hid ((HK4.out.block D (lt_of_block HD3.out) (fun e => by have h1 := lt_of_block HD.out; have h2 := HE3.out.1; omega)).trans HD3.out)
        have HR4 := Lib.hid ((HK4.out.block w.heap.size (lt_of_block HR3.out) (fun e => by have h1 := lt_of_block HR.out; have h2 := HE3.out.1; omega)).trans HR3.out)
        have HO4 := Lib.hid (HO3.out.keptF HK4.out (fun b hb e => (HF3.out b hb).2.2 e))
        have HB4 := Lib.hid ((HB.out.trans (HB3.out.mono HB.out.size)).trans (HK4.out.below (B := w.heap.size) (fun b hb => by have h1 := HE3.out.1; have h2 := HB.out.size; omega) (by have h1 := HB3.out.size; have h2 := HB.out.size; omega)))
        clear hw4 k0
        cases ok with
        | true =>
          have HKn := Lib.hid HOk.out.symm
          have cE := blk_cell HX4.out 0
          have cD := blk_cell HD4.out 0
          have fD := blk_free HD4.out 0
          rw [one0] at cE cD
          go_wp2_with fail
          clear cE cD fD
          obtain ⟨s1, s2, s3⟩ := store1 HD4.out (.slice a2 n2 c2)
          obtain ⟨w5, hw5⟩ : ∃ w5, w5 = w4.setCell ⟨D, 0, none⟩ (.slice a2 n2 c2) := ⟨_, rfl⟩
          rw [← hw5] at s1 s2 s3 ⊢
          have HZ5 : Hid (w5.heap.size = w4.heap.size) := Lib.hid (by rw [hw5, World.setCell_size])
          have H1 := Lib.hid s1
          have H3 := Lib.hid s3
          clear hw5 s1 s2 s3
          go_roundw
          case rel =>
            refine ⟨j + 1, _, F3, by simp, by omega, by omega, by rw [HJq.out]; exact HKn.out, by rw [HJq.out]; exact HO4.out.keptF H3.out (fun b hb e => by have h1 := (HF3.out b hb).1; have h2 := lt_of_block HD.out; omega), fun b hb => by have h1 := HF3.out b hb; have h2 := HZ5.out; have h3 := HZ4.out; have h4 := lt_of_block HD.out; have h5 := HDw.out; omega, (H3.out.block _ (lt_of_block HR4.out) (fun e => by have := HDw.out; omega)).trans HR4.out, H1.out, HB4.out.trans (H3.out.below (B := w.heap.size) (fun b hb => by have := HDw.out; omega) HB4.out.size)⟩
          case measure => simp [intOf]; omega
        | false =>
          have HKn := Lib.hid (adK_stop HOk.out.symm)
          have cR := blk_cell HR4.out 0
          have fR := blk_free HR4.out 0
          rw [one0] at cR
          go_wp2_with fail
          clear cR fR
          obtain ⟨s1, s2, s3⟩ := store1 HR4.out (.slice none 0 0)
          obtain ⟨w5, hw5⟩ : ∃ w5, w5 = w4.setCell ⟨w.heap.size, 0, none⟩ (.slice none 0 0) := ⟨_, rfl⟩
          rw [← hw5] at s1 s2 s3 ⊢
          have Q2 := Lib.hid (HB4.out.trans (s3.below (B := w.heap.size) (fun b hb => by omega) HB4.out.size))
          clear hw5 s1 s3
          exact bodyPost_ret (v := .tuple #[.agg #[.slice none 0 0], .bool false]) (by simp [results, Try.results30, go_sem, s2]) rfl ⟨_, by rw [HKn.out], by rw [ad_no HKn.out]; exact Own2.nil _ _ _ _ _, Q2.out⟩
    · have e1 : decide ((j : Int) < (n : Int)) = false := by simp; omega
      have ej : (zs.drop 1).take (j - 1) = zs.drop 1 := List.take_of_length_le (by have := HN.out; simp; omega)
      rw [ej] at HK HO
      have cS := blk_cell HD.out 0
      have cR := blk_cell HR.out 0
      have fR := blk_free HR.out 0
      rw [one0] at cS cR
      clear ej
      go_wp2_with fail
      clear cS cR fR
      obtain ⟨s1, s2, s3⟩ := store1 HR.out (.slice aq nq cq)
      obtain ⟨w3, hw3⟩ : ∃ w3, w3 = wr.setCell ⟨w.heap.size, 0, none⟩ (.slice aq nq cq) := ⟨_, rfl⟩
      rw [← hw3] at s1 s2 s3 ⊢
      have hs3 : w3.heap.size = wr.heap.size := by rw [hw3, World.setCell_size]
      have Q2 := Lib.hid (HB.out.trans (s3.below (B := w.heap.size) (fun b hb => by omega) HB.out.size))
      have Q1 : Hid (Own2 22 5 .u8 (ival w.heap.size w3.heap.size) w3 (.slice aq nq cq) (ad z0 (zs.drop 1))) := Lib.hid (by
        rw [ad_yes HK.out]
        exact (HO.out.keptF s3 (fun b hb => by have := HF.out b hb; omega)).mono fun b hb => by have := HF.out b hb; unfold ival; omega)
      clear hw3 s1 s3
      have HE := HK.out
      exact bodyPost_ret (v := .tuple #[.agg #[.slice aq nq cq], .bool true]) (by simp [results, Try.results30, go_sem, s2]) rfl ⟨_, by rw [HE], Q1.out, Q2.out⟩

end Go.Proofs.Ytdipignajccdcaa


/-! Wr5 -/
namespace Go.Proofs.Ytdipignajccdcaa
open Go Go.RowKit
set_option linter.unusedVariables false
attribute [local irreducible] kh

theorem rep_whole {r x : Int} {c : List Int} (h : rowOk r x c = true) : repK (newR r) x c = true ∧ rep (newR r) x c = whole r x c := by
  have hk : repK (newR r) x c = true := by unfold repK; rw [hasR_new]; exact h
  exact ⟨hk, by unfold rep whole; rw [if_pos hk]⟩
theorem newR_tot (r : Int) : tot (newR r) ≤ 1600 := by
  have h1 := newR_fl r
  have h2 : (newR r).length ≤ 64 := by unfold newR; split <;> simp; omega
  unfold tot; omega


set_option maxRecDepth 20000 in
set_option maxHeartbeats 8000000 in
/-- spec.ExplainWrite -/
theorem spec_exw {l1 l2 : Nat} {e0 : TypeId} {w : World} {v u : Value} {zs : List VDatabase} {r x : Int} {c : List Int} (hv : (sliceT e0 tyDatabase).rd l1 w [v] zs) (hu : Rd l2 .u8 w u c) (hl1 : l1 ≤ w.heap.size) (hl2 : l2 ≤ w.heap.size) (hr : (Lit.int .i64 r).wf = true) (hx : (Lit.int .i64 x).wf = true) (hm : totL tyDatabase zs ≤ 1099511627776) :
    Calls Try.prog 35 #[v, .int .i64 r, .int .i64 x, u] w fun e w' => ∃ v', e = .returned (.tuple #[.agg #[v'], .bool (exwK zs r x c)]) ∧ Own2 22 5 .u8 (ival w.heap.size w'.heap.size) w' v' (exw zs r x c) ∧ Below w.heap.size w w' := by
  obtain ⟨av, cv, hv1, hv2, hv3, hvc⟩ := sl_open hv
  have hv1 := (List.cons.inj hv1).1
  subst hv1
  have hb0 := (Below.refl w.heap.size w).alloc (Nat.le_refl _) (.cells #[.slice none 0 0] 39)
  have ha0 := heap_alloc_new w (.cells #[.slice none 0 0] 39)
  have hz0 : (w.alloc (.cells #[.slice none 0 0] 39)).heap.size = w.heap.size + 1 := by simp
  obtain ⟨W0, hW0⟩ : ∃ W, W = w.alloc (.cells #[.slice none 0 0] 39) := ⟨_, rfl⟩
  rw [← hW0] at hb0 ha0 hz0
  have HB := Lib.hid hb0
  have HR := Lib.hid ha0
  have HW0 := Lib.hid hW0
  have HZ0 := Lib.hid hz0
  clear hb0 ha0 hW0 hz0
  have HU := Lib.hid (hu.behind (HB.out.mono hl2))
  obtain ⟨n, hn⟩ : ∃ n, n = zs.length := ⟨_, rfl⟩
  have HN := Lib.hid hn
  have HNs : Hid (∀ (j : Nat) (x : VDatabase), zs[j]? = some x → tot x ≤ 1099511627776) := Lib.hid (fun j x hx => Nat.le_trans (tot_mem hx) hm)
  have hn40 : n ≤ 1099511627776 := by have := totL_eq tyDatabase zs; omega
  have HRw := Lib.hid hr
  have HXw := Lib.hid hx
  have HVC := Lib.hid hvc
  rw [← hn] at HVC hv2 ⊢
  unfold maxLen at hv3
  clear hv hvc hm hu hr hx
  obtain ⟨ok, hok⟩ : ∃ q, q = rowOk r x c := ⟨_, rfl⟩
  have HOk := Lib.hid hok
  clear hok
  cases ok with
  | false =>
    have HE : Hid (exwK zs r x c = false) := Lib.hid (by unfold exwK; rw [← HOk.out]; rfl)
    have HE2 := Lib.hid (exw_no HE.out)
    rw [HE.out, HE2.out]
    go_enter Try.func35, Try.ntmps35
    go_wp2_with fail
    rw [← HW0.out]
    refine (row_any HU.out HRw.out HXw.out).mono ?_
    rw [← HOk.out]
    rintro e w1 ⟨rfl, hw1⟩
    obtain rfl : W0 = w1 := hw1.symm
    have cA := blk_cell HR.out 0
    have fA := blk_free HR.out 0
    rw [one0] at cA
    go_wp2_with fail
    clear cA fA
    obtain ⟨s1, s2, s3⟩ := store1 HR.out (.slice none 0 0)
    obtain ⟨w8, hw8⟩ : ∃ w8, w8 = W0.setCell ⟨w.heap.size, 0, none⟩ (.slice none 0 0) := ⟨_, rfl⟩
    rw [← hw8] at s1 s2 s3 ⊢
    have Q2 := Lib.hid (HB.out.trans (s3.below (B := w.heap.size) (fun b hb => by omega) HB.out.size))
    clear hw8 s1 s3
    exact bodyPost_ret (v := .tuple #[.agg #[.slice none 0 0], .bool false]) (by simp [results, Try.results35, go_sem, s2]) rfl ⟨_, rfl, Own2.nil _ _ _ _ _, Q2.out⟩
  | true =>
    by_cases h0 : n = 0
    · have HE : Hid (exwK zs r x c = false) := Lib.hid (by unfold exwK; rw [← HN.out, decide_eq_false (by omega), Bool.and_false]; rfl)
      have HE2 := Lib.hid (exw_no HE.out)
      have e0 : ((n : Int) == 0) = true := by rw [h0]; rfl
      rw [HE.out, HE2.out]
      clear h0 hn
      go_enter Try.func35, Try.ntmps35
      go_wp2_with fail
      rw [← HW0.out]
      refine (row_any HU.out HRw.out HXw.out).mono ?_
      rw [← HOk.out]
      rintro e w1 ⟨rfl, hw1⟩
      obtain rfl : W0 = w1 := hw1.symm
      have cA := blk_cell HR.out 0
      have fA := blk_free HR.out 0
      rw [one0] at cA
      go_wp2_with fail
      clear cA fA
      obtain ⟨s1, s2, s3⟩ := store1 HR.out (.slice none 0 0)
      obtain ⟨w8, hw8⟩ : ∃ w8, w8 = W0.setCell ⟨w.heap.size, 0, none⟩ (.slice none 0 0) := ⟨_, rfl⟩
      rw [← hw8] at s1 s2 s3 ⊢
      have Q2 := Lib.hid (HB.out.trans (s3.below (B := w.heap.size) (fun b hb => by omega) HB.out.size))
      clear hw8 s1 s3
      exact bodyPost_ret (v := .tuple #[.agg #[.slice none 0 0], .bool false]) (by simp [results, Try.results35, go_sem, s2]) rfl ⟨_, rfl, Own2.nil _ _ _ _ _, Q2.out⟩
    have e0 : ((n : Int) == 0) = false := by rw [beq_eq_false_iff_ne]; omega
    obtain ⟨z0, hz0⟩ : ∃ z, z = whole r x c := ⟨_, rfl⟩
    have HE : Hid (exwK zs r x c = adK z0 zs) := Lib.hid (by unfold exwK; rw [← HOk.out, ← HN.out, decide_eq_true h0, hz0]; rfl)
    have HE2 : Hid (exw zs r x c = ad z0 zs) := Lib.hid (by unfold exw ad; rw [HE.out, hz0])
    have HWr := Lib.hid (rep_whole HOk.out.symm)
    have HTn : Hid (tot (newR r) ≤ 1099511627776) := Lib.hid (Nat.le_trans (newR_tot r) (by decide))
    have HCl : Hid (c.length ≤ 1099511627776) := Lib.hid (by have := (rowOk_iff.1 HOk.out.symm).2.2; omega)
    have HNa : Hid (tot z0 ≤ 1099511627776) := Lib.hid (by rw [hz0]; exact Nat.le_trans (vd_fl (whole_vd HOk.out.symm)) (by decide))
    have HZe := Lib.hid hz0
    rw [HE.out, HE2.out]
    clear h0 hn hz0
    go_enter Try.func35, Try.ntmps35
    go_wp2_with fail
    rw [← HW0.out]
    refine (row_any HU.out HRw.out HXw.out).mono ?_
    rw [← HOk.out]
    rintro e w1 ⟨rfl, hw1⟩
    obtain rfl : W0 = w1 := hw1.symm
    go_wp2_with fail
    refine (spec_new HRw.out).mono ?_
    rintro e w1 ⟨v1, rfl, h1, hb⟩
    have H1 := Lib.hid h1.rd2
    have HU1 := Lib.hid (HU.out.behind (hb.mono (Nat.le_trans hl2 HB.out.size)))
    have HLe : Hid (l2 ≤ w1.heap.size) := Lib.hid (Nat.le_trans (Nat.le_trans hl2 HB.out.size) hb.size)
    replace HR := Lib.hid ((hb.block _ (lt_of_block HR.out)).trans HR.out)
    replace HB := Lib.hid (HB.out.trans (hb.mono HB.out.size))
    clear h1 hb
    go_wp2_with fail
    refine (spec_rep H1.out HU1.out (Nat.le_refl _) HLe.out HXw.out HTn.out HCl.out).mono ?_
    rw [HWr.out.1, HWr.out.2, ← HZe.out]
    rintro e w4 ⟨v4, rfl, h4, hb4⟩
    obtain ⟨a4, c4, hv4, _⟩ := h4.open
    obtain ⟨n4, hn4⟩ : ∃ n, n = z0.length := ⟨_, rfl⟩
    rw [← hn4] at hv4
    subst hv4
    obtain ⟨D, hD⟩ : ∃ D, D = w4.heap.size := ⟨_, rfl⟩
    have HO4 : Hid (Own2 22 5 .u8 (ival w1.heap.size D) (w4.alloc (.cells #[.slice a4 n4 c4] 39)) (.slice a4 n4 c4) z0) := Lib.hid (by rw [hD]; exact h4.alloc (.cells #[.slice a4 n4 c4] 39))
    have HDw : Hid (w.heap.size < D) := Lib.hid (by rw [hD]; exact Nat.lt_of_lt_of_le (lt_of_block HR.out) hb4.size)
    have HD : Hid ((w4.alloc (.cells #[.slice a4 n4 c4] 39)).heap[D]? = some (.cells #[.slice a4 n4 c4] 39)) := Lib.hid (by rw [hD]; exact heap_alloc_new w4 (.cells #[.slice a4 n4 c4] 39))
    have HZ4 : Hid ((w4.alloc (.cells #[.slice a4 n4 c4] 39)).heap.size = D + 1 ∧ w.heap.size + 1 ≤ w1.heap.size) := Lib.hid ⟨by rw [hD]; simp, lt_of_block HR.out⟩
    replace HR := Lib.hid ((heap_alloc_old w4 (.cells #[.slice a4 n4 c4] 39) (Nat.lt_of_lt_of_le (lt_of_block HR.out) hb4.size)).trans ((hb4.block _ (lt_of_block HR.out)).trans HR.out))
    replace HB := Lib.hid ((HB.out.trans (hb4.mono HB.out.size)).alloc (Nat.le_trans HB.out.size hb4.size) (.cells #[.slice a4 n4 c4] 39))
    have cD : (w4.alloc (.cells #[.slice a4 n4 c4] 39)).cell? ⟨w4.heap.size, 0, none⟩ = some (.slice a4 n4 c4) := blk_cell (heap_alloc_new w4 (.cells #[.slice a4 n4 c4] 39)) 0
    clear h4 hb4 hn4
    go_wp2_with fail
    rw [← hD]
    clear cD hD
    go_loopw [12] (fun i wr => ∃ (j : Nat) (s : Value) (F : Nat → Prop), i = .int .i64 j ∧ 0 ≤ j ∧ j ≤ n ∧ adK z0 ((zs).take j) = true ∧ Own2 22 5 .u8 F wr s (adF z0 ((zs).take j)) ∧
      (∀ b, F b → w.heap.size + 1 ≤ b ∧ b < wr.heap.size ∧ b ≠ D) ∧ wr.heap[w.heap.size]? = some (.cells #[.slice none 0 0] 39) ∧ wr.heap[D]? = some (.cells #[s] 39 ) ∧ Below w.heap.size w wr) (fun i _ => n - (intOf i).toNat)
    case atStart => exact ⟨0, _, ival w1.heap.size D, rfl, Nat.le_refl _, Nat.zero_le _, rfl, HO4.out, fun b hb => by have h := HZ4.out; unfold ival at hb; omega, HR.out, HD.out, HB.out⟩
    case round =>
      obtain ⟨j, s, F, rfl, hjq, hj, hK, hO, hF, hR, hD, hB⟩ := hrel
      replace HR := Lib.hid hR
      replace HD := Lib.hid hD
      replace HB := Lib.hid hB
      have HK := Lib.hid hK
      have HF := Lib.hid hF
      have HO := Lib.hid hO
      obtain ⟨aq, cq, hs0, _⟩ := hO.open
      obtain ⟨nq, hnq⟩ : ∃ n, n = (adF z0 ((zs).take j)).length := ⟨_, rfl⟩
      rw [← hnq] at hs0
      subst hs0
      have HJq : Hid ((j + 1) = j + 1) := Lib.hid (by omega)
      clear hnq hK hO hF hR hD hB
      by_cases hlt : j < n
      · have e1 : decide ((j : Int) < (n : Int)) = true := by simp; omega
        have hjn : (j : Int) < (n : Int) := by omega
        obtain ⟨b, o, hab, hbl, hcell⟩ := HVC.out (by omega)
        subst hab
        obtain ⟨x, hx⟩ : ∃ x, zs[j]? = some x := ⟨_, List.getElem?_eq_getElem (by rw [← HN.out]; exact hlt)⟩
        obtain ⟨c, hr, hcl⟩ := hcell wr (HB.out.mono hl1) j x hx
        have hcl : ∀ (k : Nat) (y : Value), c[k]? = some y → wr.cell? ⟨b, o + (j + k), none⟩ = some y := fun k y hy => by have := hcl k y hy; rwa [show j * tyDatabase.sz = j from Nat.mul_one j] at this
        have hxl : (zs)[j]? = some x := hx
        have HTx := Lib.hid (HNs.out j x hx)
        have HTf := Lib.hid (adF_take (u := z0) hxl)
        have HTk := Lib.hid (adK_take hxl HK.out)
        have HTs := Lib.hid (adF_tot_le (N := 1099511627776) HK.out (by decide) HNa.out)
        obtain ⟨a0, c0, rfl, hr'⟩ := rd_Database hr
        have hrx : Rd2 l1 .u8 wr (.slice a0 x.length c0) x := rd2_of_sl2 hr'
        obtain ⟨nx, hnx⟩ : ∃ n, n = x.length := ⟨_, rfl⟩
        rw [← hnx] at hrx hcl
        have k0 : wr.cell? ⟨b, o + j, none⟩ = some (.slice a0 nx c0) := hcl 0 _ rfl
        have HBl : Hid (b < wr.heap.size ∧ l1 ≤ wr.heap.size) := Lib.hid (by have := HB.out.size; omega)
        have HS : Hid (∀ w', Below wr.heap.size wr w' → w'.cell? ⟨D, 0, none⟩ = some (.slice aq nq cq) ∧ w'.cell? ⟨b, o + j, none⟩ = some (.slice a0 nx c0)) := Lib.hid (fun w' hb => ⟨blk_cell ((hb.block _ (lt_of_block HD.out)).trans HD.out) 0, (hb.cell (p := ⟨b, o + j, none⟩) HBl.out.1).trans k0⟩)
        have d0 := HS.out wr.drew (Below.refl _ _).drew
        obtain ⟨wd, hwd⟩ : ∃ x, x = wr.drew := ⟨_, rfl⟩
        have HWd0 := Lib.hid hwd
        have HWd : Hid (wr.heap.size = wd.heap.size) := Lib.hid (by rw [hwd]; rfl)
        have HBd : Hid (Below wr.heap.size wr wd) := Lib.hid (by rw [hwd]; exact (Below.refl _ _).drew)
        have HSd : Hid (∀ w', Below wd.heap.size wd w' → w'.cell? ⟨D, 0, none⟩ = some (.slice aq nq cq) ∧ w'.cell? ⟨b, o + j, none⟩ = some (.slice a0 nx c0)) := Lib.hid (fun w' hb => HS.out w' (HBd.out.trans (by rw [HWd.out]; exact hb)))
        have HOd : Hid (Own2 22 5 .u8 F wd (.slice aq nq cq) (adF z0 ((zs).take j))) := Lib.hid (HO.out.next HBd.out)
        have HRxd : Hid (Rd2 l1 .u8 wd (.slice a0 nx c0) x) := Lib.hid (hrx.behind (HBd.out.mono HBl.out.2))
        have HLd : Hid (l1 ≤ wd.heap.size) := Lib.hid (by rw [← HWd.out]; exact HBl.out.2)
        clear hcell hcl hr hr' hrx hx hxl hnx hwd
        go_wp2_with fail
        refine region_till (fun w' => w'.cell? ⟨D, 0, none⟩ = some (.slice aq nq cq) ∧ w'.cell? ⟨b, o + j, none⟩ = some (.slice a0 nx c0)) 11 (by kernel_rfl) ?_
        
        apply Till.take (i := 0) [0, 5, 6, 8, 11]
        · simp only [List.getElem?_toArray, List.getElem?_cons_zero]
          rfl
        · kernel_rfl
        · kernel_rfl
        · kernel_rfl
        · kernel_rfl
        · exact fun _ _ _ h => h
        · first
            | exact Or.inr ⟨by rfl, rfl⟩
            | (refine Or.inl ⟨by rfl, fun wq hwq => ?_⟩
               dsimp only at hwq
               go_simp
               first
                 | done
                 | rfl)
        · exact d0
        simp only [Act.put, List.setIfInBounds_toArray, List.set_cons_zero, List.set_cons_succ]
        apply Till.take (i := 1) [1, 3, 4, 5, 6, 8, 11]
        · simp only [List.getElem?_toArray, List.getElem?_cons_succ, List.getElem?_cons_zero]
          rfl
        · kernel_rfl
        · kernel_rfl
        · kernel_rfl
        · kernel_rfl
        · exact fun _ _ _ h => h
        · first
            | exact Or.inr ⟨by rfl, rfl⟩
            | (refine Or.inl ⟨by rfl, fun wq hwq => ?_⟩
               dsimp only at hwq
               go_simp
               first
                 | done
                 | rfl)
        · exact d0
        simp only [Act.put, List.setIfInBounds_toArray, List.set_cons_zero, List.set_cons_succ]
        apply Till.take (i := 2) [2, 3, 4, 5, 6, 8, 11]
        · simp only [List.getElem?_toArray, List.getElem?_cons_succ, List.getElem?_cons_zero]
          rfl
        · kernel_rfl
        · kernel_rfl
        · kernel_rfl
        · kernel_rfl
        · exact fun _ _ _ h => h
        · first
            | exact Or.inr ⟨by rfl, rfl⟩
            | (refine Or.inl ⟨by rfl, fun wq hwq => ?_⟩
               dsimp only at hwq
               go_simp
               first
                 | done
                 | rfl)
        · exact d0
        simp only [Act.put, List.setIfInBounds_toArray, List.set_cons_zero, List.set_cons_succ]
        apply Till.take (i := 3) [3, 4, 5, 6, 8, 11]
        · simp only [List.getElem?_toArray, List.getElem?_cons_succ, List.getElem?_cons_zero]
          rfl
        · kernel_rfl
        · kernel_rfl
        · kernel_rfl
        · kernel_rfl
        · exact fun _ _ _ h => h
        · first
            | exact Or.inr ⟨by rfl, rfl⟩
            | (refine Or.inl ⟨by rfl, fun wq hwq => ?_⟩
               dsimp only at hwq
               go_simp
               first
                 | done
                 | rfl)
        · exact d0
        simp only [Act.put, List.setIfInBounds_toArray, List.set_cons_zero, List.set_cons_succ]
        apply Till.take (i := 4) [4, 5, 6, 8, 11]
        · simp only [List.getElem?_toArray, List.getElem?_cons_succ, List.getElem?_cons_zero]
          rfl
        · kernel_rfl
        · kernel_rfl
        · kernel_rfl
        · kernel_rfl
        · exact fun _ _ _ h => h
        · first
            | exact Or.inr ⟨by rfl, rfl⟩
            | (refine Or.inl ⟨by rfl, fun wq hwq => ?_⟩
               dsimp only at hwq
               go_simp
               first
                 | done
                 | rfl)
        · exact d0
        simp only [Act.put, List.setIfInBounds_toArray, List.set_cons_zero, List.set_cons_succ]
        
        rw [← HWd0.out]
        apply Till.two (i := 5) (j := 9)
        · kernel_rfl
        · simp only [List.getElem?_toArray, List.getElem?_cons_succ, List.getElem?_cons_zero]
          rfl
        · simp only [List.getElem?_toArray, List.getElem?_cons_succ, List.getElem?_cons_zero]
          rfl
        · intro K hK
          go_simp
          refine (spec_xd HOd.out.rd2 HRxd.out (Nat.le_refl _) HLd.out HTs.out HTx.out).mono ?_
          rw [← HTk.out, HTf.out]
          rintro e' w2 ⟨v2, he, h2, hb⟩
          subst he
          obtain ⟨a2, c2, hv2', _⟩ := h2.open
          obtain ⟨n2, hn2⟩ : ∃ n, n = (adF z0 ((zs).take (j + 1))).length := ⟨_, rfl⟩
          rw [← hn2] at hv2'
          subst hv2'
          obtain ⟨ok, hok⟩ : ∃ q, q = adK z0 ((zs).take (j + 1)) := ⟨_, rfl⟩
          rw [← hok]
          have HOk := Lib.hid hok
          clear hn2 hok
          have HO2 := Lib.hid (h2.alloc (.cells #[.slice none 0 0] 39))
          have HX1 := Lib.hid (heap_alloc_new w2 (.cells #[.slice none 0 0] 39))
          have HBA : Hid (Below wd.heap.size wd (w2.alloc (.cells #[.slice none 0 0] 39))) := Lib.hid (hb.alloc hb.size (.cells #[.slice none 0 0] 39))
          have HZw := Lib.hid hb.size
          have d2 := HSd.out w2 hb
          have d3 := HSd.out _ HBA.out
          clear h2 hb
          refine hK.out _ _ (Or.inr d2) ?_
          clear hK K
          try simp only [Act.put, List.setIfInBounds_toArray, List.set_cons_zero, List.set_cons_succ]
          apply Till.take (i := 6) [6, 8, 11]
          · simp only [List.getElem?_toArray, List.getElem?_cons_succ, List.getElem?_cons_zero]
            rfl
          · kernel_rfl
          · kernel_rfl
          · kernel_rfl
          · kernel_rfl
          · exact fun _ _ _ h => h
          · first
              | exact Or.inr ⟨by rfl, rfl⟩
              | (refine Or.inl ⟨by rfl, fun wq hwq => ?_⟩
                 dsimp only at hwq
                 go_simp
                 first
                   | done
                   | rfl)
          · exact d2
          simp only [Act.put, List.setIfInBounds_toArray, List.set_cons_zero, List.set_cons_succ]
          apply Till.take (i := 7) [7, 10, 11]
          · simp only [List.getElem?_toArray, List.getElem?_cons_succ, List.getElem?_cons_zero]
            rfl
          · kernel_rfl
          · kernel_rfl
          · kernel_rfl
          · kernel_rfl
          · exact fun _ _ _ h => h
          · first
              | exact Or.inr ⟨by rfl, rfl⟩
              | (refine Or.inl ⟨by rfl, fun wq hwq => ?_⟩
                 dsimp only at hwq
                 go_simp
                 first
                   | done
                   | rfl)
          · exact d2
          simp only [Act.put, List.setIfInBounds_toArray, List.set_cons_zero, List.set_cons_succ]
          apply Till.take (i := 8) [8, 11]
          · simp only [List.getElem?_toArray, List.getElem?_cons_succ, List.getElem?_cons_zero]
            rfl
          · kernel_rfl
          · kernel_rfl
          · kernel_rfl
          · kernel_rfl
          · exact fun _ _ _ h => h
          · first
              | exact Or.inr ⟨by rfl, rfl⟩
              | (refine Or.inl ⟨by rfl, fun wq hwq => ?_⟩
                 dsimp only at hwq
                 go_simp
                 first
                   | done
                   | rfl)
          · exact d2
          simp only [Act.put, List.setIfInBounds_toArray, List.set_cons_zero, List.set_cons_succ]
          apply Till.one (i := 9)
          · kernel_rfl
          · simp only [List.getElem?_toArray, List.getElem?_cons_succ, List.getElem?_cons_zero]
            rfl
          intro K hK
          go_simp
          skip
          refine hK.out _ _ (Or.inr d3) ?_
          clear hK K
          try simp only [Act.put, List.setIfInBounds_toArray, List.set_cons_zero, List.set_cons_succ]
          clear d2
          obtain ⟨w3, hw3⟩ : ∃ x, x = w2.alloc (.cells #[.slice none 0 0] 39) := ⟨_, rfl⟩
          have HE3 : Hid (wr.heap.size ≤ w2.heap.size ∧ w2.heap.size < w3.heap.size) := Lib.hid (by rw [hw3]; have h1 := HZw.out; have h2 := HWd.out; simp; omega)
          have HF3 : Hid (∀ b, ival wd.heap.size w2.heap.size b → wr.heap.size ≤ b ∧ b < w3.heap.size ∧ b ≠ w2.heap.size) := Lib.hid (fun b hb => by rw [hw3]; have h2 := HWd.out; unfold ival at hb; simp; omega)
          have HB3 : Hid (Below wr.heap.size wr w3) := Lib.hid (by rw [hw3]; have h := HBA.out; rw [← HWd.out] at h; exact HBd.out.trans h)
          rw [← hw3] at HO2 HX1 d3 ⊢
          obtain ⟨E, hE⟩ : ∃ x, x = w2.heap.size := ⟨_, rfl⟩
          obtain ⟨F3, hF3⟩ : ∃ F, F = ival wd.heap.size w2.heap.size := ⟨_, rfl⟩
          rw [← hF3] at HO2 HF3
          rw [← hE] at HX1 HE3 HF3 ⊢
          have HO3 := HO2
          have HX := HX1
          clear hw3 hE hF3 HO2 HX1 HBA HZw d3
          have HD3 := Lib.hid ((HB3.out.block _ (lt_of_block HD.out)).trans HD.out)
          have HR3 := Lib.hid ((HB3.out.block _ (lt_of_block HR.out)).trans HR.out)
          have cE := blk_cell HX.out 0
          have fE := blk_free HX.out 0
          rw [one0] at cE
          obtain ⟨t1, t2, t3⟩ := store1 HX.out (.slice a2 n2 c2)
          have d4 : (w3.setCell ⟨E, 0, none⟩ (.slice a2 n2 c2)).cell? ⟨D, 0, none⟩ = some (.slice aq nq cq) ∧ (w3.setCell ⟨E, 0, none⟩ (.slice a2 n2 c2)).cell? ⟨b, o + j, none⟩ = some (.slice a0 nx c0) := ⟨blk_cell ((t3.block D (lt_of_block HD3.out) (fun e => by have h1 := lt_of_block HD.out; have h2 := HE3.out.1; omega)).trans HD3.out) 0, ((t3.block b (by have h1 := HB3.out.size; have h2 := HBl.out.1; omega) (fun e => by have h2 := HBl.out.1; have h3 := HE3.out.1; omega)) |> fun h => by have h4 := (HS.out w3 HB3.out).2; rw [World.cell?] at h4 ⊢; simp only [h]; exact h4)⟩
          have HX4 := Lib.hid t1
          have HK4 := Lib.hid t3
          clear t1 t2 t3
          apply Till.one (i := 10)
          · kernel_rfl
          · simp only [List.getElem?_toArray, List.getElem?_cons_succ, List.getElem?_cons_zero]
            rfl
          intro K hK
          go_simp
          skip
          refine hK.out _ _ (Or.inr d4) ?_
          clear hK K
          try simp only [Act.put, List.setIfInBounds_toArray, List.set_cons_zero, List.set_cons_succ]
          apply Till.one (i := 11)
          · kernel_rfl
          · simp only [List.getElem?_toArray, List.getElem?_cons_succ, List.getElem?_cons_zero]
            rfl
          intro K hK
          go_simp
          skip
          refine hK.out _ _ (Or.inl (by rfl)) ?_
          clear hK K
          try simp only [Act.put, List.setIfInBounds_toArray, List.set_cons_zero, List.set_cons_succ]
          refine Till.done (by kernel_rfl) ?_ _
          clear cE fE d4
          obtain ⟨w4, hw4⟩ : ∃ w4, w4 = w3.setCell ⟨E, 0, none⟩ (.slice a2 n2 c2) := ⟨_, rfl⟩
          rw [← hw4] at HX4 HK4 ⊢
          have HZ4 : Hid (w4.heap.size = w3.heap.size) := Lib.hid (by rw [hw4, World.setCell_size])
          have HD4 := Lib.hid ((HK4.out.block D (lt_of_block HD3.out) (fun e => by have h1 := lt_of_block HD.out; have h2 := HE3.out.1; omega)).trans HD3.out)
          have HR4 := Lib.hid ((HK4.out.block w.heap.size (lt_of_block HR3.out) (fun e => by have h1 := lt_of_block HR.out; have h2 := HE3.out.1; omega)).trans HR3.out)
          have HO4 := Lib.hid (HO3.out.keptF HK4.out (fun b hb e => (HF3.out b hb).2.2 e))
          have HB4 := Lib.hid ((HB.out.trans (HB3.out.mono HB.out.size)).trans (HK4.out.below (B := w.heap.size) (fun b hb => by have h1 := HE3.out.1; have h2 := HB.out.size; omega) (by have h1 := HB3.out.size; have h2 := HB.out.size; omega)))
          clear hw4 k0
          cases ok with
          | true =>
            have HKn := Lib.hid HOk.out.symm
            have cE := blk_cell HX4.out 0
            have cD := blk_cell HD4.out 0
            have fD := blk_free HD4.out 0
            rw [one0] at cE cD
            go_wp2_with fail
            clear cE cD fD
            obtain ⟨s1, s2, s3⟩ := store1 HD4.out (.slice a2 n2 c2)
            obtain ⟨w5, hw5⟩ : ∃ w5, w5 = w4.setCell ⟨D, 0, none⟩ (.slice a2 n2 c2) := ⟨_, rfl⟩
            rw [← hw5] at s1 s2 s3 ⊢
            have HZ5 : Hid (w5.heap.size = w4.heap.size) := Lib.hid (by rw [hw5, World.setCell_size])
            have H1 := Lib.hid s1
            have H3 := Lib.hid s3
            clear hw5 s1 s2 s3
            go_roundw
            case rel =>
              refine ⟨j + 1, _, F3, by simp, by omega, by omega, HKn.out, HO4.out.keptF H3.out (fun b hb e => by have h1 := (HF3.out b hb).1; have h2 := lt_of_block HD.out; omega), fun b hb => by have h1 := HF3.out b hb; have h2 := HZ5.out; have h3 := HZ4.out; have h4 := lt_of_block HD.out; have h5 := HDw.out; omega, (H3.out.block _ (lt_of_block HR4.out) (fun e => by have := HDw.out; omega)).trans HR4.out, H1.out, HB4.out.trans (H3.out.below (B := w.heap.size) (fun b hb => by have := HDw.out; omega) HB4.out.size)⟩
            case measure => simp [intOf]; omega
          | false =>
            have HKn := Lib.hid (adK_stop HOk.out.symm)
            have cR := blk_cell HR4.out 0
            have fR := blk_free HR4.out 0
            rw [one0] at cR
            go_wp2_with fail
            clear cR fR
            obtain ⟨s1, s2, s3⟩ := store1 HR4.out (.slice none 0 0)
            obtain ⟨w5, hw5⟩ : ∃ w5, w5 = w4.setCell ⟨w.heap.size, 0, none⟩ (.slice none 0 0) := ⟨_, rfl⟩
            rw [← hw5] at s1 s2 s3 ⊢
            have Q2 := Lib.hid (HB4.out.trans (s3.below (B := w.heap.size) (fun b hb => by omega) HB4.out.size))
            clear hw5 s1 s3
            exact bodyPost_ret (v := .tuple #[.agg #[.slice none 0 0], .bool false]) (by simp [results, Try.results35, go_sem, s2]) rfl ⟨_, by rw [HKn.out], by rw [ad_no HKn.out]; exact Own2.nil _ _ _ _ _, Q2.out⟩
        · intro K hK
          go_simp
          have HB1 : Hid (Below wd.heap.size wd (wd.alloc (.cells #[.slice none 0 0] 39))) := Lib.hid ((Below.refl _ _).alloc (Nat.le_refl _) (.cells #[.slice none 0 0] 39))
          have HX0 := Lib.hid (heap_alloc_new wd (.cells #[.slice none 0 0] 39))
          have d2 := HSd.out _ HB1.out
          refine hK.out _ _ (Or.inr d2) ?_
          clear hK K
          try simp only [Act.put, List.setIfInBounds_toArray, List.set_cons_zero, List.set_cons_succ]
          obtain ⟨w1, hw1⟩ : ∃ x, x = wd.alloc (.cells #[.slice none 0 0] 39) := ⟨_, rfl⟩
          have HZ1 : Hid (w1.heap.size = wd.heap.size + 1) := Lib.hid (by rw [hw1]; simp)
          rw [← hw1] at HB1 HX0 d2 ⊢
          obtain ⟨E, hE⟩ : ∃ x, x = wd.heap.size := ⟨_, rfl⟩
          have HE0 := Lib.hid hE
          rw [← hE] at HX0 ⊢
          clear hw1 hE
          apply Till.one (i := 5)
          · kernel_rfl
          · simp only [List.getElem?_toArray, List.getElem?_cons_succ, List.getElem?_cons_zero]
            rfl
          intro K hK
          go_simp
          refine (spec_xd (HOd.out.next HB1.out).rd2 (HRxd.out.behind (HB1.out.mono HLd.out)) (Nat.le_refl _) (Nat.le_trans HLd.out HB1.out.size) HTs.out HTx.out).mono ?_
          rw [← HTk.out, HTf.out]
          rintro e' w2 ⟨v2, he, h2, hb⟩
          subst he
          obtain ⟨a2, c2, hv2', _⟩ := h2.open
          obtain ⟨n2, hn2⟩ : ∃ n, n = (adF z0 ((zs).take (j + 1))).length := ⟨_, rfl⟩
          rw [← hn2] at hv2'
          subst hv2'
          obtain ⟨ok, hok⟩ : ∃ q, q = adK z0 ((zs).take (j + 1)) := ⟨_, rfl⟩
          rw [← hok]
          have HOk := Lib.hid hok
          clear hn2 hok
          have HX := Lib.hid ((hb.block _ (lt_of_block HX0.out)).trans HX0.out)
          have HB12 : Hid (Below wd.heap.size wd w2) := Lib.hid (HB1.out.trans (hb.mono HB1.out.size))
          have d3 := HSd.out w2 HB12.out
          have HO2 := Lib.hid h2
          have HZw := Lib.hid hb.size
          clear h2 hb d2
          refine hK.out _ _ (Or.inr d3) ?_
          clear hK K
          try simp only [Act.put, List.setIfInBounds_toArray, List.set_cons_zero, List.set_cons_succ]
          apply Till.take (i := 6) [6, 8, 11]
          · simp only [List.getElem?_toArray, List.getElem?_cons_succ, List.getElem?_cons_zero]
            rfl
          · kernel_rfl
          · kernel_rfl
          · kernel_rfl
          · kernel_rfl
          · exact fun _ _ _ h => h
          · first
              | exact Or.inr ⟨by rfl, rfl⟩
              | (refine Or.inl ⟨by rfl, fun wq hwq => ?_⟩
                 dsimp only at hwq
                 go_simp
                 first
                   | done
                   | rfl)
          · exact d3
          simp only [Act.put, List.setIfInBounds_toArray, List.set_cons_zero, List.set_cons_succ]
          apply Till.take (i := 7) [7, 10, 11]
          · simp only [List.getElem?_toArray, List.getElem?_cons_succ, List.getElem?_cons_zero]
            rfl
          · kernel_rfl
          · kernel_rfl
          · kernel_rfl
          · kernel_rfl
          · exact fun _ _ _ h => h
          · first
              | exact Or.inr ⟨by rfl, rfl⟩
              | (refine Or.inl ⟨by rfl, fun wq hwq => ?_⟩
                 dsimp only at hwq
                 go_simp
                 first
                   | done
                   | rfl)
          · exact d3
          simp only [Act.put, List.setIfInBounds_toArray, List.set_cons_zero, List.set_cons_succ]
          apply Till.take (i := 8) [8, 11]
          · simp only [List.getElem?_toArray, List.getElem?_cons_succ, List.getElem?_cons_zero]
            rfl
          · kernel_rfl
          · kernel_rfl
          · kernel_rfl
          · kernel_rfl
          · exact fun _ _ _ h => h
          · first
              | exact Or.inr ⟨by rfl, rfl⟩
              | (refine Or.inl ⟨by rfl, fun wq hwq => ?_⟩
                 dsimp only at hwq
                 go_simp
                 first
                   | done
                   | rfl)
          · exact d3
          simp only [Act.put, List.setIfInBounds_toArray, List.set_cons_zero, List.set_cons_succ]
          obtain ⟨w3, hw3⟩ : ∃ x, x = w2 := ⟨_, rfl⟩
          have HE3 : Hid (wr.heap.size ≤ E ∧ E < w3.heap.size) := Lib.hid (by rw [hw3, HE0.out]; have h1 := HZw.out; have h2 := HZ1.out; have h3 := HWd.out; omega)
          have HF3 : Hid (∀ b, ival w1.heap.size w2.heap.size b → wr.heap.size ≤ b ∧ b < w3.heap.size ∧ b ≠ E) := Lib.hid (fun b hb => by rw [hw3, HE0.out]; have h2 := HZ1.out; have h3 := HWd.out; unfold ival at hb; omega)
          have HB3 : Hid (Below wr.heap.size wr w3) := Lib.hid (by rw [hw3]; have h := HB12.out; rw [← HWd.out] at h; exact HBd.out.trans h)
          obtain ⟨F3, hF3⟩ : ∃ F, F = ival w1.heap.size w2.heap.size := ⟨_, rfl⟩
          rw [← hF3] at HO2 HF3
          rw [← hw3] at HO2 HX d3 ⊢
          have HO3 := HO2
          clear hw3 hF3 HO2 HB12 HZw d3
          have HD3 := Lib.hid ((HB3.out.block _ (lt_of_block HD.out)).trans HD.out)
          have HR3 := Lib.hid ((HB3.out.block _ (lt_of_block HR.out)).trans HR.out)
          have cE := blk_cell HX.out 0
          have fE := blk_free HX.out 0
          rw [one0] at cE
          obtain ⟨t1, t2, t3⟩ := store1 HX.out (.slice a2 n2 c2)
          have d4 : (w3.setCell ⟨E, 0, none⟩ (.slice a2 n2 c2)).cell? ⟨D, 0, none⟩ = some (.slice aq nq cq) ∧ (w3.setCell ⟨E, 0, none⟩ (.slice a2 n2 c2)).cell? ⟨b, o + j, none⟩ = some (.slice a0 nx c0) := ⟨blk_cell ((t3.block D (lt_of_block HD3.out) (fun e => by have h1 := lt_of_block HD.out; have h2 := HE3.out.1; omega)).trans HD3.out) 0, ((t3.block b (by have h1 := HB3.out.size; have h2 := HBl.out.1; omega) (fun e => by have h2 := HBl.out.1; have h3 := HE3.out.1; omega)) |> fun h => by have h4 := (HS.out w3 HB3.out).2; rw [World.cell?] at h4 ⊢; simp only [h]; exact h4)⟩
          have HX4 := Lib.hid t1
          have HK4 := Lib.hid t3
          clear t1 t2 t3
          apply Till.one (i := 10)
          · kernel_rfl
          · simp only [List.getElem?_toArray, List.getElem?_cons_succ, List.getElem?_cons_zero]
            rfl
          intro K hK
          go_simp
          skip
          refine hK.out _ _ (Or.inr d4) ?_
          clear hK K
          try simp only [Act.put, List.setIfInBounds_toArray, List.set_cons_zero, List.set_cons_succ]
          apply Till.one (i := 11)
          · kernel_rfl
          · simp only [List.getElem?_toArray, List.getElem?_cons_succ, List.getElem?_cons_zero]
            rfl
          intro K hK
          go_simp
          skip
          refine hK.out _ _ (Or.inl (by rfl)) ?_
          clear hK K
          try simp only [Act.put, List.setIfInBounds_toArray, List.set_cons_zero, List.set_cons_succ]
          refine Till.done (by kernel_rfl) ?_ _
          clear cE fE d4
          obtain ⟨w4, hw4⟩ : ∃ w4, w4 = w3.setCell ⟨E, 0, none⟩ (.slice a2 n2 c2) := ⟨_, rfl⟩
          rw [← hw4] at HX4 HK4 ⊢
          have HZ4 : Hid (w4.heap.size = w3.heap.size) := Lib.hid (by rw [hw4, World.setCell_size])
          have HD4 := Lib.hid ((HK4.out.block D (lt_of_block HD3.out) (fun e => by have h1 := lt_of_block HD.out; have h2 := HE3.out.1; omega)).trans HD3.out)
          have HR4 := Lib.hid ((HK4.out.block w.heap.size (lt_of_block HR3.out) (fun e => by have h1 := lt_of_block HR.out; have h2 := HE3.out.1; omega)).trans HR3.out)
          have HO4 := Lib.hid (HO3.out.keptF HK4.out (fun b hb e => (HF3.out b hb).2.2 e))
          have HB4 := Lib.hid ((HB.out.trans (HB3.out.mono HB.out.size)).trans (HK4.out.below (B := w.heap.size) (fun b hb => by have h1 := HE3.out.1; have h2 := HB.out.size; omega) (by have h1 := HB3.out.size; have h2 := HB.out.size; omega)))
          clear hw4 k0
          cases ok with
          | true =>
            have HKn := Lib.hid HOk.out.symm
            have cE := blk_cell HX4.out 0
            have cD := blk_cell HD4.out 0
            have fD := blk_free HD4.out 0
            rw [one0] at cE cD
            go_wp2_with fail
            clear cE cD fD
            obtain ⟨s1, s2, s3⟩ := store1 HD4.out (.slice a2 n2 c2)
            obtain ⟨w5, hw5⟩ : ∃ w5, w5 = w4.setCell ⟨D, 0, none⟩ (.slice a2 n2 c2) := ⟨_, rfl⟩
            rw [← hw5] at s1 s2 s3 ⊢
            have HZ5 : Hid (w5.heap.size = w4.heap.size) := Lib.hid (by rw [hw5, World.setCell_size])
            have H1 := Lib.hid s1
            have H3 := Lib.hid s3
            clear hw5 s1 s2 s3
            go_roundw
            case rel =>
              refine ⟨j + 1, _, F3, by simp, by omega, by omega, HKn.out, HO4.out.keptF H3.out (fun b hb e => by have h1 := (HF3.out b hb).1; have h2 := lt_of_block HD.out; omega), fun b hb => by have h1 := HF3.out b hb; have h2 := HZ5.out; have h3 := HZ4.out; have h4 := lt_of_block HD.out; have h5 := HDw.out; omega, (H3.out.block _ (lt_of_block HR4.out) (fun e => by have := HDw.out; omega)).trans HR4.out, H1.out, HB4.out.trans (H3.out.below (B := w.heap.size) (fun b hb => by have := HDw.out; omega) HB4.out.size)⟩
            case measure => simp [intOf]; omega
          | false =>
            have HKn := Lib.hid (adK_stop HOk.out.symm)
            have cR := blk_cell HR4.out 0
            have fR := blk_free HR4.out 0
            rw [one0] at cR
            go_wp2_with fail
            clear cR fR
            obtain ⟨s1, s2, s3⟩ := store1 HR4.out (.slice none 0 0)
            obtain ⟨w5, hw5⟩ : ∃ w5, w5 = w4.setCell ⟨w.heap.size, 0, none⟩ (.slice none 0 0) := ⟨_, rfl⟩
            rw [← hw5] at s1 s2 s3 ⊢
            have Q2 := Lib.hid (HB4.out.trans (s3.below (B := w.heap.size) (fun b hb => by omega) HB4.out.size))
            clear hw5 s1 s3
            exact bodyPost_ret (v := .tuple #[.agg #[.slice none 0 0], .bool false]) (by simp [results, Try.results35, go_sem, s2]) rfl ⟨_, by rw [HKn.out], by rw [ad_no HKn.out]; exact Own2.nil _ _ _ _ _, Q2.out⟩
      · have e1 : decide ((j : Int) < (n : Int)) = false := by simp; omega
        have ej : (zs).take j = zs := List.take_of_length_le (by have := HN.out; simp; omega)
        rw [ej] at HK HO
        have cS := blk_cell HD.out 0
        have cR := blk_cell HR.out 0
        have fR := blk_free HR.out 0
        rw [one0] at cS cR
        clear ej
        go_wp2_with fail
        clear cS cR fR
        obtain ⟨s1, s2, s3⟩ := store1 HR.out (.slice aq nq cq)
        obtain ⟨w3, hw3⟩ : ∃ w3, w3 = wr.setCell ⟨w.heap.size, 0, none⟩ (.slice aq nq cq) := ⟨_, rfl⟩
        rw [← hw3] at s1 s2 s3 ⊢
        have hs3 : w3.heap.size = wr.heap.size := by rw [hw3, World.setCell_size]
        have Q2 := Lib.hid (HB.out.trans (s3.below (B := w.heap.size) (fun b hb => by omega) HB.out.size))
        have Q1 : Hid (Own2 22 5 .u8 (ival w.heap.size w3.heap.size) w3 (.slice aq nq cq) (ad z0 (zs))) := Lib.hid (by
          rw [ad_yes HK.out]
          exact (HO.out.keptF s3 (fun b hb => by have := HF.out b hb; omega)).mono fun b hb => by have := HF.out b hb; unfold ival; omega)
        clear hw3 s1 s3
        have HE := HK.out
        exact bodyPost_ret (v := .tuple #[.agg #[.slice aq nq cq], .bool true]) (by simp [results, Try.results35, go_sem, s2]) rfl ⟨_, by rw [HE], Q1.out, Q2.out⟩

end Go.Proofs.Ytdipignajccdcaa


/-! Wr6 -/
namespace Go.Proofs.Ytdipignajccdcaa
open Go Go.RowKit
set_option linter.unusedVariables false
attribute [local irreducible] kh

theorem sdb_take_snoc {s : Int} {N k : Nat} (h : k < N) : (sdb s (N : Int)).take k ++ [srow s k] = (sdb s (N : Int)).take (k + 1) := by
  rw [List.take_add_one, sdb_get (by omega)]
  rfl
theorem sdbs_snoc {r : Int} {ss : List Int} {j : Nat} (h : j < ss.length) : sdbs r (ss.take j) ++ [sdb (ss.getD j 0) r] = sdbs r (ss.take (j + 1)) := by
  rw [← sdbs_take, ← sdbs_take, List.take_add_one, sdbs_get h]
  rfl
theorem adF_sdbs_snoc {z0 : List (List Int)} {r : Int} {ss : List Int} {j : Nat} (h : j < ss.length) : xd (adF z0 (sdbs r (ss.take j))) (sdb (ss.getD j 0) r) = adF z0 (sdbs r (ss.take (j + 1))) := by
  rw [← sdbs_snoc h, adF_snoc]


set_option maxRecDepth 20000 in
set_option maxHeartbeats 8000000 in
/-- spec.MakeWrite -/
theorem spec_mkw {l1 l2 : Nat} {w : World} {u v : Value} {r x : Int} {c ss : List Int} (hu : Rd l1 .u8 w u c) (hv : Rd l2 .i64 w v ss) (hl1 : l1 ≤ w.heap.size) (hl2 : l2 ≤ w.heap.size) (hr : (Lit.int .i64 r).wf = true) (hx : (Lit.int .i64 x).wf = true) (hs : ss.length ≤ 1099511627776) :
    Calls Try.prog 11 #[.int .i64 r, .int .i64 x, u, v] w fun e w' => ∃ v', e = .returned v' ∧ (sliceT 39 tyDatabase).own (ival w.heap.size w'.heap.size) w' [v'] (mkw r x c ss) ∧ Below w.heap.size w w' := by
  obtain ⟨i1, hi', hy0, hy1, hy2⟩ := info_parts infoDatabase
  have Hhi' := Lib.hid hi'
  obtain ⟨i0, hi, hz0, hz1, hz2⟩ := info_parts infou8s
  have Hhi := Lib.hid hi
  have hb0 := (Below.refl w.heap.size w).alloc (Nat.le_refl _) (.cells #[] 39)
  have hlit := slo_lit (w := w) (e := 39) (T := tyDatabase) (F := fun b => b = w.heap.size) rfl
  have hz0' : (w.alloc (.cells #[] 39)).heap.size = w.heap.size + 1 := by simp
  obtain ⟨W0, hW0⟩ : ∃ W, W = w.alloc (.cells #[] 39) := ⟨_, rfl⟩
  rw [← hW0] at hb0 hlit hz0'
  have HB := Lib.hid hb0
  have HLit := Lib.hid hlit
  have HW0 := Lib.hid hW0
  have HZ0 := Lib.hid hz0'
  clear hb0 hlit hW0 hz0' hi hi'
  have HU := Lib.hid (hu.behind (HB.out.mono hl1))
  have HV := Lib.hid hv
  have hlv := hv.len
  obtain ⟨a, cap, rfl, h1, h2, hcl⟩ := hv.open
  have Hcl := Lib.hid hcl
  unfold maxLen at h2 hlv
  have HRw := Lib.hid hr
  have HXw := Lib.hid hx
  clear hu hv hr hx hcl
  obtain ⟨ok, hok⟩ : ∃ q, q = rowOk r x c := ⟨_, rfl⟩
  have HOk := Lib.hid hok
  clear hok
  cases ok with
  | false =>
    have HE : Hid (mkw r x c ss = []) := Lib.hid (mkw_no (by unfold mkwK; rw [← HOk.out, Bool.false_and]))
    rw [HE.out]
    go_enter Try.func11, Try.ntmps11
    go_wp2_with fail
    rw [← HW0.out]
    refine (row_any HU.out HRw.out HXw.out).mono ?_
    rw [← HOk.out]
    rintro e w1 ⟨rfl, hw1⟩
    obtain rfl : W0 = w1 := hw1.symm
    go_wp2_with fail
    go_ret
    exact ⟨_, rfl, (sliceT 39 tyDatabase).omono HLit.out (fun b hb => by have := HZ0.out; unfold ival; omega), HB.out⟩
  | true =>
    have HWc : Hid ((Lit.int .i64 ((ss.length : Int) + 1)).wf = true) := Lib.hid (wf_i64_of (by omega) (by omega))
    have e9 : wrap64 ((ss.length : Int) + 1) = (ss.length : Int) + 1 := by unfold wrap64; omega
    by_cases hin : 1 ≤ ss.length ∧ ss.length ≤ 3
    case neg =>
      have HI : Hid (inR ((ss.length : Int) + 1) 2 4 = false) := Lib.hid (inR_no (by omega))
      have HE : Hid (mkw r x c ss = []) := Lib.hid (mkw_no (by unfold mkwK; rw [HI.out, Bool.and_false]))
      rw [HE.out]
      clear hin
      go_enter Try.func11, Try.ntmps11
      go_wp2_with fail
      rw [← HW0.out]
      refine (row_any HU.out HRw.out HXw.out).mono ?_
      rw [← HOk.out]
      rintro e w1 ⟨rfl, hw1⟩
      obtain rfl : W0 = w1 := hw1.symm
      go_wp2_with fail
      refine (count_any HWc.out).mono ?_
      rw [HI.out]
      rintro e w1 ⟨rfl, hw1⟩
      obtain rfl : W0 = w1 := hw1.symm
      go_wp2_with fail
      go_ret
      exact ⟨_, rfl, (sliceT 39 tyDatabase).omono HLit.out (fun b hb => by have := HZ0.out; unfold ival; omega), HB.out⟩
    have HI : Hid (inR ((ss.length : Int) + 1) 2 4 = true) := Lib.hid (inR_yes (by omega))
    have hrow := rowOk_iff.1 HOk.out.symm
    obtain ⟨N, rfl⟩ : ∃ N : Nat, r = (N : Int) := ⟨r.toNat, by omega⟩
    have hN : N ≤ 64 := by omega
    obtain ⟨z0, hz0'⟩ : ∃ z, z = whole (N : Int) x c := ⟨_, rfl⟩
    have HE : Hid (mkw (N : Int) x c ss = sdbs (N : Int) ss ++ [adF z0 (sdbs (N : Int) ss)]) := Lib.hid (by rw [mkw_yes (by unfold mkwK; rw [← HOk.out, HI.out]; rfl), hz0'])
    have HWr := Lib.hid (rep_whole HOk.out.symm)
    have HTn : Hid (tot (newR (N : Int)) ≤ 1099511627776) := Lib.hid (Nat.le_trans (newR_tot _) (by decide))
    have HCl : Hid (c.length ≤ 1099511627776) := Lib.hid (by omega)
    have HTz : Hid (∀ l, tot (adF z0 (sdbs (N : Int) l)) ≤ 1099511627776) := Lib.hid (fun l => by rw [hz0']; exact adF_tot_le (adK_sdbs HOk.out.symm l) (by decide) (Nat.le_trans (vd_fl (whole_vd HOk.out.symm)) (by decide)))
    have HTs : Hid (∀ s, tot (sdb s (N : Int)) ≤ 1099511627776) := Lib.hid (fun s => Nat.le_trans (vd_fl (sdb_vd (by omega) s)) (by decide))
    have HZe := Lib.hid hz0'
    have HIn := Lib.hid hin
    rw [HE.out]
    clear hin hrow hz0'
    go_enter Try.func11, Try.ntmps11
    go_wp2_with fail
    rw [← HW0.out]
    refine (row_any HU.out HRw.out HXw.out).mono ?_
    rw [← HOk.out]
    rintro e w1 ⟨rfl, hw1⟩
    obtain rfl : W0 = w1 := hw1.symm
    go_wp2_with fail
    refine (count_any HWc.out).mono ?_
    rw [HI.out]
    rintro e w1 ⟨rfl, hw1⟩
    obtain rfl : W0 = w1 := hw1.symm
    go_wp2_with fail
    refine (spec_new HRw.out).mono ?_
    rintro e w1 ⟨v1, rfl, h1', hb⟩
    have H1 := Lib.hid h1'.rd2
    have HU1 := Lib.hid (HU.out.behind (hb.mono (Nat.le_trans hl1 HB.out.size)))
    have HLe : Hid (l1 ≤ w1.heap.size) := Lib.hid (Nat.le_trans (Nat.le_trans hl1 HB.out.size) hb.size)
    have HLit1 := Lib.hid ((sliceT 39 tyDatabase).onext HLit.out hb)
    have HZ1 : Hid (w.heap.size + 1 ≤ w1.heap.size) := Lib.hid (by have := HZ0.out; have := hb.size; omega)
    replace HB := Lib.hid (HB.out.trans (hb.mono HB.out.size))
    clear h1' hb HLit
    go_wp2_with fail
    refine (spec_rep H1.out HU1.out (Nat.le_refl _) HLe.out HXw.out HTn.out HCl.out).mono ?_
    rw [HWr.out.1, HWr.out.2, ← HZe.out]
    rintro e w4 ⟨v4, rfl, h4, hb4⟩
    obtain ⟨a4, c4, hv4, _⟩ := h4.open
    obtain ⟨n4, hn4⟩ : ∃ n, n = z0.length := ⟨_, rfl⟩
    rw [← hn4] at hv4
    subst hv4
    obtain ⟨L, hL⟩ : ∃ D, D = w4.heap.size := ⟨_, rfl⟩
    have HO4 : Hid (Own2 22 5 .u8 (ival w1.heap.size L) (w4.alloc (.cells #[.slice a4 n4 c4] 39)) (.slice a4 n4 c4) z0) := Lib.hid (by rw [hL]; exact h4.alloc (.cells #[.slice a4 n4 c4] 39))
    have HLw : Hid (w1.heap.size ≤ L) := Lib.hid (by rw [hL]; exact hb4.size)
    have HD : Hid ((w4.alloc (.cells #[.slice a4 n4 c4] 39)).heap[L]? = some (.cells #[.slice a4 n4 c4] 39)) := Lib.hid (by rw [hL]; exact heap_alloc_new w4 (.cells #[.slice a4 n4 c4] 39))
    have HZ4 : Hid ((w4.alloc (.cells #[.slice a4 n4 c4] 39)).heap.size = L + 1) := Lib.hid (by rw [hL]; simp)
    have HLit4 := Lib.hid ((sliceT 39 tyDatabase).oalloc ((sliceT 39 tyDatabase).onext HLit1.out hb4) (.cells #[.slice a4 n4 c4] 39))
    replace HB := Lib.hid ((HB.out.trans (hb4.mono HB.out.size)).alloc (Nat.le_trans HB.out.size hb4.size) (.cells #[.slice a4 n4 c4] 39))
    have cD : (w4.alloc (.cells #[.slice a4 n4 c4] 39)).cell? ⟨w4.heap.size, 0, none⟩ = some (.slice a4 n4 c4) := blk_cell (heap_alloc_new w4 (.cells #[.slice a4 n4 c4] 39)) 0
    clear h4 hb4 hn4 HLit1
    go_wp2_with fail
    rw [← hL]
    clear cD hL
    go_loopw [9, 12] (fun so i wr => ∃ (j : Nat) (s : Value) (F G : Nat → Prop), i = .int .i64 j ∧ j ≤ ss.length ∧ (sliceT 39 tyDatabase).own F wr [so] (sdbs (N : Int) (ss.take j)) ∧ Own2 22 5 .u8 G wr s (adF z0 (sdbs (N : Int) (ss.take j))) ∧
      (∀ b, F b → w.heap.size ≤ b ∧ b < wr.heap.size ∧ b ≠ L ∧ ¬ G b) ∧ (∀ b, G b → w.heap.size ≤ b ∧ b < wr.heap.size ∧ b ≠ L) ∧ wr.heap[L]? = some (.cells #[s] 39 ) ∧ Below w.heap.size w wr) (fun _ i _ => ss.length - (intOf i).toNat)
    case atStart => exact ⟨0, _, _, _, rfl, Nat.zero_le _, HLit4.out, HO4.out, fun b hb => by have h1 := HZ1.out; have h2 := HLw.out; have h3 := HZ4.out; unfold ival; omega, fun b hb => by have h1 := HZ1.out; have h2 := HLw.out; have h3 := HZ4.out; unfold ival at hb; omega, HD.out, HB.out⟩
    case round =>
      obtain ⟨j, s, F, G, rfl, hj, hO, hS, hF, hG, hD, hB⟩ := hrel
      replace HD := Lib.hid hD
      replace HB := Lib.hid hB
      have HF := Lib.hid hF
      have HG := Lib.hid hG
      have HO := Lib.hid hO
      have HS := Lib.hid hS
      have HSo := Lib.hid (slo_in hO)
      obtain ⟨aq, cq, hs0, _⟩ := hS.open
      obtain ⟨nq, hnq⟩ : ∃ n, n = (adF z0 (sdbs (N : Int) (ss.take j))).length := ⟨_, rfl⟩
      rw [← hnq] at hs0
      subst hs0
      obtain ⟨ao, co, hso, _⟩ := slo_open hO
      have hso1 := (List.cons.inj hso).1
      clear hso
      obtain ⟨no, hno⟩ : ∃ n, n = (sdbs (N : Int) (ss.take j)).length := ⟨_, rfl⟩
      have hno3 : no ≤ 3 := by have := HIn.out; rw [hno, sdbs_len, List.length_take]; omega
      rw [← hno] at hso1
      subst hso1
      have HLo : Hid (((sdbs (N : Int) (ss.take j)).length + 1) * 24 ≤ 140737488355328) := Lib.hid (by rw [← hno]; omega)
      have HLw0 : Hid (w.heap.size ≤ L) := Lib.hid (by have h1 := HZ1.out; have h2 := HLw.out; omega)
      have HLw' : Hid (L < wr.heap.size) := Lib.hid (lt_of_block hD)
      clear hnq hO hS hF hG hD hB hno HLit4 HO4 HLw
      by_cases hlt : j < ss.length
      · obtain ⟨wo, hwo⟩ : ∃ x, x = wr := ⟨_, rfl⟩
        subst hwo
        have e1 : decide ((j : Int) < (ss.length : Int)) = true := by simp; omega
        have hjn : (j : Int) < (ss.length : Int) := by omega
        obtain ⟨bs, os, rfl, hbs, hcell⟩ := Hcl.out (by omega)
        have HZw := Lib.hid (HV.out.wf hlt)
        have HT1 := Lib.hid (adF_sdbs_snoc (z0 := z0) (r := (N : Int)) hlt)
        have HT2 := Lib.hid (sdbs_snoc (r := (N : Int)) hlt)
        have c1 := hcell wo (HB.out.mono hl2) j hlt
        obtain ⟨z, hz⟩ : ∃ z, z = ss.getD j 0 := ⟨_, rfl⟩
        rw [← hz] at HZw HT1 HT2 c1
        have HCz : Hid (∀ w', Below wo.heap.size wo w' → w'.cell? ⟨bs, os + j, none⟩ = some (.int .i64 z)) := Lib.hid (fun w' hb => (hb.cell (p := ⟨bs, os + j, none⟩) (by have := HB.out.size; show bs < _; omega)).trans c1)
        have hba := (Below.refl wo.heap.size wo).alloc (Nat.le_refl _) (.cells #[.slice none 0 0] 39)
        have hax := heap_alloc_new wo (.cells #[.slice none 0 0] 39)
        obtain ⟨W1, hW1⟩ : ∃ W, W = wo.alloc (.cells #[.slice none 0 0] 39) := ⟨_, rfl⟩
        have HZa : Hid (W1.heap.size = wo.heap.size + 1) := Lib.hid (by rw [hW1]; simp)
        rw [← hW1] at hba hax
        have HBa := Lib.hid hba
        have HAx := Lib.hid hax
        have HW1 := Lib.hid hW1
        obtain ⟨X, hX⟩ : ∃ X, X = wo.heap.size := ⟨_, rfl⟩
        have HX := Lib.hid hX
        rw [← hX] at HBa HAx HZa HCz HLw'
        clear hcell hz c1 hba hax hW1
        go_wp2_with fail
        rw [← HW1.out, ← hX]
        clear hX
        go_loopw [14] (fun i wr => ∃ (k : Nat) (s : Value) (H : Nat → Prop), i = .int .i64 k ∧ k ≤ N ∧ Own2 22 5 .u8 H wr s ((sdb z (N : Int)).take k) ∧ (∀ b, H b → X + 1 ≤ b ∧ b < wr.heap.size) ∧ wr.heap[X]? = some (.cells #[s] 39 ) ∧ Below X wo wr) (fun i _ => N - (intOf i).toNat)
        case atStart => exact ⟨0, _, fun _ => False, rfl, Nat.zero_le _, Own2.nil _ _ _ _ _, fun b hb => hb.elim, HAx.out, HBa.out⟩
        case round =>
          obtain ⟨k, sd, H, rfl, hk, hOd, hH, hXd, hBx⟩ := hrel
          have HOd := Lib.hid hOd
          have HH := Lib.hid hH
          have HXd := Lib.hid hXd
          have HBx := Lib.hid hBx
          obtain ⟨ad, cd, hsd, _⟩ := hOd.open
          have hkl : ((sdb z (N : Int)).take k).length = k := by rw [List.length_take, sdb_len]; omega
          rw [hkl] at hsd
          subst hsd
          have HXw' := Lib.hid (lt_of_block hXd)
          have HKl := Lib.hid hkl
          clear hOd hH hXd hBx hkl
          by_cases hlk : k < N
          · have e2 : decide ((k : Int) < (N : Int)) = true := by simp; omega
            obtain ⟨a', c', _⟩ : ∃ a c : Nat, True := ⟨0, 0, trivial⟩
            have HCs : Hid (∀ w', Below wr.heap.size wr w' → w'.cell? ⟨X, 0, none⟩ = some (.slice ad k cd) ∧ w'.cell? ⟨bs, os + j, none⟩ = some (.int .i64 z)) := Lib.hid (fun w' hb => ⟨blk_cell ((hb.block X HXw'.out).trans HXd.out) 0, HCz.out w' (HBx.out.trans (hb.mono (Nat.le_of_lt HXw'.out)))⟩)
            have d0 := HCs.out wr.drew (Below.refl _ _).drew
            have e7 : IntKind.i64.wrap (1000 * (k : Int)) = 1000 * (k : Int) := by rw [IntKind.wrap_i64]; omega
            have e8 : IntKind.i64.wrap (z + 1000 * (k : Int)) = wrap64 (z + 1000 * (k : Int)) := by
              rw [IntKind.wrap_i64]
              unfold wrap64
              first | rfl | omega
            have HWs : Hid ((Lit.int .i64 (wrap64 (z + 1000 * (k : Int)))).wf = true) := Lib.hid (by have := wrap64_bound (z + 1000 * (k : Int)); exact wf_i64_of this.1 this.2)
            have hjn' : j < ss.length := hlt
            have HLb : Hid ((((sdb z (N : Int)).take k).length + 1) * 24 ≤ 140737488355328) := Lib.hid (by rw [HKl.out]; omega)
            have HT := Lib.hid (sdb_take_snoc (s := z) hlk)
            clear a' c'
            go_wp2_with fail
            refine region_till (fun w' => w'.cell? ⟨X, 0, none⟩ = some (.slice ad k cd) ∧ w'.cell? ⟨bs, os + j, none⟩ = some (.int .i64 z)) 13 (by kernel_rfl) ?_
            apply Till.take (i := 0) [0, 1, 11, 13]
            · simp only [List.getElem?_toArray, List.getElem?_cons_zero]
              rfl
            · kernel_rfl
            · kernel_rfl
            · kernel_rfl
            · kernel_rfl
            · exact fun _ _ _ h => h
            · first
                | exact Or.inr ⟨by rfl, rfl⟩
                | (refine Or.inl ⟨by rfl, fun wq hwq => ?_⟩
                   dsimp only at hwq
                   go_simp
                   first
                     | done
                     | rfl)
            · exact d0
            simp only [Act.put, List.setIfInBounds_toArray, List.set_cons_zero, List.set_cons_succ]
            apply Till.take (i := 1) [1, 11, 13]
            · simp only [List.getElem?_toArray, List.getElem?_cons_succ, List.getElem?_cons_zero]
              rfl
            · kernel_rfl
            · kernel_rfl
            · kernel_rfl
            · kernel_rfl
            · exact fun _ _ _ h => h
            · first
                | exact Or.inr ⟨by rfl, rfl⟩
                | (refine Or.inl ⟨by rfl, fun wq hwq => ?_⟩
                   dsimp only at hwq
                   go_simp
                   first
                     | done
                     | rfl)
            · exact d0
            simp only [Act.put, List.setIfInBounds_toArray, List.set_cons_zero, List.set_cons_succ]
            apply Till.take (i := 2) [2, 4, 5, 8, 9, 10, 11, 13]
            · simp only [List.getElem?_toArray, List.getElem?_cons_succ, List.getElem?_cons_zero]
              rfl
            · kernel_rfl
            · kernel_rfl
            · kernel_rfl
            · kernel_rfl
            · exact fun _ _ _ h => h
            · first
                | exact Or.inr ⟨by rfl, rfl⟩
                | (refine Or.inl ⟨by rfl, fun wq hwq => ?_⟩
                   dsimp only at hwq
                   go_simp
                   first
                     | done
                     | rfl)
            · exact d0
            simp only [Act.put, List.setIfInBounds_toArray, List.set_cons_zero, List.set_cons_succ]
            apply Till.take (i := 3) [3, 4, 5, 8, 9, 10, 11, 13]
            · simp only [List.getElem?_toArray, List.getElem?_cons_succ, List.getElem?_cons_zero]
              rfl
            · kernel_rfl
            · kernel_rfl
            · kernel_rfl
            · kernel_rfl
            · exact fun _ _ _ h => h
            · first
                | exact Or.inr ⟨by rfl, rfl⟩
                | (refine Or.inl ⟨by rfl, fun wq hwq => ?_⟩
                   dsimp only at hwq
                   go_simp
                   first
                     | done
                     | rfl)
            · exact d0
            simp only [Act.put, List.setIfInBounds_toArray, List.set_cons_zero, List.set_cons_succ]
            apply Till.take (i := 4) [4, 5, 8, 9, 10, 11, 13]
            · simp only [List.getElem?_toArray, List.getElem?_cons_succ, List.getElem?_cons_zero]
              rfl
            · kernel_rfl
            · kernel_rfl
            · kernel_rfl
            · kernel_rfl
            · exact fun _ _ _ h => h
            · first
                | exact Or.inr ⟨by rfl, rfl⟩
                | (refine Or.inl ⟨by rfl, fun wq hwq => ?_⟩
                   dsimp only at hwq
                   go_simp
                   first
                     | done
                     | rfl)
            · exact d0
            simp only [Act.put, List.setIfInBounds_toArray, List.set_cons_zero, List.set_cons_succ]
            apply Till.take (i := 5) [5, 8, 9, 10, 11, 13]
            · simp only [List.getElem?_toArray, List.getElem?_cons_succ, List.getElem?_cons_zero]
              rfl
            · kernel_rfl
            · kernel_rfl
            · kernel_rfl
            · kernel_rfl
            · exact fun _ _ _ h => h
            · first
                | exact Or.inr ⟨by rfl, rfl⟩
                | (refine Or.inl ⟨by rfl, fun wq hwq => ?_⟩
                   dsimp only at hwq
                   go_simp
                   first
                     | done
                     | rfl)
            · exact d0
            simp only [Act.put, List.setIfInBounds_toArray, List.set_cons_zero, List.set_cons_succ]
            apply Till.take (i := 6) [6, 7, 8, 9, 10, 11, 13]
            · simp only [List.getElem?_toArray, List.getElem?_cons_succ, List.getElem?_cons_zero]
              rfl
            · kernel_rfl
            · kernel_rfl
            · kernel_rfl
            · kernel_rfl
            · exact fun _ _ _ h => h
            · first
                | exact Or.inr ⟨by rfl, rfl⟩
                | (refine Or.inl ⟨by rfl, fun wq hwq => ?_⟩
                   dsimp only at hwq
                   go_simp
                   first
                     | done
                     | rfl)
            · exact d0
            simp only [Act.put, List.setIfInBounds_toArray, List.set_cons_zero, List.set_cons_succ]
            apply Till.take (i := 7) (v := .int .i64 (1000 * (k : Int))) [7, 8, 9, 10, 11, 13]
            · simp only [List.getElem?_toArray, List.getElem?_cons_succ, List.getElem?_cons_zero]
              rfl
            · kernel_rfl
            · kernel_rfl
            · kernel_rfl
            · kernel_rfl
            · exact fun _ _ _ h => h
            · refine Or.inl ⟨by rfl, fun wq hwq => ?_⟩
              dsimp only at hwq
              go_simp
              first
                | done
                | rfl
                | (rw [e7]; rfl)
                | (rw [e8]; rfl)
                | rw [e7]
                | rw [e8]
            · exact d0
            simp only [Act.put, List.setIfInBounds_toArray, List.set_cons_zero, List.set_cons_succ]
            apply Till.take (i := 8) (v := .int .i64 (wrap64 (z + 1000 * (k : Int)))) [8, 9, 10, 11, 13]
            · simp only [List.getElem?_toArray, List.getElem?_cons_succ, List.getElem?_cons_zero]
              rfl
            · kernel_rfl
            · kernel_rfl
            · kernel_rfl
            · kernel_rfl
            · exact fun _ _ _ h => h
            · refine Or.inl ⟨by rfl, fun wq hwq => ?_⟩
              dsimp only at hwq
              go_simp
              first
                | done
                | rfl
                | (rw [e7]; rfl)
                | (rw [e8]; rfl)
                | rw [e7]
                | rw [e8]
            · exact d0
            simp only [Act.put, List.setIfInBounds_toArray, List.set_cons_zero, List.set_cons_succ]
            apply Till.one (i := 9)
            · kernel_rfl
            · simp only [List.getElem?_toArray, List.getElem?_cons_succ, List.getElem?_cons_zero]
              rfl
            intro K hK
            go_simp
            refine (spec_sb HWs.out (by decide)).mono ?_
            rw [show strm (wrap64 (z + 1000 * (k : Int))) 24 = srow z k from rfl]
            rintro e' w5 ⟨v5, he, h5, hb5⟩
            subst he
            obtain ⟨a5, c5, hv5, _⟩ := h5.open
            rw [srow_len] at hv5
            subst hv5
            have hb5' : Below wr.heap.size wr w5 := (Below.refl _ _).drew.trans hb5
            have hb6 := hb5'.alloc hb5'.size (.cells #[.slice a5 24 c5] 22)
            have HB6 := Lib.hid hb6
            have h5' : Own 5 .u8 wr.heap.size w5 (.slice a5 24 c5) (srow z k) := h5
            have HR5 := Lib.hid (h5'.alloc (.cells #[.slice a5 24 c5] 22))
            have HO5 := Lib.hid ((HOd.out.next hb5').alloc (.cells #[.slice a5 24 c5] 22))
            have HS5 := Lib.hid hb5'.size
            have d5 := HCs.out w5 hb5'
            have d6 := HCs.out _ hb6
            have HFn : Hid (∀ r, (Value.slice a5 24 c5).ownBlock = some r → ¬ H r) := Lib.hid (fun r hr hFr => by have h1 := HH.out r hFr; have h2 := HR5.out.lt r hr; omega)
            have HFl : Hid (∀ b, H b → b < (w5.alloc (.cells #[.slice a5 24 c5] 22)).heap.size) := Lib.hid (fun b hb => by have h1 := HH.out b hb; have h2 := HS5.out; simp; omega)
            clear h5 h5' hb5 hb5' hb6
            refine hK.out _ _ (Or.inr d5) ?_
            clear hK K
            try simp only [Act.put, List.setIfInBounds_toArray, List.set_cons_zero, List.set_cons_succ]
            apply Till.one (i := 10)
            · kernel_rfl
            · simp only [List.getElem?_toArray, List.getElem?_cons_succ, List.getElem?_cons_zero]
              rfl
            intro K hK
            go_simp
            skip
            refine hK.out _ _ (Or.inr d6) ?_
            clear hK K
            try simp only [Act.put, List.setIfInBounds_toArray, List.set_cons_zero, List.set_cons_succ]
            apply Till.one (i := 11)
            · kernel_rfl
            · simp only [List.getElem?_toArray, List.getElem?_cons_succ, List.getElem?_cons_zero]
              rfl
            intro K hK
            refine step_append_rowF _ (by rfl) _ _ 35 (by rfl) 22 5 i0 24 Try.underlying35 Hhi.out hz0 hz1 hz2 (by omega) (by rfl) HO5.out HFl.out (by rfl) (cell_one_new _ _ _ 0 _ rfl) (HR5.out.mono (Nat.zero_le _)) HFn.out HLb.out ?_
            intro v7 w7 h7 hg7 hp7 hl7
            rw [HT.out] at h7
            have HK7 : Hid (KeptF H (w5.alloc (.cells #[.slice a5 24 c5] 22)) w7) := Lib.hid (KeptF.of_grown hg7 (HO5.out.in_))
            have hBk7 : Below (X + 1) (w5.alloc (.cells #[.slice a5 24 c5] 22)) w7 := HK7.out.below (fun b hb => (HH.out b hb).1) (by have h1 := HXw'.out; have h2 := HS5.out; simp; omega)
            have hBw : Below (X + 1) wr w7 := (HB6.out.mono HXw'.out).trans hBk7
            have hX7 := (hBw.block X (by omega)).trans HXd.out
            have d7 : w7.cell? ⟨X, 0, none⟩ = some (.slice ad k cd) ∧ w7.cell? ⟨bs, os + j, none⟩ = some (.int .i64 z) := ⟨blk_cell hX7 0, HCz.out w7 (HBx.out.trans (hBw.mono (by omega)))⟩
            have f7 := blk_free hX7 0
            have HX7 := Lib.hid hX7
            have HBw := Lib.hid hBw
            have H7 := Lib.hid h7
            have hF7 : ∀ b, (H b ∨ (Value.slice a5 24 c5).ownBlock = some b ∨ v7.ownBlock = some b) → X + 1 ≤ b ∧ b < w7.heap.size := fun b hb => by
              have h1 := HK7.out.size
              have h2 := HS5.out
              have h3 := HXw'.out
              rw [World.size_alloc] at h1
              rcases hb with hb | hb | hb
              · have := HH.out b hb; omega
              · have := HR5.out.lt b hb
                rw [World.size_alloc] at this
                omega
              · have h4 := hl7 b hb
                rcases hp7 with h5 | h5
                · rw [h5] at hb
                  have := HH.out b (HO5.out.in_ b hb)
                  omega
                · rw [h5, World.size_alloc] at hb
                  injection hb with hb
                  omega
            have HF7 := Lib.hid hF7
            obtain ⟨a7, c7, hv7, _⟩ := h7.open
            have hl7' : ((sdb z (N : Int)).take (k + 1)).length = k + 1 := by rw [List.length_take, sdb_len]; omega
            rw [hl7'] at hv7
            subst hv7
            clear h7 hg7 hp7 hl7 hl7' hX7 hBw hBk7 hF7
            refine hK.out _ _ (Or.inr d7) ?_
            clear hK K
            try simp only [Act.put, List.setIfInBounds_toArray, List.set_cons_zero, List.set_cons_succ]
            apply Till.take (i := 12) [12, 13]
            · simp only [List.getElem?_toArray, List.getElem?_cons_succ, List.getElem?_cons_zero]
              rfl
            · kernel_rfl
            · kernel_rfl
            · kernel_rfl
            · kernel_rfl
            · exact fun _ _ _ h => h
            · first
                | exact Or.inr ⟨by rfl, rfl⟩
                | (refine Or.inl ⟨by rfl, fun wq hwq => ?_⟩
                   dsimp only at hwq
                   go_simp
                   first
                     | done
                     | rfl)
            · exact d7
            simp only [Act.put, List.setIfInBounds_toArray, List.set_cons_zero, List.set_cons_succ]
            apply Till.one (i := 13)
            · kernel_rfl
            · simp only [List.getElem?_toArray, List.getElem?_cons_succ, List.getElem?_cons_zero]
              rfl
            intro K hK
            obtain ⟨d8, _⟩ := d7
            go_simp
            refine hK.out _ _ (Or.inl (by rfl)) ?_
            clear hK K
            try simp only [Act.put, List.setIfInBounds_toArray, List.set_cons_zero, List.set_cons_succ]
            refine Till.done (by kernel_rfl) ?_ _
            obtain ⟨hD8, _, k8⟩ := store1 HX7.out (.slice a7 (k + 1) c7)
            obtain ⟨W8, hW8⟩ : ∃ W8, W8 = w7.setCell ⟨X, 0, none⟩ (.slice a7 (k + 1) c7) := ⟨_, rfl⟩
            rw [← hW8] at hD8 k8 ⊢
            have hs8 : W8.heap.size = w7.heap.size := by rw [hW8, World.setCell_size]
            have HD8 := Lib.hid hD8
            have HK8 := Lib.hid k8
            have HS8 := Lib.hid hs8
            clear hD8 k8 hs8 hW8 d0 d5 d6 f7 e7 e8
            go_wp2_with fail
            go_roundw
            case rel =>
              refine ⟨k + 1, _, _, by simp, hlk, H7.out.keptF HK8.out (fun b hb => by have := HF7.out b hb; omega), fun b hb => by rw [HS8.out]; exact HF7.out b hb, HD8.out, ?_⟩
              exact (HBx.out.trans (HBw.out.mono (by omega))).trans (HK8.out.below (B := X) (fun b hb => by omega) (by have h1 := HBw.out.size; have h2 := HXw'.out; omega))
            case measure => simp [intOf]; omega
          · have e2 : decide ((k : Int) < (N : Int)) = false := by simp; omega
            obtain rfl : k = N := by omega
            have eT : (sdb z (k : Int)).take k = sdb z (k : Int) := List.take_of_length_le (by rw [sdb_len]; omega)
            rw [eT] at HOd
            have HDs := Lib.hid ((HBx.out.block L HLw'.out).trans HD.out)
            have HSs := Lib.hid (HS.out.next (by have h := HBx.out; rwa [HX.out] at h))
            have HOs := Lib.hid ((sliceT 39 tyDatabase).onext HO.out (by have h := HBx.out; rwa [HX.out] at h))
            have HTz' := Lib.hid (HTz.out (ss.take j))
            have HTs' := Lib.hid (HTs.out z)
            have cL := blk_cell HDs.out 0
            have cX := blk_cell HXd.out 0
            rw [one0] at cL cX
            clear eT
            go_wp2_with fail
            clear cL cX
            refine (spec_xd HSs.out.rd2 HOd.out.rd2 (Nat.le_refl _) (Nat.le_refl _) HTz'.out HTs'.out).mono ?_
            rw [HT1.out]
            obtain ⟨okx, hokx⟩ : ∃ q, q = xdK (adF z0 (sdbs (k : Int) (ss.take j))) (sdb z (k : Int)) := ⟨_, rfl⟩
            rw [← hokx]
            clear hokx
            rintro e w5 ⟨v5, rfl, h5, hb5⟩
            obtain ⟨a5, c5, hv5, _⟩ := h5.open
            obtain ⟨n5, hn5⟩ : ∃ n, n = (adF z0 (sdbs (k : Int) (ss.take (j + 1)))).length := ⟨_, rfl⟩
            rw [← hn5] at hv5
            subst hv5
            have H5 := Lib.hid h5
            have HB5 := Lib.hid hb5
            have HL5 := Lib.hid ((hb5.block L (lt_of_block HDs.out)).trans HDs.out)
            have HX5 := Lib.hid ((hb5.block X HXw'.out).trans HXd.out)
            have HOd5 := Lib.hid (HOd.out.next hb5)
            have HOs5 := Lib.hid ((sliceT 39 tyDatabase).onext HOs.out hb5)
            clear h5 hb5 hn5 HDs HSs HOs
            have cL := blk_cell HL5.out 0
            have fL := blk_free HL5.out 0
            rw [one0] at cL
            -- the store into the box of the last one
            obtain ⟨t1, t2, t3⟩ := store1 HL5.out (.slice a5 n5 c5)
            obtain ⟨w6, hw6⟩ : ∃ x, x = w5.setCell ⟨L, 0, none⟩ (.slice a5 n5 c5) := ⟨_, rfl⟩
            rw [← hw6] at t1 t2 t3
            have HW6 := Lib.hid hw6
            have HZ6 : Hid (w6.heap.size = w5.heap.size) := Lib.hid (by rw [hw6, World.setCell_size])
            have HL6 := Lib.hid t1
            have HK6 := Lib.hid t3
            have HXL : Hid (X ≠ L) := Lib.hid (by have := HLw'.out; omega)
            have HX6 := Lib.hid ((t3.block X (lt_of_block HX5.out) HXL.out).trans HX5.out)
            have H6 := Lib.hid (H5.out.keptF t3 (fun b hb e => by have h2 := lt_of_block HL5.out; have h3 := HBx.out.size; have h4 := HLw'.out; have h5 := HX.out; unfold ival at hb; omega))
            have HOd6 := Lib.hid (HOd5.out.keptF t3 (fun b hb e => by have h1 := HH.out b hb; have h2 := HLw'.out; omega))
            have HOs6 := Lib.hid ((sliceT 39 tyDatabase).okept HOs5.out t3 (fun b hb e => (HF.out b hb).2.2.1 e))
            clear t1 t2 t3 hw6 H5 HOd5 HOs5
            -- the literal behind it
            have cX : w6.cell? ⟨X, 0, none⟩ = some (.slice ad k cd) := blk_cell HX6.out 0
            rw [HW6.out] at cX
            have HOa : Hid ((sliceT 39 tyDatabase).own F (w6.alloc (.cells #[.slice ad k cd] 39)) [.slice ao no co] (sdbs (k : Int) (ss.take j))) := Lib.hid ((sliceT 39 tyDatabase).oalloc HOs6.out (.cells #[.slice ad k cd] 39))
            have HSa : Hid (tyDatabase.own H (w6.alloc (.cells #[.slice ad k cd] 39)) [.slice ad k cd] (sdb z (k : Int))) := Lib.hid (slo2_of_own2 (HOd6.out.alloc (.cells #[.slice ad k cd] 39)))
            have HSz : Hid (X < wr.heap.size ∧ wr.heap.size ≤ w5.heap.size ∧ w6.heap.size = w5.heap.size ∧ X = wo.heap.size ∧ L < X) := Lib.hid ⟨HXw'.out, HB5.out.size, HZ6.out, HX.out, HLw'.out⟩
            have HFa : Hid (∀ b, F b → b < (w6.alloc (.cells #[.slice ad k cd] 39)).heap.size) := Lib.hid (fun b hb => by have h1 := HF.out b hb; have h2 := HSz.out; simp; omega)
            have HHa : Hid (∀ b, H b → b < (w6.alloc (.cells #[.slice ad k cd] 39)).heap.size) := Lib.hid (fun b hb => by have h1 := HH.out b hb; have h2 := HSz.out; simp; omega)
            have HC1 : Hid (∀ (j : Nat) (u : Value), [Value.slice ad k cd][j]? = some u → (w6.alloc (.cells #[.slice ad k cd] 39)).cell? ((⟨w5.heap.size, 0, none⟩ : Addr).add j) = some u) := Lib.hid (fun j u hu => by have h := cell_one_new w6 (.slice ad k cd) 39 j u hu; rw [HZ6.out] at h; exact h)
            have HDj : Hid (∀ b, H b → ¬ F b) := Lib.hid (fun b hb hf => by have h1 := HH.out b hb; have h2 := HF.out b hf; have h3 := HSz.out; omega)
            go_wp2_with (first | (at_builtin; go_loud (rw [← HW6.out]; refine append_slo _ rfl _ _ 24 rfl 39 i1 (.agg #[.slice none 0 0]) 24 Try.underlying24 Hhi'.out hy0 hy1 hy2 rfl (by omega) rfl HOa.out HFa.out rfl HSa.out HDj.out HHa.out HC1.out HLo.out ?_)))
            rw [HT2.out]
            intro v8 w8 h8 hg8
            have hk8 : KeptF (fun b => (Value.slice ao no co).ownBlock = some b) (w6.alloc (.cells #[.slice ad k cd] 39)) w8 := KeptF.of_grown hg8 (fun b h => h)
            have hb68 : Below w.heap.size w6 (w6.alloc (.cells #[.slice ad k cd] 39)) := ((Below.refl w6.heap.size w6).alloc (Nat.le_refl _) (.cells #[.slice ad k cd] 39)).mono (by have h1 := HB.out.size; have h2 := HSz.out; omega)
            have HL8 := Lib.hid ((hk8.block L (by have h2 := HSz.out; simp; omega) (fun e => (HF.out L (HSo.out L e)).2.2.1 rfl)).trans ((heap_alloc_old w6 (.cells #[.slice ad k cd] 39) (by have h2 := HSz.out; omega)).trans HL6.out))
            have H8 := Lib.hid ((H6.out.alloc (.cells #[.slice ad k cd] 39)).keptF hk8 (fun b hb e => by have h1 := HF.out b (HSo.out b e); have h2 := HSz.out; unfold ival at hb; omega))
            have HB6 : Hid (Below w.heap.size w w6) := Lib.hid (((HB.out.trans (HBx.out.mono (by have h1 := HB.out.size; have h2 := HSz.out; omega))).trans (HB5.out.mono (by have h1 := HB.out.size; have h2 := HSz.out; omega))).trans (HK6.out.below (B := w.heap.size) (fun b hb => by have h1 := HLw0.out; omega) (by have h1 := HB.out.size; have h2 := HSz.out; omega)))
            have HB8 : Hid (Below w.heap.size w w8) := Lib.hid ((HB6.out.trans hb68).trans (hk8.below (B := w.heap.size) (fun b hb => by have := HF.out b (HSo.out b hb); omega) (by have h1 := HB.out.size; have h2 := HSz.out; simp; omega)))
            have HO8 := Lib.hid h8
            have HZ8 : Hid (w6.heap.size + 1 ≤ w8.heap.size) := Lib.hid (by have := hg8.size; simpa using this)
            clear h8 hg8 hk8 hb68 cX cL fL
            go_wp2_with fail
            go_roundw
            case rel =>
              refine ⟨j + 1, _, _, _, by simp, hlt, HO8.out, H8.out, fun b hb => ?_, fun b hb => ?_, HL8.out, HB8.out⟩
              · have h2 := HSz.out
                have h3 := HZ8.out
                have h4 := HB.out.size
                have h5 := HLw0.out
                unfold ival
                rcases hb with hb | hb | hb
                · have h1 := HF.out b hb; omega
                · have h1 := HH.out b hb; omega
                · try simp at hb
                  omega
              · have h2 := HSz.out
                have h3 := HZ8.out
                have h4 := HB.out.size
                unfold ival at hb
                omega
            case measure => simp [intOf]; omega
      · have e1 : decide ((j : Int) < (ss.length : Int)) = false := by simp; omega
        have ej : ss.take j = ss := List.take_of_length_le (by omega)
        rw [ej] at HO HS HLo
        have HOa : Hid ((sliceT 39 tyDatabase).own F (wr.alloc (.cells #[.slice aq nq cq] 39)) [.slice ao no co] (sdbs (N : Int) ss)) := Lib.hid ((sliceT 39 tyDatabase).oalloc HO.out (.cells #[.slice aq nq cq] 39))
        have HSa : Hid (tyDatabase.own G (wr.alloc (.cells #[.slice aq nq cq] 39)) [.slice aq nq cq] (adF z0 (sdbs (N : Int) ss))) := Lib.hid (slo2_of_own2 (HS.out.alloc (.cells #[.slice aq nq cq] 39)))
        have HFa : Hid (∀ b, F b → b < (wr.alloc (.cells #[.slice aq nq cq] 39)).heap.size) := Lib.hid (fun b hb => by have := HF.out b hb; simp; omega)
        have HGa : Hid (∀ b, G b → b < (wr.alloc (.cells #[.slice aq nq cq] 39)).heap.size) := Lib.hid (fun b hb => by have := HG.out b hb; simp; omega)
        have HDj : Hid (∀ b, G b → ¬ F b) := Lib.hid (fun b hg hf => (HF.out b hf).2.2.2 hg)
        have HBa := Lib.hid (HB.out.alloc HB.out.size (.cells #[.slice aq nq cq] 39))
        have cL := blk_cell HD.out 0
        rw [one0] at cL
        clear ej
        go_wp2_with (first | (at_builtin; refine append_slo _ rfl _ _ 24 rfl 39 i1 (.agg #[.slice none 0 0]) 24 Try.underlying24 Hhi'.out hy0 hy1 hy2 rfl (by omega) rfl HOa.out HFa.out rfl HSa.out HDj.out HGa.out (fun j u hu => cell_one_new _ _ _ j u hu) HLo.out ?_))
        intro v8 w8 h8 hg8
        have HB8 : Hid (Below w.heap.size w w8) := Lib.hid (HBa.out.grown hg8 HBa.out.size (fun b hb => by have := HF.out b (HSo.out b hb); omega))
        have H8 := Lib.hid ((sliceT 39 tyDatabase).omono (G := ival w.heap.size w8.heap.size) h8 (fun b hb => by
          have h1 := hg8.size
          have h2 := HB.out.size
          simp at h1
          unfold ival
          rcases hb with hb | hb | hb
          · have := HF.out b hb; omega
          · have := HG.out b hb; omega
          · try simp at hb
            omega))
        clear h8 hg8 cL
        go_wp2_with fail
        go_ret
        exact ⟨_, rfl, H8.out, HB8.out⟩

end Go.Proofs.Ytdipignajccdcaa
