/- ReplaceRow, the program's and the document's: what each gives. No conditions but a size that a machine holds. -/
import Derived.Test.YtdipignajccdcaaBbD
import Derived.Test.YtdipignajccdcaaDb2
import Derived.Test.YtdipignajccdcaaBa2
namespace Go.Proofs.Ytdipignajccdcaa
open Go Go.RowKit
set_option linter.unusedVariables false
attribute [local irreducible] kh

theorem repK_iff {zss : List (List Int)} {i : Int} {c : List Int} : repK zss i c = true ↔ hasR zss i = true ∧ c.length = 24 := by
  unfold repK; rw [Bool.and_eq_true, decide_eq_true_eq]
theorem rep_no {zss : List (List Int)} {i : Int} {c : List Int} (h : repK zss i c = false) : rep zss i c = zss := by unfold rep; rw [if_neg (by rw [h]; exact Bool.false_ne_true)]
theorem rep_yes {zss : List (List Int)} {k : Nat} {c : List Int} (h : repK zss (k : Int) c = true) : rep zss (k : Int) c = zss.set k c := by unfold rep; rw [if_pos h]; rfl
theorem repK_row {zss : List (List Int)} {i : Int} {c : List Int} (h : hasR zss i = false) : repK zss i c = false := by unfold repK; rw [h]; rfl
theorem repK_len {zss : List (List Int)} {i : Int} {c : List Int} (h : c.length ≠ 24) : repK zss i c = false := by unfold repK; rw [decide_eq_false h, Bool.and_false]

set_option maxHeartbeats 2000000 in
/-- spec.ReplaceRow -/
theorem spec_rep {l1 l2 : Nat} {w : World} {v u : Value} {zss : List (List Int)} {i : Int} {c : List Int} (hu : Rd2 l1 .u8 w v zss) (hv : Rd l2 .u8 w u c) (hl1 : l1 ≤ w.heap.size) (hl2 : l2 ≤ w.heap.size) (hi : (Lit.int .i64 i).wf = true) (hn : tot zss ≤ 1099511627776) (hs : c.length ≤ 1099511627776) :
    Calls Try.prog 49 #[.agg #[v], .int .i64 i, u] w fun e w' => ∃ v', e = .returned (.tuple #[.agg #[v'], .bool (repK zss i c)]) ∧ Own2 22 5 .u8 (ival w.heap.size w'.heap.size) w' v' (rep zss i c) ∧ Below w.heap.size w w' := by
  obtain ⟨i0, hi0, hz0, hz1, hz2⟩ := info_parts infou8
  have Hhi := Lib.hid hi0
  obtain ⟨a, cap, rfl, h1, h2, _⟩ := hu.open
  obtain ⟨au, cu, rfl, h1', h2', _⟩ := hv.open
  have HB := Lib.hid (((Below.refl w.heap.size w).alloc (Nat.le_refl _) (.cells #[.slice a zss.length cap] 39)).alloc (by simp) (.cells #[.slice none 0 0] 39))
  have HU := Lib.hid (hu.behind (HB.out.mono hl1))
  have HV := Lib.hid (hv.behind (HB.out.mono hl2))
  have hbl := blocks2 w (.cells #[.slice a zss.length cap] 39) (.cells #[.slice none 0 0] 39)
  have HA0 := Lib.hid hbl.1
  have HR0 := Lib.hid hbl.2
  unfold maxLen at h2 h2'
  have HW := Lib.hid hi
  have HN := Lib.hid hn
  have HCs := Lib.hid hs
  have hzl : zss.length ≤ 1099511627776 := by unfold tot at hn; omega
  have e0 : wrap64 ((zss.length : Int) - 1) = (zss.length : Int) - 1 := by unfold wrap64; omega
  clear hu hv hi hn hi0 hbl hs
  by_cases hk : hasR zss i = true
  case neg =>
    have hkf : hasR zss i = false := by simpa using hk
    have HK := Lib.hid hkf
    have HE : Hid (repK zss i c = false) := Lib.hid (repK_row hkf)
    have HE2 : Hid (rep zss i c = zss) := Lib.hid (rep_no HE.out)
    rw [HE.out]
    clear hk hkf
    go_enter Try.func49, Try.ntmps49
    go_wp2_with fail
    refine (l8Copy_any HU.out (Nat.le_trans hl1 HB.out.size) HN.out).mono ?_
    rintro e w3 ⟨v3, rfl, h3, hb3⟩
    obtain ⟨a3, c3, hv3, _, hc3, hg3⟩ := h3.open
    subst hv3
    unfold maxLen at hc3
    have hb3' := hb3
    rw [World.size_alloc, World.size_alloc] at hb3'
    have hA3 := (hb3'.block w.heap.size (by omega)).trans HA0.out
    have hR3 := (hb3'.block (w.heap.size + 1) (by omega)).trans HR0.out
    have HS3 : Hid (w.heap.size + 2 ≤ w3.heap.size) := Lib.hid (by have := hb3'.size; rwa [World.size_alloc, World.size_alloc] at this)
    have HA := Lib.hid ((heap_alloc_old w3 (.cells #[.slice a3 zss.length c3] 39) (by have := HS3.out; omega)).trans hA3)
    have HR := Lib.hid ((heap_alloc_old w3 (.cells #[.slice a3 zss.length c3] 39) (by have := HS3.out; omega)).trans hR3)
    have HD := Lib.hid (heap_alloc_new w3 (.cells #[.slice a3 zss.length c3] 39))
    have h3' : Own2 22 5 .u8 (ival (w.heap.size + 2) w3.heap.size) w3 (.slice a3 zss.length c3) zss := h3.mono (fun b hb => by unfold ival at hb ⊢; rw [World.size_alloc, World.size_alloc] at hb; omega)
    have HO := Lib.hid (h3'.alloc (.cells #[.slice a3 zss.length c3] 39))
    have HB3 := Lib.hid (HB.out.trans (hb3.mono HB.out.size))
    have HB4 := Lib.hid (HB3.out.alloc HB3.out.size (.cells #[.slice a3 zss.length c3] 39))
    have HV4 := Lib.hid (HV.out.behind ((hb3.alloc (hb3.size) (.cells #[.slice a3 zss.length c3] 39)).mono (Nat.le_trans hl2 HB.out.size)))
    have hg0 : 0 < zss.length → ∃ g, a3 = some ⟨g, 0, none⟩ := fun hp => by obtain ⟨g, hg, _⟩ := hg3 hp; exact ⟨g, hg⟩
    have HG := Lib.hid hg0
    have cA := blk_cell HA.out 0
    have cD := blk_cell HD.out 0
    rw [one0] at cA cD
    clear h3 h3' hb3 hb3' hA3 hR3 hg3 hg0 HB HU HV HB3
    go_wp2_with fail
    obtain ⟨D, hD⟩ : ∃ D, D = w3.heap.size := ⟨_, rfl⟩
    obtain ⟨w4, hw4⟩ : ∃ w4, w4 = w3.alloc (.cells #[.slice a3 zss.length c3] 39) := ⟨_, rfl⟩
    have HSz4 : Hid (w4.heap.size = D + 1) := Lib.hid (by rw [hw4, hD]; simp)
    rw [← hw4] at HA HR HD HO HB4 HV4 cA cD ⊢
    rw [← hD] at HD HO HS3 cD ⊢
    clear hw4 hD
    refine (spec_in _ _ _ _ HW.out).mono ?_
    rw [inR_hasR, HK.out]
    rintro e w5 ⟨rfl, hw5⟩
    subst hw5
    have HB5 := HB4
    have HV5 := HV4
    have HS5 : Hid (D + 1 ≤ w5.heap.size) := Lib.hid (by have := HSz4.out; omega)
    clear cA cD HB4 HV4
    have cR := blk_cell HR.out 0
    have fR := blk_free HR.out 0
    have cD := blk_cell HD.out 0
    rw [one0] at cR cD
    go_wp2_with fail
    obtain ⟨_, r0, k0⟩ := store1 HR.out (.slice a3 zss.length c3)
    obtain ⟨W9, hW9⟩ : ∃ W9, W9 = w5.setCell ⟨w.heap.size + 1, 0, none⟩ (.slice a3 zss.length c3) := ⟨_, rfl⟩
    rw [← hW9] at r0 k0 ⊢
    have hs9 : W9.heap.size = w5.heap.size := by rw [hW9, World.setCell_size]
    have Q1 := Lib.hid ((HO.out.keptF k0 (fun b hb => by unfold ival at hb; omega)).mono (G := ival w.heap.size W9.heap.size) (fun b hb => by have := HS5.out; unfold ival at hb ⊢; omega))
    have Q2 := Lib.hid (HB5.out.trans (k0.below (B := w.heap.size) (fun b hb => by omega) HB5.out.size))
    clear cR fR cD k0 hW9 hs9
    exact bodyPost_ret (v := .tuple #[.agg #[.slice a3 zss.length c3], .bool false]) (by simp [results, Try.results49, go_sem, r0]) rfl ⟨_, rfl, by rw [HE2.out]; exact Q1.out, Q2.out⟩

  by_cases h24 : c.length = 24
  case neg =>
    have HK := Lib.hid hk
    have HE : Hid (repK zss i c = false) := Lib.hid (repK_len h24)
    have HE2 : Hid (rep zss i c = zss) := Lib.hid (rep_no HE.out)
    have e1 : ((c.length : Int) == 24) = false := by rw [beq_eq_false_iff_ne]; omega
    have e2 : ((c.length : Int) != 24) = true := by simp; omega
    rw [HE.out]
    clear hk h24
    go_enter Try.func49, Try.ntmps49
    go_wp2_with fail
    refine (l8Copy_any HU.out (Nat.le_trans hl1 HB.out.size) HN.out).mono ?_
    rintro e w3 ⟨v3, rfl, h3, hb3⟩
    obtain ⟨a3, c3, hv3, _, hc3, hg3⟩ := h3.open
    subst hv3
    unfold maxLen at hc3
    have hb3' := hb3
    rw [World.size_alloc, World.size_alloc] at hb3'
    have hA3 := (hb3'.block w.heap.size (by omega)).trans HA0.out
    have hR3 := (hb3'.block (w.heap.size + 1) (by omega)).trans HR0.out
    have HS3 : Hid (w.heap.size + 2 ≤ w3.heap.size) := Lib.hid (by have := hb3'.size; rwa [World.size_alloc, World.size_alloc] at this)
    have HA := Lib.hid ((heap_alloc_old w3 (.cells #[.slice a3 zss.length c3] 39) (by have := HS3.out; omega)).trans hA3)
    have HR := Lib.hid ((heap_alloc_old w3 (.cells #[.slice a3 zss.length c3] 39) (by have := HS3.out; omega)).trans hR3)
    have HD := Lib.hid (heap_alloc_new w3 (.cells #[.slice a3 zss.length c3] 39))
    have h3' : Own2 22 5 .u8 (ival (w.heap.size + 2) w3.heap.size) w3 (.slice a3 zss.length c3) zss := h3.mono (fun b hb => by unfold ival at hb ⊢; rw [World.size_alloc, World.size_alloc] at hb; omega)
    have HO := Lib.hid (h3'.alloc (.cells #[.slice a3 zss.length c3] 39))
    have HB3 := Lib.hid (HB.out.trans (hb3.mono HB.out.size))
    have HB4 := Lib.hid (HB3.out.alloc HB3.out.size (.cells #[.slice a3 zss.length c3] 39))
    have HV4 := Lib.hid (HV.out.behind ((hb3.alloc (hb3.size) (.cells #[.slice a3 zss.length c3] 39)).mono (Nat.le_trans hl2 HB.out.size)))
    have hg0 : 0 < zss.length → ∃ g, a3 = some ⟨g, 0, none⟩ := fun hp => by obtain ⟨g, hg, _⟩ := hg3 hp; exact ⟨g, hg⟩
    have HG := Lib.hid hg0
    have cA := blk_cell HA.out 0
    have cD := blk_cell HD.out 0
    rw [one0] at cA cD
    clear h3 h3' hb3 hb3' hA3 hR3 hg3 hg0 HB HU HV HB3
    go_wp2_with fail
    obtain ⟨D, hD⟩ : ∃ D, D = w3.heap.size := ⟨_, rfl⟩
    obtain ⟨w4, hw4⟩ : ∃ w4, w4 = w3.alloc (.cells #[.slice a3 zss.length c3] 39) := ⟨_, rfl⟩
    have HSz4 : Hid (w4.heap.size = D + 1) := Lib.hid (by rw [hw4, hD]; simp)
    rw [← hw4] at HA HR HD HO HB4 HV4 cA cD ⊢
    rw [← hD] at HD HO HS3 cD ⊢
    clear hw4 hD
    refine (spec_in _ _ _ _ HW.out).mono ?_
    rw [inR_hasR, HK.out]
    rintro e w5 ⟨rfl, hw5⟩
    subst hw5
    have HB5 := HB4
    have HV5 := HV4
    have HS5 : Hid (D + 1 ≤ w5.heap.size) := Lib.hid (by have := HSz4.out; omega)
    clear cA cD HB4 HV4
    have cR := blk_cell HR.out 0
    have fR := blk_free HR.out 0
    have cD := blk_cell HD.out 0
    rw [one0] at cR cD
    go_wp2_with fail
    obtain ⟨_, r0, k0⟩ := store1 HR.out (.slice a3 zss.length c3)
    obtain ⟨W9, hW9⟩ : ∃ W9, W9 = w5.setCell ⟨w.heap.size + 1, 0, none⟩ (.slice a3 zss.length c3) := ⟨_, rfl⟩
    rw [← hW9] at r0 k0 ⊢
    have hs9 : W9.heap.size = w5.heap.size := by rw [hW9, World.setCell_size]
    have Q1 := Lib.hid ((HO.out.keptF k0 (fun b hb => by unfold ival at hb; omega)).mono (G := ival w.heap.size W9.heap.size) (fun b hb => by have := HS5.out; unfold ival at hb ⊢; omega))
    have Q2 := Lib.hid (HB5.out.trans (k0.below (B := w.heap.size) (fun b hb => by omega) HB5.out.size))
    clear cR fR cD k0 hW9 hs9
    exact bodyPost_ret (v := .tuple #[.agg #[.slice a3 zss.length c3], .bool false]) (by simp [results, Try.results49, go_sem, r0]) rfl ⟨_, rfl, by rw [HE2.out]; exact Q1.out, Q2.out⟩

  have HK := Lib.hid hk
  have HE : Hid (repK zss i c = true) := Lib.hid (repK_iff.2 ⟨hk, h24⟩)
  rw [HE.out]
  obtain ⟨k, rfl, hlt⟩ := hasR_iff.1 hk
  have HE2 : Hid (rep zss (k : Int) c = zss.set k c) := Lib.hid (rep_yes HE.out)
  have e1 : ((c.length : Int) == 24) = true := by simp; omega
  have e2 : ((c.length : Int) != 24) = false := by simp; omega
  have hlt' : (k : Int) < (zss.length : Int) := by omega
  have H24 := Lib.hid h24
  clear hk h24
  go_enter Try.func49, Try.ntmps49
  go_wp2_with fail
  refine (l8Copy_any HU.out (Nat.le_trans hl1 HB.out.size) HN.out).mono ?_
  rintro e w3 ⟨v3, rfl, h3, hb3⟩
  obtain ⟨a3, c3, hv3, _, hc3, hg3⟩ := h3.open
  subst hv3
  unfold maxLen at hc3
  have hb3' := hb3
  rw [World.size_alloc, World.size_alloc] at hb3'
  have hA3 := (hb3'.block w.heap.size (by omega)).trans HA0.out
  have hR3 := (hb3'.block (w.heap.size + 1) (by omega)).trans HR0.out
  have HS3 : Hid (w.heap.size + 2 ≤ w3.heap.size) := Lib.hid (by have := hb3'.size; rwa [World.size_alloc, World.size_alloc] at this)
  have HA := Lib.hid ((heap_alloc_old w3 (.cells #[.slice a3 zss.length c3] 39) (by have := HS3.out; omega)).trans hA3)
  have HR := Lib.hid ((heap_alloc_old w3 (.cells #[.slice a3 zss.length c3] 39) (by have := HS3.out; omega)).trans hR3)
  have HD := Lib.hid (heap_alloc_new w3 (.cells #[.slice a3 zss.length c3] 39))
  have h3' : Own2 22 5 .u8 (ival (w.heap.size + 2) w3.heap.size) w3 (.slice a3 zss.length c3) zss := h3.mono (fun b hb => by unfold ival at hb ⊢; rw [World.size_alloc, World.size_alloc] at hb; omega)
  have HO := Lib.hid (h3'.alloc (.cells #[.slice a3 zss.length c3] 39))
  have HB3 := Lib.hid (HB.out.trans (hb3.mono HB.out.size))
  have HB4 := Lib.hid (HB3.out.alloc HB3.out.size (.cells #[.slice a3 zss.length c3] 39))
  have HV4 := Lib.hid (HV.out.behind ((hb3.alloc (hb3.size) (.cells #[.slice a3 zss.length c3] 39)).mono (Nat.le_trans hl2 HB.out.size)))
  have hg0 : 0 < zss.length → ∃ g, a3 = some ⟨g, 0, none⟩ := fun hp => by obtain ⟨g, hg, _⟩ := hg3 hp; exact ⟨g, hg⟩
  have HG := Lib.hid hg0
  have cA := blk_cell HA.out 0
  have cD := blk_cell HD.out 0
  rw [one0] at cA cD
  clear h3 h3' hb3 hb3' hA3 hR3 hg3 hg0 HB HU HV HB3
  go_wp2_with fail
  obtain ⟨D, hD⟩ : ∃ D, D = w3.heap.size := ⟨_, rfl⟩
  obtain ⟨w4, hw4⟩ : ∃ w4, w4 = w3.alloc (.cells #[.slice a3 zss.length c3] 39) := ⟨_, rfl⟩
  have HSz4 : Hid (w4.heap.size = D + 1) := Lib.hid (by rw [hw4, hD]; simp)
  rw [← hw4] at HA HR HD HO HB4 HV4 cA cD ⊢
  rw [← hD] at HD HO HS3 cD ⊢
  clear hw4 hD
  obtain ⟨g, rfl⟩ := HG.out (by omega)
  refine (spec_in _ _ _ _ HW.out).mono ?_
  rw [inR_hasR, HK.out]
  rintro e w5 ⟨rfl, hw5⟩
  subst hw5
  have HB5 := HB4
  have HV5 := HV4
  have HS5 : Hid (D + 1 ≤ w5.heap.size) := Lib.hid (by have := HSz4.out; omega)
  clear cA cD HB4 HV4
  have cD := blk_cell HD.out 0
  rw [one0] at cD
  have d0 : w5.drew.cell? ⟨D, 0, none⟩ = some (.slice (some ⟨g, 0, none⟩) zss.length c3) := cD
  have HLt : Hid (Own 5 .u8 w5.heap.size (w5.alloc (.cells #[] 5)).drew (.slice (some ⟨w5.heap.size, 0, none⟩) 0 0) []) := Lib.hid (Own.lit (w := w5) _ _ (Nat.le_refl _)).drew
  have hbl5 : Below w5.heap.size w5 (w5.alloc (.cells #[] 5)).drew := ((Below.refl w5.heap.size w5).alloc (Nat.le_refl _) (.cells #[] 5)).drew
  have HVl := Lib.hid (HV5.out.behind (hbl5.mono (Nat.le_trans hl2 HB5.out.size)))
  have HBl5 := Lib.hid hbl5
  have d1 : (w5.alloc (.cells #[] 5)).drew.cell? ⟨D, 0, none⟩ = some (.slice (some ⟨g, 0, none⟩) zss.length c3) := (hbl5.cell (p := ⟨D, 0, none⟩) (lt_of_block HD.out)).trans cD
  clear hbl5
  have HLb : Hid ((([] : List Int).length + c.length) * 1 ≤ 140737488355328) := Lib.hid (by have := HCs.out; simp; omega)
  go_wp2_with fail
  go_region_held3 (fun w' => w'.cell? ⟨D, 0, none⟩ = some (.slice (some ⟨g, 0, none⟩) zss.length c3)) (first | assumption | go_keep) ((first
    | (go_loud (refine step_append_rds _ (by rfl) _ _ 22 (by rfl) 5 i0 (.int .u8 0) 1 Try.underlying22 Hhi.out hz0 hz1 hz2 (by rfl) (by omega) (by rfl) HLt.out (by rfl) HVl.out HLb.out ?_
                intro v7 w7 h7' hg7
                have h7 : Own 5 .u8 w5.heap.size w7 v7 c := by simpa using h7'
                have hb7 : Below w5.drew.heap.size w5.drew w7 := (show Below w5.drew.heap.size w5.drew (w5.alloc (.cells #[] 5)).drew from (Below.refl w5.drew.heap.size w5.drew).alloc (Nat.le_refl _) (.cells #[] 5)).trans (HLt.out.below (Nat.le_refl _) hg7)
                obtain ⟨a7, c7, hv7, _⟩ := h7.open
                rw [H24.out] at hv7
                subst hv7
                have HO7 := Lib.hid (HO.out.drew.next hb7)
                have HB7 := Lib.hid (HB5.out.drew.trans (hb7.mono (show w.heap.size ≤ w5.drew.heap.size from HB5.out.size)))
                have HS7 : Hid (w5.heap.size ≤ w7.heap.size) := Lib.hid hb7.size
                have hD7 := (hb7.block D (lt_of_block HD.out)).trans HD.out
                have hR7 := (hb7.block (w.heap.size + 1) (lt_of_block HR.out)).trans HR.out
                have H7 : Hid (Own 5 .u8 w5.heap.size w7 (.slice a7 24 c7) c) := Lib.hid h7
                obtain ⟨u2, c2⟩ := HO7.out.cellAt hlt
                have f2 := HO7.out.free rfl k
                have hgF := HO7.out.in_ g rfl
                obtain ⟨p1, p2⟩ := HO7.out.put (j := k) (H7.out.mono (Nat.zero_le _)) (fun r hr hFr => by have h8 := H7.out.lt r hr; have h9 := HS5.out; unfold ival at hFr; omega)
                have d7 := blk_cell hD7 0
                rw [one0] at d7
                have hD8 := (p2.block D (lt_of_block hD7) (fun e => by injection e with e; unfold ival at hgF; omega)).trans hD7
                have hR8 := (p2.block (w.heap.size + 1) (lt_of_block hR7) (fun e => by injection e with e; unfold ival at hgF; omega)).trans hR7
                have d8 := blk_cell hD8 0
                rw [one0] at d8
                have P1 := Lib.hid p1
                have P2 := Lib.hid p2
                have HD8 := Lib.hid hD8
                have HR8 := Lib.hid hR8
                have HgF := Lib.hid hgF
                clear h7 h7' hg7 hb7 hD7 hR7 p1 p2 hD8 hR8 hgF))))
  obtain ⟨W8, hW8⟩ : ∃ W8, W8 = w7.setCell ⟨g, k, none⟩ (.slice a7 24 c7) := ⟨_, rfl⟩
  rw [← hW8] at P1 P2 HD8 HR8 d8 ⊢
  have HS8 : Hid (W8.heap.size = w7.heap.size) := Lib.hid (by rw [hW8, World.setCell_size])
  have cR := blk_cell HR8.out 0
  have fR := blk_free HR8.out 0
  rw [one0] at cR
  have HB8 := Lib.hid (HB7.out.grown P2.out HB7.out.size (fun b hb => by injection hb with hb; subst hb; have := HgF.out; unfold ival at this; omega))
  clear hW8 c2 f2 d7 d0 cD
  go_wp2_with fail
  obtain ⟨_, r0, k0⟩ := store1 HR8.out (.slice (some ⟨g, 0, none⟩) zss.length c3)
  obtain ⟨W9, hW9⟩ : ∃ W9, W9 = W8.setCell ⟨w.heap.size + 1, 0, none⟩ (.slice (some ⟨g, 0, none⟩) zss.length c3) := ⟨_, rfl⟩
  rw [← hW9] at r0 k0 ⊢
  have hs9 : W9.heap.size = W8.heap.size := by rw [hW9, World.setCell_size]
  have hFb : ∀ b, (ival (w.heap.size + 2) D b ∨ (Value.slice a7 24 c7).ownBlock = some b) → w.heap.size + 2 ≤ b ∧ b < W9.heap.size := fun b hb => by
    have q1 := HS8.out
    have q2 := HS7.out
    have q3 := HS5.out
    have q4 := HS3.out
    rcases hb with hb | hb
    · unfold ival at hb; omega
    · have := H7.out.lt b hb; omega
  have Q1 := Lib.hid ((P1.out.keptF k0 (fun b hb => by have := hFb b hb; omega)).mono (G := ival w.heap.size W9.heap.size) (fun b hb => by have := hFb b hb; unfold ival; omega))
  have Q2 := Lib.hid (HB8.out.trans (k0.below (B := w.heap.size) (fun b hb => by omega) HB8.out.size))
  clear cR fR d8 k0 hW9 hs9 hFb
  exact bodyPost_ret (v := .tuple #[.agg #[.slice (some ⟨g, 0, none⟩) zss.length c3], .bool true]) (by simp [results, Try.results49, go_sem, r0]) rfl ⟨_, rfl, by rw [HE2.out]; exact Q1.out, Q2.out⟩

end Go.Proofs.Ytdipignajccdcaa
