/- XorDatabases, the document's: what it gives. No conditions but a size that a machine holds. -/
import Derived.Test.YtdipignajccdcaaDb7
namespace Go.Proofs.Ytdipignajccdcaa
open Go Go.RowKit
set_option linter.unusedVariables false
attribute [local irreducible] kh

set_option maxRecDepth 20000 in
set_option maxHeartbeats 4000000 in
/-- spec.XorDatabases -/
theorem spec_xd {l1 l2 : Nat} {w : World} {u v : Value} {za zb : List (List Int)} (hu : Rd2 l1 .u8 w u za) (hv : Rd2 l2 .u8 w v zb) (hl1 : l1 ≤ w.heap.size) (hl2 : l2 ≤ w.heap.size) (hn : tot za ≤ 1099511627776) (hm : tot zb ≤ 1099511627776) :
    Calls Try.prog 44 #[.agg #[u], .agg #[v]] w fun e w' => ∃ v', e = .returned (.tuple #[.agg #[v'], .bool (xdK za zb)]) ∧ Own2 22 5 .u8 (ival w.heap.size w'.heap.size) w' v' (xd za zb) ∧ Below w.heap.size w w' := by
  obtain ⟨i1, hi', hy0, hy1, hy2⟩ := info_parts infou8s
  have Hhi' := Lib.hid hi'
  obtain ⟨a, cap, rfl, h1, h2, hca⟩ := hu.open
  obtain ⟨a', cap', rfl, h1', h2', hcb⟩ := hv.open
  have HB := Lib.hid ((((Below.refl w.heap.size w).alloc (Nat.le_refl _) (.cells #[.slice a za.length cap] 39)).alloc (by simp) (.cells #[.slice a' zb.length cap'] 39)).alloc (by simp; omega) (.cells #[.slice none 0 0] 39))
  have hbl := blocks3 w (.cells #[.slice a za.length cap] 39) (.cells #[.slice a' zb.length cap'] 39) (.cells #[.slice none 0 0] 39)
  have HA := Lib.hid hbl.1
  have HBk := Lib.hid hbl.2.1
  have HR := Lib.hid hbl.2.2
  have cA := blk_cell hbl.1 0
  have cB := blk_cell hbl.2.1 0
  rw [one0] at cA cB
  unfold maxLen at h2 h2'
  have HU := Lib.hid hu
  have HV := Lib.hid hv
  have HCa := Lib.hid hca
  have HCb := Lib.hid hcb
  have HN := Lib.hid hn
  have HM := Lib.hid hm
  have hzl : za.length ≤ 1099511627776 := by unfold tot at hn; omega
  have hzl' : zb.length ≤ 1099511627776 := by unfold tot at hm; omega
  clear hu hv hn hm hbl hi' hca hcb
  by_cases hva : vd za = true
  case neg =>
    have hvf : vd za = false := by simpa using hva
    have HF := Lib.hid hvf
    have HE : Hid (xdK za zb = false) := Lib.hid (xdK_a hvf)
    have HE2 : Hid (xd za zb = za) := Lib.hid (xd_no HE.out)
    rw [HE.out]
    clear hva hvf
    go_enter Try.func44, Try.ntmps44
    go_wp2_with fail
    obtain ⟨w4, hw4⟩ : ∃ w4, w4 = ((w.alloc (.cells #[.slice a za.length cap] 39)).alloc (.cells #[.slice a' zb.length cap'] 39)).alloc (.cells #[.slice none 0 0] 39) := ⟨_, rfl⟩
    rw [← hw4] at HA HBk HR HB cA cB ⊢
    have HB4 := HB
    clear hw4 HB
    refine (spec_vd (HU.out.behind (HB4.out.mono hl1)) (Nat.le_trans hl1 HB4.out.size)).mono ?_
    rw [HF.out]
    rintro e w5 ⟨rfl, hb5⟩
    replace HA := Lib.hid ((hb5.block w.heap.size (lt_of_block HA.out)).trans HA.out)
    replace HBk := Lib.hid ((hb5.block (w.heap.size + 1) (lt_of_block HBk.out)).trans HBk.out)
    replace HR := Lib.hid ((hb5.block (w.heap.size + 1 + 1) (lt_of_block HR.out)).trans HR.out)
    replace HB4 := Lib.hid (HB4.out.trans (hb5.mono HB4.out.size))
    clear cA cB
    have cA := blk_cell HA.out 0
    have cB := blk_cell HBk.out 0
    have cR := blk_cell HR.out 0
    have fR := blk_free HR.out 0
    rw [one0] at cA cB cR
    clear hb5
    go_wp2_with fail
    clear cR fR
    refine (l8Copy_any (HU.out.behind (HB4.out.mono hl1)) (Nat.le_trans hl1 HB4.out.size) HN.out).mono ?_
    rintro e w7 ⟨v7, rfl, h7, hb7⟩
    obtain ⟨a7, c7, hv7, _⟩ := h7.open
    subst hv7
    have hR7 := (hb7.block (w.heap.size + 1 + 1) (lt_of_block HR.out)).trans HR.out
    have HR7 := Lib.hid hR7
    have HS5 : Hid (w.heap.size + 3 ≤ w5.heap.size) := Lib.hid (by have := lt_of_block HR.out; omega)
    have cR := blk_cell hR7 0
    have fR := blk_free hR7 0
    rw [one0] at cR
    have H7 := Lib.hid h7
    have HB7 := Lib.hid (HB4.out.trans (hb7.mono HB4.out.size))
    clear h7 hb7 hR7 cA cB
    go_wp2_with fail
    obtain ⟨_, r0, k0⟩ := store1 HR7.out (.slice a7 za.length c7)
    obtain ⟨W9, hW9⟩ : ∃ W9, W9 = w7.setCell ⟨w.heap.size + 1 + 1, 0, none⟩ (.slice a7 za.length c7) := ⟨_, rfl⟩
    rw [← hW9] at r0 k0 ⊢
    have hs9 : W9.heap.size = w7.heap.size := by rw [hW9, World.setCell_size]
    have Q1 := Lib.hid ((H7.out.keptF k0 (fun b hb => by have := HS5.out; unfold ival at hb; omega)).mono (G := ival w.heap.size W9.heap.size) (fun b hb => by have := HS5.out; unfold ival at hb ⊢; omega))
    have Q2 := Lib.hid (HB7.out.trans (k0.below (B := w.heap.size) (fun b hb => by omega) HB7.out.size))
    clear cR fR k0 hW9 hs9
    exact bodyPost_ret (v := .tuple #[.agg #[.slice a7 za.length c7], .bool false]) (by simp [results, Try.results44, go_sem, r0]) rfl ⟨_, rfl, by rw [HE2.out]; exact Q1.out, Q2.out⟩

  have HVa := Lib.hid hva
  by_cases hvb : vd zb = true
  case neg =>
    have hvf : vd zb = false := by simpa using hvb
    have HF := Lib.hid hvf
    have HE : Hid (xdK za zb = false) := Lib.hid (xdK_b hvf)
    have HE2 : Hid (xd za zb = za) := Lib.hid (xd_no HE.out)
    rw [HE.out]
    clear hva hvb hvf
    go_enter Try.func44, Try.ntmps44
    go_wp2_with fail
    obtain ⟨w4, hw4⟩ : ∃ w4, w4 = ((w.alloc (.cells #[.slice a za.length cap] 39)).alloc (.cells #[.slice a' zb.length cap'] 39)).alloc (.cells #[.slice none 0 0] 39) := ⟨_, rfl⟩
    rw [← hw4] at HA HBk HR HB cA cB ⊢
    have HB4 := HB
    clear hw4 HB
    refine (spec_vd (HU.out.behind (HB4.out.mono hl1)) (Nat.le_trans hl1 HB4.out.size)).mono ?_
    rw [HVa.out]
    rintro e w5 ⟨rfl, hb5⟩
    replace HA := Lib.hid ((hb5.block w.heap.size (lt_of_block HA.out)).trans HA.out)
    replace HBk := Lib.hid ((hb5.block (w.heap.size + 1) (lt_of_block HBk.out)).trans HBk.out)
    replace HR := Lib.hid ((hb5.block (w.heap.size + 1 + 1) (lt_of_block HR.out)).trans HR.out)
    replace HB4 := Lib.hid (HB4.out.trans (hb5.mono HB4.out.size))
    clear cA cB
    have cA := blk_cell HA.out 0
    have cB := blk_cell HBk.out 0
    have cR := blk_cell HR.out 0
    have fR := blk_free HR.out 0
    rw [one0] at cA cB cR
    clear hb5
    go_wp2_with fail
    refine (spec_vd (HV.out.behind (HB4.out.mono hl2)) (Nat.le_trans hl2 HB4.out.size)).mono ?_
    rw [HF.out]
    rintro e w6 ⟨rfl, hb5⟩
    replace HA := Lib.hid ((hb5.block w.heap.size (lt_of_block HA.out)).trans HA.out)
    replace HBk := Lib.hid ((hb5.block (w.heap.size + 1) (lt_of_block HBk.out)).trans HBk.out)
    replace HR := Lib.hid ((hb5.block (w.heap.size + 1 + 1) (lt_of_block HR.out)).trans HR.out)
    replace HB4 := Lib.hid (HB4.out.trans (hb5.mono HB4.out.size))
    clear cR fR
    clear cA cB
    have cA := blk_cell HA.out 0
    have cB := blk_cell HBk.out 0
    have cR := blk_cell HR.out 0
    have fR := blk_free HR.out 0
    rw [one0] at cA cB cR
    clear hb5
    go_wp2_with fail
    clear cR fR
    refine (l8Copy_any (HU.out.behind (HB4.out.mono hl1)) (Nat.le_trans hl1 HB4.out.size) HN.out).mono ?_
    rintro e w7 ⟨v7, rfl, h7, hb7⟩
    obtain ⟨a7, c7, hv7, _⟩ := h7.open
    subst hv7
    have hR7 := (hb7.block (w.heap.size + 1 + 1) (lt_of_block HR.out)).trans HR.out
    have HR7 := Lib.hid hR7
    have HS5 : Hid (w.heap.size + 3 ≤ w6.heap.size) := Lib.hid (by have := lt_of_block HR.out; omega)
    have cR := blk_cell hR7 0
    have fR := blk_free hR7 0
    rw [one0] at cR
    have H7 := Lib.hid h7
    have HB7 := Lib.hid (HB4.out.trans (hb7.mono HB4.out.size))
    clear h7 hb7 hR7 cA cB
    go_wp2_with fail
    obtain ⟨_, r0, k0⟩ := store1 HR7.out (.slice a7 za.length c7)
    obtain ⟨W9, hW9⟩ : ∃ W9, W9 = w7.setCell ⟨w.heap.size + 1 + 1, 0, none⟩ (.slice a7 za.length c7) := ⟨_, rfl⟩
    rw [← hW9] at r0 k0 ⊢
    have hs9 : W9.heap.size = w7.heap.size := by rw [hW9, World.setCell_size]
    have Q1 := Lib.hid ((H7.out.keptF k0 (fun b hb => by have := HS5.out; unfold ival at hb; omega)).mono (G := ival w.heap.size W9.heap.size) (fun b hb => by have := HS5.out; unfold ival at hb ⊢; omega))
    have Q2 := Lib.hid (HB7.out.trans (k0.below (B := w.heap.size) (fun b hb => by omega) HB7.out.size))
    clear cR fR k0 hW9 hs9
    exact bodyPost_ret (v := .tuple #[.agg #[.slice a7 za.length c7], .bool false]) (by simp [results, Try.results44, go_sem, r0]) rfl ⟨_, rfl, by rw [HE2.out]; exact Q1.out, Q2.out⟩

  have HVb := Lib.hid hvb
  by_cases hlen : za.length = zb.length
  case neg =>
    have HE : Hid (xdK za zb = false) := Lib.hid (xdK_len hlen)
    have HE2 : Hid (xd za zb = za) := Lib.hid (xd_no HE.out)
    rw [HE.out]
    have e1 : ((za.length : Int) != (zb.length : Int)) = true := by simp; omega
    clear hva hvb hlen
    go_enter Try.func44, Try.ntmps44
    go_wp2_with fail
    obtain ⟨w4, hw4⟩ : ∃ w4, w4 = ((w.alloc (.cells #[.slice a za.length cap] 39)).alloc (.cells #[.slice a' zb.length cap'] 39)).alloc (.cells #[.slice none 0 0] 39) := ⟨_, rfl⟩
    rw [← hw4] at HA HBk HR HB cA cB ⊢
    have HB4 := HB
    clear hw4 HB
    refine (spec_vd (HU.out.behind (HB4.out.mono hl1)) (Nat.le_trans hl1 HB4.out.size)).mono ?_
    rw [HVa.out]
    rintro e w5 ⟨rfl, hb5⟩
    replace HA := Lib.hid ((hb5.block w.heap.size (lt_of_block HA.out)).trans HA.out)
    replace HBk := Lib.hid ((hb5.block (w.heap.size + 1) (lt_of_block HBk.out)).trans HBk.out)
    replace HR := Lib.hid ((hb5.block (w.heap.size + 1 + 1) (lt_of_block HR.out)).trans HR.out)
    replace HB4 := Lib.hid (HB4.out.trans (hb5.mono HB4.out.size))
    clear cA cB
    have cA := blk_cell HA.out 0
    have cB := blk_cell HBk.out 0
    have cR := blk_cell HR.out 0
    have fR := blk_free HR.out 0
    rw [one0] at cA cB cR
    clear hb5
    go_wp2_with fail
    refine (spec_vd (HV.out.behind (HB4.out.mono hl2)) (Nat.le_trans hl2 HB4.out.size)).mono ?_
    rw [HVb.out]
    rintro e w6 ⟨rfl, hb5⟩
    replace HA := Lib.hid ((hb5.block w.heap.size (lt_of_block HA.out)).trans HA.out)
    replace HBk := Lib.hid ((hb5.block (w.heap.size + 1) (lt_of_block HBk.out)).trans HBk.out)
    replace HR := Lib.hid ((hb5.block (w.heap.size + 1 + 1) (lt_of_block HR.out)).trans HR.out)
    replace HB4 := Lib.hid (HB4.out.trans (hb5.mono HB4.out.size))
    clear cR fR
    clear cA cB
    have cA := blk_cell HA.out 0
    have cB := blk_cell HBk.out 0
    have cR := blk_cell HR.out 0
    have fR := blk_free HR.out 0
    rw [one0] at cA cB cR
    clear hb5
    go_wp2_with fail
    clear cR fR
    refine (l8Copy_any (HU.out.behind (HB4.out.mono hl1)) (Nat.le_trans hl1 HB4.out.size) HN.out).mono ?_
    rintro e w7 ⟨v7, rfl, h7, hb7⟩
    obtain ⟨a7, c7, hv7, _⟩ := h7.open
    subst hv7
    have hR7 := (hb7.block (w.heap.size + 1 + 1) (lt_of_block HR.out)).trans HR.out
    have HR7 := Lib.hid hR7
    have HS5 : Hid (w.heap.size + 3 ≤ w6.heap.size) := Lib.hid (by have := lt_of_block HR.out; omega)
    have cR := blk_cell hR7 0
    have fR := blk_free hR7 0
    rw [one0] at cR
    have H7 := Lib.hid h7
    have HB7 := Lib.hid (HB4.out.trans (hb7.mono HB4.out.size))
    clear h7 hb7 hR7 cA cB
    go_wp2_with fail
    obtain ⟨_, r0, k0⟩ := store1 HR7.out (.slice a7 za.length c7)
    obtain ⟨W9, hW9⟩ : ∃ W9, W9 = w7.setCell ⟨w.heap.size + 1 + 1, 0, none⟩ (.slice a7 za.length c7) := ⟨_, rfl⟩
    rw [← hW9] at r0 k0 ⊢
    have hs9 : W9.heap.size = w7.heap.size := by rw [hW9, World.setCell_size]
    have Q1 := Lib.hid ((H7.out.keptF k0 (fun b hb => by have := HS5.out; unfold ival at hb; omega)).mono (G := ival w.heap.size W9.heap.size) (fun b hb => by have := HS5.out; unfold ival at hb ⊢; omega))
    have Q2 := Lib.hid (HB7.out.trans (k0.below (B := w.heap.size) (fun b hb => by omega) HB7.out.size))
    clear cR fR k0 hW9 hs9
    exact bodyPost_ret (v := .tuple #[.agg #[.slice a7 za.length c7], .bool false]) (by simp [results, Try.results44, go_sem, r0]) rfl ⟨_, rfl, by rw [HE2.out]; exact Q1.out, Q2.out⟩

  have HE : Hid (xdK za zb = true) := Lib.hid (xdK_yes hva hvb hlen)
  have HE2 : Hid (xd za zb = xdL za zb) := Lib.hid (xd_yes HE.out)
  rw [HE.out]
  have e1 : ((za.length : Int) != (zb.length : Int)) = false := by simp; omega
  have hb64 := (vd_rows hva).1
  have HLen := Lib.hid hlen
  have HRa : Hid (∀ (j : Nat) (xs : List Int), za[j]? = some xs → xs.length = 24) := Lib.hid (fun j xs h => by have := (vd_rows hva).2 j (List.getElem?_eq_some_iff.1 h).1; rwa [getD_of h] at this)
  have HRb : Hid (∀ (j : Nat) (xs : List Int), zb[j]? = some xs → xs.length = 24) := Lib.hid (fun j xs h => by have := (vd_rows hvb).2 j (List.getElem?_eq_some_iff.1 h).1; rwa [getD_of h] at this)
  clear hva hvb hlen
  go_enter Try.func44, Try.ntmps44
  go_wp2_with fail
  obtain ⟨w4, hw4⟩ : ∃ w4, w4 = ((w.alloc (.cells #[.slice a za.length cap] 39)).alloc (.cells #[.slice a' zb.length cap'] 39)).alloc (.cells #[.slice none 0 0] 39) := ⟨_, rfl⟩
  rw [← hw4] at HA HBk HR HB cA cB ⊢
  have HB4 := HB
  clear hw4 HB
  refine (spec_vd (HU.out.behind (HB4.out.mono hl1)) (Nat.le_trans hl1 HB4.out.size)).mono ?_
  rw [HVa.out]
  rintro e w5 ⟨rfl, hb5⟩
  replace HA := Lib.hid ((hb5.block w.heap.size (lt_of_block HA.out)).trans HA.out)
  replace HBk := Lib.hid ((hb5.block (w.heap.size + 1) (lt_of_block HBk.out)).trans HBk.out)
  replace HR := Lib.hid ((hb5.block (w.heap.size + 1 + 1) (lt_of_block HR.out)).trans HR.out)
  replace HB4 := Lib.hid (HB4.out.trans (hb5.mono HB4.out.size))
  clear cA cB
  have cA := blk_cell HA.out 0
  have cB := blk_cell HBk.out 0
  have cR := blk_cell HR.out 0
  have fR := blk_free HR.out 0
  rw [one0] at cA cB cR
  clear hb5
  go_wp2_with fail
  refine (spec_vd (HV.out.behind (HB4.out.mono hl2)) (Nat.le_trans hl2 HB4.out.size)).mono ?_
  rw [HVb.out]
  rintro e w6 ⟨rfl, hb5⟩
  replace HA := Lib.hid ((hb5.block w.heap.size (lt_of_block HA.out)).trans HA.out)
  replace HBk := Lib.hid ((hb5.block (w.heap.size + 1) (lt_of_block HBk.out)).trans HBk.out)
  replace HR := Lib.hid ((hb5.block (w.heap.size + 1 + 1) (lt_of_block HR.out)).trans HR.out)
  replace HB4 := Lib.hid (HB4.out.trans (hb5.mono HB4.out.size))
  clear cR fR
  clear cA cB
  have cA := blk_cell HA.out 0
  have cB := blk_cell HBk.out 0
  have cR := blk_cell HR.out 0
  have fR := blk_free HR.out 0
  rw [one0] at cA cB cR
  clear hb5
  go_wp2_with fail
  obtain ⟨D, hD⟩ : ∃ D, D = w6.heap.size := ⟨_, rfl⟩
  have HA7 := Lib.hid ((heap_alloc_old w6 (.cells #[.slice none 0 0] 39) (lt_of_block HA.out)).trans HA.out)
  have HBk7 := Lib.hid ((heap_alloc_old w6 (.cells #[.slice none 0 0] 39) (lt_of_block HBk.out)).trans HBk.out)
  have HR7 := Lib.hid ((heap_alloc_old w6 (.cells #[.slice none 0 0] 39) (lt_of_block HR.out)).trans HR.out)
  have HD7 := Lib.hid (heap_alloc_new w6 (.cells #[.slice none 0 0] 39))
  have HB7 := Lib.hid (HB4.out.alloc HB4.out.size (.cells #[.slice none 0 0] 39))
  have HSD : Hid (w.heap.size + 3 ≤ D) := Lib.hid (by rw [hD]; have := lt_of_block HR.out; omega)
  have HS7 : Hid (D + 1 ≤ (w6.alloc (.cells #[.slice none 0 0] 39)).heap.size) := Lib.hid (by rw [hD]; simp)
  rw [← hD] at HD7 ⊢
  clear hD cA cB cR fR HA HBk HR HB4
  go_loopw [7] (fun i wr => ∃ (j : Nat) (v6 : Value) (F : Nat → Prop), i = .int .i64 j ∧ j ≤ za.length ∧ Own2 22 5 .u8 F wr v6 ((xdL za zb).take j) ∧ (∀ b, F b → D + 1 ≤ b ∧ b < wr.heap.size) ∧ wr.heap[w.heap.size]? = some (.cells #[.slice a za.length cap] 39) ∧ wr.heap[w.heap.size + 1]? = some (.cells #[.slice a' zb.length cap'] 39) ∧
    wr.heap[w.heap.size + 1 + 1]? = some (.cells #[.slice none 0 0] 39) ∧ wr.heap[D]? = some (.cells #[v6] 39) ∧ Below w.heap.size w wr) (fun i _ => za.length - (intOf i).toNat)
  case atStart => exact ⟨0, _, fun _ => False, rfl, Nat.zero_le _, by rw [List.take_zero]; exact Own2.nil _ _ _ _ _, fun b hb => hb.elim, HA7.out, HBk7.out, HR7.out, HD7.out, HB7.out⟩
  case round =>
    obtain ⟨j, v6, F, rfl, hj, hO, hF, hA, hBk, hR, hD, hB⟩ := hrel
    have HA := Lib.hid hA
    have HBk := Lib.hid hBk
    have HR := Lib.hid hR
    have HB4 := Lib.hid hB
    obtain ⟨a6, c6, rfl, _⟩ := hO.open
    rw [show ((xdL za zb).take j).length = j by rw [List.length_take, xdL_len]; omega] at hO hD
    have HO := Lib.hid hO
    have HF := Lib.hid hF
    have HD := Lib.hid hD
    have cA := blk_cell hA 0
    have cB := blk_cell hBk 0
    have cD := blk_cell hD 0
    rw [one0] at cA cB cD
    have HSd := Lib.hid (lt_of_block hD)
    clear hO hF hR hD hB hA hBk HA7 HBk7 HR7 HD7 HB7 HS7
    by_cases hlt : j < za.length
    · have e2 : decide ((j : Int) < (za.length : Int)) = true := by simp; omega
      have hja' : (j : Int) < (za.length : Int) := by omega
      have hjb : j < zb.length := by rw [← HLen.out]; exact hlt
      have hjb' : (j : Int) < (zb.length : Int) := by omega
      obtain ⟨ba, oa, rfl, hba, hcella⟩ := HCa.out (by omega)
      obtain ⟨bb, ob, rfl, hbb, hcellb⟩ := HCb.out (by omega)
      obtain ⟨xs, hxs⟩ : ∃ xs, za[j]? = some xs := ⟨_, List.getElem?_eq_getElem hlt⟩
      obtain ⟨ys, hys⟩ : ∃ ys, zb[j]? = some ys := ⟨_, List.getElem?_eq_getElem hjb⟩
      obtain ⟨x, cx, rx⟩ := hcella wr (HB4.out.mono hl1) j xs hxs
      obtain ⟨y, cy, ry⟩ := hcellb wr (HB4.out.mono hl2) j ys hys
      have HX := Lib.hid rx
      have HY := Lib.hid ry
      have HT : Hid ((xdL za zb).take j ++ [xorl xs ys] = (xdL za zb).take (j + 1)) := Lib.hid (by rw [← xdL_snoc hlt, getD_of hxs, getD_of hys])
      have HLn : Hid (xs.length + ys.length ≤ 140737488355328) := Lib.hid (by rw [HRa.out j xs hxs, HRb.out j ys hys]; omega)
      have HLb : Hid ((((xdL za zb).take j).length + 1) * 24 ≤ 140737488355328) := Lib.hid (by rw [List.length_take]; omega)
      have HLz : Hid (((xdL za zb).take (j + 1)).length = j + 1) := Lib.hid (by rw [List.length_take, xdL_len]; omega)
      have HCs : Hid (∀ w', Below wr.heap.size wr w' → w'.cell? ⟨D, 0, none⟩ = some (.slice a6 j c6) ∧ w'.cell? ⟨w.heap.size, 0, none⟩ = some (.slice (some ⟨ba, oa, none⟩) za.length cap) ∧ w'.cell? ⟨w.heap.size + 1, 0, none⟩ = some (.slice (some ⟨bb, ob, none⟩) zb.length cap') ∧ w'.cell? ⟨ba, oa + j, none⟩ = some x ∧ w'.cell? ⟨bb, ob + j, none⟩ = some y) := Lib.hid (fun w' hb' =>
        ⟨(hb'.cell (p := ⟨D, 0, none⟩) HSd.out).trans cD, (hb'.cell (p := ⟨w.heap.size, 0, none⟩) (lt_of_block HA.out)).trans cA, (hb'.cell (p := ⟨w.heap.size + 1, 0, none⟩) (lt_of_block HBk.out)).trans cB, (hb'.cell (p := ⟨ba, oa + j, none⟩) (show ba < wr.heap.size by have := HB4.out.size; omega)).trans cx, (hb'.cell (p := ⟨bb, ob + j, none⟩) (show bb < wr.heap.size by have := HB4.out.size; omega)).trans cy⟩)
      have d0 := HCs.out wr.drew (Below.refl _ _).drew
      have HS1 := Lib.hid (Nat.le_trans hl1 HB4.out.size)
      have HS2 := Lib.hid (Nat.le_trans hl2 HB4.out.size)
      clear hxs hys rx ry hcella hcellb
      go_wp2_with fail

      refine region_till (fun w' => w'.cell? ⟨D, 0, none⟩ = some (.slice a6 j c6) ∧ w'.cell? ⟨w.heap.size, 0, none⟩ = some (.slice (some ⟨ba, oa, none⟩) za.length cap) ∧ w'.cell? ⟨w.heap.size + 1, 0, none⟩ = some (.slice (some ⟨bb, ob, none⟩) zb.length cap') ∧ w'.cell? ⟨ba, oa + j, none⟩ = some x ∧ w'.cell? ⟨bb, ob + j, none⟩ = some y) 16 (by kernel_rfl) ?_
      apply Till.take (i := 0) [0, 1, 14, 16]
      · simp only [List.getElem?_toArray, List.getElem?_cons_zero]
        rfl
      · kernel_rfl
      · kernel_rfl
      · kernel_rfl
      · kernel_rfl
      · exact fun _ _ _ h => h
      · first
          | exact Or.inr ⟨by rfl, rfl⟩
          | (refine Or.inl ⟨by rfl, fun wq hwq => ?_⟩
             dsimp only at hwq
             go_simp
             first
               | done
               | rfl)
      · exact d0
      simp only [Act.put, List.setIfInBounds_toArray, List.set_cons_zero, List.set_cons_succ]
      apply Till.take (i := 1) [1, 14, 16]
      · simp only [List.getElem?_toArray, List.getElem?_cons_succ, List.getElem?_cons_zero]
        rfl
      · kernel_rfl
      · kernel_rfl
      · kernel_rfl
      · kernel_rfl
      · exact fun _ _ _ h => h
      · first
          | exact Or.inr ⟨by rfl, rfl⟩
          | (refine Or.inl ⟨by rfl, fun wq hwq => ?_⟩
             dsimp only at hwq
             go_simp
             first
               | done
               | rfl)
      · exact d0
      simp only [Act.put, List.setIfInBounds_toArray, List.set_cons_zero, List.set_cons_succ]
      apply Till.take (i := 2) [2, 3, 5, 6, 12, 13, 14, 16]
      · simp only [List.getElem?_toArray, List.getElem?_cons_succ, List.getElem?_cons_zero]
        rfl
      · kernel_rfl
      · kernel_rfl
      · kernel_rfl
      · kernel_rfl
      · exact fun _ _ _ h => h
      · first
          | exact Or.inr ⟨by rfl, rfl⟩
          | (refine Or.inl ⟨by rfl, fun wq hwq => ?_⟩
             dsimp only at hwq
             go_simp
             first
               | done
               | rfl)
      · exact d0
      simp only [Act.put, List.setIfInBounds_toArray, List.set_cons_zero, List.set_cons_succ]
      apply Till.take (i := 3) [3, 5, 6, 12, 13, 14, 16]
      · simp only [List.getElem?_toArray, List.getElem?_cons_succ, List.getElem?_cons_zero]
        rfl
      · kernel_rfl
      · kernel_rfl
      · kernel_rfl
      · kernel_rfl
      · exact fun _ _ _ h => h
      · first
          | exact Or.inr ⟨by rfl, rfl⟩
          | (refine Or.inl ⟨by rfl, fun wq hwq => ?_⟩
             dsimp only at hwq
             go_simp
             first
               | done
               | rfl)
      · exact d0
      simp only [Act.put, List.setIfInBounds_toArray, List.set_cons_zero, List.set_cons_succ]
      apply Till.take (i := 4) [4, 5, 6, 12, 13, 14, 16]
      · simp only [List.getElem?_toArray, List.getElem?_cons_succ, List.getElem?_cons_zero]
        rfl
      · kernel_rfl
      · kernel_rfl
      · kernel_rfl
      · kernel_rfl
      · exact fun _ _ _ h => h
      · first
          | exact Or.inr ⟨by rfl, rfl⟩
          | (refine Or.inl ⟨by rfl, fun wq hwq => ?_⟩
             dsimp only at hwq
             go_simp
             first
               | done
               | rfl)
      · exact d0
      simp only [Act.put, List.setIfInBounds_toArray, List.set_cons_zero, List.set_cons_succ]
      apply Till.take (i := 5) [5, 6, 12, 13, 14, 16]
      · simp only [List.getElem?_toArray, List.getElem?_cons_succ, List.getElem?_cons_zero]
        rfl
      · kernel_rfl
      · kernel_rfl
      · kernel_rfl
      · kernel_rfl
      · exact fun _ _ _ h => h
      · first
          | exact Or.inr ⟨by rfl, rfl⟩
          | (refine Or.inl ⟨by rfl, fun wq hwq => ?_⟩
             dsimp only at hwq
             go_simp
             first
               | done
               | rfl)
      · exact d0
      simp only [Act.put, List.setIfInBounds_toArray, List.set_cons_zero, List.set_cons_succ]
      apply Till.take (i := 6) [6, 12, 13, 14, 16]
      · simp only [List.getElem?_toArray, List.getElem?_cons_succ, List.getElem?_cons_zero]
        rfl
      · kernel_rfl
      · kernel_rfl
      · kernel_rfl
      · kernel_rfl
      · exact fun _ _ _ h => h
      · first
          | exact Or.inr ⟨by rfl, rfl⟩
          | (refine Or.inl ⟨by rfl, fun wq hwq => ?_⟩
             dsimp only at hwq
             go_simp
             first
               | done
               | rfl)
      · exact d0
      simp only [Act.put, List.setIfInBounds_toArray, List.set_cons_zero, List.set_cons_succ]
      apply Till.take (i := 7) [7, 8, 10, 11, 12, 13, 14, 16]
      · simp only [List.getElem?_toArray, List.getElem?_cons_succ, List.getElem?_cons_zero]
        rfl
      · kernel_rfl
      · kernel_rfl
      · kernel_rfl
      · kernel_rfl
      · exact fun _ _ _ h => h
      · first
          | exact Or.inr ⟨by rfl, rfl⟩
          | (refine Or.inl ⟨by rfl, fun wq hwq => ?_⟩
             dsimp only at hwq
             go_simp
             first
               | done
               | rfl)
      · exact d0
      simp only [Act.put, List.setIfInBounds_toArray, List.set_cons_zero, List.set_cons_succ]
      apply Till.take (i := 8) [8, 10, 11, 12, 13, 14, 16]
      · simp only [List.getElem?_toArray, List.getElem?_cons_succ, List.getElem?_cons_zero]
        rfl
      · kernel_rfl
      · kernel_rfl
      · kernel_rfl
      · kernel_rfl
      · exact fun _ _ _ h => h
      · first
          | exact Or.inr ⟨by rfl, rfl⟩
          | (refine Or.inl ⟨by rfl, fun wq hwq => ?_⟩
             dsimp only at hwq
             go_simp
             first
               | done
               | rfl)
      · exact d0
      simp only [Act.put, List.setIfInBounds_toArray, List.set_cons_zero, List.set_cons_succ]
      apply Till.take (i := 9) [9, 10, 11, 12, 13, 14, 16]
      · simp only [List.getElem?_toArray, List.getElem?_cons_succ, List.getElem?_cons_zero]
        rfl
      · kernel_rfl
      · kernel_rfl
      · kernel_rfl
      · kernel_rfl
      · exact fun _ _ _ h => h
      · first
          | exact Or.inr ⟨by rfl, rfl⟩
          | (refine Or.inl ⟨by rfl, fun wq hwq => ?_⟩
             dsimp only at hwq
             go_simp
             first
               | done
               | rfl)
      · exact d0
      simp only [Act.put, List.setIfInBounds_toArray, List.set_cons_zero, List.set_cons_succ]
      apply Till.take (i := 10) [10, 11, 12, 13, 14, 16]
      · simp only [List.getElem?_toArray, List.getElem?_cons_succ, List.getElem?_cons_zero]
        rfl
      · kernel_rfl
      · kernel_rfl
      · kernel_rfl
      · kernel_rfl
      · exact fun _ _ _ h => h
      · first
          | exact Or.inr ⟨by rfl, rfl⟩
          | (refine Or.inl ⟨by rfl, fun wq hwq => ?_⟩
             dsimp only at hwq
             go_simp
             first
               | done
               | rfl)
      · exact d0
      simp only [Act.put, List.setIfInBounds_toArray, List.set_cons_zero, List.set_cons_succ]
      apply Till.take (i := 11) [11, 12, 13, 14, 16]
      · simp only [List.getElem?_toArray, List.getElem?_cons_succ, List.getElem?_cons_zero]
        rfl
      · kernel_rfl
      · kernel_rfl
      · kernel_rfl
      · kernel_rfl
      · exact fun _ _ _ h => h
      · first
          | exact Or.inr ⟨by rfl, rfl⟩
          | (refine Or.inl ⟨by rfl, fun wq hwq => ?_⟩
             dsimp only at hwq
             go_simp
             first
               | done
               | rfl)
      · exact d0
      simp only [Act.put, List.setIfInBounds_toArray, List.set_cons_zero, List.set_cons_succ]
      apply Till.one (i := 12)
      · kernel_rfl
      · simp only [List.getElem?_toArray, List.getElem?_cons_succ, List.getElem?_cons_zero]
        rfl
      intro K hK
      go_simp
      refine (spec_xb HX.out.drew HY.out.drew HS1.out HS2.out HLn.out).mono ?_
      rintro e' w5 ⟨v5, he, h5, hb5⟩
      subst he
      obtain ⟨L5, hL5⟩ : ∃ L, L = (xorl xs ys).length := ⟨_, rfl⟩
      obtain ⟨a5, c5, hv5, _⟩ := h5.open
      rw [← hL5] at hv5
      subst hv5
      have hb5' : Below wr.heap.size wr w5 := (Below.refl _ _).drew.trans hb5
      have hb6 := hb5'.alloc hb5'.size (.cells #[.slice a5 L5 c5] 22)
      have HB6 := Lib.hid hb6
      have h5' : Own 5 .u8 wr.heap.size w5 (.slice a5 L5 c5) (xorl xs ys) := h5
      have HR5 := Lib.hid (h5'.alloc (.cells #[.slice a5 L5 c5] 22))
      have HO5 := Lib.hid ((HO.out.next hb5').alloc (.cells #[.slice a5 L5 c5] 22))
      have HS5 := Lib.hid hb5'.size
      have d5 := HCs.out w5 hb5'
      have d6 := HCs.out _ hb6
      have HFn : Hid (∀ r, (Value.slice a5 L5 c5).ownBlock = some r → ¬ F r) := Lib.hid (fun r hr hFr => by have h1 := HF.out r hFr; have h2 := HR5.out.lt r hr; omega)
      have HFl : Hid (∀ b, F b → b < (w5.alloc (.cells #[.slice a5 L5 c5] 22)).heap.size) := Lib.hid (fun b hb => by have h1 := HF.out b hb; have h2 := HS5.out; simp; omega)
      clear h5 h5' hb5 hb5' hb6 hL5
      refine hK.out _ _ (Or.inr d5) ?_
      clear hK K
      try simp only [Act.put, List.setIfInBounds_toArray, List.set_cons_zero, List.set_cons_succ]
      apply Till.one (i := 13)
      · kernel_rfl
      · simp only [List.getElem?_toArray, List.getElem?_cons_succ, List.getElem?_cons_zero]
        rfl
      intro K hK
      go_simp
      skip
      refine hK.out _ _ (Or.inr d6) ?_
      clear hK K
      try simp only [Act.put, List.setIfInBounds_toArray, List.set_cons_zero, List.set_cons_succ]
      apply Till.one (i := 14)
      · kernel_rfl
      · simp only [List.getElem?_toArray, List.getElem?_cons_succ, List.getElem?_cons_zero]
        rfl
      intro K hK
      refine step_append_rowF _ (by rfl) _ _ 35 (by rfl) 22 5 i1 24 Try.underlying35 Hhi'.out hy0 hy1 hy2 (by omega) (by rfl) HO5.out HFl.out (by rfl) (cell_one_new _ _ _ 0 _ rfl) (HR5.out.mono (Nat.zero_le _)) HFn.out HLb.out ?_
      intro v7 w7 h7 hg7 hp7 hl7
      rw [HT.out] at h7
      have HK7 : Hid (KeptF F (w5.alloc (.cells #[.slice a5 L5 c5] 22)) w7) := Lib.hid (KeptF.of_grown hg7 (HO5.out.in_))
      have hBk7 : Below (D + 1) (w5.alloc (.cells #[.slice a5 L5 c5] 22)) w7 := HK7.out.below (fun b hb => (HF.out b hb).1) (by have h1 := HSd.out; have h2 := HS5.out; simp; omega)
      have hBw : Below (D + 1) wr w7 := (HB6.out.mono HSd.out).trans hBk7
      have hD7 := (hBw.block D (by omega)).trans HD.out
      have hA7 := (hBw.block w.heap.size (by have := HSD.out; omega)).trans HA.out
      have hBB7 := (hBw.block (w.heap.size + 1) (by have := HSD.out; omega)).trans HBk.out
      have hR7 := (hBw.block (w.heap.size + 1 + 1) (by have := HSD.out; omega)).trans HR.out
      have hal : ba < D + 1 ∧ bb < D + 1 := by have := HSD.out; omega
      have d7 : w7.cell? ⟨D, 0, none⟩ = some (.slice a6 j c6) ∧ w7.cell? ⟨w.heap.size, 0, none⟩ = some (.slice (some ⟨ba, oa, none⟩) za.length cap) ∧ w7.cell? ⟨w.heap.size + 1, 0, none⟩ = some (.slice (some ⟨bb, ob, none⟩) zb.length cap') ∧ w7.cell? ⟨ba, oa + j, none⟩ = some x ∧ w7.cell? ⟨bb, ob + j, none⟩ = some y :=
        ⟨blk_cell hD7 0, blk_cell hA7 0, blk_cell hBB7 0, (hBw.cell (p := ⟨ba, oa + j, none⟩) hal.1).trans cx, (hBw.cell (p := ⟨bb, ob + j, none⟩) hal.2).trans cy⟩
      have f7 := blk_free hD7 0
      have HD7 := Lib.hid hD7
      have HA7 := Lib.hid hA7
      have HBB7 := Lib.hid hBB7
      have HR7 := Lib.hid hR7
      have HBw := Lib.hid hBw
      have H7 := Lib.hid h7
      have HP7 := Lib.hid hp7
      have HL7 := Lib.hid hl7
      have hF7 : ∀ b, (F b ∨ (Value.slice a5 L5 c5).ownBlock = some b ∨ v7.ownBlock = some b) → D + 1 ≤ b ∧ b < w7.heap.size := fun b hb => by
        have h1 := HK7.out.size
        have h2 := HS5.out
        have h3 := HSd.out
        have h9 : (w5.alloc (.cells #[.slice a5 L5 c5] 22)).heap.size = w5.heap.size + 1 := by simp
        rcases hb with hb | hb | hb
        · have := HF.out b hb; omega
        · have h4 := HR5.out.lt b hb
          omega
        · have h4 := HL7.out b hb
          rcases HP7.out with h5 | h5
          · rw [h5] at hb
            have := HF.out b (HO5.out.in_ b hb)
            omega
          · rw [h5, World.size_alloc] at hb
            injection hb with hb
            omega
      have HF7 := Lib.hid hF7
      obtain ⟨a7, c7, hv7, _⟩ := h7.open
      rw [HLz.out] at hv7
      subst hv7
      clear h7 hg7 hp7 hl7 hD7 hA7 hBB7 hR7 hBw hBk7 hF7 hal
      refine hK.out _ _ (Or.inr d7) ?_
      clear hK K
      try simp only [Act.put, List.setIfInBounds_toArray, List.set_cons_zero, List.set_cons_succ]
      apply Till.take (i := 15) [15, 16]
      · simp only [List.getElem?_toArray, List.getElem?_cons_succ, List.getElem?_cons_zero]
        rfl
      · kernel_rfl
      · kernel_rfl
      · kernel_rfl
      · kernel_rfl
      · exact fun _ _ _ h => h
      · first
          | exact Or.inr ⟨by rfl, rfl⟩
          | (refine Or.inl ⟨by rfl, fun wq hwq => ?_⟩
             dsimp only at hwq
             go_simp
             first
               | done
               | rfl)
      · exact d7
      simp only [Act.put, List.setIfInBounds_toArray, List.set_cons_zero, List.set_cons_succ]
      apply Till.one (i := 16)
      · kernel_rfl
      · simp only [List.getElem?_toArray, List.getElem?_cons_succ, List.getElem?_cons_zero]
        rfl
      intro K hK
      obtain ⟨d8, _⟩ := d7
      go_simp
      refine hK.out _ _ (Or.inl (by rfl)) ?_
      clear hK K
      try simp only [Act.put, List.setIfInBounds_toArray, List.set_cons_zero, List.set_cons_succ]
      refine Till.done (by kernel_rfl) ?_ _
      obtain ⟨hD8, _, k8⟩ := store1 HD7.out (.slice a7 (j + 1) c7)
      obtain ⟨W8, hW8⟩ : ∃ W8, W8 = w7.setCell ⟨D, 0, none⟩ (.slice a7 (j + 1) c7) := ⟨_, rfl⟩
      rw [← hW8] at hD8 k8 ⊢
      have hs8 : W8.heap.size = w7.heap.size := by rw [hW8, World.setCell_size]
      have HD8 := Lib.hid hD8
      have HK8 := Lib.hid k8
      have HS8 := Lib.hid hs8
      clear hD8 k8 hs8 hW8 d0 d5 d6 f7 cA cB cD cx cy
      go_wp2_with fail
      go_roundw
      case rel =>
        have hSD := HSD.out
        refine ⟨j + 1, _, _, by simp, hlt, H7.out.keptF HK8.out (fun b hb => by have := HF7.out b hb; omega), fun b hb => by rw [HS8.out]; exact HF7.out b hb, ?_, ?_, ?_, HD8.out, ?_⟩
        · exact (HK8.out.block _ (lt_of_block HA7.out) (by omega)).trans HA7.out
        · exact (HK8.out.block _ (lt_of_block HBB7.out) (by omega)).trans HBB7.out
        · exact (HK8.out.block _ (lt_of_block HR7.out) (by omega)).trans HR7.out
        · exact (HB4.out.trans (HBw.out.mono (by omega))).trans (HK8.out.below (B := w.heap.size) (fun b hb => by omega) (by have h1 := HBw.out.size; have h2 := HB4.out.size; omega))
      case measure => simp [intOf]; omega
    · have e2 : decide ((j : Int) < (za.length : Int)) = false := by simp; omega
      have HE3 : Hid ((xdL za zb).take j = xd za zb) := Lib.hid (by rw [HE2.out, List.take_of_length_le (by rw [xdL_len]; omega)])
      have cR := blk_cell HR.out 0
      have fR := blk_free HR.out 0
      rw [one0] at cR
      go_wp2_with fail
      obtain ⟨_, r0, k0⟩ := store1 HR.out (.slice a6 j c6)
      obtain ⟨W9, hW9⟩ : ∃ W9, W9 = wr.setCell ⟨w.heap.size + 1 + 1, 0, none⟩ (.slice a6 j c6) := ⟨_, rfl⟩
      rw [← hW9] at r0 k0 ⊢
      have hs9 : W9.heap.size = wr.heap.size := by rw [hW9, World.setCell_size]
      have Q1 := Lib.hid ((HO.out.keptF k0 (fun b hb => by have := HF.out b hb; have := HSD.out; omega)).mono (G := ival w.heap.size W9.heap.size) (fun b hb => by have := HF.out b hb; have := HSD.out; unfold ival; omega))
      have Q2 := Lib.hid (HB4.out.trans (k0.below (B := w.heap.size) (fun b hb => by omega) HB4.out.size))
      clear cR fR cA cB cD k0 hW9 hs9
      exact bodyPost_ret (v := .tuple #[.agg #[.slice a6 j c6], .bool true]) (by simp [results, Try.results44, go_sem, r0]) rfl ⟨_, rfl, by rw [← HE3.out]; exact Q1.out, Q2.out⟩

end Go.Proofs.Ytdipignajccdcaa
