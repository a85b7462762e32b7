/- XorDatabases, the program's and the document's: what each gives. No conditions but a size that a machine holds. -/
import Derived.Test.YtdipignajccdcaaDb6
namespace Go.Proofs.Ytdipignajccdcaa
open Go Go.RowKit
set_option linter.unusedVariables false
attribute [local irreducible] kh

theorem xdK_a {za zb : List (List Int)} (h : vd za = false) : xdK za zb = false := by unfold xdK; rw [h]; rfl
theorem xdK_b {za zb : List (List Int)} (h : vd zb = false) : xdK za zb = false := by unfold xdK; rw [h, Bool.and_false]; rfl
theorem xdK_len {za zb : List (List Int)} (h : za.length ≠ zb.length) : xdK za zb = false := by unfold xdK; rw [decide_eq_false h, Bool.and_false]
theorem xdK_yes {za zb : List (List Int)} (ha : vd za = true) (hb : vd zb = true) (h : za.length = zb.length) : xdK za zb = true := by unfold xdK; rw [ha, hb, decide_eq_true h]; rfl
theorem xd_no {za zb : List (List Int)} (h : xdK za zb = false) : xd za zb = za := by unfold xd; rw [if_neg (by rw [h]; exact Bool.false_ne_true)]
theorem xd_yes {za zb : List (List Int)} (h : xdK za zb = true) : xd za zb = xdL za zb := if_pos h
theorem vd_rows {zss : List (List Int)} (h : vd zss = true) : zss.length ≤ 64 ∧ ∀ i, i < zss.length → (zss.getD i []).length = 24 := by
  unfold vd at h
  rw [Bool.and_eq_true, decide_eq_true_eq] at h
  exact ⟨h.1, vrows_iff.1 h.2⟩
theorem xdL_set {za zb : List (List Int)} {j : Nat} {xs ys : List Int} (hx : za[j]? = some xs) (hy : zb[j]? = some ys) :
    ((xdL za zb).take j ++ za.drop j).set j (xorl xs ys) = (xdL za zb).take (j + 1) ++ za.drop (j + 1) := by
  have hj := (List.getElem?_eq_some_iff.1 hx).1
  have hlen : ((xdL za zb).take j).length = j := by rw [List.length_take, xdL_len]; omega
  rw [List.set_append_right _ _ (by omega), hlen, Nat.sub_self, List.drop_eq_getElem_cons hj, List.set_cons_zero, List.take_add_one, xdL_get hj, getD_of hx, getD_of hy]
  simp
/-- The row lies at or above B. -/
theorem Own.up {e : TypeId} {k : IntKind} {B : Nat} {w : World} {u : Value} {zs : List Int} (h : Own e k 0 w u zs) (hB : B ≤ w.heap.size) (hin : ∀ r, u.ownBlock = some r → B ≤ r) : Own e k B w u zs := by
  obtain ⟨hw, h1, h2, h3⟩ := h
  refine ⟨hw, hB, h2, ?_⟩
  rcases h3 with h3 | ⟨g, cap, cur, rfl, h5, h6⟩
  · exact .inl h3
  · exact .inr ⟨g, cap, cur, rfl, hin g rfl, h6⟩

set_option maxRecDepth 20000 in
set_option maxHeartbeats 4000000 in
/-- impl.XorDatabases -/
theorem impl_xd {l1 l2 : Nat} {w : World} {u v : Value} {za zb : List (List Int)} (hu : Rd2 l1 .u8 w u za) (hv : Rd2 l2 .u8 w v zb) (hl1 : l1 ≤ w.heap.size) (hl2 : l2 ≤ w.heap.size) (hn : tot za ≤ 1099511627776) (hm : tot zb ≤ 1099511627776) :
    Calls Try.prog 61 #[.agg #[u], .agg #[v]] w fun e w' => ∃ v', e = .returned (.tuple #[.agg #[v'], .bool (xdK za zb)]) ∧ Own2 22 5 .u8 (ival w.heap.size w'.heap.size) w' v' (xd za zb) ∧ Below w.heap.size w w' := by
  obtain ⟨i1, hi', hy0, hy1, hy2⟩ := info_parts infou8s
  have Hhi' := Lib.hid hi'
  obtain ⟨a, cap, rfl, h1, h2, hca⟩ := hu.open
  obtain ⟨a', cap', rfl, h1', h2', hcb⟩ := hv.open
  have HB := Lib.hid ((((Below.refl w.heap.size w).alloc (Nat.le_refl _) (.cells #[.slice a za.length cap] 39)).alloc (by simp) (.cells #[.slice a' zb.length cap'] 39)).alloc (by simp; omega) (.cells #[.slice none 0 0] 39))
  have hbl := blocks3 w (.cells #[.slice a za.length cap] 39) (.cells #[.slice a' zb.length cap'] 39) (.cells #[.slice none 0 0] 39)
  have HA := Lib.hid hbl.1
  have HBk := Lib.hid hbl.2.1
  have HR := Lib.hid hbl.2.2
  have cA := blk_cell hbl.1 0
  have cB := blk_cell hbl.2.1 0
  rw [one0] at cA cB
  unfold maxLen at h2 h2'
  have HU := Lib.hid hu
  have HV := Lib.hid hv
  have HCa := Lib.hid hca
  have HCb := Lib.hid hcb
  have HN := Lib.hid hn
  have HM := Lib.hid hm
  have hzl : za.length ≤ 1099511627776 := by unfold tot at hn; omega
  have hzl' : zb.length ≤ 1099511627776 := by unfold tot at hm; omega
  clear hu hv hn hm hbl hi' hca hcb
  by_cases hva : vd za = true
  case neg =>
    have hvf : vd za = false := by simpa using hva
    have HF := Lib.hid hvf
    have HE : Hid (xdK za zb = false) := Lib.hid (xdK_a hvf)
    have HE2 : Hid (xd za zb = za) := Lib.hid (xd_no HE.out)
    rw [HE.out]
    clear hva hvf
    go_enter Try.func61, Try.ntmps61
    go_wp2_with fail
    refine (copyDb_any (HU.out.behind (HB.out.mono hl1)) (Nat.le_trans hl1 HB.out.size) HN.out).mono ?_
    rintro e w3 ⟨v3, rfl, h3, hb3⟩
    obtain ⟨a3, c3, hv3, _, hc3, hg3⟩ := h3.open
    subst hv3
    unfold maxLen at hc3
    have hA3 := (hb3.block w.heap.size (lt_of_block HA.out)).trans HA.out
    have hB3 := (hb3.block (w.heap.size + 1) (lt_of_block HBk.out)).trans HBk.out
    have hR3 := (hb3.block (w.heap.size + 1 + 1) (lt_of_block HR.out)).trans HR.out
    have hs3 : w.heap.size + 3 ≤ w3.heap.size := by have := lt_of_block hR3; omega
    have HS3 := Lib.hid hs3
    replace HA := Lib.hid ((heap_alloc_old w3 (.cells #[.slice a3 za.length c3] 39) (lt_of_block hA3)).trans hA3)
    replace HBk := Lib.hid ((heap_alloc_old w3 (.cells #[.slice a3 za.length c3] 39) (lt_of_block hB3)).trans hB3)
    replace HR := Lib.hid ((heap_alloc_old w3 (.cells #[.slice a3 za.length c3] 39) (lt_of_block hR3)).trans hR3)
    have HD := Lib.hid (heap_alloc_new w3 (.cells #[.slice a3 za.length c3] 39))
    have h3' : Own2 22 5 .u8 (ival (w.heap.size + 3) w3.heap.size) w3 (.slice a3 za.length c3) za := h3.mono (fun b hb => by unfold ival at hb ⊢; rw [World.size_alloc, World.size_alloc, World.size_alloc] at hb; omega)
    have HO := Lib.hid (h3'.alloc (.cells #[.slice a3 za.length c3] 39))
    have hB4 := HB.out.trans (hb3.mono HB.out.size)
    have HB4 := Lib.hid (hB4.alloc hB4.size (.cells #[.slice a3 za.length c3] 39))
    have hg0 : 0 < za.length → ∃ g, a3 = some ⟨g, 0, none⟩ := fun hp => by obtain ⟨g, hg, _⟩ := hg3 hp; exact ⟨g, hg⟩
    have HG := Lib.hid hg0
    clear cA cB
    have cA := blk_cell HA.out 0
    have cB := blk_cell HBk.out 0
    have cD := blk_cell HD.out 0
    rw [one0] at cA cB cD
    clear h3 h3' hb3 hA3 hB3 hR3 hg3 hg0 HB hB4 hs3
    go_wp2_with fail
    obtain ⟨D, hD⟩ : ∃ D, D = w3.heap.size := ⟨_, rfl⟩
    obtain ⟨w4, hw4⟩ : ∃ w4, w4 = w3.alloc (.cells #[.slice a3 za.length c3] 39) := ⟨_, rfl⟩
    have HSz4 : Hid (D + 1 ≤ w4.heap.size) := Lib.hid (by rw [hw4, hD]; simp)
    rw [← hw4] at HA HBk HR HD HO HB4 cA cB cD ⊢
    rw [← hD] at HD HO HS3 cD ⊢
    clear hw4 hD
    refine (impl_vd (HU.out.behind (HB4.out.mono hl1)) (Nat.le_trans hl1 HB4.out.size)).mono ?_
    rw [HF.out]
    rintro e w5 ⟨rfl, hb5⟩
    replace HA := Lib.hid ((hb5.block w.heap.size (lt_of_block HA.out)).trans HA.out)
    replace HBk := Lib.hid ((hb5.block (w.heap.size + 1) (lt_of_block HBk.out)).trans HBk.out)
    replace HR := Lib.hid ((hb5.block (w.heap.size + 1 + 1) (lt_of_block HR.out)).trans HR.out)
    replace HB4 := Lib.hid (HB4.out.trans (hb5.mono HB4.out.size))
    replace HD := Lib.hid ((hb5.block D (lt_of_block HD.out)).trans HD.out)
    replace HO := Lib.hid (HO.out.next hb5)
    replace HSz4 := Lib.hid (Nat.le_trans HSz4.out hb5.size)
    clear cD
    have cD := blk_cell HD.out 0
    rw [one0] at cD
    clear cA cB
    have cA := blk_cell HA.out 0
    have cB := blk_cell HBk.out 0
    have cR := blk_cell HR.out 0
    have fR := blk_free HR.out 0
    rw [one0] at cA cB cR
    clear hb5
    go_wp2_with fail
    obtain ⟨_, r0, k0⟩ := store1 HR.out (.slice a3 za.length c3)
    obtain ⟨W9, hW9⟩ : ∃ W9, W9 = w5.setCell ⟨w.heap.size + 1 + 1, 0, none⟩ (.slice a3 za.length c3) := ⟨_, rfl⟩
    rw [← hW9] at r0 k0 ⊢
    have hs9 : W9.heap.size = w5.heap.size := by rw [hW9, World.setCell_size]
    have Q1 := Lib.hid ((HO.out.keptF k0 (fun b hb => by unfold ival at hb; omega)).mono (G := ival w.heap.size W9.heap.size) (fun b hb => by have := HSz4.out; unfold ival at hb ⊢; omega))
    have Q2 := Lib.hid (HB4.out.trans (k0.below (B := w.heap.size) (fun b hb => by omega) HB4.out.size))
    clear cR fR cA cB cD k0 hW9 hs9
    exact bodyPost_ret (v := .tuple #[.agg #[.slice a3 za.length c3], .bool false]) (by simp [results, Try.results61, go_sem, r0]) rfl ⟨_, rfl, by rw [HE2.out]; exact Q1.out, Q2.out⟩

  have HVa := Lib.hid hva
  by_cases hvb : vd zb = true
  case neg =>
    have hvf : vd zb = false := by simpa using hvb
    have HF := Lib.hid hvf
    have HE : Hid (xdK za zb = false) := Lib.hid (xdK_b hvf)
    have HE2 : Hid (xd za zb = za) := Lib.hid (xd_no HE.out)
    rw [HE.out]
    clear hva hvb hvf
    go_enter Try.func61, Try.ntmps61
    go_wp2_with fail
    refine (copyDb_any (HU.out.behind (HB.out.mono hl1)) (Nat.le_trans hl1 HB.out.size) HN.out).mono ?_
    rintro e w3 ⟨v3, rfl, h3, hb3⟩
    obtain ⟨a3, c3, hv3, _, hc3, hg3⟩ := h3.open
    subst hv3
    unfold maxLen at hc3
    have hA3 := (hb3.block w.heap.size (lt_of_block HA.out)).trans HA.out
    have hB3 := (hb3.block (w.heap.size + 1) (lt_of_block HBk.out)).trans HBk.out
    have hR3 := (hb3.block (w.heap.size + 1 + 1) (lt_of_block HR.out)).trans HR.out
    have hs3 : w.heap.size + 3 ≤ w3.heap.size := by have := lt_of_block hR3; omega
    have HS3 := Lib.hid hs3
    replace HA := Lib.hid ((heap_alloc_old w3 (.cells #[.slice a3 za.length c3] 39) (lt_of_block hA3)).trans hA3)
    replace HBk := Lib.hid ((heap_alloc_old w3 (.cells #[.slice a3 za.length c3] 39) (lt_of_block hB3)).trans hB3)
    replace HR := Lib.hid ((heap_alloc_old w3 (.cells #[.slice a3 za.length c3] 39) (lt_of_block hR3)).trans hR3)
    have HD := Lib.hid (heap_alloc_new w3 (.cells #[.slice a3 za.length c3] 39))
    have h3' : Own2 22 5 .u8 (ival (w.heap.size + 3) w3.heap.size) w3 (.slice a3 za.length c3) za := h3.mono (fun b hb => by unfold ival at hb ⊢; rw [World.size_alloc, World.size_alloc, World.size_alloc] at hb; omega)
    have HO := Lib.hid (h3'.alloc (.cells #[.slice a3 za.length c3] 39))
    have hB4 := HB.out.trans (hb3.mono HB.out.size)
    have HB4 := Lib.hid (hB4.alloc hB4.size (.cells #[.slice a3 za.length c3] 39))
    have hg0 : 0 < za.length → ∃ g, a3 = some ⟨g, 0, none⟩ := fun hp => by obtain ⟨g, hg, _⟩ := hg3 hp; exact ⟨g, hg⟩
    have HG := Lib.hid hg0
    clear cA cB
    have cA := blk_cell HA.out 0
    have cB := blk_cell HBk.out 0
    have cD := blk_cell HD.out 0
    rw [one0] at cA cB cD
    clear h3 h3' hb3 hA3 hB3 hR3 hg3 hg0 HB hB4 hs3
    go_wp2_with fail
    obtain ⟨D, hD⟩ : ∃ D, D = w3.heap.size := ⟨_, rfl⟩
    obtain ⟨w4, hw4⟩ : ∃ w4, w4 = w3.alloc (.cells #[.slice a3 za.length c3] 39) := ⟨_, rfl⟩
    have HSz4 : Hid (D + 1 ≤ w4.heap.size) := Lib.hid (by rw [hw4, hD]; simp)
    rw [← hw4] at HA HBk HR HD HO HB4 cA cB cD ⊢
    rw [← hD] at HD HO HS3 cD ⊢
    clear hw4 hD
    refine (impl_vd (HU.out.behind (HB4.out.mono hl1)) (Nat.le_trans hl1 HB4.out.size)).mono ?_
    rw [HVa.out]
    rintro e w5 ⟨rfl, hb5⟩
    replace HA := Lib.hid ((hb5.block w.heap.size (lt_of_block HA.out)).trans HA.out)
    replace HBk := Lib.hid ((hb5.block (w.heap.size + 1) (lt_of_block HBk.out)).trans HBk.out)
    replace HR := Lib.hid ((hb5.block (w.heap.size + 1 + 1) (lt_of_block HR.out)).trans HR.out)
    replace HB4 := Lib.hid (HB4.out.trans (hb5.mono HB4.out.size))
    replace HD := Lib.hid ((hb5.block D (lt_of_block HD.out)).trans HD.out)
    replace HO := Lib.hid (HO.out.next hb5)
    replace HSz4 := Lib.hid (Nat.le_trans HSz4.out hb5.size)
    clear cD
    have cD := blk_cell HD.out 0
    rw [one0] at cD
    clear cA cB
    have cA := blk_cell HA.out 0
    have cB := blk_cell HBk.out 0
    have cR := blk_cell HR.out 0
    have fR := blk_free HR.out 0
    rw [one0] at cA cB cR
    clear hb5
    go_wp2_with fail
    refine (impl_vd (HV.out.behind (HB4.out.mono hl2)) (Nat.le_trans hl2 HB4.out.size)).mono ?_
    rw [HF.out]
    rintro e w6 ⟨rfl, hb5⟩
    replace HA := Lib.hid ((hb5.block w.heap.size (lt_of_block HA.out)).trans HA.out)
    replace HBk := Lib.hid ((hb5.block (w.heap.size + 1) (lt_of_block HBk.out)).trans HBk.out)
    replace HR := Lib.hid ((hb5.block (w.heap.size + 1 + 1) (lt_of_block HR.out)).trans HR.out)
    replace HB4 := Lib.hid (HB4.out.trans (hb5.mono HB4.out.size))
    replace HD := Lib.hid ((hb5.block D (lt_of_block HD.out)).trans HD.out)
    replace HO := Lib.hid (HO.out.next hb5)
    replace HSz4 := Lib.hid (Nat.le_trans HSz4.out hb5.size)
    clear cD
    have cD := blk_cell HD.out 0
    rw [one0] at cD
    clear cR fR
    clear cA cB
    have cA := blk_cell HA.out 0
    have cB := blk_cell HBk.out 0
    have cR := blk_cell HR.out 0
    have fR := blk_free HR.out 0
    rw [one0] at cA cB cR
    clear hb5
    go_wp2_with fail
    obtain ⟨_, r0, k0⟩ := store1 HR.out (.slice a3 za.length c3)
    obtain ⟨W9, hW9⟩ : ∃ W9, W9 = w6.setCell ⟨w.heap.size + 1 + 1, 0, none⟩ (.slice a3 za.length c3) := ⟨_, rfl⟩
    rw [← hW9] at r0 k0 ⊢
    have hs9 : W9.heap.size = w6.heap.size := by rw [hW9, World.setCell_size]
    have Q1 := Lib.hid ((HO.out.keptF k0 (fun b hb => by unfold ival at hb; omega)).mono (G := ival w.heap.size W9.heap.size) (fun b hb => by have := HSz4.out; unfold ival at hb ⊢; omega))
    have Q2 := Lib.hid (HB4.out.trans (k0.below (B := w.heap.size) (fun b hb => by omega) HB4.out.size))
    clear cR fR cA cB cD k0 hW9 hs9
    exact bodyPost_ret (v := .tuple #[.agg #[.slice a3 za.length c3], .bool false]) (by simp [results, Try.results61, go_sem, r0]) rfl ⟨_, rfl, by rw [HE2.out]; exact Q1.out, Q2.out⟩

  have HVb := Lib.hid hvb
  by_cases hlen : za.length = zb.length
  case neg =>
    have HE : Hid (xdK za zb = false) := Lib.hid (xdK_len hlen)
    have HE2 : Hid (xd za zb = za) := Lib.hid (xd_no HE.out)
    rw [HE.out]
    have e1 : ((za.length : Int) != (zb.length : Int)) = true := by simp; omega
    clear hva hvb hlen
    go_enter Try.func61, Try.ntmps61
    go_wp2_with fail
    refine (copyDb_any (HU.out.behind (HB.out.mono hl1)) (Nat.le_trans hl1 HB.out.size) HN.out).mono ?_
    rintro e w3 ⟨v3, rfl, h3, hb3⟩
    obtain ⟨a3, c3, hv3, _, hc3, hg3⟩ := h3.open
    subst hv3
    unfold maxLen at hc3
    have hA3 := (hb3.block w.heap.size (lt_of_block HA.out)).trans HA.out
    have hB3 := (hb3.block (w.heap.size + 1) (lt_of_block HBk.out)).trans HBk.out
    have hR3 := (hb3.block (w.heap.size + 1 + 1) (lt_of_block HR.out)).trans HR.out
    have hs3 : w.heap.size + 3 ≤ w3.heap.size := by have := lt_of_block hR3; omega
    have HS3 := Lib.hid hs3
    replace HA := Lib.hid ((heap_alloc_old w3 (.cells #[.slice a3 za.length c3] 39) (lt_of_block hA3)).trans hA3)
    replace HBk := Lib.hid ((heap_alloc_old w3 (.cells #[.slice a3 za.length c3] 39) (lt_of_block hB3)).trans hB3)
    replace HR := Lib.hid ((heap_alloc_old w3 (.cells #[.slice a3 za.length c3] 39) (lt_of_block hR3)).trans hR3)
    have HD := Lib.hid (heap_alloc_new w3 (.cells #[.slice a3 za.length c3] 39))
    have h3' : Own2 22 5 .u8 (ival (w.heap.size + 3) w3.heap.size) w3 (.slice a3 za.length c3) za := h3.mono (fun b hb => by unfold ival at hb ⊢; rw [World.size_alloc, World.size_alloc, World.size_alloc] at hb; omega)
    have HO := Lib.hid (h3'.alloc (.cells #[.slice a3 za.length c3] 39))
    have hB4 := HB.out.trans (hb3.mono HB.out.size)
    have HB4 := Lib.hid (hB4.alloc hB4.size (.cells #[.slice a3 za.length c3] 39))
    have hg0 : 0 < za.length → ∃ g, a3 = some ⟨g, 0, none⟩ := fun hp => by obtain ⟨g, hg, _⟩ := hg3 hp; exact ⟨g, hg⟩
    have HG := Lib.hid hg0
    clear cA cB
    have cA := blk_cell HA.out 0
    have cB := blk_cell HBk.out 0
    have cD := blk_cell HD.out 0
    rw [one0] at cA cB cD
    clear h3 h3' hb3 hA3 hB3 hR3 hg3 hg0 HB hB4 hs3
    go_wp2_with fail
    obtain ⟨D, hD⟩ : ∃ D, D = w3.heap.size := ⟨_, rfl⟩
    obtain ⟨w4, hw4⟩ : ∃ w4, w4 = w3.alloc (.cells #[.slice a3 za.length c3] 39) := ⟨_, rfl⟩
    have HSz4 : Hid (D + 1 ≤ w4.heap.size) := Lib.hid (by rw [hw4, hD]; simp)
    rw [← hw4] at HA HBk HR HD HO HB4 cA cB cD ⊢
    rw [← hD] at HD HO HS3 cD ⊢
    clear hw4 hD
    refine (impl_vd (HU.out.behind (HB4.out.mono hl1)) (Nat.le_trans hl1 HB4.out.size)).mono ?_
    rw [HVa.out]
    rintro e w5 ⟨rfl, hb5⟩
    replace HA := Lib.hid ((hb5.block w.heap.size (lt_of_block HA.out)).trans HA.out)
    replace HBk := Lib.hid ((hb5.block (w.heap.size + 1) (lt_of_block HBk.out)).trans HBk.out)
    replace HR := Lib.hid ((hb5.block (w.heap.size + 1 + 1) (lt_of_block HR.out)).trans HR.out)
    replace HB4 := Lib.hid (HB4.out.trans (hb5.mono HB4.out.size))
    replace HD := Lib.hid ((hb5.block D (lt_of_block HD.out)).trans HD.out)
    replace HO := Lib.hid (HO.out.next hb5)
    replace HSz4 := Lib.hid (Nat.le_trans HSz4.out hb5.size)
    clear cD
    have cD := blk_cell HD.out 0
    rw [one0] at cD
    clear cA cB
    have cA := blk_cell HA.out 0
    have cB := blk_cell HBk.out 0
    have cR := blk_cell HR.out 0
    have fR := blk_free HR.out 0
    rw [one0] at cA cB cR
    clear hb5
    go_wp2_with fail
    refine (impl_vd (HV.out.behind (HB4.out.mono hl2)) (Nat.le_trans hl2 HB4.out.size)).mono ?_
    rw [HVb.out]
    rintro e w6 ⟨rfl, hb5⟩
    replace HA := Lib.hid ((hb5.block w.heap.size (lt_of_block HA.out)).trans HA.out)
    replace HBk := Lib.hid ((hb5.block (w.heap.size + 1) (lt_of_block HBk.out)).trans HBk.out)
    replace HR := Lib.hid ((hb5.block (w.heap.size + 1 + 1) (lt_of_block HR.out)).trans HR.out)
    replace HB4 := Lib.hid (HB4.out.trans (hb5.mono HB4.out.size))
    replace HD := Lib.hid ((hb5.block D (lt_of_block HD.out)).trans HD.out)
    replace HO := Lib.hid (HO.out.next hb5)
    replace HSz4 := Lib.hid (Nat.le_trans HSz4.out hb5.size)
    clear cD
    have cD := blk_cell HD.out 0
    rw [one0] at cD
    clear cR fR
    clear cA cB
    have cA := blk_cell HA.out 0
    have cB := blk_cell HBk.out 0
    have cR := blk_cell HR.out 0
    have fR := blk_free HR.out 0
    rw [one0] at cA cB cR
    clear hb5
    go_wp2_with fail
    obtain ⟨_, r0, k0⟩ := store1 HR.out (.slice a3 za.length c3)
    obtain ⟨W9, hW9⟩ : ∃ W9, W9 = w6.setCell ⟨w.heap.size + 1 + 1, 0, none⟩ (.slice a3 za.length c3) := ⟨_, rfl⟩
    rw [← hW9] at r0 k0 ⊢
    have hs9 : W9.heap.size = w6.heap.size := by rw [hW9, World.setCell_size]
    have Q1 := Lib.hid ((HO.out.keptF k0 (fun b hb => by unfold ival at hb; omega)).mono (G := ival w.heap.size W9.heap.size) (fun b hb => by have := HSz4.out; unfold ival at hb ⊢; omega))
    have Q2 := Lib.hid (HB4.out.trans (k0.below (B := w.heap.size) (fun b hb => by omega) HB4.out.size))
    clear cR fR cA cB cD k0 hW9 hs9
    exact bodyPost_ret (v := .tuple #[.agg #[.slice a3 za.length c3], .bool false]) (by simp [results, Try.results61, go_sem, r0]) rfl ⟨_, rfl, by rw [HE2.out]; exact Q1.out, Q2.out⟩

  have HE : Hid (xdK za zb = true) := Lib.hid (xdK_yes hva hvb hlen)
  have HE2 : Hid (xd za zb = xdL za zb) := Lib.hid (xd_yes HE.out)
  rw [HE.out]
  have e1 : ((za.length : Int) != (zb.length : Int)) = false := by simp; omega
  have hb64 := (vd_rows hva).1
  have HLen := Lib.hid hlen
  have HRa : Hid (∀ (j : Nat) (xs : List Int), za[j]? = some xs → xs.length = 24) := Lib.hid (fun j xs h => by have := (vd_rows hva).2 j (List.getElem?_eq_some_iff.1 h).1; rwa [getD_of h] at this)
  have HRb : Hid (∀ (j : Nat) (xs : List Int), zb[j]? = some xs → xs.length = 24) := Lib.hid (fun j xs h => by have := (vd_rows hvb).2 j (List.getElem?_eq_some_iff.1 h).1; rwa [getD_of h] at this)
  clear hva hvb hlen
  go_enter Try.func61, Try.ntmps61
  go_wp2_with fail
  refine (copyDb_any (HU.out.behind (HB.out.mono hl1)) (Nat.le_trans hl1 HB.out.size) HN.out).mono ?_
  rintro e w3 ⟨v3, rfl, h3, hb3⟩
  obtain ⟨a3, c3, hv3, _, hc3, hg3⟩ := h3.open
  subst hv3
  unfold maxLen at hc3
  have hA3 := (hb3.block w.heap.size (lt_of_block HA.out)).trans HA.out
  have hB3 := (hb3.block (w.heap.size + 1) (lt_of_block HBk.out)).trans HBk.out
  have hR3 := (hb3.block (w.heap.size + 1 + 1) (lt_of_block HR.out)).trans HR.out
  have hs3 : w.heap.size + 3 ≤ w3.heap.size := by have := lt_of_block hR3; omega
  have HS3 := Lib.hid hs3
  replace HA := Lib.hid ((heap_alloc_old w3 (.cells #[.slice a3 za.length c3] 39) (lt_of_block hA3)).trans hA3)
  replace HBk := Lib.hid ((heap_alloc_old w3 (.cells #[.slice a3 za.length c3] 39) (lt_of_block hB3)).trans hB3)
  replace HR := Lib.hid ((heap_alloc_old w3 (.cells #[.slice a3 za.length c3] 39) (lt_of_block hR3)).trans hR3)
  have HD := Lib.hid (heap_alloc_new w3 (.cells #[.slice a3 za.length c3] 39))
  have h3' : Own2 22 5 .u8 (ival (w.heap.size + 3) w3.heap.size) w3 (.slice a3 za.length c3) za := h3.mono (fun b hb => by unfold ival at hb ⊢; rw [World.size_alloc, World.size_alloc, World.size_alloc] at hb; omega)
  have HO := Lib.hid (h3'.alloc (.cells #[.slice a3 za.length c3] 39))
  have hB4 := HB.out.trans (hb3.mono HB.out.size)
  have HB4 := Lib.hid (hB4.alloc hB4.size (.cells #[.slice a3 za.length c3] 39))
  have hg0 : 0 < za.length → ∃ g, a3 = some ⟨g, 0, none⟩ := fun hp => by obtain ⟨g, hg, _⟩ := hg3 hp; exact ⟨g, hg⟩
  have HG := Lib.hid hg0
  clear cA cB
  have cA := blk_cell HA.out 0
  have cB := blk_cell HBk.out 0
  have cD := blk_cell HD.out 0
  rw [one0] at cA cB cD
  clear h3 h3' hb3 hA3 hB3 hR3 hg3 hg0 HB hB4 hs3
  go_wp2_with fail
  obtain ⟨D, hD⟩ : ∃ D, D = w3.heap.size := ⟨_, rfl⟩
  obtain ⟨w4, hw4⟩ : ∃ w4, w4 = w3.alloc (.cells #[.slice a3 za.length c3] 39) := ⟨_, rfl⟩
  have HSz4 : Hid (D + 1 ≤ w4.heap.size) := Lib.hid (by rw [hw4, hD]; simp)
  rw [← hw4] at HA HBk HR HD HO HB4 cA cB cD ⊢
  rw [← hD] at HD HO HS3 cD ⊢
  clear hw4 hD
  refine (impl_vd (HU.out.behind (HB4.out.mono hl1)) (Nat.le_trans hl1 HB4.out.size)).mono ?_
  rw [HVa.out]
  rintro e w5 ⟨rfl, hb5⟩
  replace HA := Lib.hid ((hb5.block w.heap.size (lt_of_block HA.out)).trans HA.out)
  replace HBk := Lib.hid ((hb5.block (w.heap.size + 1) (lt_of_block HBk.out)).trans HBk.out)
  replace HR := Lib.hid ((hb5.block (w.heap.size + 1 + 1) (lt_of_block HR.out)).trans HR.out)
  replace HB4 := Lib.hid (HB4.out.trans (hb5.mono HB4.out.size))
  replace HD := Lib.hid ((hb5.block D (lt_of_block HD.out)).trans HD.out)
  replace HO := Lib.hid (HO.out.next hb5)
  replace HSz4 := Lib.hid (Nat.le_trans HSz4.out hb5.size)
  clear cD
  have cD := blk_cell HD.out 0
  rw [one0] at cD
  clear cA cB
  have cA := blk_cell HA.out 0
  have cB := blk_cell HBk.out 0
  have cR := blk_cell HR.out 0
  have fR := blk_free HR.out 0
  rw [one0] at cA cB cR
  clear hb5
  go_wp2_with fail
  refine (impl_vd (HV.out.behind (HB4.out.mono hl2)) (Nat.le_trans hl2 HB4.out.size)).mono ?_
  rw [HVb.out]
  rintro e w6 ⟨rfl, hb5⟩
  replace HA := Lib.hid ((hb5.block w.heap.size (lt_of_block HA.out)).trans HA.out)
  replace HBk := Lib.hid ((hb5.block (w.heap.size + 1) (lt_of_block HBk.out)).trans HBk.out)
  replace HR := Lib.hid ((hb5.block (w.heap.size + 1 + 1) (lt_of_block HR.out)).trans HR.out)
  replace HB4 := Lib.hid (HB4.out.trans (hb5.mono HB4.out.size))
  replace HD := Lib.hid ((hb5.block D (lt_of_block HD.out)).trans HD.out)
  replace HO := Lib.hid (HO.out.next hb5)
  replace HSz4 := Lib.hid (Nat.le_trans HSz4.out hb5.size)
  clear cD
  have cD := blk_cell HD.out 0
  rw [one0] at cD
  clear cR fR
  clear cA cB
  have cA := blk_cell HA.out 0
  have cB := blk_cell HBk.out 0
  have cR := blk_cell HR.out 0
  have fR := blk_free HR.out 0
  rw [one0] at cA cB cR
  clear hb5
  go_wp2_with fail
  go_loopw [32] (fun i wr => ∃ (j : Nat) (F : Nat → Prop), i = .int .i64 j ∧ j ≤ zb.length ∧ Own2 22 5 .u8 F wr (.slice a3 za.length c3) ((xdL za zb).take j ++ za.drop j) ∧ (∀ b, F b → w.heap.size + 3 ≤ b ∧ b < wr.heap.size ∧ b ≠ D) ∧
    wr.heap[w.heap.size + 1 + 1]? = some (.cells #[.slice none 0 0] 39) ∧ wr.heap[D]? = some (.cells #[.slice a3 za.length c3] 39) ∧ Below w.heap.size w wr) (fun i _ => zb.length - (intOf i).toNat)
  case atStart => exact ⟨0, _, rfl, Nat.zero_le _, by rw [List.take_zero, List.drop_zero]; exact HO.out, fun b hb => by have := HSz4.out; unfold ival at hb; omega, HR.out, HD.out, HB4.out⟩
  case round =>
    obtain ⟨j, F, rfl, hj, hO, hF, hR, hD, hB⟩ := hrel
    replace HO := Lib.hid hO
    have HF := Lib.hid hF
    replace HR := Lib.hid hR
    replace HD := Lib.hid hD
    replace HB4 := Lib.hid hB
    clear cD cA cB cR fR
    have cD := blk_cell hD 0
    rw [one0] at cD
    have HSd := Lib.hid (lt_of_block hD)
    clear hO hF hR hD hB HA HBk
    by_cases hlt : j < zb.length
    · have e2 : decide ((j : Int) < (zb.length : Int)) = true := by simp; omega
      have hja : j < za.length := by rw [HLen.out]; exact hlt
      have hja' : (j : Int) < (za.length : Int) := by omega
      obtain ⟨g, rfl⟩ := HG.out (by omega)
      obtain ⟨bb, ob, rfl, hbb, hcellb⟩ := HCb.out (by omega)
      obtain ⟨xs, hxs⟩ : ∃ xs, za[j]? = some xs := ⟨_, List.getElem?_eq_getElem hja⟩
      obtain ⟨ys, hys⟩ : ∃ ys, zb[j]? = some ys := ⟨_, List.getElem?_eq_getElem hlt⟩
      obtain ⟨y, cy, ry⟩ := hcellb wr (HB4.out.mono hl2) j ys hys
      have HY := Lib.hid ry
      have hst : ((xdL za zb).take j ++ za.drop j)[j]? = some xs := mid_get (by rw [List.length_take, xdL_len]; omega) hxs
      obtain ⟨x, cx, ox, ix, hx⟩ := HO.out.swap hst (fun b hb => (HF.out b hb).2.1)
      have HX := Lib.hid hx
      have HIx := Lib.hid ix
      have HOx : Hid (Own 5 .u8 w.heap.size wr.drew x xs) := Lib.hid ((ox.up HB4.out.size (fun r hr => by have := HF.out r (ix r hr); omega)).drew)
      have HT : Hid (((xdL za zb).take j ++ za.drop j).set j (xorl xs ys) = (xdL za zb).take (j + 1) ++ za.drop (j + 1)) := Lib.hid (xdL_set hxs hys)
      have HLn : Hid (xs.length + ys.length ≤ 140737488355328) := Lib.hid (by rw [HRa.out j xs hxs, HRb.out j ys hys]; omega)
      have hne := (HF.out _ (HO.out.in_ _ rfl)).2.2
      have HNe := Lib.hid hne
      have d0 : wr.drew.cell? ⟨D, 0, none⟩ = some (.slice (some ⟨g, 0, none⟩) za.length c3) ∧ wr.drew.cell? ⟨g, j, none⟩ = some x := ⟨cD, cx⟩
      clear hxs hys hst ox ix hx ry hcellb hne
      go_wp2_with fail

      refine region_till (fun w' => w'.cell? ⟨D, 0, none⟩ = some (.slice (some ⟨g, 0, none⟩) za.length c3) ∧ w'.cell? ⟨g, j, none⟩ = some x) 11 (by kernel_rfl) ?_
      apply Till.take (i := 0) [0, 1, 10, 11]
      · simp only [List.getElem?_toArray, List.getElem?_cons_zero]
        rfl
      · kernel_rfl
      · kernel_rfl
      · kernel_rfl
      · kernel_rfl
      · exact fun _ _ _ h => h
      · first
          | exact Or.inr ⟨by rfl, rfl⟩
          | (refine Or.inl ⟨by rfl, fun wq hwq => ?_⟩
             dsimp only at hwq
             go_simp
             first
               | done
               | rfl)
      · exact d0
      simp only [Act.put, List.setIfInBounds_toArray, List.set_cons_zero, List.set_cons_succ]
      apply Till.take (i := 1) [1, 10, 11]
      · simp only [List.getElem?_toArray, List.getElem?_cons_succ, List.getElem?_cons_zero]
        rfl
      · kernel_rfl
      · kernel_rfl
      · kernel_rfl
      · kernel_rfl
      · exact fun _ _ _ h => h
      · first
          | exact Or.inr ⟨by rfl, rfl⟩
          | (refine Or.inl ⟨by rfl, fun wq hwq => ?_⟩
             dsimp only at hwq
             go_simp
             first
               | done
               | rfl)
      · exact d0
      simp only [Act.put, List.setIfInBounds_toArray, List.set_cons_zero, List.set_cons_succ]
      apply Till.take (i := 2) [2, 10, 11]
      · simp only [List.getElem?_toArray, List.getElem?_cons_succ, List.getElem?_cons_zero]
        rfl
      · kernel_rfl
      · kernel_rfl
      · kernel_rfl
      · kernel_rfl
      · exact fun _ _ _ h => h
      · first
          | exact Or.inr ⟨by rfl, rfl⟩
          | (refine Or.inl ⟨by rfl, fun wq hwq => ?_⟩
             dsimp only at hwq
             go_simp
             first
               | done
               | rfl)
      · exact d0
      simp only [Act.put, List.setIfInBounds_toArray, List.set_cons_zero, List.set_cons_succ]
      apply Till.take (i := 3) [3, 4, 6, 7, 9, 11]
      · simp only [List.getElem?_toArray, List.getElem?_cons_succ, List.getElem?_cons_zero]
        rfl
      · kernel_rfl
      · kernel_rfl
      · kernel_rfl
      · kernel_rfl
      · exact fun _ _ _ h => h
      · first
          | exact Or.inr ⟨by rfl, rfl⟩
          | (refine Or.inl ⟨by rfl, fun wq hwq => ?_⟩
             dsimp only at hwq
             go_simp
             first
               | done
               | rfl)
      · exact d0
      simp only [Act.put, List.setIfInBounds_toArray, List.set_cons_zero, List.set_cons_succ]
      apply Till.take (i := 4) [4, 6, 7, 9, 11]
      · simp only [List.getElem?_toArray, List.getElem?_cons_succ, List.getElem?_cons_zero]
        rfl
      · kernel_rfl
      · kernel_rfl
      · kernel_rfl
      · kernel_rfl
      · exact fun _ _ _ h => h
      · first
          | exact Or.inr ⟨by rfl, rfl⟩
          | (refine Or.inl ⟨by rfl, fun wq hwq => ?_⟩
             dsimp only at hwq
             go_simp
             first
               | done
               | rfl)
      · exact d0
      simp only [Act.put, List.setIfInBounds_toArray, List.set_cons_zero, List.set_cons_succ]
      apply Till.take (i := 5) [5, 6, 7, 9, 11]
      · simp only [List.getElem?_toArray, List.getElem?_cons_succ, List.getElem?_cons_zero]
        rfl
      · kernel_rfl
      · kernel_rfl
      · kernel_rfl
      · kernel_rfl
      · exact fun _ _ _ h => h
      · first
          | exact Or.inr ⟨by rfl, rfl⟩
          | (refine Or.inl ⟨by rfl, fun wq hwq => ?_⟩
             dsimp only at hwq
             go_simp
             first
               | done
               | rfl)
      · exact d0
      simp only [Act.put, List.setIfInBounds_toArray, List.set_cons_zero, List.set_cons_succ]
      apply Till.take (i := 6) [6, 7, 9, 11]
      · simp only [List.getElem?_toArray, List.getElem?_cons_succ, List.getElem?_cons_zero]
        rfl
      · kernel_rfl
      · kernel_rfl
      · kernel_rfl
      · kernel_rfl
      · exact fun _ _ _ h => h
      · first
          | exact Or.inr ⟨by rfl, rfl⟩
          | (refine Or.inl ⟨by rfl, fun wq hwq => ?_⟩
             dsimp only at hwq
             go_simp
             first
               | done
               | rfl)
      · exact d0
      simp only [Act.put, List.setIfInBounds_toArray, List.set_cons_zero, List.set_cons_succ]
      apply Till.take (i := 7) [7, 9, 11]
      · simp only [List.getElem?_toArray, List.getElem?_cons_succ, List.getElem?_cons_zero]
        rfl
      · kernel_rfl
      · kernel_rfl
      · kernel_rfl
      · kernel_rfl
      · exact fun _ _ _ h => h
      · first
          | exact Or.inr ⟨by rfl, rfl⟩
          | (refine Or.inl ⟨by rfl, fun wq hwq => ?_⟩
             dsimp only at hwq
             go_simp
             first
               | done
               | rfl)
      · exact d0
      simp only [Act.put, List.setIfInBounds_toArray, List.set_cons_zero, List.set_cons_succ]
      apply Till.take (i := 8) [8, 9, 11]
      · simp only [List.getElem?_toArray, List.getElem?_cons_succ, List.getElem?_cons_zero]
        rfl
      · kernel_rfl
      · kernel_rfl
      · kernel_rfl
      · kernel_rfl
      · exact fun _ _ _ h => h
      · first
          | exact Or.inr ⟨by rfl, rfl⟩
          | (refine Or.inl ⟨by rfl, fun wq hwq => ?_⟩
             dsimp only at hwq
             go_simp
             first
               | done
               | rfl)
      · exact d0
      simp only [Act.put, List.setIfInBounds_toArray, List.set_cons_zero, List.set_cons_succ]
      apply Till.one (i := 9)
      · kernel_rfl
      · simp only [List.getElem?_toArray, List.getElem?_cons_succ, List.getElem?_cons_zero]
        rfl
      intro K hK
      go_simp
      refine (xorInto_rd HOx.out HY.out.drew hl2 HLn.out).mono ?_
      rintro e' w5 ⟨v5, he, h5, hk5, hp5⟩
      subst he
      obtain ⟨L5, hL5⟩ : ∃ L, L = (xorl xs ys).length := ⟨_, rfl⟩
      obtain ⟨a5, c5, hv5, _⟩ := h5.open
      rw [← hL5] at hv5
      subst hv5
      have hk5' : KeptF (fun b => x.ownBlock = some b) wr w5 := (KeptF.of_below (Below.refl _ _).drew).trans hk5
      obtain ⟨q1, q2, q3⟩ := HX.out w5 hk5'
      obtain ⟨p1, p2⟩ := q3 _ _ (h5.mono (Nat.zero_le _)) hp5
      rw [HT.out] at p1
      have P1 := Lib.hid p1
      have P2 := Lib.hid p2
      have HK5 := Lib.hid hk5'
      have H5 := Lib.hid h5
      have HP5 : Hid ((Value.slice a5 L5 c5).ownBlock = x.ownBlock ∨ ∀ r, (Value.slice a5 L5 c5).ownBlock = some r → wr.heap.size ≤ r) := Lib.hid hp5
      have hD5 := (hk5'.block D HSd.out (fun h => (HF.out D (HIx.out D h)).2.2 rfl)).trans HD.out
      have hR5 := (hk5'.block (w.heap.size + 1 + 1) (lt_of_block HR.out) (fun h => by have := HF.out _ (HIx.out _ h); omega)).trans HR.out
      have HD5 := Lib.hid hD5
      have HR5 := Lib.hid hR5
      have d5 : w5.cell? ⟨D, 0, none⟩ = some (.slice (some ⟨g, 0, none⟩) za.length c3) ∧ w5.cell? ⟨g, j, none⟩ = some x := ⟨blk_cell hD5 0, q1⟩
      clear h5 hk5 hk5' hp5 hL5 q1 q3 p1 p2 hD5 hR5
      refine hK.out _ _ (Or.inr d5) ?_
      clear hK K
      try simp only [Act.put, List.setIfInBounds_toArray, List.set_cons_zero, List.set_cons_succ]
      apply Till.take (i := 10) [10, 11]
      · simp only [List.getElem?_toArray, List.getElem?_cons_succ, List.getElem?_cons_zero]
        rfl
      · kernel_rfl
      · kernel_rfl
      · kernel_rfl
      · kernel_rfl
      · exact fun _ _ _ h => h
      · first
          | exact Or.inr ⟨by rfl, rfl⟩
          | (refine Or.inl ⟨by rfl, fun wq hwq => ?_⟩
             dsimp only at hwq
             go_simp
             first
               | done
               | rfl)
      · exact d5
      simp only [Act.put, List.setIfInBounds_toArray, List.set_cons_zero, List.set_cons_succ]
      apply Till.one (i := 11)
      · kernel_rfl
      · simp only [List.getElem?_toArray, List.getElem?_cons_succ, List.getElem?_cons_zero]
        rfl
      intro K hK
      obtain ⟨d6, d7⟩ := d5
      go_simp
      refine hK.out _ _ (Or.inl (by rfl)) ?_
      clear hK K
      try simp only [Act.put, List.setIfInBounds_toArray, List.set_cons_zero, List.set_cons_succ]
      refine Till.done (by kernel_rfl) ?_ _
      obtain ⟨W8, hW8⟩ : ∃ W8, W8 = w5.setCell ⟨g, j, none⟩ (.slice a5 L5 c5) := ⟨_, rfl⟩
      rw [← hW8] at P1 P2 ⊢
      have HS8 : Hid (W8.heap.size = w5.heap.size) := Lib.hid (by rw [hW8, World.setCell_size])
      clear hW8 d0 cD
      go_wp2_with fail
      go_roundw
      case rel =>
        have hgF : F g := HO.out.in_ g rfl
        have hs5 := HK5.out.size
        have hs8 := HS8.out
        have hgn := HF.out g hgF
        have hkF : KeptF F wr W8 := (HK5.out.mono (fun b hb => HIx.out b hb)).trans (KeptF.of_grown P2.out (fun b hb => by injection hb with hb; subst hb; exact hgF))
        refine ⟨j + 1, _, by simp, hlt, P1.out, fun b hb => ?_, ?_, ?_, ?_⟩
        · rcases hb with hb | hb
          · have := HF.out b hb; omega
          · have h6 := (H5.out.lt b hb).2
            rcases HP5.out with h7 | h7
            · rw [h7] at hb
              have := HF.out b (HIx.out b hb)
              omega
            · have h8 := h7 b hb
              have := HSd.out
              have := HB4.out.size
              have h9 := lt_of_block HR.out
              omega
        · exact (P2.out.block _ (lt_of_block HR5.out) (fun e => by injection e with e; omega)).trans HR5.out
        · exact (P2.out.block _ (lt_of_block HD5.out) (fun e => by injection e with e; exact HNe.out e.symm)).trans HD5.out
        · exact HB4.out.trans (hkF.below (fun b hb => by have := HF.out b hb; omega) HB4.out.size)
      case measure => simp [intOf]; omega
    · have e2 : decide ((j : Int) < (zb.length : Int)) = false := by simp; omega
      have ej : j = za.length := by have := HLen.out; omega
      have HE3 : Hid ((xdL za zb).take j ++ za.drop j = xd za zb) := Lib.hid (by rw [HE2.out, ej, List.take_of_length_le (by rw [xdL_len]; exact Nat.le_refl _), List.drop_length, List.append_nil])
      have cR := blk_cell HR.out 0
      have fR := blk_free HR.out 0
      rw [one0] at cR
      clear ej
      go_wp2_with fail
      obtain ⟨_, r0, k0⟩ := store1 HR.out (.slice a3 za.length c3)
      obtain ⟨W9, hW9⟩ : ∃ W9, W9 = wr.setCell ⟨w.heap.size + 1 + 1, 0, none⟩ (.slice a3 za.length c3) := ⟨_, rfl⟩
      rw [← hW9] at r0 k0 ⊢
      have hs9 : W9.heap.size = wr.heap.size := by rw [hW9, World.setCell_size]
      have Q1 := Lib.hid ((HO.out.keptF k0 (fun b hb => by have := HF.out b hb; omega)).mono (G := ival w.heap.size W9.heap.size) (fun b hb => by have := HF.out b hb; unfold ival; omega))
      have Q2 := Lib.hid (HB4.out.trans (k0.below (B := w.heap.size) (fun b hb => by omega) HB4.out.size))
      clear cR fR cD k0 hW9 hs9
      exact bodyPost_ret (v := .tuple #[.agg #[.slice a3 za.length c3], .bool true]) (by simp [results, Try.results61, go_sem, r0]) rfl ⟨_, rfl, by rw [← HE3.out]; exact Q1.out, Q2.out⟩

end Go.Proofs.Ytdipignajccdcaa
