/- XorRow, the program's and the document's: what each gives. No conditions but a size that a machine holds. -/
import Derived.Test.YtdeahjinnnhfkaaDb5
namespace Go.Proofs.Ytdeahjinnnhfkaa
open Go Go.RowKit
set_option linter.unusedVariables false
attribute [local irreducible] kh

theorem xrK_row {zss : List (List Int)} {i : Int} {c : List Int} (h : hasR zss i = false) : xrK zss i c = false := by unfold xrK; rw [h]; rfl
theorem xrK_size {zss : List (List Int)} {k : Nat} {c : List Int} (h : (zss.getD k []).length ≠ 24) : xrK zss (k : Int) c = false := by
  unfold xrK; rw [Int.toNat_natCast, decide_eq_false h, Bool.and_false, Bool.false_and]
theorem xrK_len {zss : List (List Int)} {i : Int} {c : List Int} (h : c.length ≠ 24) : xrK zss i c = false := by unfold xrK; rw [decide_eq_false h, Bool.and_false]
theorem xrK_yes {zss : List (List Int)} {k : Nat} {c : List Int} (h : k < zss.length) (h1 : (zss.getD k []).length = 24) (h2 : c.length = 24) : xrK zss (k : Int) c = true := by
  unfold xrK; rw [Int.toNat_natCast, decide_eq_true h1, decide_eq_true h2, hasR_yes h]; rfl
theorem xr_no {zss : List (List Int)} {i : Int} {c : List Int} (h : xrK zss i c = false) : xr zss i c = zss := by unfold xr; rw [if_neg (by rw [h]; exact Bool.false_ne_true)]
theorem xr_yes {zss : List (List Int)} {k : Nat} {c : List Int} (h : xrK zss (k : Int) c = true) : xr zss (k : Int) c = zss.set k (xorl (zss.getD k []) c) := by unfold xr; rw [if_pos h]; rfl
theorem xr_rep {zss : List (List Int)} {k : Nat} {c : List Int} (h : k < zss.length) (h1 : (zss.getD k []).length = 24) (h2 : c.length = 24) :
    repK zss (k : Int) (xorl (zss.getD k []) c) = true ∧ rep zss (k : Int) (xorl (zss.getD k []) c) = xr zss (k : Int) c := by
  have h3 : repK zss (k : Int) (xorl (zss.getD k []) c) = true := repK_iff.2 ⟨hasR_yes h, by rw [xorl_len]; omega⟩
  exact ⟨h3, by rw [rep_yes h3, xr_yes (xrK_yes h h1 h2)]⟩

set_option maxHeartbeats 2000000 in
/-- impl.XorRow -/
theorem impl_xr {l1 l2 : Nat} {w : World} {v u : Value} {zss : List (List Int)} {i : Int} {c : List Int} (hu : Rd2 l1 .u8 w v zss) (hv : Rd l2 .u8 w u c) (hl1 : l1 ≤ w.heap.size) (hl2 : l2 ≤ w.heap.size) (hi : (Lit.int .i64 i).wf = true) (hn : tot zss ≤ 1099511627776) (hs : c.length ≤ 1099511627776) :
    Calls Try.prog 25 #[.agg #[v], .int .i64 i, u] w fun e w' => ∃ v', e = .returned (.tuple #[.agg #[v'], .bool (xrK zss i c)]) ∧ Own2 22 5 .u8 (ival w.heap.size w'.heap.size) w' v' (xr zss i c) ∧ Below w.heap.size w w' := by
  obtain ⟨a, cap, rfl, h1, h2, hcl⟩ := hu.open
  obtain ⟨au, cu, rfl, h1', h2', _⟩ := hv.open
  have HB := Lib.hid (((Below.refl w.heap.size w).alloc (Nat.le_refl _) (.cells #[.slice a zss.length cap] 30)).alloc (by simp) (.cells #[.slice none 0 0] 30))
  have HU := Lib.hid hu
  have HV := Lib.hid hv
  have HCl := Lib.hid hcl
  have hbl := blocks2 w (.cells #[.slice a zss.length cap] 30) (.cells #[.slice none 0 0] 30)
  have HA := Lib.hid hbl.1
  have HR := Lib.hid hbl.2
  have cA := blk_cell hbl.1 0
  rw [one0] at cA
  unfold maxLen at h2 h2'
  have HW := Lib.hid hi
  have HN := Lib.hid hn
  have HCs := Lib.hid hs
  have hzl : zss.length ≤ 1099511627776 := by unfold tot at hn; omega
  have e0 : wrap64 ((zss.length : Int) - 1) = (zss.length : Int) - 1 := by unfold wrap64; omega
  clear hu hv hi hn hbl hs hcl
  by_cases hk : hasR zss i = true
  case neg =>
    have hkf : hasR zss i = false := by simpa using hk
    have HK := Lib.hid hkf
    have HE : Hid (xrK zss i c = false) := Lib.hid (xrK_row hkf)
    have HE2 : Hid (xr zss i c = zss) := Lib.hid (xr_no HE.out)
    rw [HE.out]
    clear hk hkf
    go_enter Try.func25, Try.ntmps25
    go_wp2_with fail
    refine (hasRow_any (zss := zss) HW.out (by omega)).mono ?_
    rw [HK.out]
    rintro e w5 ⟨rfl, hb5⟩
    have hb5' : Below w.heap.size w w5 := HB.out.trans (hb5.mono HB.out.size)
    replace HA := Lib.hid ((hb5.block w.heap.size (lt_of_block HA.out)).trans HA.out)
    replace HR := Lib.hid ((hb5.block (w.heap.size + 1) (lt_of_block HR.out)).trans HR.out)
    have HB5 := Lib.hid hb5'
    clear hb5 hb5' HB cA
    have HS5 : Hid (w.heap.size + 2 ≤ w5.heap.size) := Lib.hid (by have := lt_of_block HR.out; omega)
    have HU5 := Lib.hid (HU.out.behind (HB5.out.mono hl1))
    have HV5 := Lib.hid (HV.out.behind (HB5.out.mono hl2))
    have cA := blk_cell HA.out 0
    rw [one0] at cA
    go_wp2_with fail
    refine (copyDb_any HU5.out (Nat.le_trans hl1 HB5.out.size) HN.out).mono ?_
    rintro e w7 ⟨v7, rfl, h7, hb7⟩
    obtain ⟨a7, c7, hv7, _⟩ := h7.open
    subst hv7
    have hR7 := (hb7.block (w.heap.size + 1) (lt_of_block HR.out)).trans HR.out
    have HR7 := Lib.hid hR7
    have cR := blk_cell hR7 0
    have fR := blk_free hR7 0
    rw [one0] at cR
    have H7 := Lib.hid h7
    have HB7 := Lib.hid (HB5.out.trans (hb7.mono HB5.out.size))
    clear h7 hb7 hR7 cA
    go_wp2_with fail
    obtain ⟨_, r0, k0⟩ := store1 HR7.out (.slice a7 zss.length c7)
    obtain ⟨W9, hW9⟩ : ∃ W9, W9 = w7.setCell ⟨w.heap.size + 1, 0, none⟩ (.slice a7 zss.length c7) := ⟨_, rfl⟩
    rw [← hW9] at r0 k0 ⊢
    have hs9 : W9.heap.size = w7.heap.size := by rw [hW9, World.setCell_size]
    have Q1 := Lib.hid ((H7.out.keptF k0 (fun b hb => by have := HS5.out; unfold ival at hb; omega)).mono (G := ival w.heap.size W9.heap.size) (fun b hb => by have := HS5.out; unfold ival at hb ⊢; omega))
    have Q2 := Lib.hid (HB7.out.trans (k0.below (B := w.heap.size) (fun b hb => by omega) HB7.out.size))
    clear cR fR k0 hW9 hs9
    exact bodyPost_ret (v := .tuple #[.agg #[.slice a7 zss.length c7], .bool false]) (by simp [results, Try.results25, go_sem, r0]) rfl ⟨_, rfl, by rw [HE2.out]; exact Q1.out, Q2.out⟩

  obtain ⟨k, rfl, hlt⟩ := hasR_iff.1 hk
  have HK := Lib.hid hk
  have hlt' : (k : Int) < (zss.length : Int) := by omega
  obtain ⟨b, o, rfl, hbl, hcell⟩ := HCl.out (by omega)
  obtain ⟨zs, hzs⟩ : ∃ zs, zss[k]? = some zs := ⟨_, List.getElem?_eq_getElem hlt⟩
  have HC := Lib.hid hcell
  have HZ := Lib.hid hzs
  have HG : Hid (zss.getD k [] = zs) := Lib.hid (getD_of hzs)
  have HLz : Hid (zs.length ≤ 1099511627776) := Lib.hid (row_fl HN.out hzs)
  clear hk hcell hzs
  by_cases hz24 : zs.length = 24
  case neg =>
    have HE : Hid (xrK zss (k : Int) c = false) := Lib.hid (xrK_size (by rw [HG.out]; exact hz24))
    have HE2 : Hid (xr zss (k : Int) c = zss) := Lib.hid (xr_no HE.out)
    rw [HE.out]
    have Hz24 := Lib.hid hz24
    clear hz24
    go_enter Try.func25, Try.ntmps25
    go_wp2_with fail
    refine (hasRow_any (zss := zss) HW.out (by omega)).mono ?_
    rw [HK.out]
    rintro e w5 ⟨rfl, hb5⟩
    have hb5' : Below w.heap.size w w5 := HB.out.trans (hb5.mono HB.out.size)
    replace HA := Lib.hid ((hb5.block w.heap.size (lt_of_block HA.out)).trans HA.out)
    replace HR := Lib.hid ((hb5.block (w.heap.size + 1) (lt_of_block HR.out)).trans HR.out)
    have HB5 := Lib.hid hb5'
    clear hb5 hb5' HB cA
    have HS5 : Hid (w.heap.size + 2 ≤ w5.heap.size) := Lib.hid (by have := lt_of_block HR.out; omega)
    have HU5 := Lib.hid (HU.out.behind (HB5.out.mono hl1))
    have HV5 := Lib.hid (HV.out.behind (HB5.out.mono hl2))
    have cA := blk_cell HA.out 0
    rw [one0] at cA
    obtain ⟨x, cx, hx⟩ := HC.out w5 (HB5.out.mono hl1) k zs HZ.out
    obtain ⟨ax, kx, hxv, _⟩ := hx.open
    obtain ⟨L, hL⟩ : ∃ L, L = zs.length := ⟨_, rfl⟩
    rw [← hL] at hxv
    subst hxv
    have HX := Lib.hid hx
    have HL := Lib.hid hL
    clear hx
    have hL24 : ¬ L = 24 := by rw [hL]; exact Hz24.out
    have er : ((L : Int) == 24) = false := by rw [beq_eq_false_iff_ne]; omega
    have ern : ((L : Int) != 24) = true := by simp; omega
    clear hL hL24
    go_wp2_with fail
    refine (cell_any).mono ?_
    rw [er]
    rintro e w6 ⟨rfl, hw6⟩
    obtain rfl : w5 = w6 := hw6.symm
    clear hw6
    go_wp2_with fail
    refine (copyDb_any HU5.out (Nat.le_trans hl1 HB5.out.size) HN.out).mono ?_
    rintro e w7 ⟨v7, rfl, h7, hb7⟩
    obtain ⟨a7, c7, hv7, _⟩ := h7.open
    subst hv7
    have hR7 := (hb7.block (w.heap.size + 1) (lt_of_block HR.out)).trans HR.out
    have HR7 := Lib.hid hR7
    have cR := blk_cell hR7 0
    have fR := blk_free hR7 0
    rw [one0] at cR
    have H7 := Lib.hid h7
    have HB7 := Lib.hid (HB5.out.trans (hb7.mono HB5.out.size))
    clear h7 hb7 hR7 cA
    go_wp2_with fail
    obtain ⟨_, r0, k0⟩ := store1 HR7.out (.slice a7 zss.length c7)
    obtain ⟨W9, hW9⟩ : ∃ W9, W9 = w7.setCell ⟨w.heap.size + 1, 0, none⟩ (.slice a7 zss.length c7) := ⟨_, rfl⟩
    rw [← hW9] at r0 k0 ⊢
    have hs9 : W9.heap.size = w7.heap.size := by rw [hW9, World.setCell_size]
    have Q1 := Lib.hid ((H7.out.keptF k0 (fun b hb => by have := HS5.out; unfold ival at hb; omega)).mono (G := ival w.heap.size W9.heap.size) (fun b hb => by have := HS5.out; unfold ival at hb ⊢; omega))
    have Q2 := Lib.hid (HB7.out.trans (k0.below (B := w.heap.size) (fun b hb => by omega) HB7.out.size))
    clear cR fR k0 hW9 hs9
    exact bodyPost_ret (v := .tuple #[.agg #[.slice a7 zss.length c7], .bool false]) (by simp [results, Try.results25, go_sem, r0]) rfl ⟨_, rfl, by rw [HE2.out]; exact Q1.out, Q2.out⟩

  by_cases h24 : c.length = 24
  case neg =>
    have HE : Hid (xrK zss (k : Int) c = false) := Lib.hid (xrK_len h24)
    have HE2 : Hid (xr zss (k : Int) c = zss) := Lib.hid (xr_no HE.out)
    rw [HE.out]
    have ec : ((c.length : Int) == 24) = false := by rw [beq_eq_false_iff_ne]; omega
    have ecn : ((c.length : Int) != 24) = true := by simp; omega
    have Hz24 := Lib.hid hz24
    clear h24
    clear hz24
    go_enter Try.func25, Try.ntmps25
    go_wp2_with fail
    refine (hasRow_any (zss := zss) HW.out (by omega)).mono ?_
    rw [HK.out]
    rintro e w5 ⟨rfl, hb5⟩
    have hb5' : Below w.heap.size w w5 := HB.out.trans (hb5.mono HB.out.size)
    replace HA := Lib.hid ((hb5.block w.heap.size (lt_of_block HA.out)).trans HA.out)
    replace HR := Lib.hid ((hb5.block (w.heap.size + 1) (lt_of_block HR.out)).trans HR.out)
    have HB5 := Lib.hid hb5'
    clear hb5 hb5' HB cA
    have HS5 : Hid (w.heap.size + 2 ≤ w5.heap.size) := Lib.hid (by have := lt_of_block HR.out; omega)
    have HU5 := Lib.hid (HU.out.behind (HB5.out.mono hl1))
    have HV5 := Lib.hid (HV.out.behind (HB5.out.mono hl2))
    have cA := blk_cell HA.out 0
    rw [one0] at cA
    obtain ⟨x, cx, hx⟩ := HC.out w5 (HB5.out.mono hl1) k zs HZ.out
    obtain ⟨ax, kx, hxv, _⟩ := hx.open
    obtain ⟨L, hL⟩ : ∃ L, L = zs.length := ⟨_, rfl⟩
    rw [← hL] at hxv
    subst hxv
    have HX := Lib.hid hx
    have HL := Lib.hid hL
    clear hx
    have hL24 : L = 24 := by rw [hL]; exact Hz24.out
    have er : ((L : Int) == 24) = true := by simp; omega
    have ern : ((L : Int) != 24) = false := by simp; omega
    clear hL hL24
    go_wp2_with fail
    refine (cell_any).mono ?_
    rw [er]
    rintro e w6 ⟨rfl, hw6⟩
    obtain rfl : w5 = w6 := hw6.symm
    clear hw6
    go_wp2_with fail
    refine (cell_any).mono ?_
    rw [ec]
    rintro e w6 ⟨rfl, hw6⟩
    obtain rfl : w5 = w6 := hw6.symm
    clear hw6
    go_wp2_with fail
    refine (copyDb_any HU5.out (Nat.le_trans hl1 HB5.out.size) HN.out).mono ?_
    rintro e w7 ⟨v7, rfl, h7, hb7⟩
    obtain ⟨a7, c7, hv7, _⟩ := h7.open
    subst hv7
    have hR7 := (hb7.block (w.heap.size + 1) (lt_of_block HR.out)).trans HR.out
    have HR7 := Lib.hid hR7
    have cR := blk_cell hR7 0
    have fR := blk_free hR7 0
    rw [one0] at cR
    have H7 := Lib.hid h7
    have HB7 := Lib.hid (HB5.out.trans (hb7.mono HB5.out.size))
    clear h7 hb7 hR7 cA
    go_wp2_with fail
    obtain ⟨_, r0, k0⟩ := store1 HR7.out (.slice a7 zss.length c7)
    obtain ⟨W9, hW9⟩ : ∃ W9, W9 = w7.setCell ⟨w.heap.size + 1, 0, none⟩ (.slice a7 zss.length c7) := ⟨_, rfl⟩
    rw [← hW9] at r0 k0 ⊢
    have hs9 : W9.heap.size = w7.heap.size := by rw [hW9, World.setCell_size]
    have Q1 := Lib.hid ((H7.out.keptF k0 (fun b hb => by have := HS5.out; unfold ival at hb; omega)).mono (G := ival w.heap.size W9.heap.size) (fun b hb => by have := HS5.out; unfold ival at hb ⊢; omega))
    have Q2 := Lib.hid (HB7.out.trans (k0.below (B := w.heap.size) (fun b hb => by omega) HB7.out.size))
    clear cR fR k0 hW9 hs9
    exact bodyPost_ret (v := .tuple #[.agg #[.slice a7 zss.length c7], .bool false]) (by simp [results, Try.results25, go_sem, r0]) rfl ⟨_, rfl, by rw [HE2.out]; exact Q1.out, Q2.out⟩

  have HE : Hid (xrK zss (k : Int) c = true) := Lib.hid (xrK_yes hlt (by rw [HG.out]; exact hz24) h24)
  have hxr := xr_rep hlt (by rw [HG.out]; exact hz24) h24
  rw [HG.out] at hxr
  have HXr := Lib.hid hxr
  rw [HE.out]
  have Hz24 := Lib.hid hz24
  have Hc24 := Lib.hid h24
  have ec : ((c.length : Int) == 24) = true := by simp; omega
  have ecn : ((c.length : Int) != 24) = false := by simp; omega
  clear hz24 h24 hxr
  go_enter Try.func25, Try.ntmps25
  go_wp2_with fail
  refine (hasRow_any (zss := zss) HW.out (by omega)).mono ?_
  rw [HK.out]
  rintro e w5 ⟨rfl, hb5⟩
  have hb5' : Below w.heap.size w w5 := HB.out.trans (hb5.mono HB.out.size)
  replace HA := Lib.hid ((hb5.block w.heap.size (lt_of_block HA.out)).trans HA.out)
  replace HR := Lib.hid ((hb5.block (w.heap.size + 1) (lt_of_block HR.out)).trans HR.out)
  have HB5 := Lib.hid hb5'
  clear hb5 hb5' HB cA
  have HS5 : Hid (w.heap.size + 2 ≤ w5.heap.size) := Lib.hid (by have := lt_of_block HR.out; omega)
  have HU5 := Lib.hid (HU.out.behind (HB5.out.mono hl1))
  have HV5 := Lib.hid (HV.out.behind (HB5.out.mono hl2))
  have cA := blk_cell HA.out 0
  rw [one0] at cA
  obtain ⟨x, cx, hx⟩ := HC.out w5 (HB5.out.mono hl1) k zs HZ.out
  obtain ⟨ax, kx, hxv, _⟩ := hx.open
  obtain ⟨L, hL⟩ : ∃ L, L = zs.length := ⟨_, rfl⟩
  rw [← hL] at hxv
  subst hxv
  have HX := Lib.hid hx
  have HL := Lib.hid hL
  clear hx
  have hL24 : L = 24 := by rw [hL]; exact Hz24.out
  have er : ((L : Int) == 24) = true := by simp; omega
  have ern : ((L : Int) != 24) = false := by simp; omega
  clear hL hL24
  go_wp2_with fail
  refine (cell_any).mono ?_
  rw [er]
  rintro e w6 ⟨rfl, hw6⟩
  obtain rfl : w5 = w6 := hw6.symm
  clear hw6
  go_wp2_with fail
  refine (cell_any).mono ?_
  rw [ec]
  rintro e w6 ⟨rfl, hw6⟩
  obtain rfl : w5 = w6 := hw6.symm
  clear hw6
  have d0 : w5.drew.cell? ⟨w.heap.size, 0, none⟩ = some (.slice (some ⟨b, o, none⟩) zss.length cap) ∧ w5.drew.cell? ⟨b, o + k, none⟩ = some (.slice ax L kx) := ⟨cA, cx⟩
  have HS1 := Lib.hid (Nat.le_trans hl1 HB5.out.size)
  have HS2 := Lib.hid (Nat.le_trans hl2 HB5.out.size)
  have hbw : b < w.heap.size := by omega
  go_wp2_with fail
  clear cA
  go_region_held3 (fun w' => w'.cell? ⟨w.heap.size, 0, none⟩ = some (.slice (some ⟨b, o, none⟩) zss.length cap) ∧ w'.cell? ⟨b, o + k, none⟩ = some (.slice ax L kx)) (first | assumption | go_keep) ((first
    | (go_at_call 61
       go_loud (refine (impl_xb HX.out.drew HV5.out.drew HS1.out HS2.out (by have := HLz.out; have := HCs.out; omega)).mono ?_
                rintro e' w7 ⟨v7, rfl, h7, hb7⟩
                have HX7 := Lib.hid h7
                have hb7' : Below w5.heap.size w5 w7 := (Below.refl _ _).drew.trans hb7
                have HB7 := Lib.hid hb7'
                have HU7 := Lib.hid (HU5.out.behind (hb7'.mono HS1.out))
                have d7 : w7.cell? ⟨w.heap.size, 0, none⟩ = some (.slice (some ⟨b, o, none⟩) zss.length cap) ∧ w7.cell? ⟨b, o + k, none⟩ = some (.slice ax L kx) := ⟨(hb7.cell (p := ⟨w.heap.size, 0, none⟩) (lt_of_block HA.out)).trans d0.1, (hb7.cell (p := ⟨b, o + k, none⟩) (show b < w5.heap.size by have := HS5.out; omega)).trans d0.2⟩
                clear h7 hb7 hb7'))
    | (go_at_call 20
       go_loud (refine (impl_rep HU7.out HX7.out.rd (Nat.le_trans HS1.out HB7.out.size) (Nat.le_refl _) HW.out HN.out (by rw [xorl_len]; have := HLz.out; have := HCs.out; omega)).mono ?_
                rw [HXr.out.1, HXr.out.2]
                rintro e' w8 ⟨v8, rfl, h8, hb8⟩
                obtain ⟨a8, c8, hv8, _⟩ := h8.open
                obtain ⟨L8, hL8⟩ : ∃ L8, L8 = (xr zss (k : Int) c).length := ⟨_, rfl⟩
                rw [← hL8] at hv8
                subst hv8
                have H8 := Lib.hid h8
                have hb8' : Below w5.heap.size w5 w8 := HB7.out.trans (hb8.mono HB7.out.size)
                have HB8 := Lib.hid hb8'
                have HS8 := Lib.hid hb8.size
                have hR8 := (hb8'.block (w.heap.size + 1) (lt_of_block HR.out)).trans HR.out
                have HR8 := Lib.hid hR8
                have d8 : w8.cell? ⟨w.heap.size, 0, none⟩ = some (.slice (some ⟨b, o, none⟩) zss.length cap) ∧ w8.cell? ⟨b, o + k, none⟩ = some (.slice ax L kx) := ⟨(hb8.cell (p := ⟨w.heap.size, 0, none⟩) (Nat.lt_of_lt_of_le (lt_of_block HA.out) HB7.out.size)).trans d7.1, (hb8.cell (p := ⟨b, o + k, none⟩) (show b < w7.heap.size by have := HS5.out; have := HB7.out.size; omega)).trans d7.2⟩
                have cR := blk_cell hR8 0
                have fR := blk_free hR8 0
                rw [one0] at cR
                obtain ⟨_, r0, k0⟩ := store1 hR8 (.slice a8 L8 c8)
                have d9 : (w8.setCell ⟨w.heap.size + 1, 0, none⟩ (.slice a8 L8 c8)).cell? ⟨w.heap.size, 0, none⟩ = some (.slice (some ⟨b, o, none⟩) zss.length cap) ∧ (w8.setCell ⟨w.heap.size + 1, 0, none⟩ (.slice a8 L8 c8)).cell? ⟨b, o + k, none⟩ = some (.slice ax L kx) := by
                  have hkb : Below (w.heap.size + 1) w8 (w8.setCell ⟨w.heap.size + 1, 0, none⟩ (.slice a8 L8 c8)) := k0.below (fun c hc => by omega) (by have := HB8.out.size; have := HS5.out; omega)
                  exact ⟨(hkb.cell (p := ⟨w.heap.size, 0, none⟩) (by simp)).trans d8.1, (hkb.cell (p := ⟨b, o + k, none⟩) (show b < w.heap.size + 1 by omega)).trans d8.2⟩
                have HK0 := Lib.hid k0
                have HR0 := Lib.hid r0
                clear h8 hb8 hb8' hR8 hL8 k0 r0))))
  obtain ⟨W9, hW9⟩ : ∃ W9, W9 = w8.setCell ⟨w.heap.size + 1, 0, none⟩ (.slice a8 L8 c8) := ⟨_, rfl⟩
  rw [← hW9] at HK0 HR0 ⊢
  have hs9 : W9.heap.size = w8.heap.size := by rw [hW9, World.setCell_size]
  have r0 := HR0.out
  have Q1 := Lib.hid ((H8.out.keptF HK0.out (fun b hb => by have := HS5.out; have := HB7.out.size; unfold ival at hb; omega)).mono (G := ival w.heap.size W9.heap.size) (fun b hb => by have := HS5.out; have := HB7.out.size; unfold ival at hb ⊢; omega))
  have Q2 := Lib.hid ((HB5.out.trans (HB8.out.mono HB5.out.size)).trans (HK0.out.below (B := w.heap.size) (fun b hb => by omega) (by have := HB5.out.size; have := HB8.out.size; omega)))
  clear d0 d7 d8 d9 cR fR hW9 hs9 cx
  go_wp2_with fail
  exact bodyPost_ret (v := .tuple #[.agg #[.slice a8 L8 c8], .bool true]) (by simp [results, Try.results25, go_sem, r0]) rfl ⟨_, rfl, Q1.out, Q2.out⟩

set_option maxHeartbeats 2000000 in
/-- spec.XorRow -/
theorem spec_xr {l1 l2 : Nat} {w : World} {v u : Value} {zss : List (List Int)} {i : Int} {c : List Int} (hu : Rd2 l1 .u8 w v zss) (hv : Rd l2 .u8 w u c) (hl1 : l1 ≤ w.heap.size) (hl2 : l2 ≤ w.heap.size) (hi : (Lit.int .i64 i).wf = true) (hn : tot zss ≤ 1099511627776) (hs : c.length ≤ 1099511627776) :
    Calls Try.prog 41 #[.agg #[v], .int .i64 i, u] w fun e w' => ∃ v', e = .returned (.tuple #[.agg #[v'], .bool (xrK zss i c)]) ∧ Own2 22 5 .u8 (ival w.heap.size w'.heap.size) w' v' (xr zss i c) ∧ Below w.heap.size w w' := by
  obtain ⟨a, cap, rfl, h1, h2, hcl⟩ := hu.open
  obtain ⟨au, cu, rfl, h1', h2', _⟩ := hv.open
  have HB := Lib.hid (((Below.refl w.heap.size w).alloc (Nat.le_refl _) (.cells #[.slice a zss.length cap] 30)).alloc (by simp) (.cells #[.slice none 0 0] 30))
  have HU := Lib.hid hu
  have HV := Lib.hid hv
  have HCl := Lib.hid hcl
  have hbl := blocks2 w (.cells #[.slice a zss.length cap] 30) (.cells #[.slice none 0 0] 30)
  have HA := Lib.hid hbl.1
  have HR := Lib.hid hbl.2
  have cA := blk_cell hbl.1 0
  rw [one0] at cA
  unfold maxLen at h2 h2'
  have HW := Lib.hid hi
  have HN := Lib.hid hn
  have HCs := Lib.hid hs
  have hzl : zss.length ≤ 1099511627776 := by unfold tot at hn; omega
  have e0 : wrap64 ((zss.length : Int) - 1) = (zss.length : Int) - 1 := by unfold wrap64; omega
  clear hu hv hi hn hbl hs hcl
  by_cases hk : hasR zss i = true
  case neg =>
    have hkf : hasR zss i = false := by simpa using hk
    have HK := Lib.hid hkf
    have HE : Hid (xrK zss i c = false) := Lib.hid (xrK_row hkf)
    have HE2 : Hid (xr zss i c = zss) := Lib.hid (xr_no HE.out)
    rw [HE.out]
    clear hk hkf
    go_enter Try.func41, Try.ntmps41
    go_wp2_with fail
    refine (spec_in _ _ _ _ HW.out).mono ?_
    rw [inR_hasR, HK.out]
    rintro e w5 ⟨rfl, hw5⟩
    rw [← hw5] at HA HR HB
    have HB5 := HB
    clear hw5 HB cA
    have HS5 : Hid (w.heap.size + 2 ≤ w5.heap.size) := Lib.hid (by have := lt_of_block HR.out; omega)
    have HU5 := Lib.hid (HU.out.behind (HB5.out.mono hl1))
    have HV5 := Lib.hid (HV.out.behind (HB5.out.mono hl2))
    have cA := blk_cell HA.out 0
    rw [one0] at cA
    go_wp2_with fail
    refine (l8Copy_any HU5.out (Nat.le_trans hl1 HB5.out.size) HN.out).mono ?_
    rintro e w7 ⟨v7, rfl, h7, hb7⟩
    obtain ⟨a7, c7, hv7, _⟩ := h7.open
    subst hv7
    have hR7 := (hb7.block (w.heap.size + 1) (lt_of_block HR.out)).trans HR.out
    have HR7 := Lib.hid hR7
    have cR := blk_cell hR7 0
    have fR := blk_free hR7 0
    rw [one0] at cR
    have H7 := Lib.hid h7
    have HB7 := Lib.hid (HB5.out.trans (hb7.mono HB5.out.size))
    clear h7 hb7 hR7 cA
    go_wp2_with fail
    obtain ⟨_, r0, k0⟩ := store1 HR7.out (.slice a7 zss.length c7)
    obtain ⟨W9, hW9⟩ : ∃ W9, W9 = w7.setCell ⟨w.heap.size + 1, 0, none⟩ (.slice a7 zss.length c7) := ⟨_, rfl⟩
    rw [← hW9] at r0 k0 ⊢
    have hs9 : W9.heap.size = w7.heap.size := by rw [hW9, World.setCell_size]
    have Q1 := Lib.hid ((H7.out.keptF k0 (fun b hb => by have := HS5.out; unfold ival at hb; omega)).mono (G := ival w.heap.size W9.heap.size) (fun b hb => by have := HS5.out; unfold ival at hb ⊢; omega))
    have Q2 := Lib.hid (HB7.out.trans (k0.below (B := w.heap.size) (fun b hb => by omega) HB7.out.size))
    clear cR fR k0 hW9 hs9
    exact bodyPost_ret (v := .tuple #[.agg #[.slice a7 zss.length c7], .bool false]) (by simp [results, Try.results41, go_sem, r0]) rfl ⟨_, rfl, by rw [HE2.out]; exact Q1.out, Q2.out⟩

  obtain ⟨k, rfl, hlt⟩ := hasR_iff.1 hk
  have HK := Lib.hid hk
  have hlt' : (k : Int) < (zss.length : Int) := by omega
  obtain ⟨b, o, rfl, hbl, hcell⟩ := HCl.out (by omega)
  obtain ⟨zs, hzs⟩ : ∃ zs, zss[k]? = some zs := ⟨_, List.getElem?_eq_getElem hlt⟩
  have HC := Lib.hid hcell
  have HZ := Lib.hid hzs
  have HG : Hid (zss.getD k [] = zs) := Lib.hid (getD_of hzs)
  have HLz : Hid (zs.length ≤ 1099511627776) := Lib.hid (row_fl HN.out hzs)
  clear hk hcell hzs
  by_cases h24 : c.length = 24
  case neg =>
    have HE : Hid (xrK zss (k : Int) c = false) := Lib.hid (xrK_len h24)
    have HE2 : Hid (xr zss (k : Int) c = zss) := Lib.hid (xr_no HE.out)
    rw [HE.out]
    have ec : ((c.length : Int) == 24) = false := by rw [beq_eq_false_iff_ne]; omega
    have ecn : ((c.length : Int) != 24) = true := by simp; omega
    clear h24
    go_enter Try.func41, Try.ntmps41
    go_wp2_with fail
    refine (spec_in _ _ _ _ HW.out).mono ?_
    rw [inR_hasR, HK.out]
    rintro e w5 ⟨rfl, hw5⟩
    rw [← hw5] at HA HR HB
    have HB5 := HB
    clear hw5 HB cA
    have HS5 : Hid (w.heap.size + 2 ≤ w5.heap.size) := Lib.hid (by have := lt_of_block HR.out; omega)
    have HU5 := Lib.hid (HU.out.behind (HB5.out.mono hl1))
    have HV5 := Lib.hid (HV.out.behind (HB5.out.mono hl2))
    have cA := blk_cell HA.out 0
    rw [one0] at cA
    go_wp2_with fail
    refine (l8Copy_any HU5.out (Nat.le_trans hl1 HB5.out.size) HN.out).mono ?_
    rintro e w7 ⟨v7, rfl, h7, hb7⟩
    obtain ⟨a7, c7, hv7, _⟩ := h7.open
    subst hv7
    have hR7 := (hb7.block (w.heap.size + 1) (lt_of_block HR.out)).trans HR.out
    have HR7 := Lib.hid hR7
    have cR := blk_cell hR7 0
    have fR := blk_free hR7 0
    rw [one0] at cR
    have H7 := Lib.hid h7
    have HB7 := Lib.hid (HB5.out.trans (hb7.mono HB5.out.size))
    clear h7 hb7 hR7 cA
    go_wp2_with fail
    obtain ⟨_, r0, k0⟩ := store1 HR7.out (.slice a7 zss.length c7)
    obtain ⟨W9, hW9⟩ : ∃ W9, W9 = w7.setCell ⟨w.heap.size + 1, 0, none⟩ (.slice a7 zss.length c7) := ⟨_, rfl⟩
    rw [← hW9] at r0 k0 ⊢
    have hs9 : W9.heap.size = w7.heap.size := by rw [hW9, World.setCell_size]
    have Q1 := Lib.hid ((H7.out.keptF k0 (fun b hb => by have := HS5.out; unfold ival at hb; omega)).mono (G := ival w.heap.size W9.heap.size) (fun b hb => by have := HS5.out; unfold ival at hb ⊢; omega))
    have Q2 := Lib.hid (HB7.out.trans (k0.below (B := w.heap.size) (fun b hb => by omega) HB7.out.size))
    clear cR fR k0 hW9 hs9
    exact bodyPost_ret (v := .tuple #[.agg #[.slice a7 zss.length c7], .bool false]) (by simp [results, Try.results41, go_sem, r0]) rfl ⟨_, rfl, by rw [HE2.out]; exact Q1.out, Q2.out⟩

  by_cases hz24 : zs.length = 24
  case neg =>
    have HE : Hid (xrK zss (k : Int) c = false) := Lib.hid (xrK_size (by rw [HG.out]; exact hz24))
    have HE2 : Hid (xr zss (k : Int) c = zss) := Lib.hid (xr_no HE.out)
    rw [HE.out]
    have ec : ((c.length : Int) == 24) = true := by simp; omega
    have ecn : ((c.length : Int) != 24) = false := by simp; omega
    have Hz24 := Lib.hid hz24
    clear hz24
    clear h24
    go_enter Try.func41, Try.ntmps41
    go_wp2_with fail
    refine (spec_in _ _ _ _ HW.out).mono ?_
    rw [inR_hasR, HK.out]
    rintro e w5 ⟨rfl, hw5⟩
    rw [← hw5] at HA HR HB
    have HB5 := HB
    clear hw5 HB cA
    have HS5 : Hid (w.heap.size + 2 ≤ w5.heap.size) := Lib.hid (by have := lt_of_block HR.out; omega)
    have HU5 := Lib.hid (HU.out.behind (HB5.out.mono hl1))
    have HV5 := Lib.hid (HV.out.behind (HB5.out.mono hl2))
    have cA := blk_cell HA.out 0
    rw [one0] at cA
    obtain ⟨x, cx, hx⟩ := HC.out w5 (HB5.out.mono hl1) k zs HZ.out
    obtain ⟨ax, kx, hxv, _⟩ := hx.open
    obtain ⟨L, hL⟩ : ∃ L, L = zs.length := ⟨_, rfl⟩
    rw [← hL] at hxv
    subst hxv
    have HX := Lib.hid hx
    have HL := Lib.hid hL
    clear hx
    have hL24 : ¬ L = 24 := by rw [hL]; exact Hz24.out
    have er : ((L : Int) == 24) = false := by rw [beq_eq_false_iff_ne]; omega
    have ern : ((L : Int) != 24) = true := by simp; omega
    clear hL hL24
    go_wp2_with fail
    refine (l8Copy_any HU5.out (Nat.le_trans hl1 HB5.out.size) HN.out).mono ?_
    rintro e w7 ⟨v7, rfl, h7, hb7⟩
    obtain ⟨a7, c7, hv7, _⟩ := h7.open
    subst hv7
    have hR7 := (hb7.block (w.heap.size + 1) (lt_of_block HR.out)).trans HR.out
    have HR7 := Lib.hid hR7
    have cR := blk_cell hR7 0
    have fR := blk_free hR7 0
    rw [one0] at cR
    have H7 := Lib.hid h7
    have HB7 := Lib.hid (HB5.out.trans (hb7.mono HB5.out.size))
    clear h7 hb7 hR7 cA
    go_wp2_with fail
    obtain ⟨_, r0, k0⟩ := store1 HR7.out (.slice a7 zss.length c7)
    obtain ⟨W9, hW9⟩ : ∃ W9, W9 = w7.setCell ⟨w.heap.size + 1, 0, none⟩ (.slice a7 zss.length c7) := ⟨_, rfl⟩
    rw [← hW9] at r0 k0 ⊢
    have hs9 : W9.heap.size = w7.heap.size := by rw [hW9, World.setCell_size]
    have Q1 := Lib.hid ((H7.out.keptF k0 (fun b hb => by have := HS5.out; unfold ival at hb; omega)).mono (G := ival w.heap.size W9.heap.size) (fun b hb => by have := HS5.out; unfold ival at hb ⊢; omega))
    have Q2 := Lib.hid (HB7.out.trans (k0.below (B := w.heap.size) (fun b hb => by omega) HB7.out.size))
    clear cR fR k0 hW9 hs9
    exact bodyPost_ret (v := .tuple #[.agg #[.slice a7 zss.length c7], .bool false]) (by simp [results, Try.results41, go_sem, r0]) rfl ⟨_, rfl, by rw [HE2.out]; exact Q1.out, Q2.out⟩

  have HE : Hid (xrK zss (k : Int) c = true) := Lib.hid (xrK_yes hlt (by rw [HG.out]; exact hz24) h24)
  have hxr := xr_rep hlt (by rw [HG.out]; exact hz24) h24
  rw [HG.out] at hxr
  have HXr := Lib.hid hxr
  rw [HE.out]
  have Hz24 := Lib.hid hz24
  have Hc24 := Lib.hid h24
  have ec : ((c.length : Int) == 24) = true := by simp; omega
  have ecn : ((c.length : Int) != 24) = false := by simp; omega
  clear hz24 h24 hxr
  go_enter Try.func41, Try.ntmps41
  go_wp2_with fail
  refine (spec_in _ _ _ _ HW.out).mono ?_
  rw [inR_hasR, HK.out]
  rintro e w5 ⟨rfl, hw5⟩
  rw [← hw5] at HA HR HB
  have HB5 := HB
  clear hw5 HB cA
  have HS5 : Hid (w.heap.size + 2 ≤ w5.heap.size) := Lib.hid (by have := lt_of_block HR.out; omega)
  have HU5 := Lib.hid (HU.out.behind (HB5.out.mono hl1))
  have HV5 := Lib.hid (HV.out.behind (HB5.out.mono hl2))
  have cA := blk_cell HA.out 0
  rw [one0] at cA
  obtain ⟨x, cx, hx⟩ := HC.out w5 (HB5.out.mono hl1) k zs HZ.out
  obtain ⟨ax, kx, hxv, _⟩ := hx.open
  obtain ⟨L, hL⟩ : ∃ L, L = zs.length := ⟨_, rfl⟩
  rw [← hL] at hxv
  subst hxv
  have HX := Lib.hid hx
  have HL := Lib.hid hL
  clear hx
  have hL24 : L = 24 := by rw [hL]; exact Hz24.out
  have er : ((L : Int) == 24) = true := by simp; omega
  have ern : ((L : Int) != 24) = false := by simp; omega
  clear hL hL24
  have d0 : w5.drew.cell? ⟨w.heap.size, 0, none⟩ = some (.slice (some ⟨b, o, none⟩) zss.length cap) ∧ w5.drew.cell? ⟨b, o + k, none⟩ = some (.slice ax L kx) := ⟨cA, cx⟩
  have HS1 := Lib.hid (Nat.le_trans hl1 HB5.out.size)
  have HS2 := Lib.hid (Nat.le_trans hl2 HB5.out.size)
  have hbw : b < w.heap.size := by omega
  go_wp2_with fail
  clear cA
  go_region_held3 (fun w' => w'.cell? ⟨w.heap.size, 0, none⟩ = some (.slice (some ⟨b, o, none⟩) zss.length cap) ∧ w'.cell? ⟨b, o + k, none⟩ = some (.slice ax L kx)) (first | assumption | go_keep) ((first
    | (go_at_call 71
       go_loud (refine (spec_xb HX.out.drew HV5.out.drew HS1.out HS2.out (by have := HLz.out; have := HCs.out; omega)).mono ?_
                rintro e' w7 ⟨v7, rfl, h7, hb7⟩
                have HX7 := Lib.hid h7
                have hb7' : Below w5.heap.size w5 w7 := (Below.refl _ _).drew.trans hb7
                have HB7 := Lib.hid hb7'
                have HU7 := Lib.hid (HU5.out.behind (hb7'.mono HS1.out))
                have d7 : w7.cell? ⟨w.heap.size, 0, none⟩ = some (.slice (some ⟨b, o, none⟩) zss.length cap) ∧ w7.cell? ⟨b, o + k, none⟩ = some (.slice ax L kx) := ⟨(hb7.cell (p := ⟨w.heap.size, 0, none⟩) (lt_of_block HA.out)).trans d0.1, (hb7.cell (p := ⟨b, o + k, none⟩) (show b < w5.heap.size by have := HS5.out; omega)).trans d0.2⟩
                clear h7 hb7 hb7'))
    | (go_at_call 39
       go_loud (refine (spec_rep HU7.out HX7.out.rd (Nat.le_trans HS1.out HB7.out.size) (Nat.le_refl _) HW.out HN.out (by rw [xorl_len]; have := HLz.out; have := HCs.out; omega)).mono ?_
                rw [HXr.out.1, HXr.out.2]
                rintro e' w8 ⟨v8, rfl, h8, hb8⟩
                obtain ⟨a8, c8, hv8, _⟩ := h8.open
                obtain ⟨L8, hL8⟩ : ∃ L8, L8 = (xr zss (k : Int) c).length := ⟨_, rfl⟩
                rw [← hL8] at hv8
                subst hv8
                have H8 := Lib.hid h8
                have hb8' : Below w5.heap.size w5 w8 := HB7.out.trans (hb8.mono HB7.out.size)
                have HB8 := Lib.hid hb8'
                have HS8 := Lib.hid hb8.size
                have hR8 := (hb8'.block (w.heap.size + 1) (lt_of_block HR.out)).trans HR.out
                have HR8 := Lib.hid hR8
                have d8 : w8.cell? ⟨w.heap.size, 0, none⟩ = some (.slice (some ⟨b, o, none⟩) zss.length cap) ∧ w8.cell? ⟨b, o + k, none⟩ = some (.slice ax L kx) := ⟨(hb8.cell (p := ⟨w.heap.size, 0, none⟩) (Nat.lt_of_lt_of_le (lt_of_block HA.out) HB7.out.size)).trans d7.1, (hb8.cell (p := ⟨b, o + k, none⟩) (show b < w7.heap.size by have := HS5.out; have := HB7.out.size; omega)).trans d7.2⟩
                have cR := blk_cell hR8 0
                have fR := blk_free hR8 0
                rw [one0] at cR
                obtain ⟨_, r0, k0⟩ := store1 hR8 (.slice a8 L8 c8)
                have d9 : (w8.setCell ⟨w.heap.size + 1, 0, none⟩ (.slice a8 L8 c8)).cell? ⟨w.heap.size, 0, none⟩ = some (.slice (some ⟨b, o, none⟩) zss.length cap) ∧ (w8.setCell ⟨w.heap.size + 1, 0, none⟩ (.slice a8 L8 c8)).cell? ⟨b, o + k, none⟩ = some (.slice ax L kx) := by
                  have hkb : Below (w.heap.size + 1) w8 (w8.setCell ⟨w.heap.size + 1, 0, none⟩ (.slice a8 L8 c8)) := k0.below (fun c hc => by omega) (by have := HB8.out.size; have := HS5.out; omega)
                  exact ⟨(hkb.cell (p := ⟨w.heap.size, 0, none⟩) (by simp)).trans d8.1, (hkb.cell (p := ⟨b, o + k, none⟩) (show b < w.heap.size + 1 by omega)).trans d8.2⟩
                have HK0 := Lib.hid k0
                have HR0 := Lib.hid r0
                clear h8 hb8 hb8' hR8 hL8 k0 r0))))
  obtain ⟨W9, hW9⟩ : ∃ W9, W9 = w8.setCell ⟨w.heap.size + 1, 0, none⟩ (.slice a8 L8 c8) := ⟨_, rfl⟩
  rw [← hW9] at HK0 HR0 ⊢
  have hs9 : W9.heap.size = w8.heap.size := by rw [hW9, World.setCell_size]
  have r0 := HR0.out
  have Q1 := Lib.hid ((H8.out.keptF HK0.out (fun b hb => by have := HS5.out; have := HB7.out.size; unfold ival at hb; omega)).mono (G := ival w.heap.size W9.heap.size) (fun b hb => by have := HS5.out; have := HB7.out.size; unfold ival at hb ⊢; omega))
  have Q2 := Lib.hid ((HB5.out.trans (HB8.out.mono HB5.out.size)).trans (HK0.out.below (B := w.heap.size) (fun b hb => by omega) (by have := HB5.out.size; have := HB8.out.size; omega)))
  clear d0 d7 d8 d9 cR fR hW9 hs9 cx
  go_wp2_with fail
  exact bodyPost_ret (v := .tuple #[.agg #[.slice a8 L8 c8], .bool true]) (by simp [results, Try.results41, go_sem, r0]) rfl ⟨_, rfl, Q1.out, Q2.out⟩

end Go.Proofs.Ytdeahjinnnhfkaa
