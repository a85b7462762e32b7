/- Sealed cells: the program's plain bytes and SealCell. No conditions but numbers that a machine holds. Sealed cells: the document's SealCell. No conditions but numbers that a machine holds. -/
import Derived.Test.YtjbkhbbchacooaaGreatDoorCl1
import Derived.Test.YtjbkhbbchacooaaGreatDoorBa8
import Derived.Test.YtjbkhbbchacooaaGreatDoorBbC
import Derived.Test.YtjbkhbbchacooaaGreatDoorHeldL
import Derived.Deep.RegionWith
import Derived.Deep.RegionHeld3
import Derived.Test.YtjbkhbbchacooaaGreatDoorCry6

/-! Cl2 -/
namespace Go.Proofs.YtjbkhbbchacooaaGreatDoor
open Go Go.RowKit
set_option linter.unusedVariables false
attribute [local irreducible] kh kid

set_option maxHeartbeats 2000000 in
/-- impl.padPlain. -/
theorem pad_any {lim : Nat} {w : World} {a : Option Addr} {cap : Nat} {b : List Int} {k n d : Int} (h : Rd lim .u8 w (.slice a b.length cap) b) (hlim : lim ≤ w.heap.size) (hk : (Lit.int .i64 k).wf = true) (hn : (Lit.int .i64 n).wf = true) (hd : 0 ≤ d ∧ d ≤ 3) (hb : b.length ≤ 14) :
    Calls Tryz.prog 52 #[.int .i64 k, .int .i64 n, .agg #[.int .i64 d, .slice a b.length cap]] w fun e w' => ∃ v', e = .returned v' ∧ Own 5 .u8 w.heap.size w' v' (plnL k n d b) ∧ Below w.heap.size w w' := by
  obtain ⟨i0, hi, hz0, hz1, hz2⟩ := info_parts infou8
  have Hhi := Lib.hid hi
  have HK := Lib.hid hk
  have HN := Lib.hid hn
  have b1 := (Below.refl w.heap.size w).alloc (Nat.le_refl _) (.cells #[.int .i64 d, .slice a b.length cap] 55)
  have b2 := b1.alloc (by simp) (.cells #[.int .u8 d, .int .u8 (b.length : Int)] 5)
  have hO : Own 5 .u8 w.heap.size ((w.alloc (.cells #[.int .i64 d, .slice a b.length cap] 55)).alloc (.cells #[.int .u8 d, .int .u8 (b.length : Int)] 5)) (.slice (some ⟨w.heap.size + 1, 0, none⟩) 2 2) [d, (b.length : Int)] := by
    have := Own.lits2 (B := w.heap.size) (w := w.alloc (.cells #[.int .i64 d, .slice a b.length cap] 55)) .u8 5 (by simp) (wf_u8_of hd.1 (by omega)) (wf_u8_of (n := (b.length : Int)) (by omega) (by omega))
    rwa [World.size_alloc] at this
  have HO := Lib.hid hO
  have HR := Lib.hid (h.behind (b2.mono hlim))
  have HB := Lib.hid b2
  have c1 := heap_alloc_new w (.cells #[.int .i64 d, .slice a b.length cap] 55)
  have c2 := (heap_alloc_old (w.alloc (.cells #[.int .i64 d, .slice a b.length cap] 55)) (.cells #[.int .u8 d, .int .u8 (b.length : Int)] 5) (lt_of_block c1)).trans c1
  have HC := Lib.hid c2
  have k0 := blk_cell c1 0
  have k1 := blk_cell c1 1
  have m1 := blk_cell c2 1
  rw [pc0] at k0
  rw [pc1] at k1 m1
  have HKW := Lib.hid (kh_wf k [61, n])
  obtain ⟨q, hq⟩ : ∃ q, q = kh k [61, n] := ⟨_, rfl⟩
  rw [← hq] at HKW
  have HQ := Lib.hid hq
  have HPL : Hid (strm q 18 = padL k n) := Lib.hid (by rw [hq]; rfl)
  have HLb : Hid (b.length ≤ 14) := Lib.hid hb
  clear h hi hk hn b1 b2 hO c1 c2 hq
  go_enter Tryz.func52, Tryz.ntmps52
  go_wp2_with (first | (at_builtin; refine append_rd _ rfl _ _ 22 rfl 5 i0 (.int .u8 0) 1 Tryz.underlying22 Hhi.out hz0 hz1 hz2 rfl (by omega) rfl HO.out rfl HR.out (by have := HLb.out; simp only [List.length_cons, List.length_nil]; omega) ?_))
  intro v3 w3 h3 h4
  replace HC := Lib.hid ((h4.block _ (lt_of_block HC.out) (by intro hk; have h9 : w.heap.size = w.heap.size + 1 := Option.some.inj hk; omega)).trans HC.out)
  replace HB := Lib.hid (HB.out.trans (HO.out.below (Nat.le_refl _) h4))
  obtain ⟨a3, c3, hv3, _⟩ := h3.open
  obtain ⟨L3, hL3⟩ : ∃ L, L = (d :: (b.length : Int) :: b).length := ⟨_, rfl⟩
  rw [← hL3] at hv3
  subst hv3
  replace HO := Lib.hid h3
  clear hL3
  clear h3 h4 k0 k1 m1 HR
  have R2 := Lib.hid (Rd.two 3 .i64 w3 61 n (by decide) HN.out)
  have hb := (Below.refl w3.heap.size w3).alloc (Nat.le_refl _) (.cells #[.int .i64 61, .int .i64 n] 3)
  replace HO := Lib.hid (HO.out.next hb)
  replace HC := Lib.hid ((hb.block _ (lt_of_block HC.out)).trans HC.out)
  replace HB := Lib.hid (HB.out.trans (hb.mono HB.out.size))
  clear hb
  go_wp2_with fail
  refine (impl_kh R2.out (by simp) HK.out).mono ?_
  rintro e w4 ⟨he, hb⟩
  rw [← HQ.out] at he
  subst he
  replace HO := Lib.hid (HO.out.next hb)
  replace HC := Lib.hid ((hb.block _ (lt_of_block HC.out)).trans HC.out)
  replace HB := Lib.hid (HB.out.trans (hb.mono HB.out.size))
  clear hb R2
  go_wp2_with fail
  refine (impl_sb HKW.out (by decide)).mono ?_
  rw [HPL.out]
  rintro e w5 ⟨v5, rfl, hp, hb⟩
  have HP := Lib.hid hp.rd
  replace HO := Lib.hid (HO.out.next hb)
  replace HC := Lib.hid ((hb.block _ (lt_of_block HC.out)).trans HC.out)
  replace HB := Lib.hid (HB.out.trans (hb.mono HB.out.size))
  have m1 := blk_cell HC.out 1
  rw [pc1] at m1
  have HL : Hid (b.length ≤ (padL k n).length) := Lib.hid (by rw [padL_len]; omega)
  have HD : Hid ((d :: (b.length : Int) :: b).length + ((padL k n).drop b.length).length ≤ 20) := Lib.hid (by rw [padL_drop_len]; simp; omega)
  obtain ⟨pl, hpl⟩ : ∃ pl, pl = padL k n := ⟨_, rfl⟩
  rw [← hpl] at HP HL HD
  have HPE := Lib.hid hpl
  clear hp hb hpl
  go_wp2_with (first
    | (refine slice_rd_l _ rfl _ _ _ i0 Tryz.underlying22 Hhi.out hz1 rfl HP.out _ rfl rfl HL.out ?_; intro u5 hu5; obtain ⟨a5, c5, hv5, _⟩ := hu5.open; obtain ⟨L5, hL5⟩ : ∃ L, L = (pl.drop b.length).length := ⟨_, rfl⟩; rw [← hL5] at hv5; subst hv5; have HU := Lib.hid hu5; clear hu5 hL5)
    | (at_builtin; refine append_rd _ rfl _ _ 22 rfl 5 i0 (.int .u8 0) 1 Tryz.underlying22 Hhi.out hz0 hz1 hz2 rfl (by omega) rfl HO.out rfl HU.out (by have := HD.out; omega) ?_))
  intro v6 w6 h6 h7
  rw [HPE.out] at h6
  replace HB := Lib.hid (HB.out.trans (HO.out.below (Nat.le_refl _) h7))
  replace HO := Lib.hid h6
  clear h6 h7
  go_wp2_with fail
  go_ret
  exact ⟨_, rfl, HO.out, HB.out⟩

theorem sok_parts {k n d : Int} {b : List Int} (h : sok k n d b = true) : inR k 1 2147483646 = true ∧ inR n 0 1000000000000 = true ∧ okPlain d b = true ∧ (0 ≤ d ∧ d ≤ 3) ∧ b.length ≤ 14 := by
  unfold sok at h
  simp only [Bool.and_eq_true] at h
  obtain ⟨h1, h2, h3⟩ := h
  refine ⟨h1, h2, h3, ?_⟩
  unfold okPlain inR at h3
  simp only [Bool.and_eq_true, decide_eq_true_eq] at h3
  exact h3

set_option maxHeartbeats 4000000 in
/-- impl.SealCell. -/
theorem impl_se {lim : Nat} {w : World} {a : Option Addr} {cap : Nat} {b : List Int} {k n d : Int} (h : Rd lim .u8 w (.slice a b.length cap) b) (hlim : lim ≤ w.heap.size) (hk : (Lit.int .i64 k).wf = true) (hn : (Lit.int .i64 n).wf = true) (hd : (Lit.int .i64 d).wf = true) :
    Calls Tryz.prog 29 #[.int .i64 k, .int .i64 n, .agg #[.int .i64 d, .slice a b.length cap]] w fun e w' => ∃ v', e = .returned (.tuple #[v', .bool (sok k n d b)]) ∧ Own 5 .u8 w.heap.size w' v' (sealL k n d b) ∧ Below w.heap.size w w' := by
  obtain ⟨i0, hi, hz0, hz1, hz2⟩ := info_parts infou8
  have Hhi := Lib.hid hi
  have HK := Lib.hid hk
  have HN := Lib.hid hn
  have HDw := Lib.hid hd
  have HLb := Lib.hid h.len
  have b1 := (Below.refl w.heap.size w).alloc (Nat.le_refl _) (.cells #[.int .i64 d, .slice a b.length cap] 55)
  have c1 := heap_alloc_new w (.cells #[.int .i64 d, .slice a b.length cap] 55)
  have k0 := blk_cell c1 0
  have k1 := blk_cell c1 1
  rw [pc0] at k0
  rw [pc1] at k1
  obtain ⟨t, ht⟩ : ∃ t, t = sok k n d b := ⟨_, rfl⟩
  rw [← ht]
  cases t with
  | false =>
    have HE : Hid (sealL k n d b = []) := Lib.hid (sealL_no ht.symm)
    cases h1 : inR k 1 2147483646 with
    | false =>
      have H1 := Lib.hid h1
      clear ht h1 hi hk hn hd h
      go_enter Tryz.func29, Tryz.ntmps29
      go_wp2_with fail
      refine (impl_vk HK.out).mono ?_
      rw [H1.out]
      rintro e w1 ⟨rfl, hw⟩
      obtain rfl := hw.symm
      go_wp2_with fail
      go_ret2
      exact ⟨_, rfl, by rw [HE.out]; exact Own.lit2 _ (Nat.le_refl _), b1.alloc (by simp) _⟩
    | true =>
      have H1 := Lib.hid h1
      cases h2 : inR n 0 1000000000000 with
      | false =>
        have H2 := Lib.hid h2
        clear ht h1 h2 hi hk hn hd h
        go_enter Tryz.func29, Tryz.ntmps29
        go_wp2_with fail
        refine (impl_vk HK.out).mono ?_
        rw [H1.out]
        rintro e w1 ⟨rfl, hw⟩
        obtain rfl := hw.symm
        go_wp2_with fail
        refine (isCounter_any HN.out).mono ?_
        rw [H2.out]
        rintro e w1 ⟨rfl, hw⟩
        obtain rfl := hw.symm
        go_wp2_with fail
        go_ret2
        exact ⟨_, rfl, by rw [HE.out]; exact Own.lit2 _ (Nat.le_refl _), b1.alloc (by simp) _⟩
      | true =>
        have H2 := Lib.hid h2
        have H3 : Hid (okPlain d b = false) := Lib.hid (by unfold sok at ht; rw [h1, h2] at ht; exact ht.symm)
        have b3 := (b1.alloc (by simp) (.cells #[.int .i64 d, .slice a b.length cap] 55)).alloc (by simp; omega) (.cells #[] 5)
        have o3 : Own 5 .u8 w.heap.size (((w.alloc (.cells #[.int .i64 d, .slice a b.length cap] 55)).alloc (.cells #[.int .i64 d, .slice a b.length cap] 55)).alloc (.cells #[] 5)) (.slice (some ⟨w.heap.size + 1 + 1, 0, none⟩) 0 0) [] := by
          have := Own.lit (B := w.heap.size) (w := ((w.alloc (.cells #[.int .i64 d, .slice a b.length cap] 55)).alloc (.cells #[.int .i64 d, .slice a b.length cap] 55))) 5 .u8 (by simp; omega)
          rwa [World.size_alloc, World.size_alloc] at this
        have B3 := Lib.hid b3
        have O3 := Lib.hid o3
        clear ht h1 h2 hi hk hn hd h b3 o3 b1
        go_enter Tryz.func29, Tryz.ntmps29
        go_wp2_with fail
        refine (impl_vk HK.out).mono ?_
        rw [H1.out]
        rintro e w1 ⟨rfl, hw⟩
        obtain rfl := hw.symm
        go_wp2_with fail
        refine (isCounter_any HN.out).mono ?_
        rw [H2.out]
        rintro e w1 ⟨rfl, hw⟩
        obtain rfl := hw.symm
        go_wp2_with fail
        refine (impl_vpl HDw.out HLb.out).mono ?_
        rw [H3.out]
        rintro e w1 ⟨rfl, hw⟩
        subst hw
        go_wp2_with fail
        go_ret2
        exact ⟨_, rfl, by rw [HE.out]; exact O3.out, B3.out⟩
  | true =>
    have HE : Hid (sealL k n d b = encL k n d b ++ le4 (chkv k n (encL k n d b))) := Lib.hid (sealL_yes ht.symm)
    obtain ⟨h1, h2, h3, h4, h5⟩ := sok_parts ht.symm
    have H1 := Lib.hid h1
    have H2 := Lib.hid h2
    have H3 := Lib.hid h3
    have H4 := Lib.hid h4
    have H5 := Lib.hid h5
    have HCW := Lib.hid (ckey_wf k n)
    have HLE := Lib.hid (encL_len k n d h5)
    obtain ⟨q, hq⟩ : ∃ q, q = ckey k n := ⟨_, rfl⟩
    rw [← hq] at HCW
    have HQ := Lib.hid hq
    have b2 := b1.alloc (by simp) (.cells #[.int .i64 d, .slice a b.length cap] 55)
    have c2 := (heap_alloc_old (w.alloc (.cells #[.int .i64 d, .slice a b.length cap] 55)) (.cells #[.int .i64 d, .slice a b.length cap] 55) (lt_of_block c1)).trans c1
    obtain ⟨W, hW⟩ : ∃ W, W = (w.alloc (.cells #[.int .i64 d, .slice a b.length cap] 55)).alloc (.cells #[.int .i64 d, .slice a b.length cap] 55) := ⟨_, rfl⟩
    rw [← hW] at b2 c2
    have HW := Lib.hid hW
    have HB := Lib.hid b2.drew
    have HC : Hid (W.drew.heap[w.heap.size]? = some (.cells #[.int .i64 d, .slice a b.length cap] 55)) := Lib.hid c2
    have HR := Lib.hid (h.behind (b2.drew.mono hlim))
    clear ht h1 h2 h3 h4 h5 hi hk hn hd h b1 b2 c1 c2 hW hq
    go_enter Tryz.func29, Tryz.ntmps29
    go_wp2_with fail
    refine (impl_vk HK.out).mono ?_
    rw [H1.out]
    rintro e w1 ⟨rfl, hw⟩
    obtain rfl := hw.symm
    go_wp2_with fail
    refine (isCounter_any HN.out).mono ?_
    rw [H2.out]
    rintro e w1 ⟨rfl, hw⟩
    obtain rfl := hw.symm
    go_wp2_with fail
    refine (impl_vpl HDw.out HLb.out).mono ?_
    rw [H3.out, ← HW.out]
    rintro e w1 ⟨rfl, hw⟩
    subst hw
    clear k0 k1
    have k0 := blk_cell HC.out 0
    have k1 := blk_cell HC.out 1
    rw [pc0] at k0
    rw [pc1] at k1
    go_wp2_with fail
    go_region_with (first
      | (go_at_call 51
         go_loud (refine (impl_ck HK.out HN.out).mono ?_
                  rintro e' w4 ⟨he, hb4⟩
                  rw [← HQ.out] at he
                  subst he
                  replace HR := Lib.hid (HR.out.behind (hb4.mono (Nat.le_trans hlim HB.out.size)))
                  replace HC := Lib.hid ((hb4.block _ (lt_of_block HC.out)).trans HC.out)
                  replace HB := Lib.hid (HB.out.trans (hb4.mono HB.out.size))
                  (try replace HO := Lib.hid (HO.out.next hb4))
                  have k0 := blk_cell HC.out 0
                  have k1 := blk_cell HC.out 1
                  rw [pc0] at k0
                  rw [pc1] at k1
                  clear hb4))
      | (go_at_call 52
         go_loud (refine (pad_any HR.out (Nat.le_trans hlim HB.out.size) HK.out HN.out H4.out H5.out).mono ?_
                  rintro e' w5 ⟨v5, rfl, h5, hb5⟩
                  replace HR := Lib.hid (HR.out.behind (hb5.mono (Nat.le_trans hlim HB.out.size)))
                  replace HC := Lib.hid ((hb5.block _ (lt_of_block HC.out)).trans HC.out)
                  have HO := Lib.hid (h5.mono HB.out.size)
                  replace HB := Lib.hid (HB.out.trans (hb5.mono HB.out.size))
                  clear hb5 h5))
      | (go_at_call 50
         go_loud (refine (impl_en HO.out.rd (Nat.le_refl _) HCW.out (by rw [plnL_len _ _ _ H5.out]; omega)).mono ?_
                  rintro e' w6 ⟨v6, rfl, h6, hb6⟩
                  rw [HQ.out] at h6
                  have HO6 := Lib.hid (h6.mono HB.out.size)
                  replace HB := Lib.hid (HB.out.trans (hb6.mono HB.out.size))
                  clear hb6 h6)))
    all_goals (
      have h6 : Own 5 .u8 w.heap.size w6 v6 (encL k n d b) := HO6.out
      obtain ⟨a6, c6, hv6, _⟩ := h6.open
      rw [HLE.out] at hv6
      subst hv6
      obtain ⟨el, hel⟩ : ∃ el, el = encL k n d b := ⟨_, rfl⟩
      rw [← hel] at h6 HE HLE
      replace HO6 := Lib.hid h6
      have HEL := Lib.hid hel
      clear h6 hel HO HR HC
      go_wp2_with fail
      refine (impl_co HO6.out.rd (Nat.le_refl _) HK.out HN.out (by rw [HLE.out]; omega)).mono ?_
      rintro e' w7 ⟨v7, rfl, h7, hb7⟩
      obtain ⟨a7, c7, hv7, _⟩ := h7.open
      rw [le4_len] at hv7
      subst hv7
      have R7 := Lib.hid h7.rd
      replace HO6 := Lib.hid (HO6.out.next hb7)
      replace HB := Lib.hid (HB.out.trans (hb7.mono HB.out.size))
      clear hb7 h7
      go_wp2_with (first | (at_builtin; refine append_rd _ rfl _ _ 22 rfl 5 i0 (.int .u8 0) 1 Tryz.underlying22 Hhi.out hz0 hz1 hz2 rfl (by omega) rfl HO6.out rfl R7.out (by rw [HLE.out, le4_len]; omega) ?_))
      intro v8 w8 h8 h9
      rw [← HE.out] at h8
      replace HB := Lib.hid (HB.out.trans (HO6.out.below (Nat.le_refl _) h9))
      replace HO6 := Lib.hid h8
      clear h8 h9
      go_wp2_with fail
      go_ret2
      exact ⟨_, rfl, HO6.out, HB.out⟩)

end Go.Proofs.YtjbkhbbchacooaaGreatDoor


/-! Cl3 -/
namespace Go.Proofs.YtjbkhbbchacooaaGreatDoor
open Go Go.RowKit
set_option linter.unusedVariables false
attribute [local irreducible] kh kid

theorem sok_parts' {k n d : Int} {b : List Int} (h : sok k n d b = true) : inR k 1 2147483646 = true ∧ inR n 0 1000000000000 = true ∧ okPlain d b = true ∧ (0 ≤ d ∧ d ≤ 3) ∧ b.length ≤ 14 := by
  unfold sok at h
  simp only [Bool.and_eq_true] at h
  obtain ⟨h1, h2, h3⟩ := h
  refine ⟨h1, h2, h3, ?_⟩
  unfold okPlain inR at h3
  simp only [Bool.and_eq_true, decide_eq_true_eq] at h3
  exact h3
theorem Own.lits4s {B : Nat} {w : World} {x y z u : Int} (k : IntKind) (e : TypeId) (hB : B ≤ w.heap.size) (hx : (Lit.int k x).wf = true) (hy : (Lit.int k y).wf = true) (hz : (Lit.int k z).wf = true) (hu : (Lit.int k u).wf = true) : Own e k B (w.alloc (.cells #[.int k x, .int k y, .int k z, .int k u] e)) (.slice (some ⟨w.heap.size, 0, none⟩) 4 4) [x, y, z, u] :=
  ⟨by intro t ht; simp at ht; rcases ht with rfl | rfl | rfl | rfl; exact hx; exact hy; exact hz; exact hu, by simp; omega, World.ownsRow_lit w #[.int k x, .int k y, .int k z, .int k u] 4 hB (by unfold maxLen; omega) rfl⟩

end Go.Proofs.YtjbkhbbchacooaaGreatDoor
