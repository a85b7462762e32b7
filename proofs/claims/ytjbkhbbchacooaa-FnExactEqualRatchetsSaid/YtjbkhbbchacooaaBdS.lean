/- Sealed cells: the program's plain bytes and SealCell. No conditions but numbers that a machine holds. Sealed cells: the document's SealCell. No conditions but numbers that a machine holds. -/
import Derived.Test.YtjbkhbbchacooaaCl1
import Derived.Test.YtjbkhbbchacooaaBa8
import Derived.Test.YtjbkhbbchacooaaBbC
import Derived.Test.YtjbkhbbchacooaaHeldL
import Derived.Deep.RegionWith
import Derived.Deep.RegionHeld3
import Derived.Test.YtjbkhbbchacooaaCry6

/-! Cl2 -/
namespace Go.Proofs.Ytjbkhbbchacooaa
open Go Go.RowKit
set_option linter.unusedVariables false
attribute [local irreducible] kh kid

set_option maxHeartbeats 2000000 in
/-- impl.padPlain. -/
theorem pad_any {lim : Nat} {w : World} {a : Option Addr} {cap : Nat} {b : List Int} {k n d : Int} (h : Rd lim .u8 w (.slice a b.length cap) b) (hlim : lim ≤ w.heap.size) (hk : (Lit.int .i64 k).wf = true) (hn : (Lit.int .i64 n).wf = true) (hd : 0 ≤ d ∧ d ≤ 3) (hb : b.length ≤ 14) :
    Calls Try.prog 77 #[.int .i64 k, .int .i64 n, .agg #[.int .i64 d, .slice a b.length cap]] w fun e w' => ∃ v', e = .returned v' ∧ Own 5 .u8 w.heap.size w' v' (plnL k n d b) ∧ Below w.heap.size w w' := by
  obtain ⟨i0, hi, hz0, hz1, hz2⟩ := info_parts infou8
  have Hhi := Lib.hid hi
  have HK := Lib.hid hk
  have HN := Lib.hid hn
  have b1 := (Below.refl w.heap.size w).alloc (Nat.le_refl _) (.cells #[.int .i64 d, .slice a b.length cap] 68)
  have b2 := b1.alloc (by simp) (.cells #[.int .u8 d, .int .u8 (b.length : Int)] 5)
  have hO : Own 5 .u8 w.heap.size ((w.alloc (.cells #[.int .i64 d, .slice a b.length cap] 68)).alloc (.cells #[.int .u8 d, .int .u8 (b.length : Int)] 5)) (.slice (some ⟨w.heap.size + 1, 0, none⟩) 2 2) [d, (b.length : Int)] := by
    have := Own.lits2 (B := w.heap.size) (w := w.alloc (.cells #[.int .i64 d, .slice a b.length cap] 68)) .u8 5 (by simp) (wf_u8_of hd.1 (by omega)) (wf_u8_of (n := (b.length : Int)) (by omega) (by omega))
    rwa [World.size_alloc] at this
  have HO := Lib.hid hO
  have HR := Lib.hid (h.behind (b2.mono hlim))
  have HB := Lib.hid b2
  have c1 := heap_alloc_new w (.cells #[.int .i64 d, .slice a b.length cap] 68)
  have c2 := (heap_alloc_old (w.alloc (.cells #[.int .i64 d, .slice a b.length cap] 68)) (.cells #[.int .u8 d, .int .u8 (b.length : Int)] 5) (lt_of_block c1)).trans c1
  have HC := Lib.hid c2
  have k0 := blk_cell c1 0
  have k1 := blk_cell c1 1
  have m1 := blk_cell c2 1
  rw [pc0] at k0
  rw [pc1] at k1 m1
  have HKW := Lib.hid (kh_wf k [61, n])
  obtain ⟨q, hq⟩ : ∃ q, q = kh k [61, n] := ⟨_, rfl⟩
  rw [← hq] at HKW
  have HQ := Lib.hid hq
  have HPL : Hid (strm q 18 = padL k n) := Lib.hid (by rw [hq]; rfl)
  have HLb : Hid (b.length ≤ 14) := Lib.hid hb
  clear h hi hk hn b1 b2 hO c1 c2 hq
  go_enter Try.func77, Try.ntmps77
  go_wp2_with (first | (at_builtin; refine append_rd _ rfl _ _ 41 rfl 5 i0 (.int .u8 0) 1 Try.underlying41 Hhi.out hz0 hz1 hz2 rfl (by omega) rfl HO.out rfl HR.out (by have := HLb.out; simp only [List.length_cons, List.length_nil]; omega) ?_))
  intro v3 w3 h3 h4
  replace HC := Lib.hid ((h4.block _ (lt_of_block HC.out) (by intro hk; have h9 : w.heap.size = w.heap.size + 1 := Option.some.inj hk; omega)).trans HC.out)
  replace HB := Lib.hid (HB.out.trans (HO.out.below (Nat.le_refl _) h4))
  obtain ⟨a3, c3, hv3, _⟩ := h3.open
  obtain ⟨L3, hL3⟩ : ∃ L, L = (d :: (b.length : Int) :: b).length := ⟨_, rfl⟩
  rw [← hL3] at hv3
  subst hv3
  replace HO := Lib.hid h3
  clear hL3
  clear h3 h4 k0 k1 m1 HR
  have R2 := Lib.hid (Rd.two 3 .i64 w3 61 n (by decide) HN.out)
  have hb := (Below.refl w3.heap.size w3).alloc (Nat.le_refl _) (.cells #[.int .i64 61, .int .i64 n] 3)
  replace HO := Lib.hid (HO.out.next hb)
  replace HC := Lib.hid ((hb.block _ (lt_of_block HC.out)).trans HC.out)
  replace HB := Lib.hid (HB.out.trans (hb.mono HB.out.size))
  clear hb
  go_wp2_with fail
  refine (impl_kh R2.out (by simp) HK.out).mono ?_
  rintro e w4 ⟨he, hb⟩
  rw [← HQ.out] at he
  subst he
  replace HO := Lib.hid (HO.out.next hb)
  replace HC := Lib.hid ((hb.block _ (lt_of_block HC.out)).trans HC.out)
  replace HB := Lib.hid (HB.out.trans (hb.mono HB.out.size))
  clear hb R2
  go_wp2_with fail
  refine (impl_sb HKW.out (by decide)).mono ?_
  rw [HPL.out]
  rintro e w5 ⟨v5, rfl, hp, hb⟩
  have HP := Lib.hid hp.rd
  replace HO := Lib.hid (HO.out.next hb)
  replace HC := Lib.hid ((hb.block _ (lt_of_block HC.out)).trans HC.out)
  replace HB := Lib.hid (HB.out.trans (hb.mono HB.out.size))
  have m1 := blk_cell HC.out 1
  rw [pc1] at m1
  have HL : Hid (b.length ≤ (padL k n).length) := Lib.hid (by rw [padL_len]; omega)
  have HD : Hid ((d :: (b.length : Int) :: b).length + ((padL k n).drop b.length).length ≤ 20) := Lib.hid (by rw [padL_drop_len]; simp; omega)
  obtain ⟨pl, hpl⟩ : ∃ pl, pl = padL k n := ⟨_, rfl⟩
  rw [← hpl] at HP HL HD
  have HPE := Lib.hid hpl
  clear hp hb hpl
  go_wp2_with (first
    | (refine slice_rd_l _ rfl _ _ _ i0 Try.underlying41 Hhi.out hz1 rfl HP.out _ rfl rfl HL.out ?_; intro u5 hu5; obtain ⟨a5, c5, hv5, _⟩ := hu5.open; obtain ⟨L5, hL5⟩ : ∃ L, L = (pl.drop b.length).length := ⟨_, rfl⟩; rw [← hL5] at hv5; subst hv5; have HU := Lib.hid hu5; clear hu5 hL5)
    | (at_builtin; refine append_rd _ rfl _ _ 41 rfl 5 i0 (.int .u8 0) 1 Try.underlying41 Hhi.out hz0 hz1 hz2 rfl (by omega) rfl HO.out rfl HU.out (by have := HD.out; omega) ?_))
  intro v6 w6 h6 h7
  rw [HPE.out] at h6
  replace HB := Lib.hid (HB.out.trans (HO.out.below (Nat.le_refl _) h7))
  replace HO := Lib.hid h6
  clear h6 h7
  go_wp2_with fail
  go_ret
  exact ⟨_, rfl, HO.out, HB.out⟩

theorem sok_parts {k n d : Int} {b : List Int} (h : sok k n d b = true) : inR k 1 2147483646 = true ∧ inR n 0 1000000000000 = true ∧ okPlain d b = true ∧ (0 ≤ d ∧ d ≤ 3) ∧ b.length ≤ 14 := by
  unfold sok at h
  simp only [Bool.and_eq_true] at h
  obtain ⟨h1, h2, h3⟩ := h
  refine ⟨h1, h2, h3, ?_⟩
  unfold okPlain inR at h3
  simp only [Bool.and_eq_true, decide_eq_true_eq] at h3
  exact h3

set_option maxHeartbeats 4000000 in
/-- impl.SealCell. -/
theorem impl_se {lim : Nat} {w : World} {a : Option Addr} {cap : Nat} {b : List Int} {k n d : Int} (h : Rd lim .u8 w (.slice a b.length cap) b) (hlim : lim ≤ w.heap.size) (hk : (Lit.int .i64 k).wf = true) (hn : (Lit.int .i64 n).wf = true) (hd : (Lit.int .i64 d).wf = true) :
    Calls Try.prog 56 #[.int .i64 k, .int .i64 n, .agg #[.int .i64 d, .slice a b.length cap]] w fun e w' => ∃ v', e = .returned (.tuple #[v', .bool (sok k n d b)]) ∧ Own 5 .u8 w.heap.size w' v' (sealL k n d b) ∧ Below w.heap.size w w' := by
  obtain ⟨i0, hi, hz0, hz1, hz2⟩ := info_parts infou8
  have Hhi := Lib.hid hi
  have HK := Lib.hid hk
  have HN := Lib.hid hn
  have HDw := Lib.hid hd
  have HLb := Lib.hid h.len
  have b1 := (Below.refl w.heap.size w).alloc (Nat.le_refl _) (.cells #[.int .i64 d, .slice a b.length cap] 68)
  have c1 := heap_alloc_new w (.cells #[.int .i64 d, .slice a b.length cap] 68)
  have k0 := blk_cell c1 0
  have k1 := blk_cell c1 1
  rw [pc0] at k0
  rw [pc1] at k1
  obtain ⟨t, ht⟩ : ∃ t, t = sok k n d b := ⟨_, rfl⟩
  rw [← ht]
  cases t with
  | false =>
    have HE : Hid (sealL k n d b = []) := Lib.hid (sealL_no ht.symm)
    cases h1 : inR k 1 2147483646 with
    | false =>
      have H1 := Lib.hid h1
      clear ht h1 hi hk hn hd h
      go_enter Try.func56, Try.ntmps56
      go_wp2_with fail
      refine (impl_vk HK.out).mono ?_
      rw [H1.out]
      rintro e w1 ⟨rfl, hw⟩
      obtain rfl := hw.symm
      go_wp2_with fail
      go_ret2
      exact ⟨_, rfl, by rw [HE.out]; exact Own.lit2 _ (Nat.le_refl _), b1.alloc (by simp) _⟩
    | true =>
      have H1 := Lib.hid h1
      cases h2 : inR n 0 1000000000000 with
      | false =>
        have H2 := Lib.hid h2
        clear ht h1 h2 hi hk hn hd h
        go_enter Try.func56, Try.ntmps56
        go_wp2_with fail
        refine (impl_vk HK.out).mono ?_
        rw [H1.out]
        rintro e w1 ⟨rfl, hw⟩
        obtain rfl := hw.symm
        go_wp2_with fail
        refine (isCounter_any HN.out).mono ?_
        rw [H2.out]
        rintro e w1 ⟨rfl, hw⟩
        obtain rfl := hw.symm
        go_wp2_with fail
        go_ret2
        exact ⟨_, rfl, by rw [HE.out]; exact Own.lit2 _ (Nat.le_refl _), b1.alloc (by simp) _⟩
      | true =>
        have H2 := Lib.hid h2
        have H3 : Hid (okPlain d b = false) := Lib.hid (by unfold sok at ht; rw [h1, h2] at ht; exact ht.symm)
        have b3 := (b1.alloc (by simp) (.cells #[.int .i64 d, .slice a b.length cap] 68)).alloc (by simp; omega) (.cells #[] 5)
        have o3 : Own 5 .u8 w.heap.size (((w.alloc (.cells #[.int .i64 d, .slice a b.length cap] 68)).alloc (.cells #[.int .i64 d, .slice a b.length cap] 68)).alloc (.cells #[] 5)) (.slice (some ⟨w.heap.size + 1 + 1, 0, none⟩) 0 0) [] := by
          have := Own.lit (B := w.heap.size) (w := ((w.alloc (.cells #[.int .i64 d, .slice a b.length cap] 68)).alloc (.cells #[.int .i64 d, .slice a b.length cap] 68))) 5 .u8 (by simp; omega)
          rwa [World.size_alloc, World.size_alloc] at this
        have B3 := Lib.hid b3
        have O3 := Lib.hid o3
        clear ht h1 h2 hi hk hn hd h b3 o3 b1
        go_enter Try.func56, Try.ntmps56
        go_wp2_with fail
        refine (impl_vk HK.out).mono ?_
        rw [H1.out]
        rintro e w1 ⟨rfl, hw⟩
        obtain rfl := hw.symm
        go_wp2_with fail
        refine (isCounter_any HN.out).mono ?_
        rw [H2.out]
        rintro e w1 ⟨rfl, hw⟩
        obtain rfl := hw.symm
        go_wp2_with fail
        refine (impl_vpl HDw.out HLb.out).mono ?_
        rw [H3.out]
        rintro e w1 ⟨rfl, hw⟩
        subst hw
        go_wp2_with fail
        go_ret2
        exact ⟨_, rfl, by rw [HE.out]; exact O3.out, B3.out⟩
  | true =>
    have HE : Hid (sealL k n d b = encL k n d b ++ le4 (chkv k n (encL k n d b))) := Lib.hid (sealL_yes ht.symm)
    obtain ⟨h1, h2, h3, h4, h5⟩ := sok_parts ht.symm
    have H1 := Lib.hid h1
    have H2 := Lib.hid h2
    have H3 := Lib.hid h3
    have H4 := Lib.hid h4
    have H5 := Lib.hid h5
    have HCW := Lib.hid (ckey_wf k n)
    have HLE := Lib.hid (encL_len k n d h5)
    obtain ⟨q, hq⟩ : ∃ q, q = ckey k n := ⟨_, rfl⟩
    rw [← hq] at HCW
    have HQ := Lib.hid hq
    have b2 := b1.alloc (by simp) (.cells #[.int .i64 d, .slice a b.length cap] 68)
    have c2 := (heap_alloc_old (w.alloc (.cells #[.int .i64 d, .slice a b.length cap] 68)) (.cells #[.int .i64 d, .slice a b.length cap] 68) (lt_of_block c1)).trans c1
    obtain ⟨W, hW⟩ : ∃ W, W = (w.alloc (.cells #[.int .i64 d, .slice a b.length cap] 68)).alloc (.cells #[.int .i64 d, .slice a b.length cap] 68) := ⟨_, rfl⟩
    rw [← hW] at b2 c2
    have HW := Lib.hid hW
    have HB := Lib.hid b2.drew
    have HC : Hid (W.drew.heap[w.heap.size]? = some (.cells #[.int .i64 d, .slice a b.length cap] 68)) := Lib.hid c2
    have HR := Lib.hid (h.behind (b2.drew.mono hlim))
    clear ht h1 h2 h3 h4 h5 hi hk hn hd h b1 b2 c1 c2 hW hq
    go_enter Try.func56, Try.ntmps56
    go_wp2_with fail
    refine (impl_vk HK.out).mono ?_
    rw [H1.out]
    rintro e w1 ⟨rfl, hw⟩
    obtain rfl := hw.symm
    go_wp2_with fail
    refine (isCounter_any HN.out).mono ?_
    rw [H2.out]
    rintro e w1 ⟨rfl, hw⟩
    obtain rfl := hw.symm
    go_wp2_with fail
    refine (impl_vpl HDw.out HLb.out).mono ?_
    rw [H3.out, ← HW.out]
    rintro e w1 ⟨rfl, hw⟩
    subst hw
    clear k0 k1
    have k0 := blk_cell HC.out 0
    have k1 := blk_cell HC.out 1
    rw [pc0] at k0
    rw [pc1] at k1
    go_wp2_with fail
    go_region_with (first
      | (go_at_call 76
         go_loud (refine (impl_ck HK.out HN.out).mono ?_
                  rintro e' w4 ⟨he, hb4⟩
                  rw [← HQ.out] at he
                  subst he
                  replace HR := Lib.hid (HR.out.behind (hb4.mono (Nat.le_trans hlim HB.out.size)))
                  replace HC := Lib.hid ((hb4.block _ (lt_of_block HC.out)).trans HC.out)
                  replace HB := Lib.hid (HB.out.trans (hb4.mono HB.out.size))
                  (try replace HO := Lib.hid (HO.out.next hb4))
                  have k0 := blk_cell HC.out 0
                  have k1 := blk_cell HC.out 1
                  rw [pc0] at k0
                  rw [pc1] at k1
                  clear hb4))
      | (go_at_call 77
         go_loud (refine (pad_any HR.out (Nat.le_trans hlim HB.out.size) HK.out HN.out H4.out H5.out).mono ?_
                  rintro e' w5 ⟨v5, rfl, h5, hb5⟩
                  replace HR := Lib.hid (HR.out.behind (hb5.mono (Nat.le_trans hlim HB.out.size)))
                  replace HC := Lib.hid ((hb5.block _ (lt_of_block HC.out)).trans HC.out)
                  have HO := Lib.hid (h5.mono HB.out.size)
                  replace HB := Lib.hid (HB.out.trans (hb5.mono HB.out.size))
                  clear hb5 h5))
      | (go_at_call 75
         go_loud (refine (impl_en HO.out.rd (Nat.le_refl _) HCW.out (by rw [plnL_len _ _ _ H5.out]; omega)).mono ?_
                  rintro e' w6 ⟨v6, rfl, h6, hb6⟩
                  rw [HQ.out] at h6
                  have HO6 := Lib.hid (h6.mono HB.out.size)
                  replace HB := Lib.hid (HB.out.trans (hb6.mono HB.out.size))
                  clear hb6 h6)))
    all_goals (
      have h6 : Own 5 .u8 w.heap.size w6 v6 (encL k n d b) := HO6.out
      obtain ⟨a6, c6, hv6, _⟩ := h6.open
      rw [HLE.out] at hv6
      subst hv6
      obtain ⟨el, hel⟩ : ∃ el, el = encL k n d b := ⟨_, rfl⟩
      rw [← hel] at h6 HE HLE
      replace HO6 := Lib.hid h6
      have HEL := Lib.hid hel
      clear h6 hel HO HR HC
      go_wp2_with fail
      refine (impl_co HO6.out.rd (Nat.le_refl _) HK.out HN.out (by rw [HLE.out]; omega)).mono ?_
      rintro e' w7 ⟨v7, rfl, h7, hb7⟩
      obtain ⟨a7, c7, hv7, _⟩ := h7.open
      rw [le4_len] at hv7
      subst hv7
      have R7 := Lib.hid h7.rd
      replace HO6 := Lib.hid (HO6.out.next hb7)
      replace HB := Lib.hid (HB.out.trans (hb7.mono HB.out.size))
      clear hb7 h7
      go_wp2_with (first | (at_builtin; refine append_rd _ rfl _ _ 41 rfl 5 i0 (.int .u8 0) 1 Try.underlying41 Hhi.out hz0 hz1 hz2 rfl (by omega) rfl HO6.out rfl R7.out (by rw [HLE.out, le4_len]; omega) ?_))
      intro v8 w8 h8 h9
      rw [← HE.out] at h8
      replace HB := Lib.hid (HB.out.trans (HO6.out.below (Nat.le_refl _) h9))
      replace HO6 := Lib.hid h8
      clear h8 h9
      go_wp2_with fail
      go_ret2
      exact ⟨_, rfl, HO6.out, HB.out⟩)

end Go.Proofs.Ytjbkhbbchacooaa


/-! Cl3 -/
namespace Go.Proofs.Ytjbkhbbchacooaa
open Go Go.RowKit
set_option linter.unusedVariables false
attribute [local irreducible] kh kid

theorem sok_parts' {k n d : Int} {b : List Int} (h : sok k n d b = true) : inR k 1 2147483646 = true ∧ inR n 0 1000000000000 = true ∧ okPlain d b = true ∧ (0 ≤ d ∧ d ≤ 3) ∧ b.length ≤ 14 := by
  unfold sok at h
  simp only [Bool.and_eq_true] at h
  obtain ⟨h1, h2, h3⟩ := h
  refine ⟨h1, h2, h3, ?_⟩
  unfold okPlain inR at h3
  simp only [Bool.and_eq_true, decide_eq_true_eq] at h3
  exact h3
theorem Own.lits4s {B : Nat} {w : World} {x y z u : Int} (k : IntKind) (e : TypeId) (hB : B ≤ w.heap.size) (hx : (Lit.int k x).wf = true) (hy : (Lit.int k y).wf = true) (hz : (Lit.int k z).wf = true) (hu : (Lit.int k u).wf = true) : Own e k B (w.alloc (.cells #[.int k x, .int k y, .int k z, .int k u] e)) (.slice (some ⟨w.heap.size, 0, none⟩) 4 4) [x, y, z, u] :=
  ⟨by intro t ht; simp at ht; rcases ht with rfl | rfl | rfl | rfl; exact hx; exact hy; exact hz; exact hu, by simp; omega, World.ownsRow_lit w #[.int k x, .int k y, .int k z, .int k u] 4 hB (by unfold maxLen; omega) rfl⟩

set_option maxRecDepth 20000 in
set_option maxHeartbeats 4000000 in
/-- spec.SealCell. -/
theorem spec_se {lim : Nat} {w : World} {a : Option Addr} {cap : Nat} {b : List Int} {k n d : Int} (h : Rd lim .u8 w (.slice a b.length cap) b) (hlim : lim ≤ w.heap.size) (hk : (Lit.int .i64 k).wf = true) (hn : (Lit.int .i64 n).wf = true) (hd : (Lit.int .i64 d).wf = true) :
    Calls Try.prog 55 #[.int .i64 k, .int .i64 n, .agg #[.int .i64 d, .slice a b.length cap]] w fun e w' => ∃ v', e = .returned (.tuple #[v', .bool (sok k n d b)]) ∧ Own 5 .u8 w.heap.size w' v' (sealL k n d b) ∧ Below w.heap.size w w' := by
  obtain ⟨i0, hi, hz0, hz1, hz2⟩ := info_parts infou8
  have Hhi := Lib.hid hi
  have HK := Lib.hid hk
  have HN := Lib.hid hn
  have HDw := Lib.hid hd
  have HLb := Lib.hid h.len
  have b1 := (Below.refl w.heap.size w).alloc (Nat.le_refl _) (.cells #[.int .i64 d, .slice a b.length cap] 68)
  have c1 := heap_alloc_new w (.cells #[.int .i64 d, .slice a b.length cap] 68)
  have k0 := blk_cell c1 0
  have k1 := blk_cell c1 1
  rw [pc0] at k0
  rw [pc1] at k1
  obtain ⟨t, ht⟩ : ∃ t, t = sok k n d b := ⟨_, rfl⟩
  rw [← ht]
  cases t with
  | false =>
    have HE : Hid (sealL k n d b = []) := Lib.hid (sealL_no ht.symm)
    cases h1 : inR k 1 2147483646 with
    | false =>
      have H1 := Lib.hid h1
      clear ht h1 hi hk hn hd h
      go_enter Try.func55, Try.ntmps55
      go_wp2_with fail
      refine (spec_vk HK.out).mono ?_
      rw [H1.out]
      rintro e w1 ⟨rfl, hw⟩
      obtain rfl := hw.symm
      go_wp2_with fail
      go_ret2
      exact ⟨_, rfl, by rw [HE.out]; exact Own.lit2 _ (Nat.le_refl _), b1.alloc (by simp) _⟩
    | true =>
      have H1 := Lib.hid h1
      cases h2 : inR n 0 1000000000000 with
      | false =>
        have H2 := Lib.hid h2
        clear ht h1 h2 hi hk hn hd h
        go_enter Try.func55, Try.ntmps55
        go_wp2_with fail
        refine (spec_vk HK.out).mono ?_
        rw [H1.out]
        rintro e w1 ⟨rfl, hw⟩
        obtain rfl := hw.symm
        go_wp2_with fail
        refine (spec_in _ _ _ _ HN.out).mono ?_
        rw [H2.out]
        rintro e w1 ⟨rfl, hw⟩
        obtain rfl := hw.symm
        go_wp2_with fail
        go_ret2
        exact ⟨_, rfl, by rw [HE.out]; exact Own.lit2 _ (Nat.le_refl _), b1.alloc (by simp) _⟩
      | true =>
        have H2 := Lib.hid h2
        have H3 : Hid (okPlain d b = false) := Lib.hid (by unfold sok at ht; rw [h1, h2] at ht; exact ht.symm)
        have b3 := (b1.alloc (by simp) (.cells #[.int .i64 d, .slice a b.length cap] 68)).alloc (by simp; omega) (.cells #[] 5)
        have o3 : Own 5 .u8 w.heap.size (((w.alloc (.cells #[.int .i64 d, .slice a b.length cap] 68)).alloc (.cells #[.int .i64 d, .slice a b.length cap] 68)).alloc (.cells #[] 5)) (.slice (some ⟨w.heap.size + 1 + 1, 0, none⟩) 0 0) [] := by
          have := Own.lit (B := w.heap.size) (w := ((w.alloc (.cells #[.int .i64 d, .slice a b.length cap] 68)).alloc (.cells #[.int .i64 d, .slice a b.length cap] 68))) 5 .u8 (by simp; omega)
          rwa [World.size_alloc, World.size_alloc] at this
        have B3 := Lib.hid b3
        have O3 := Lib.hid o3
        clear ht h1 h2 hi hk hn hd h b3 o3 b1
        go_enter Try.func55, Try.ntmps55
        go_wp2_with fail
        refine (spec_vk HK.out).mono ?_
        rw [H1.out]
        rintro e w1 ⟨rfl, hw⟩
        obtain rfl := hw.symm
        go_wp2_with fail
        refine (spec_in _ _ _ _ HN.out).mono ?_
        rw [H2.out]
        rintro e w1 ⟨rfl, hw⟩
        obtain rfl := hw.symm
        go_wp2_with fail
        refine (spec_vpl HDw.out HLb.out).mono ?_
        rw [H3.out]
        rintro e w1 ⟨rfl, hw⟩
        subst hw
        go_wp2_with fail
        go_ret2
        exact ⟨_, rfl, by rw [HE.out]; exact O3.out, B3.out⟩
  | true =>
    have HE : Hid (sealL k n d b = encL k n d b ++ le4 (chkv k n (encL k n d b))) := Lib.hid (sealL_yes ht.symm)
    obtain ⟨h1, h2, h3, h4, h5⟩ := sok_parts' ht.symm
    have H1 := Lib.hid h1
    have H2 := Lib.hid h2
    have H3 := Lib.hid h3
    have H5 := Lib.hid h5
    have HCW := Lib.hid (ckey_wf k n)
    have HLE := Lib.hid (encL_len k n d h5)
    obtain ⟨q, hq⟩ : ∃ q, q = ckey k n := ⟨_, rfl⟩
    rw [← hq] at HCW
    have HQ := Lib.hid hq
    have HKW := Lib.hid (kh_wf k [61, n])
    obtain ⟨q1, hq1⟩ : ∃ q, q = kh k [61, n] := ⟨_, rfl⟩
    rw [← hq1] at HKW
    have HQ1 := Lib.hid hq1
    have HPL : Hid (strm q1 18 = padL k n) := Lib.hid (by rw [hq1]; rfl)
    have b2 := b1.alloc (by simp) (.cells #[.int .i64 d, .slice a b.length cap] 68)
    have c2 := (heap_alloc_old (w.alloc (.cells #[.int .i64 d, .slice a b.length cap] 68)) (.cells #[.int .i64 d, .slice a b.length cap] 68) (lt_of_block c1)).trans c1
    obtain ⟨W, hW⟩ : ∃ W, W = (w.alloc (.cells #[.int .i64 d, .slice a b.length cap] 68)).alloc (.cells #[.int .i64 d, .slice a b.length cap] 68) := ⟨_, rfl⟩
    rw [← hW] at b2 c2
    have HW := Lib.hid hW
    have hO := Own.lits2 (B := w.heap.size) (w := W) .u8 5 b2.size (wf_u8_of h4.1 (by omega)) (wf_u8_of (n := (b.length : Int)) (by omega) (by omega))
    have b4 := b2.alloc b2.size (.cells #[.int .u8 d, .int .u8 (b.length : Int)] 5)
    have HO := Lib.hid hO
    have HB := Lib.hid b4
    have c3 := (heap_alloc_old W (.cells #[.int .u8 d, .int .u8 (b.length : Int)] 5) (lt_of_block c2)).trans c2
    have HC := Lib.hid c3
    have HR := Lib.hid (h.behind (b4.mono hlim))
    have HWs : Hid (w.heap.size < W.heap.size) := Lib.hid (lt_of_block c2)
    have m0 := blk_cell c2 0
    have m1 := blk_cell c2 1
    have m3 := blk_cell c3 1
    rw [pc0] at m0
    rw [pc1] at m1 m3
    have hd3 := h4
    clear ht h1 h2 h3 h4 hi hk hn hd h b1 b2 b4 c1 c2 c3 hW hq hq1 hO
    go_enter Try.func55, Try.ntmps55
    go_wp2_with fail
    refine (spec_vk HK.out).mono ?_
    rw [H1.out]
    rintro e w1 ⟨rfl, hw⟩
    obtain rfl := hw.symm
    go_wp2_with fail
    refine (spec_in _ _ _ _ HN.out).mono ?_
    rw [H2.out]
    rintro e w1 ⟨rfl, hw⟩
    obtain rfl := hw.symm
    go_wp2_with fail
    refine (spec_vpl HDw.out HLb.out).mono ?_
    rw [H3.out, ← HW.out]
    rintro e w1 ⟨rfl, hw⟩
    obtain rfl : W = w1 := hw.symm
    clear k0 k1
    go_wp2_with (first | (at_builtin; refine append_rd _ rfl _ _ 41 rfl 5 i0 (.int .u8 0) 1 Try.underlying41 Hhi.out hz0 hz1 hz2 rfl (by omega) rfl HO.out rfl HR.out (by have := H5.out; simp only [List.length_cons, List.length_nil]; omega) ?_))
    intro v3 w3 h3 h4
    replace HC := Lib.hid ((h4.block _ (lt_of_block HC.out) (by intro hk; have h9 : w.heap.size = W.heap.size := Option.some.inj hk; have := HWs.out; omega)).trans HC.out)
    replace HB := Lib.hid (HB.out.trans (HO.out.below (Nat.le_refl _) h4))
    obtain ⟨a3, c3, hv3, _⟩ := h3.open
    obtain ⟨L3, hL3⟩ : ∃ L, L = (d :: (b.length : Int) :: b).length := ⟨_, rfl⟩
    rw [← hL3] at hv3
    subst hv3
    replace HO := Lib.hid h3
    clear hL3 h3 h4 m0 m1 m3 HR
    have R2 := Lib.hid ((Rd.two 3 .i64 w3.drew 61 n (by decide) HN.out))
    have k1 : w3.drew.cell? ⟨w.heap.size, 1, none⟩ = some (.slice a b.length cap) := (blk_cell HC.out 1).trans (pc1 _ _)
    go_wp2_with fail

    refine region_till (fun w' => w'.cell? ⟨w.heap.size, 1, none⟩ = some (.slice a b.length cap)) 10 (by kernel_rfl) ?_
    apply Till.take (i := 0) [0, 10]
    · simp only [List.getElem?_toArray, List.getElem?_cons_zero]
      rfl
    · kernel_rfl
    · kernel_rfl
    · kernel_rfl
    · kernel_rfl
    · exact fun _ _ _ h => h
    · first
        | exact Or.inr ⟨by rfl, rfl⟩
        | (refine Or.inl ⟨by rfl, fun wq hwq => ?_⟩
           dsimp only at hwq
           go_simp
           first
             | done
             | rfl)
    · exact k1
    simp only [Act.put, List.setIfInBounds_toArray, List.set_cons_zero, List.set_cons_succ]
    apply Till.take (i := 6) [6, 7, 8, 9, 10]
    · simp only [List.getElem?_toArray, List.getElem?_cons_succ, List.getElem?_cons_zero]
      rfl
    · kernel_rfl
    · kernel_rfl
    · kernel_rfl
    · kernel_rfl
    · exact fun _ _ _ h => h
    · first
        | exact Or.inr ⟨by rfl, rfl⟩
        | (refine Or.inl ⟨by rfl, fun wq hwq => ?_⟩
           dsimp only at hwq
           go_simp
           first
             | done
             | rfl)
    · exact k1
    simp only [Act.put, List.setIfInBounds_toArray, List.set_cons_zero, List.set_cons_succ]
    apply Till.take (i := 7) [7, 8, 9, 10]
    · simp only [List.getElem?_toArray, List.getElem?_cons_succ, List.getElem?_cons_zero]
      rfl
    · kernel_rfl
    · kernel_rfl
    · kernel_rfl
    · kernel_rfl
    · exact fun _ _ _ h => h
    · first
        | exact Or.inr ⟨by rfl, rfl⟩
        | (refine Or.inl ⟨by rfl, fun wq hwq => ?_⟩
           dsimp only at hwq
           go_simp
           first
             | done
             | rfl)
    · exact k1
    simp only [Act.put, List.setIfInBounds_toArray, List.set_cons_zero, List.set_cons_succ]
    apply Till.take (i := 8) [8, 9, 10]
    · simp only [List.getElem?_toArray, List.getElem?_cons_succ, List.getElem?_cons_zero]
      rfl
    · kernel_rfl
    · kernel_rfl
    · kernel_rfl
    · kernel_rfl
    · exact fun _ _ _ h => h
    · first
        | exact Or.inr ⟨by rfl, rfl⟩
        | (refine Or.inl ⟨by rfl, fun wq hwq => ?_⟩
           dsimp only at hwq
           go_simp
           first
             | done
             | rfl)
    · exact k1
    simp only [Act.put, List.setIfInBounds_toArray, List.set_cons_zero, List.set_cons_succ]
    apply Till.take (i := 1) [1, 4, 5, 9, 10]
    · simp only [List.getElem?_toArray, List.getElem?_cons_succ, List.getElem?_cons_zero]
      rfl
    · kernel_rfl
    · kernel_rfl
    · kernel_rfl
    · kernel_rfl
    · exact fun _ _ _ h => h
    · first
        | exact Or.inr ⟨by rfl, rfl⟩
        | (refine Or.inl ⟨by rfl, fun wq hwq => ?_⟩
           dsimp only at hwq
           go_simp
           first
             | done
             | rfl)
    · exact k1
    simp only [Act.put, List.setIfInBounds_toArray, List.set_cons_zero, List.set_cons_succ]
    apply Till.take (i := 2) [2, 3, 4, 5, 9, 10]
    · simp only [List.getElem?_toArray, List.getElem?_cons_succ, List.getElem?_cons_zero]
      rfl
    · kernel_rfl
    · kernel_rfl
    · kernel_rfl
    · kernel_rfl
    · exact fun _ _ _ h => h
    · first
        | exact Or.inr ⟨by rfl, rfl⟩
        | (refine Or.inl ⟨by rfl, fun wq hwq => ?_⟩
           dsimp only at hwq
           go_simp
           first
             | done
             | rfl)
    · exact k1
    simp only [Act.put, List.setIfInBounds_toArray, List.set_cons_zero, List.set_cons_succ]
    apply Till.one (i := 3)
    · kernel_rfl
    · simp only [List.getElem?_toArray, List.getElem?_cons_succ, List.getElem?_cons_zero]
      rfl
    intro K hK
    go_simp
    have hb : Below w3.drew.heap.size w3.drew (w3.drew.alloc (.cells #[.int .i64 61, .int .i64 n] 3)) := (Below.refl w3.drew.heap.size w3.drew).alloc (Nat.le_refl _) _
    have O4 := Lib.hid (HO.out.drew.next hb)
    have C4 : Hid ((w3.drew.alloc (.cells #[.int .i64 61, .int .i64 n] 3)).heap[w.heap.size]? = some (.cells #[.int .i64 d, .slice a b.length cap] 68)) := Lib.hid ((hb.block _ (lt_of_block (w := w3.drew) HC.out)).trans HC.out)
    have B4 := Lib.hid (HB.out.drew.trans (hb.mono HB.out.drew.size))
    have k4 := (blk_cell C4.out 1).trans (pc1 _ _)
    clear hb
    refine hK.out _ _ (Or.inr k4) ?_
    clear hK K
    try simp only [Act.put, List.setIfInBounds_toArray, List.set_cons_zero, List.set_cons_succ]
    apply Till.one (i := 4)
    · kernel_rfl
    · simp only [List.getElem?_toArray, List.getElem?_cons_succ, List.getElem?_cons_zero]
      rfl
    intro K hK
    go_simp
    refine (spec_kh R2.out (by simp) HK.out (by simp)).mono ?_
    rintro e' w5 ⟨he, hb⟩
    rw [← HQ1.out] at he
    subst he
    have O5 := Lib.hid (O4.out.next hb)
    have C5 := Lib.hid ((hb.block _ (lt_of_block C4.out)).trans C4.out)
    have B5 := Lib.hid (B4.out.trans (hb.mono B4.out.size))
    have k5 := (blk_cell C5.out 1).trans (pc1 _ _)
    clear hb
    refine hK.out _ _ (Or.inr k5) ?_
    clear hK K
    try simp only [Act.put, List.setIfInBounds_toArray, List.set_cons_zero, List.set_cons_succ]
    apply Till.one (i := 5)
    · kernel_rfl
    · simp only [List.getElem?_toArray, List.getElem?_cons_succ, List.getElem?_cons_zero]
      rfl
    intro K hK
    go_simp
    refine (spec_sb HKW.out (by decide)).mono ?_
    rw [HPL.out]
    rintro e' w6 ⟨v6, rfl, hp, hb⟩
    obtain ⟨a6, c6, hv6, _⟩ := hp.open
    have hp2 := hp.rd
    rw [padL_len] at hv6
    subst hv6
    have P6 := Lib.hid hp2
    have O6 := Lib.hid (O5.out.next hb)
    have C6 := Lib.hid ((hb.block _ (lt_of_block C5.out)).trans C5.out)
    have B6 := Lib.hid (B5.out.trans (hb.mono B5.out.size))
    have k6 := (blk_cell C6.out 1).trans (pc1 _ _)
    clear hb hp hp2
    refine hK.out _ _ (Or.inr k6) ?_
    clear hK K
    try simp only [Act.put, List.setIfInBounds_toArray, List.set_cons_zero, List.set_cons_succ]
    have h14 : b.length ≤ 18 := by have := H5.out; omega
    obtain ⟨u7, hu7⟩ : ∃ u, u = Go.sliced a6 b.length 18 c6 1 := ⟨_, rfl⟩
    have hs7 := P6.out.sliced (l := b.length) (n := 18 - b.length) (by rw [padL_len]; omega)
    rw [Nat.add_sub_cancel' h14, ← hu7, List.take_of_length_le (by rw [padL_drop_len]; omega)] at hs7
    have S7 := Lib.hid hs7
    have HD : Hid ((d :: (b.length : Int) :: b).length + ((padL k n).drop b.length).length ≤ 20) := Lib.hid (by have := H5.out; rw [padL_drop_len]; simp; omega)
    clear hs7
    apply Till.take (i := 9) (v := Go.sliced a6 b.length 18 c6 1) [9, 10]
    · simp only [List.getElem?_toArray, List.getElem?_cons_succ, List.getElem?_cons_zero]
      rfl
    · kernel_rfl
    · kernel_rfl
    · kernel_rfl
    · kernel_rfl
    · exact fun _ _ _ h => h
    · refine Or.inl ⟨by rfl, fun _ _ => ?_⟩
      exact run_slice_op_l _ 41 _ 5 i0 Try.underlying41 Hhi.out hz1 (n := b.length) _ rfl rfl rfl h14
    · exact k6
    simp only [Act.put, List.setIfInBounds_toArray, List.set_cons_zero, List.set_cons_succ]
    rw [← hu7]
    clear hu7
    apply Till.one (i := 10)
    · kernel_rfl
    · simp only [List.getElem?_toArray, List.getElem?_cons_succ, List.getElem?_cons_zero]
      rfl
    intro K hK
    refine step_append_rds _ (by rfl) _ _ 41 (by rfl) 5 i0 (.int .u8 0) 1 Try.underlying41 Hhi.out hz0 hz1 hz2 rfl (by omega) (by rfl) O6.out (by rfl) S7.out (by have := HD.out; omega) ?_
    intro v8 w8 h8 h9
    have O8 := Lib.hid (show Own 5 .u8 w.heap.size w8 v8 (plnL k n d b) from h8)
    have B8 := Lib.hid (B6.out.trans (O6.out.below (Nat.le_refl _) h9))
    clear h8 h9
    refine hK.out _ _ (Or.inl (by rfl)) ?_
    clear hK K
    try simp only [Act.put, List.setIfInBounds_toArray, List.set_cons_zero, List.set_cons_succ]
    apply Till.one (i := 11)
    · kernel_rfl
    · simp only [List.getElem?_toArray, List.getElem?_cons_succ, List.getElem?_cons_zero]
      rfl
    intro K hK
    go_simp
    skip
    refine hK.out _ _ (Or.inl (by rfl)) ?_
    clear hK K
    try simp only [Act.put, List.setIfInBounds_toArray, List.set_cons_zero, List.set_cons_succ]
    refine Till.done (by kernel_rfl) ?_ _
    clear k1 k4 k5 k6 h14
    obtain ⟨a8, c8, hv8, _⟩ := O8.out.open
    rw [plnL_len _ _ _ H5.out] at hv8
    subst hv8
    have HL8 := Lib.hid (plnL_len k n d H5.out)
    have HEn : Hid (enz q (plnL k n d b) = encL k n d b) := Lib.hid (by rw [HQ.out]; rfl)
    have HX := Lib.hid (chkv_bound k n (encL k n d b))
    obtain ⟨pl, hpl⟩ : ∃ pl, pl = plnL k n d b := ⟨_, rfl⟩
    rw [← hpl] at O8 HL8 HEn
    obtain ⟨el, hel⟩ : ∃ el, el = encL k n d b := ⟨_, rfl⟩
    rw [← hel] at HEn HLE HE HX
    obtain ⟨x, hx⟩ : ∃ x, x = chkv k n el := ⟨_, rfl⟩
    rw [← hx] at HE HX
    have HXE := Lib.hid hx
    have HL4 := Lib.hid (le4_eq x)
    clear hx hel hpl C4 C5 C6 P6 S7 HC HO HB
    go_wp2_with fail
    refine (spec_ck HK.out HN.out).mono ?_
    rw [← HQ.out]
    rintro e' w9 ⟨rfl, hb⟩
    replace O8 := Lib.hid (O8.out.next hb)
    replace B8 := Lib.hid (B8.out.trans (hb.mono B8.out.size))
    clear hb
    go_wp2_with fail
    refine (spec_en O8.out.rd (Nat.le_refl _) HCW.out (by rw [HL8.out]; omega)).mono ?_
    rw [HEn.out]
    rintro e' w10 ⟨v10, rfl, h10, hb⟩
    obtain ⟨a10, c10, hv10, _⟩ := h10.open
    rw [HLE.out] at hv10
    subst hv10
    have O10 := Lib.hid (h10.mono B8.out.size)
    have B10 := Lib.hid (B8.out.trans (hb.mono B8.out.size))
    clear hb h10
    go_wp2_with fail
    refine (spec_cc O10.out.rd (Nat.le_refl _) HK.out HN.out (by rw [HLE.out]; omega)).mono ?_
    rw [← HXE.out]
    rintro e' w11 ⟨rfl, hb⟩
    replace O10 := Lib.hid (O10.out.next hb)
    replace B10 := Lib.hid (B10.out.trans (hb.mono B10.out.size))
    clear hb
    have hxb := HX.out
    have hw4 : (Lit.int .u8 (x % 256)).wf = true ∧ (Lit.int .u8 (x / 256 % 256)).wf = true ∧ (Lit.int .u8 (x / 65536 % 256)).wf = true ∧ (Lit.int .u8 (x / 16777216)).wf = true := ⟨wf_u8_of (by omega) (by omega), wf_u8_of (by omega) (by omega), wf_u8_of (by omega) (by omega), wf_u8_of (by omega) (by omega)⟩
    have R12 := Lib.hid ((Own.lits4s (B := 0) (w := w11) .u8 5 (Nat.zero_le _) hw4.1 hw4.2.1 hw4.2.2.1 hw4.2.2.2).rd)
    have O12 := Lib.hid (O10.out.alloc (.cells #[.int .u8 (x % 256), .int .u8 (x / 256 % 256), .int .u8 (x / 65536 % 256), .int .u8 (x / 16777216)] 5))
    have B12 := Lib.hid (B10.out.alloc B10.out.size (.cells #[.int .u8 (x % 256), .int .u8 (x / 256 % 256), .int .u8 (x / 65536 % 256), .int .u8 (x / 16777216)] 5))
    have HT : Hid (el ++ [x % 256, x / 256 % 256, x / 65536 % 256, x / 16777216] = sealL k n d b) := Lib.hid (by
      rw [HE.out, HL4.out, show x / 16777216 % 256 = x / 16777216 by omega])
    clear hw4
    go_wp2_with (first | (at_builtin; refine append_rd _ rfl _ _ 41 rfl 5 i0 (.int .u8 0) 1 Try.underlying41 Hhi.out hz0 hz1 hz2 rfl (by omega) rfl O12.out rfl R12.out (by rw [HLE.out]; simp only [List.length_cons, List.length_nil]; omega) ?_))
    intro v13 w13 h13 hg13
    rw [HT.out] at h13
    have O13 := Lib.hid h13
    have B13 := Lib.hid (B12.out.trans (O12.out.below (Nat.le_refl _) hg13))
    clear h13 hg13
    go_wp2_with fail
    go_ret2
    exact ⟨_, rfl, O13.out, B13.out⟩

end Go.Proofs.Ytjbkhbbchacooaa
