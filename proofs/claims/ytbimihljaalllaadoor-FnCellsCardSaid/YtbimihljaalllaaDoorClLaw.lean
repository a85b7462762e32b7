/- FnCells: the walk. Conditions: the package variable errors.errorType holds the handle of the type 'error', as the row lists it. -/
import Derived.Test.YtbimihljaalllaaDoorDraw13
import Derived.Test.YtbimihljaalllaaDoorClP
import Derived.Test.YtbimihljaalllaaDoorClX
import Derived.Test.YtbimihljaalllaaDoorCl2
import Derived.Test.YtbimihljaalllaaDoorBa4
import Derived.Test.YtbimihljaalllaaDoorBaD
import Derived.Test.YtbimihljaalllaaDoorHeldL
namespace Go.Proofs.YtbimihljaalllaaDoor
open Go Go.RowKit
set_option linter.unusedVariables false
attribute [local irreducible] kh kid

/-- A bit flipped is another byte. -/
theorem bx_ne {z : Int} (hz : 0 ≤ z ∧ z ≤ 255) (t : Nat) (ht : t < 8) : bx z (2 ^ t) ≠ z := by
  intro h
  have h1 := bx_bx hz.1 (2 ^ t)
  rw [h] at h1
  have h2 : bx z (bx z (2 ^ t)) = bx z z := by rw [h]
  rw [← bx_assoc, bx_self, zero_bx (by exact_mod_cast Nat.zero_le _)] at h2
  have h3 : (2 : Int) ^ t = 0 := h2
  have h4 : (2 : Int) ^ t = ((2 ^ t : Nat) : Int) := by push_cast; rfl
  have h5 : 0 < 2 ^ t := Nat.pow_pos (by decide)
  omega
theorem pow_u8 (t : Nat) (ht : t < 8) : 0 ≤ (2 : Int) ^ t ∧ (2 : Int) ^ t ≤ 255 := by
  have : t = 0 ∨ t = 1 ∨ t = 2 ∨ t = 3 ∨ t = 4 ∨ t = 5 ∨ t = 6 ∨ t = 7 := by omega
  rcases this with rfl | rfl | rfl | rfl | rfl | rfl | rfl | rfl <;> decide
theorem own_set13 {e : TypeId} {kd : IntKind} {B : Nat} {w : World} {g cap n : Nat} {zs : List Int} {x : Int} (h : Own e kd B w (.slice (some ⟨g, 0, none⟩) n cap) zs) (hn : zs.length = n) (hx : (Lit.int kd x).wf = true) (j : Nat) :
    Own e kd B (w.setCell ⟨g, j, none⟩ (.int kd x)) (.slice (some ⟨g, 0, none⟩) n cap) (zs.set j x) ∧ w.grownBy (w.setCell ⟨g, j, none⟩ (.int kd x)) (some g) := by
  subst hn
  exact h.set hx j
theorem strm24 (s : Int) : (strm s 24).length = 24 := by
  rw [show (24 : Int) = ((24 : Nat) : Int) from rfl, strm_yes (by rfl)]
  simp
/-- What the law says of FindCounter. -/
theorem fcnt_ctr {k n d : Int} {b : List Int} (h : sok k n d b = true) (hb : U8s b) (h3 : 3 < n) (h9 : n < 900) : fcnt k (sealL k n d b) (n - 2) 5 = n := by
  have e0 : wrap64 (n - 2 + ((0 : Nat) : Int)) = n - 2 := by unfold wrap64; omega
  have e1 : wrap64 (n - 2 + ((1 : Nat) : Int)) = n - 1 := by unfold wrap64; omega
  have e2 : wrap64 (n - 2 + ((2 : Nat) : Int)) = n := by unfold wrap64; omega
  have := fcnt_found (k := k) (f := n - 2) (n := 5) (c := sealL k n d b) (j := 2) (by decide) (fun t ht => by
    have ht2 : t = 0 ∨ t = 1 := by omega
    rcases ht2 with rfl | rfl
    · rw [e0]; exact ook_counter h (by omega)
    · rw [e1]; exact ook_counter h (by omega)) (by rw [e2]; exact ook_seal h hb)
  rw [this, e2]
/-- What the law says of another counter. -/
theorem ook_ctr {k n d : Int} {b : List Int} (h : sok k n d b = true) (hb : U8s b) (hc : CtrOk n) {m : Int} (hm : m = (n + 1) % 1000) : ook k m (sealL k n d b) = (n == m) := by
  have h2 := (sok_all h).2.1
  by_cases he : n = m
  · rw [← he, ook_seal h hb]; simp
  · rw [ook_counter h (by unfold CtrOk at hc; omega), beq_eq_false_iff_ne.2 he]
theorem ook_str {k n d : Int} {b : List Int} (h : sok k n d b = true) (hb : U8s b) {l : Int} (hl : 1 ≤ l ∧ l ≤ 1000) : ook l n (sealL k n d b) = (k == l) := by
  by_cases he : k = l
  · rw [← he, ook_seal h hb]; simp
  · rw [ook_key h (by omega) (fun h => he h.symm), beq_eq_false_iff_ne.2 he]

set_option maxHeartbeats 8000000 in
set_option maxRecDepth 20000 in
theorem fnCells_walk (a : Option Addr) (len cap : Nat) (zs : List Int) (w : World) (hrow : IsRow .u8 w a len cap zs) (hL : laidMetH Tryd.prog Rows.fnCellsRow.laid w) :
    Calls Tryd.prog 3 #[.slice a len cap] w fun e w' => e = .returned (.bool true) ∧ Below w.heap.size w w' := by
  have HL := Lib.hid (gv_of_laid hL)
  obtain ⟨hr, hl⟩ := row_own hrow
  obtain ⟨s, A, l⟩ : ∃ s, Rd w.heap.size .u8 w (.slice a len cap) s ∧ len = s.length := ⟨zs.take len, hrow.rd, hrow.rd.len_eq⟩
  subst l
  obtain ⟨i0, hi0, hz0, hz1, hz2⟩ := info_parts infou8
  have Hhi := Lib.hid hi0
  have HR := Lib.hid hr
  have HA := Lib.hid A
  have HLen := Lib.hid hl
  have hl' : s.length ≤ 9223372036854775807 := by unfold maxLen at hl; omega
  have HB := Lib.hid (Below.refl w.heap.size w)
  clear hr hrow hl A hi0 hL
  by_cases hbig : 1048576 < s.length
  · have e0 : decide ((1048576 : Int) < (s.length : Int)) = true := by simp; omega
    go_enter Tryd.func3, Tryd.ntmps3
    go_wp2_with fail
    refine (big_is a s.length cap _ hl').mono ?_
    rw [e0]
    rintro e w0 ⟨rfl, rfl⟩
    go_wp2_with fail
    go_ret
    exact ⟨rfl, Below.refl _ _⟩
  have e0 : decide ((1048576 : Int) < (s.length : Int)) = false := by simp; omega
  have HS := Lib.hid (show s.length ≤ 1048576 by omega)
  clear hbig
  go_enter Tryd.func3, Tryd.ntmps3
  go_wp2_with fail
  refine (big_is a s.length cap _ hl').mono ?_
  rw [e0]
  rintro e w0 ⟨rfl, hw⟩
  obtain rfl : w = w0 := hw.symm
  go_wp2_with fail
  refine (draw_se w.heap.size a s.length cap zs _ (Nat.le_refl _) HR.out HLen.out).mono ?_
  rintro e w1 ⟨k, n, d, vb, bs, rfl, hk, hn, hd, hO, hlb, hb⟩
  obtain ⟨ab, cb, hvb, _⟩ := hO.open
  obtain ⟨Lb, hLb⟩ : ∃ L, L = bs.length := ⟨_, rfl⟩
  rw [← hLb] at hvb
  subst hvb
  have HLb := Lib.hid hLb
  have HKb := Lib.hid hk
  have HCt := Lib.hid hn
  have HDb := Lib.hid hd
  have HU := Lib.hid hO.u8s
  have HBl := Lib.hid hlb
  have HUl := Lib.hid hO.rd.len
  have OB := Lib.hid hO
  replace HA := Lib.hid (HA.out.behind hb)
  replace HB := Lib.hid hb
  have hb := (Below.refl w1.heap.size w1).alloc (Nat.le_refl _) (.cells #[.int .i64 d, .slice ab Lb cb] 25)
  have K5 := Lib.hid (heap_alloc_new w1 (.cells #[.int .i64 d, .slice ab Lb cb] 25))
  obtain ⟨w2, hw2⟩ : ∃ W, W = w1.alloc (.cells #[.int .i64 d, .slice ab Lb cb] 25) := ⟨_, rfl⟩
  rw [← hw2] at hb K5
  have HW2 := Lib.hid hw2
  clear hO hlb hk hn hd hLb hw2 HR
  replace HA := Lib.hid (HA.out.behind (hb.mono HB.out.size))
  replace OB := Lib.hid (OB.out.next hb)
  replace HB := Lib.hid (HB.out.trans (hb.mono HB.out.size))
  clear hb
  have HKW : Hid ((Lit.int .i64 k).wf = true) := Lib.hid (wf_i64_of (by have := HKb.out; omega) (by have := HKb.out; omega))
  have HNW : Hid ((Lit.int .i64 n).wf = true) := Lib.hid (wf_i64_of (by have := HCt.out; unfold CtrOk at this; omega) (by have := HCt.out; unfold CtrOk at this; omega))
  have HDW : Hid ((Lit.int .i64 d).wf = true) := Lib.hid (wf_i64_of (by have := HDb.out; omega) (by have := HDb.out; omega))
  have b5 : w1.heap.size < w2.heap.size := lt_of_block K5.out
  have H5s := Lib.hid b5
  have HS2 := Lib.hid HB.out.size
  obtain ⟨p0, p1, _, _⟩ := pcs K5.out
  clear b5
  go_wp2_with fail
  rw [← HW2.out]
  have hOB := OB.out.rd
  rw [HLb.out] at hOB
  have hse := impl_se hOB (Nat.le_refl _) HKW.out HNW.out HDW.out
  rw [← HLb.out] at hse
  refine hse.mono ?_
  clear hOB hse p0 p1
  rintro e w3 ⟨v6, rfl, h6, hb⟩
  have HS3 := Lib.hid (show w2.heap.size ≤ w3.heap.size from hb.size)
  replace HA := Lib.hid (HA.out.behind (hb.mono HB.out.size))
  replace OB := Lib.hid (OB.out.next hb)
  replace K5 := Lib.hid ((hb.block _ (lt_of_block K5.out)).trans K5.out)
  replace HB := Lib.hid (HB.out.trans (hb.mono HB.out.size))
  clear hb
  have OC := Lib.hid (h6.mono (B' := w.heap.size) HS2.out)
  obtain ⟨p0, p1, _, _⟩ := pcs K5.out
  cases hok : sok k n d bs with
  | false =>
    have hse0 := sealL_no hok
    rw [hse0] at h6
    obtain ⟨a6, c6, hv6, _⟩ := h6.open
    rw [List.length_nil] at hv6
    subst hv6
    have e6 : ((0 : Int) == 0) = true := rfl
    clear h6 hse0 OC
    go_wp2_with fail
    refine (spec_vk HKW.out).mono ?_
    cases h1 : inR k 1 2147483646 with
    | false =>
      rintro e w4 ⟨rfl, hw⟩
      obtain rfl : w3 = w4 := hw.symm
      clear h1 hok
      go_wp2_with fail
      go_ret
      exact ⟨rfl, HB.out⟩
    | true =>
      rintro e w4 ⟨rfl, hw⟩
      obtain rfl : w3 = w4 := hw.symm
      by_cases h2 : 0 ≤ n
      case neg =>
        have e2 : decide ((0 : Int) ≤ n) = false := decide_eq_false h2
        clear h1 hok
        go_wp2_with fail
        go_ret
        exact ⟨rfl, HB.out⟩
      have e2 : decide ((0 : Int) ≤ n) = true := decide_eq_true h2
      by_cases h3 : n ≤ 1000000000000
      case neg =>
        have e3 : decide (n ≤ 1000000000000) = false := decide_eq_false h3
        clear h1 hok
        go_wp2_with fail
        go_ret
        exact ⟨rfl, HB.out⟩
      have e3 : decide (n ≤ 1000000000000) = true := decide_eq_true h3
      have H4 : Hid (okPlain d bs = false) := Lib.hid (by
        unfold sok at hok
        rw [h1, inR_yes ⟨h2, h3⟩] at hok
        exact hok)
      have hvp := spec_vpl (w := w3) (a := ab) (cap := cb) (b := bs) HDW.out OB.out.rd.len
      rw [← HLb.out, H4.out] at hvp
      clear h1 hok h2 h3
      go_wp2_with fail
      refine hvp.mono ?_
      rintro e w4 ⟨rfl, hw⟩
      subst hw
      go_wp2_with fail
      go_ret
      exact ⟨rfl, HB.out.alloc HB.out.size _⟩
  | true =>
    obtain ⟨hk1, hn1, hd1, hb14⟩ := sok_all hok
    have H1 : Hid (inR k 1 2147483646 = true) := Lib.hid (inR_yes hk1)
    have H4 : Hid (okPlain d bs = true) := Lib.hid (by unfold okPlain; rw [inR_yes hd1, decide_eq_true hb14]; rfl)
    have HOK := Lib.hid hok
    have e2 : decide ((0 : Int) ≤ n) = true := decide_eq_true hn1.1
    have e3 : decide (n ≤ 1000000000000) = true := decide_eq_true hn1.2
    have HSL := Lib.hid (sealL_len24 hok)
    obtain ⟨sl, hsl⟩ : ∃ x, x = sealL k n d bs := ⟨_, rfl⟩
    rw [← hsl] at HSL h6 OC
    have HSE := Lib.hid hsl
    obtain ⟨a6, c6, hv6, _⟩ := h6.open
    rw [HSL.out] at hv6
    subst hv6
    have hvp := spec_vpl (w := w3) (a := ab) (cap := cb) (b := bs) HDW.out OB.out.rd.len
    rw [← HLb.out, H4.out] at hvp
    clear h6 hok hsl hd1 hb14
    go_wp2_with fail
    refine (spec_vk HKW.out).mono ?_
    rw [H1.out]
    rintro e w4 ⟨rfl, hw⟩
    obtain rfl : w3 = w4 := hw.symm
    go_wp2_with fail
    refine hvp.mono ?_
    rintro e w4 ⟨rfl, hw⟩
    have hb : Below w3.heap.size w3 w4 := by rw [hw]; exact (Below.refl _ _).alloc (Nat.le_refl _) _
    have HS4 := Lib.hid (show w3.heap.size ≤ w4.heap.size from hb.size)
    clear hw hvp
    replace HA := Lib.hid (HA.out.behind (hb.mono HB.out.size))
    replace OB := Lib.hid (OB.out.next hb)
    replace K5 := Lib.hid ((hb.block _ (lt_of_block K5.out)).trans K5.out)
    replace OC := Lib.hid (OC.out.next hb)
    replace HB := Lib.hid (HB.out.trans (hb.mono HB.out.size))
    clear hb
    have HBS := Lib.hid (show U8s bs from HU.out)
    have HO1 := Lib.hid (ook_seal HOK.out HBS.out)
    have HO2 := Lib.hid (ocK_seal HOK.out HBS.out)
    have HO3 := Lib.hid (ocB_seal HOK.out HBS.out)
    rw [← HSE.out] at HO1 HO2 HO3
    go_wp2_with fail
    refine (impl_oc OC.out.rd (Nat.le_refl _) HKW.out HNW.out (HL.out.next HB.out)).mono ?_
    rw [HO1.out, HO2.out, HO3.out]
    rintro e w5 ⟨v8, rfl, h8, hb⟩
    obtain ⟨a8, c8, hv8, _⟩ := h8.open
    rw [← HLb.out] at hv8
    subst hv8
    replace HA := Lib.hid (HA.out.behind (hb.mono HB.out.size))
    replace OB := Lib.hid (OB.out.next hb)
    replace K5 := Lib.hid ((hb.block _ (lt_of_block K5.out)).trans K5.out)
    replace OC := Lib.hid (OC.out.next hb)
    replace HB := Lib.hid (HB.out.trans (hb.mono HB.out.size))
    clear hb
    have O8 := Lib.hid (h8.mono (B' := w.heap.size) (by have := HS2.out; have := HS3.out; have := HS4.out; omega))
    clear h8
    have hb := (Below.refl w5.heap.size w5).alloc (Nat.le_refl _) (.cells #[.int .i64 d, .slice a8 Lb c8] 25)
    have K8 := Lib.hid (heap_alloc_new w5 (.cells #[.int .i64 d, .slice a8 Lb c8] 25))
    obtain ⟨w6, hw6⟩ : ∃ W, W = w5.alloc (.cells #[.int .i64 d, .slice a8 Lb c8] 25) := ⟨_, rfl⟩
    rw [← hw6] at hb K8
    have HW6 := Lib.hid hw6
    clear hw6
    replace HA := Lib.hid (HA.out.behind (hb.mono HB.out.size))
    replace OB := Lib.hid (OB.out.next hb)
    replace K5 := Lib.hid ((hb.block _ (lt_of_block K5.out)).trans K5.out)
    replace OC := Lib.hid (OC.out.next hb)
    replace O8 := Lib.hid (O8.out.next hb)
    replace HB := Lib.hid (HB.out.trans (hb.mono HB.out.size))
    clear hb
    obtain ⟨m, hm⟩ : ∃ m, m = (n + 1) % 1000 := ⟨_, rfl⟩
    have hmr : (n + 1) % 1000 = m := hm.symm
    have hmb : 0 ≤ m ∧ m ≤ 999 := by omega
    obtain ⟨c11, hc11⟩ : ∃ c, c = (n == m) := ⟨_, rfl⟩
    have HO4 : Hid (ook k m sl = c11) := Lib.hid (by rw [HSE.out, hc11]; exact ook_ctr HOK.out HBS.out HCt.out hm)
    have r11 : (n == m) = c11 := hc11.symm
    have HMW : Hid ((Lit.int .i64 m).wf = true) := Lib.hid (wf_i64_of (by omega) (by omega))
    clear hm hc11
    go_wp2_with fail
    rw [← HW6.out]
    refine (impl_oc OC.out.rd (Nat.le_refl _) HKW.out HMW.out (HL.out.next HB.out)).mono ?_
    rw [HO4.out]
    obtain ⟨xp, hxp⟩ : ∃ x, x = ocK k m sl := ⟨_, rfl⟩
    rw [← hxp]
    rintro e w7 ⟨vp, rfl, hp, hb⟩
    obtain ⟨ap, cp, hvp, _⟩ := hp.open
    obtain ⟨Lp, hLp⟩ : ∃ L, L = (ocB k m sl).length := ⟨_, rfl⟩
    rw [← hLp] at hvp
    subst hvp
    clear hp hLp hxp
    replace HA := Lib.hid (HA.out.behind (hb.mono HB.out.size))
    replace OB := Lib.hid (OB.out.next hb)
    replace K5 := Lib.hid ((hb.block _ (lt_of_block K5.out)).trans K5.out)
    replace OC := Lib.hid (OC.out.next hb)
    replace O8 := Lib.hid (O8.out.next hb)
    replace K8 := Lib.hid ((hb.block _ (lt_of_block K8.out)).trans K8.out)
    replace HB := Lib.hid (HB.out.trans (hb.mono HB.out.size))
    clear hb
    have hb := (Below.refl w7.heap.size w7).alloc (Nat.le_refl _) (.cells #[.int .i64 xp, .slice ap Lp cp] 25)
    obtain ⟨w8, hw8⟩ : ∃ W, W = w7.alloc (.cells #[.int .i64 xp, .slice ap Lp cp] 25) := ⟨_, rfl⟩
    rw [← hw8] at hb
    have Hw8 := Lib.hid hw8
    clear hw8
    replace HA := Lib.hid (HA.out.behind (hb.mono HB.out.size))
    replace OB := Lib.hid (OB.out.next hb)
    replace K5 := Lib.hid ((hb.block _ (lt_of_block K5.out)).trans K5.out)
    replace OC := Lib.hid (OC.out.next hb)
    replace O8 := Lib.hid (O8.out.next hb)
    replace K8 := Lib.hid ((hb.block _ (lt_of_block K8.out)).trans K8.out)
    replace HB := Lib.hid (HB.out.trans (hb.mono HB.out.size))
    clear hb
    obtain ⟨l0, hl0⟩ : ∃ m, m = (k + 5) % 1000 := ⟨_, rfl⟩
    have hlr : (k + 5) % 1000 = l0 := hl0.symm
    have hlb : 0 ≤ l0 ∧ l0 ≤ 999 := by omega
    obtain ⟨c13, hc13⟩ : ∃ c, c = (k == 1 + l0) := ⟨_, rfl⟩
    have HO5 : Hid (ook (1 + l0) n sl = c13) := Lib.hid (by rw [HSE.out, hc13]; exact ook_str HOK.out HBS.out (by omega))
    have r13 : (k == 1 + l0) = c13 := hc13.symm
    have HLW : Hid ((Lit.int .i64 (1 + l0)).wf = true) := Lib.hid (wf_i64_of (by omega) (by omega))
    clear hl0 hc13
    go_wp2_with fail
    rw [← Hw8.out]
    refine (impl_oc OC.out.rd (Nat.le_refl _) HLW.out HNW.out (HL.out.next HB.out)).mono ?_
    rw [HO5.out]
    obtain ⟨xq, hxq⟩ : ∃ x, x = ocK (1 + l0) n sl := ⟨_, rfl⟩
    rw [← hxq]
    rintro e w9 ⟨vq, rfl, hq, hb⟩
    obtain ⟨aq, cq, hvq, _⟩ := hq.open
    obtain ⟨Lq, hLq⟩ : ∃ L, L = (ocB (1 + l0) n sl).length := ⟨_, rfl⟩
    rw [← hLq] at hvq
    subst hvq
    clear hq hLq hxq
    replace HA := Lib.hid (HA.out.behind (hb.mono HB.out.size))
    replace OB := Lib.hid (OB.out.next hb)
    replace K5 := Lib.hid ((hb.block _ (lt_of_block K5.out)).trans K5.out)
    replace OC := Lib.hid (OC.out.next hb)
    replace O8 := Lib.hid (O8.out.next hb)
    replace K8 := Lib.hid ((hb.block _ (lt_of_block K8.out)).trans K8.out)
    replace HB := Lib.hid (HB.out.trans (hb.mono HB.out.size))
    clear hb
    have hb := (Below.refl w9.heap.size w9).alloc (Nat.le_refl _) (.cells #[.int .i64 xq, .slice aq Lq cq] 25)
    obtain ⟨w10, hw10⟩ : ∃ W, W = w9.alloc (.cells #[.int .i64 xq, .slice aq Lq cq] 25) := ⟨_, rfl⟩
    rw [← hw10] at hb
    have Hw10 := Lib.hid hw10
    clear hw10
    replace HA := Lib.hid (HA.out.behind (hb.mono HB.out.size))
    replace OB := Lib.hid (OB.out.next hb)
    replace K5 := Lib.hid ((hb.block _ (lt_of_block K5.out)).trans K5.out)
    replace OC := Lib.hid (OC.out.next hb)
    replace O8 := Lib.hid (O8.out.next hb)
    replace K8 := Lib.hid ((hb.block _ (lt_of_block K8.out)).trans K8.out)
    replace HB := Lib.hid (HB.out.trans (hb.mono HB.out.size))
    clear hb
    have hb := (Below.refl w10.heap.size w10).alloc (Nat.le_refl _) (.cells #[] 5)
    have od := Own.lit (B := w10.heap.size) (w := w10) 5 .u8 (Nat.le_refl _)
    have hs10 : w10.heap.size = w9.heap.size + 1 := by rw [Hw10.out, World.size_alloc]
    have HS10e := Lib.hid hs10
    have od2 : Own 5 .u8 w10.heap.size (w10.alloc (.cells #[] 5)) (.slice (some ⟨w9.heap.size + 1, 0, none⟩) 0 0) [] := by rw [hs10] at od; rw [hs10]; exact od
    have OD := Lib.hid od2
    clear od od2 hs10
    have HS10 : Hid (w.heap.size ≤ w10.heap.size) := Lib.hid HB.out.size
    have QB := Lib.hid (fun r (h : (Value.slice ab Lb cb).ownBlock = some r) => (OB.out.lt r h).2)
    have QC := Lib.hid (fun r (h : (Value.slice a6 24 c6).ownBlock = some r) => (OC.out.lt r h).2)
    have Q8 := Lib.hid (fun r (h : (Value.slice a8 Lb c8).ownBlock = some r) => (O8.out.lt r h).2)
    have QK5 := Lib.hid (lt_of_block K5.out)
    have QK8 := Lib.hid (lt_of_block K8.out)
    have OCr := Lib.hid (OC.out.next hb).rd
    have H24 : Hid (([] : List Int).length + sl.length ≤ 100) := Lib.hid (by rw [HSL.out]; simp)
    go_wp2_with (first | (at_builtin; rw [← Hw10.out]; refine append_rd _ rfl _ _ 22 rfl 5 i0 (.int .u8 0) 1 Tryd.underlying22 Hhi.out hz0 hz1 hz2 rfl (by omega) rfl OD.out rfl OCr.out (by have := H24.out; omega) ?_))
    intro v14 w11 h14 hg14
    obtain ⟨a14, c14, hv14, hg⟩ := h14.open
    rw [HSL.out] at hv14 hg
    obtain ⟨g, rfl⟩ := hg (by decide)
    subst hv14
    have hb2 := hb.trans (OD.out.below (Nat.le_refl _) hg14)
    have OE := Lib.hid (h14.mono HS10.out)
    have hlt14 := h14.lt g rfl
    have HGs := Lib.hid hlt14
    clear hb hg14 h14 hlt14 hg OD OCr
    replace HA := Lib.hid (HA.out.behind (hb2.mono HB.out.size))
    replace OB := Lib.hid (OB.out.next hb2)
    replace K5 := Lib.hid ((hb2.block _ (lt_of_block K5.out)).trans K5.out)
    replace OC := Lib.hid (OC.out.next hb2)
    replace O8 := Lib.hid (O8.out.next hb2)
    replace K8 := Lib.hid ((hb2.block _ (lt_of_block K8.out)).trans K8.out)
    replace HB := Lib.hid (HB.out.trans (hb2.mono HB.out.size))
    clear hb2
    go_wp2_with fail
    refine (at_any HA.out 0 (by omega) HS.out).mono ?_
    obtain ⟨x0, hx0⟩ : ∃ x, x = atv s 0 := ⟨_, rfl⟩
    rw [← hx0]
    rintro e w12 ⟨⟨rfl, x00, x01⟩, hw⟩
    obtain rfl : w11 = w12 := hw.symm
    obtain ⟨i, hi⟩ : ∃ i : Nat, (i : Int) = x0 % 24 := ⟨(x0 % 24).toNat, by omega⟩
    have hi24 : i < 24 := by omega
    have hi24' : (i : Int) < 24 := by omega
    have hir : x0 % 24 = (i : Int) := hi.symm
    clear hx0 hi hw
    have hz := OE.out.cellAt (j := i) HSL.out hi24
    have hfz := OE.out.free HSL.out i
    have hzb := OE.out.u8s.get i
    obtain ⟨z, hze⟩ : ∃ z, z = sl.getD i 0 := ⟨_, rfl⟩
    rw [← hze] at hz hzb
    have HZE := Lib.hid hze
    clear hze
    have cz : w11.drew.cell? ⟨g, i, none⟩ = some (.int .u8 z) := hz
    have fz : w11.drew.frozen? ⟨g, i, none⟩ = false := hfz
    have HAd := Lib.hid HA.out.drew
    go_wp2_with fail
    refine region_till (fun w' => w'.cell? ⟨g, i, none⟩ = some (.int .u8 z)) 12 (by kernel_rfl) ?_
    apply Till.take (i := 0) [0, 11, 12]
    · simp only [List.getElem?_toArray, List.getElem?_cons_zero]
      rfl
    · kernel_rfl
    · kernel_rfl
    · kernel_rfl
    · kernel_rfl
    · exact fun _ _ _ h => h
    · first
        | exact Or.inr ⟨by rfl, rfl⟩
        | (refine Or.inl ⟨by rfl, fun wq hwq => ?_⟩
           dsimp only at hwq
           go_simp
           first
             | done
             | rfl)
    · exact cz
    simp only [Act.put, List.setIfInBounds_toArray, List.set_cons_zero, List.set_cons_succ]
    apply Till.take (i := 1) [1, 11, 12]
    · simp only [List.getElem?_toArray, List.getElem?_cons_succ, List.getElem?_cons_zero]
      rfl
    · kernel_rfl
    · kernel_rfl
    · kernel_rfl
    · kernel_rfl
    · exact fun _ _ _ h => h
    · first
        | exact Or.inr ⟨by rfl, rfl⟩
        | (refine Or.inl ⟨by rfl, fun wq hwq => ?_⟩
           dsimp only at hwq
           go_simp
           first
             | done
             | rfl)
    · exact cz
    simp only [Act.put, List.setIfInBounds_toArray, List.set_cons_zero, List.set_cons_succ]
    apply Till.take (i := 2) [2, 4, 5, 10, 12]
    · simp only [List.getElem?_toArray, List.getElem?_cons_succ, List.getElem?_cons_zero]
      rfl
    · kernel_rfl
    · kernel_rfl
    · kernel_rfl
    · kernel_rfl
    · exact fun _ _ _ h => h
    · first
        | exact Or.inr ⟨by rfl, rfl⟩
        | (refine Or.inl ⟨by rfl, fun wq hwq => ?_⟩
           dsimp only at hwq
           go_simp
           first
             | done
             | rfl)
    · exact cz
    simp only [Act.put, List.setIfInBounds_toArray, List.set_cons_zero, List.set_cons_succ]
    apply Till.take (i := 3) [3, 4, 5, 10, 12]
    · simp only [List.getElem?_toArray, List.getElem?_cons_succ, List.getElem?_cons_zero]
      rfl
    · kernel_rfl
    · kernel_rfl
    · kernel_rfl
    · kernel_rfl
    · exact fun _ _ _ h => h
    · first
        | exact Or.inr ⟨by rfl, rfl⟩
        | (refine Or.inl ⟨by rfl, fun wq hwq => ?_⟩
           dsimp only at hwq
           go_simp
           first
             | done
             | rfl)
    · exact cz
    simp only [Act.put, List.setIfInBounds_toArray, List.set_cons_zero, List.set_cons_succ]
    apply Till.take (i := 4) [4, 5, 10, 12]
    · simp only [List.getElem?_toArray, List.getElem?_cons_succ, List.getElem?_cons_zero]
      rfl
    · kernel_rfl
    · kernel_rfl
    · kernel_rfl
    · kernel_rfl
    · exact fun _ _ _ h => h
    · first
        | exact Or.inr ⟨by rfl, rfl⟩
        | (refine Or.inl ⟨by rfl, fun wq hwq => ?_⟩
           dsimp only at hwq
           go_simp
           first
             | done
             | rfl)
    · exact cz
    simp only [Act.put, List.setIfInBounds_toArray, List.set_cons_zero, List.set_cons_succ]
    apply Till.take (i := 5) [5, 10, 12]
    · simp only [List.getElem?_toArray, List.getElem?_cons_succ, List.getElem?_cons_zero]
      rfl
    · kernel_rfl
    · kernel_rfl
    · kernel_rfl
    · kernel_rfl
    · exact fun _ _ _ h => h
    · first
        | exact Or.inr ⟨by rfl, rfl⟩
        | (refine Or.inl ⟨by rfl, fun wq hwq => ?_⟩
           dsimp only at hwq
           go_simp
           first
             | done
             | rfl)
    · exact cz
    simp only [Act.put, List.setIfInBounds_toArray, List.set_cons_zero, List.set_cons_succ]
    apply Till.take (i := 6) [6, 7, 8, 9, 10, 12]
    · simp only [List.getElem?_toArray, List.getElem?_cons_succ, List.getElem?_cons_zero]
      rfl
    · kernel_rfl
    · kernel_rfl
    · kernel_rfl
    · kernel_rfl
    · exact fun _ _ _ h => h
    · first
        | exact Or.inr ⟨by rfl, rfl⟩
        | (refine Or.inl ⟨by rfl, fun wq hwq => ?_⟩
           dsimp only at hwq
           go_simp
           first
             | done
             | rfl)
    · exact cz
    simp only [Act.put, List.setIfInBounds_toArray, List.set_cons_zero, List.set_cons_succ]
    apply Till.one (i := 7)
    · kernel_rfl
    · simp only [List.getElem?_toArray, List.getElem?_cons_succ, List.getElem?_cons_zero]
      rfl
    intro K hK
    go_simp
    refine (at_any HAd.out 1 (by omega) HS.out).mono ?_
    obtain ⟨y0, hy0⟩ : ∃ x, x = atv s 1 := ⟨_, rfl⟩
    rw [← hy0]
    rintro e' w12 ⟨⟨rfl, y00, y01⟩, hw⟩
    obtain rfl : w11.drew = w12 := hw.symm
    clear hy0 hw
    obtain ⟨t, ht⟩ : ∃ i : Nat, (i : Int) = y0 % 8 := ⟨(y0 % 8).toNat, by omega⟩
    have ht8 : t < 8 := by omega
    have htr : y0 % 8 = (t : Int) := ht.symm
    have htr2 : y0.tmod 8 = (t : Int) := by rw [Int.tmod_eq_emod_of_nonneg y00]; exact htr
    obtain ⟨x9, hx9⟩ : ∃ x, x = bx z (2 ^ t) := ⟨_, rfl⟩
    have hp9 := pow_u8 t ht8
    have hxr : bits .xor .u8 z (IntKind.u8.wrap (2 ^ t)) = x9 := by rw [wrapU8, Int.emod_eq_of_lt hp9.1 (by omega), u8_xor hzb hp9, hx9]
    have HX9 : Hid ((0 ≤ x9 ∧ x9 ≤ 255) ∧ x9 ≠ z) := Lib.hid (by rw [hx9]; exact ⟨bx_bound hzb hp9, bx_ne hzb t ht8⟩)
    clear ht hx9 hp9
    refine hK.out _ _ (Or.inr cz) ?_
    clear hK K
    try simp only [Act.put, List.setIfInBounds_toArray, List.set_cons_zero, List.set_cons_succ]
    apply Till.take (i := 8) [8, 9, 10, 12]
    · simp only [List.getElem?_toArray, List.getElem?_cons_succ, List.getElem?_cons_zero]
      rfl
    · kernel_rfl
    · kernel_rfl
    · kernel_rfl
    · kernel_rfl
    · exact fun _ _ _ h => h
    · first
        | exact Or.inr ⟨by rfl, rfl⟩
        | (refine Or.inl ⟨by rfl, fun wq hwq => ?_⟩
           dsimp only at hwq
           go_simp
           first
             | done
             | rfl)
    · exact cz
    simp only [Act.put, List.setIfInBounds_toArray, List.set_cons_zero, List.set_cons_succ]
    apply Till.take (i := 9) [9, 10, 12]
    · simp only [List.getElem?_toArray, List.getElem?_cons_succ, List.getElem?_cons_zero]
      rfl
    · kernel_rfl
    · kernel_rfl
    · kernel_rfl
    · kernel_rfl
    · exact fun _ _ _ h => h
    · first
        | exact Or.inr ⟨by rfl, rfl⟩
        | (refine Or.inl ⟨by rfl, fun wq hwq => ?_⟩
           dsimp only at hwq
           go_simp
           first
             | done
             | rfl)
    · exact cz
    simp only [Act.put, List.setIfInBounds_toArray, List.set_cons_zero, List.set_cons_succ]
    apply Till.take (i := 10) [10, 12]
    · simp only [List.getElem?_toArray, List.getElem?_cons_succ, List.getElem?_cons_zero]
      rfl
    · kernel_rfl
    · kernel_rfl
    · kernel_rfl
    · kernel_rfl
    · exact fun _ _ _ h => h
    · first
        | exact Or.inr ⟨by rfl, rfl⟩
        | (refine Or.inl ⟨by rfl, fun wq hwq => ?_⟩
           dsimp only at hwq
           go_simp
           first
             | done
             | rfl)
    · exact cz
    simp only [Act.put, List.setIfInBounds_toArray, List.set_cons_zero, List.set_cons_succ]
    apply Till.take (i := 11) [11, 12]
    · simp only [List.getElem?_toArray, List.getElem?_cons_succ, List.getElem?_cons_zero]
      rfl
    · kernel_rfl
    · kernel_rfl
    · kernel_rfl
    · kernel_rfl
    · exact fun _ _ _ h => h
    · first
        | exact Or.inr ⟨by rfl, rfl⟩
        | (refine Or.inl ⟨by rfl, fun wq hwq => ?_⟩
           dsimp only at hwq
           go_simp
           first
             | done
             | rfl)
    · exact cz
    simp only [Act.put, List.setIfInBounds_toArray, List.set_cons_zero, List.set_cons_succ]
    apply Till.one (i := 12)
    · kernel_rfl
    · simp only [List.getElem?_toArray, List.getElem?_cons_succ, List.getElem?_cons_zero]
      rfl
    intro K hK
    go_simp
    skip
    refine hK.out _ _ (Or.inl (by rfl)) ?_
    clear hK K
    try simp only [Act.put, List.setIfInBounds_toArray, List.set_cons_zero, List.set_cons_succ]
    refine Till.done (by kernel_rfl) ?_ _
    obtain ⟨hset, hgs⟩ := own_set13 OE.out HSL.out (wf_u8_of HX9.out.1.1 HX9.out.1.2) i
    have hset2 := hset.drew
    have hgd : w11.grownBy (w11.setCell ⟨g, i, none⟩ (.int .u8 x9)).drew (some g) := grown_trans hgs ⟨rfl, rfl, rfl, Nat.le_refl _, fun _ _ _ => rfl⟩
    obtain ⟨w12, hw12⟩ : ∃ W, W = (w11.setCell ⟨g, i, none⟩ (.int .u8 x9)).drew := ⟨_, rfl⟩
    rw [← hw12] at hset2 hgd ⊢
    have hg10 := HGs.out.1
    have hb12 := below_of_grown (B := w.heap.size) hgd (by have := HS10.out; omega) HB.out.size
    replace HA := Lib.hid (HA.out.behind hb12)
    replace OB := Lib.hid (OB.out.kept hgd (by right; intro hk; have := QB.out g hk; omega))
    replace OC := Lib.hid (OC.out.kept hgd (by right; intro hk; have := QC.out g hk; omega))
    replace O8 := Lib.hid (O8.out.kept hgd (by right; intro hk; have := Q8.out g hk; omega))
    replace K5 := Lib.hid ((hgd.block _ (lt_of_block K5.out) (by intro hk; have h9 := Option.some.inj hk; have := QK5.out; omega)).trans K5.out)
    replace K8 := Lib.hid ((hgd.block _ (lt_of_block K8.out) (by intro hk; have h9 := Option.some.inj hk; have := QK8.out; omega)).trans K8.out)
    replace HB := Lib.hid (HB.out.trans hb12)
    replace OE := Lib.hid hset2
    have HO6 : Hid (ook k n (sl.set i x9) = false) := Lib.hid (by rw [HSE.out]; exact ook_changed HOK.out hi24 HX9.out.1 (by rw [← HSE.out, ← HZE.out]; exact HX9.out.2))
    clear hset hset2 hgs hgd hw12 hg10 hb12 cz fz hz hfz hxr htr htr2 QB QC Q8 QK5 QK8 HAd
    go_wp2_with fail
    refine (impl_oc OE.out.rd (Nat.le_refl _) HKW.out HNW.out (HL.out.next HB.out)).mono ?_
    rw [HO6.out]
    obtain ⟨xr, hxr⟩ : ∃ x, x = ocK k n (sl.set i x9) := ⟨_, rfl⟩
    rw [← hxr]
    rintro e w13 ⟨vr, rfl, hr, hb⟩
    obtain ⟨ar, cr, hvr, _⟩ := hr.open
    obtain ⟨Lr, hLr⟩ : ∃ L, L = (ocB k n (sl.set i x9)).length := ⟨_, rfl⟩
    rw [← hLr] at hvr
    subst hvr
    clear hr hLr hxr
    replace HA := Lib.hid (HA.out.behind (hb.mono HB.out.size))
    replace OB := Lib.hid (OB.out.next hb)
    replace K5 := Lib.hid ((hb.block _ (lt_of_block K5.out)).trans K5.out)
    replace OC := Lib.hid (OC.out.next hb)
    replace O8 := Lib.hid (O8.out.next hb)
    replace K8 := Lib.hid ((hb.block _ (lt_of_block K8.out)).trans K8.out)
    replace OE := Lib.hid (OE.out.next hb)
    replace HB := Lib.hid (HB.out.trans (hb.mono HB.out.size))
    clear hb
    have hb := (Below.refl w13.heap.size w13).alloc (Nat.le_refl _) (.cells #[.int .i64 xr, .slice ar Lr cr] 25)
    obtain ⟨w14, hw14⟩ : ∃ W, W = w13.alloc (.cells #[.int .i64 xr, .slice ar Lr cr] 25) := ⟨_, rfl⟩
    rw [← hw14] at hb
    have Hw14 := Lib.hid hw14
    clear hw14
    replace HA := Lib.hid (HA.out.behind (hb.mono HB.out.size))
    replace OB := Lib.hid (OB.out.next hb)
    replace K5 := Lib.hid ((hb.block _ (lt_of_block K5.out)).trans K5.out)
    replace OC := Lib.hid (OC.out.next hb)
    replace O8 := Lib.hid (O8.out.next hb)
    replace K8 := Lib.hid ((hb.block _ (lt_of_block K8.out)).trans K8.out)
    replace OE := Lib.hid (OE.out.next hb)
    replace HB := Lib.hid (HB.out.trans (hb.mono HB.out.size))
    clear hb
    clear OE
    have HFin : Hid (∀ (w15 : World), Below w14.heap.size w14 w15 → Rd w.heap.size .u8 w15 (.slice a s.length cap) s ∧ Own 5 .u8 w.heap.size w15 (.slice ab Lb cb) bs ∧ Own 5 .u8 w.heap.size w15 (.slice a8 Lb c8) bs ∧ w15.heap[w1.heap.size]? = some (.cells #[.int .i64 d, .slice ab Lb cb] 25) ∧ w15.heap[w5.heap.size]? = some (.cells #[.int .i64 d, .slice a8 Lb c8] 25) ∧ Below w.heap.size w w15) := Lib.hid (fun w15 hb =>
      ⟨HA.out.behind (hb.mono HB.out.size), OB.out.next hb, O8.out.next hb, (hb.block _ (lt_of_block K5.out)).trans K5.out, (hb.block _ (lt_of_block K8.out)).trans K8.out, HB.out.trans (hb.mono HB.out.size)⟩)
    by_cases h3 : 3 < n
    · by_cases h9 : n < 900
      · have e4 : decide ((3 : Int) < n) = true := decide_eq_true h3
        have e5 : decide (n < (900 : Int)) = true := decide_eq_true h9
        have HFC : Hid (fcnt k sl (n - 2) 5 = n) := Lib.hid (by rw [HSE.out]; exact fcnt_ctr HOK.out HBS.out h3 h9)
        have HFW : Hid ((Lit.int .i64 (n - 2)).wf = true) := Lib.hid (wf_i64_of (by omega) (by omega))
        go_wp2_with fail
        rw [← Hw14.out]
        refine (impl_fc OC.out.rd (Nat.le_refl _) HKW.out HFW.out (by decide) (HL.out.next HB.out)).mono ?_
        rw [HFC.out]
        rintro e w15 ⟨rfl, hb⟩
        obtain ⟨xA, xB, x8, xK5, xK8, xHB⟩ := HFin.out w15 hb
        clear hb HFin HA OB O8 K5 K8 HB OC
        have A9 := Lib.hid xA
        have B9 := Lib.hid xB
        have C9 := Lib.hid x8
        have K9 := Lib.hid xK8
        have H9 := Lib.hid xHB
        obtain ⟨p0, p1, _, _⟩ := pcs xK5
        obtain ⟨q0, q1, _, _⟩ := pcs xK8
        clear xA xB x8 xK5 xK8 xHB
        go_wp2_with fail
        refine (sameBytes_same C9.out.rd B9.out.rd (Nat.le_refl _) (Nat.le_refl _)).mono ?_
        rintro e w16 ⟨rfl, hb⟩
        replace A9 := Lib.hid (A9.out.behind (hb.mono H9.out.size))
        replace K9 := Lib.hid ((hb.block _ (lt_of_block K9.out)).trans K9.out)
        replace H9 := Lib.hid (H9.out.trans (hb.mono H9.out.size))
        clear hb B9 C9 p0 p1 q0 q1
        go_wp2_with fail
        refine (at_any A9.out 2 (by omega) HS.out).mono ?_
        obtain ⟨x2, hx2⟩ : ∃ x, x = atv s 2 := ⟨_, rfl⟩
        rw [← hx2]
        rintro e w17 ⟨⟨rfl, x20, x21⟩, hw⟩
        obtain rfl : w16 = w17 := hw.symm
        clear hx2 hw
        go_wp2_with fail
        refine (impl_cov (wf_i64_of (by omega) (by omega))).mono ?_
        rintro e w18 ⟨v18, rfl, h18, hb⟩
        obtain ⟨a18, c18, hv18, _⟩ := h18.open
        rw [strm24] at hv18
        subst hv18
        replace K9 := Lib.hid ((hb.block _ (lt_of_block K9.out)).trans K9.out)
        replace H9 := Lib.hid (H9.out.trans (hb.mono H9.out.size))
        obtain ⟨q0, q1, _, _⟩ := pcs K9.out
        clear hb h18
        have hvq := impl_vpl (w := w18) (a := a8) (cap := c8) (b := bs) HDW.out HUl.out
        rw [← HLb.out, H4.out] at hvq
        go_wp2_with fail
        refine hvq.mono ?_
        rintro e w19 ⟨rfl, hw⟩
        subst hw
        clear hvq
        go_wp2_with fail
        go_ret
        exact ⟨rfl, H9.out.alloc H9.out.size _⟩
      · have e5 : decide (n < (900 : Int)) = false := decide_eq_false h9
        have e4 : decide ((3 : Int) < n) = true := decide_eq_true h3
        obtain ⟨xA, xB, x8, xK5, xK8, xHB⟩ := HFin.out w14 (Below.refl _ _)
        clear HFin HA OB O8 K5 K8 HB OC
        have hw14' := Hw14.out
        clear Hw14
        subst hw14'
        have A9 := Lib.hid xA
        have B9 := Lib.hid xB
        have C9 := Lib.hid x8
        have K9 := Lib.hid xK8
        have H9 := Lib.hid xHB
        obtain ⟨p0, p1, _, _⟩ := pcs xK5
        obtain ⟨q0, q1, _, _⟩ := pcs xK8
        clear xA xB x8 xK5 xK8 xHB
        go_wp2_with fail
        refine (sameBytes_same C9.out.rd B9.out.rd (Nat.le_refl _) (Nat.le_refl _)).mono ?_
        rintro e w16 ⟨rfl, hb⟩
        replace A9 := Lib.hid (A9.out.behind (hb.mono H9.out.size))
        replace K9 := Lib.hid ((hb.block _ (lt_of_block K9.out)).trans K9.out)
        replace H9 := Lib.hid (H9.out.trans (hb.mono H9.out.size))
        clear hb B9 C9 p0 p1 q0 q1
        go_wp2_with fail
        refine (at_any A9.out 2 (by omega) HS.out).mono ?_
        obtain ⟨x2, hx2⟩ : ∃ x, x = atv s 2 := ⟨_, rfl⟩
        rw [← hx2]
        rintro e w17 ⟨⟨rfl, x20, x21⟩, hw⟩
        obtain rfl : w16 = w17 := hw.symm
        clear hx2 hw
        go_wp2_with fail
        refine (impl_cov (wf_i64_of (by omega) (by omega))).mono ?_
        rintro e w18 ⟨v18, rfl, h18, hb⟩
        obtain ⟨a18, c18, hv18, _⟩ := h18.open
        rw [strm24] at hv18
        subst hv18
        replace K9 := Lib.hid ((hb.block _ (lt_of_block K9.out)).trans K9.out)
        replace H9 := Lib.hid (H9.out.trans (hb.mono H9.out.size))
        obtain ⟨q0, q1, _, _⟩ := pcs K9.out
        clear hb h18
        have hvq := impl_vpl (w := w18) (a := a8) (cap := c8) (b := bs) HDW.out HUl.out
        rw [← HLb.out, H4.out] at hvq
        go_wp2_with fail
        refine hvq.mono ?_
        rintro e w19 ⟨rfl, hw⟩
        subst hw
        clear hvq
        go_wp2_with fail
        go_ret
        exact ⟨rfl, H9.out.alloc H9.out.size _⟩
    · have e4 : decide ((3 : Int) < n) = false := decide_eq_false h3
      obtain ⟨xA, xB, x8, xK5, xK8, xHB⟩ := HFin.out w14 (Below.refl _ _)
      clear HFin HA OB O8 K5 K8 HB OC
      have hw14' := Hw14.out
      clear Hw14
      subst hw14'
      have A9 := Lib.hid xA
      have B9 := Lib.hid xB
      have C9 := Lib.hid x8
      have K9 := Lib.hid xK8
      have H9 := Lib.hid xHB
      obtain ⟨p0, p1, _, _⟩ := pcs xK5
      obtain ⟨q0, q1, _, _⟩ := pcs xK8
      clear xA xB x8 xK5 xK8 xHB
      go_wp2_with fail
      refine (sameBytes_same C9.out.rd B9.out.rd (Nat.le_refl _) (Nat.le_refl _)).mono ?_
      rintro e w16 ⟨rfl, hb⟩
      replace A9 := Lib.hid (A9.out.behind (hb.mono H9.out.size))
      replace K9 := Lib.hid ((hb.block _ (lt_of_block K9.out)).trans K9.out)
      replace H9 := Lib.hid (H9.out.trans (hb.mono H9.out.size))
      clear hb B9 C9 p0 p1 q0 q1
      go_wp2_with fail
      refine (at_any A9.out 2 (by omega) HS.out).mono ?_
      obtain ⟨x2, hx2⟩ : ∃ x, x = atv s 2 := ⟨_, rfl⟩
      rw [← hx2]
      rintro e w17 ⟨⟨rfl, x20, x21⟩, hw⟩
      obtain rfl : w16 = w17 := hw.symm
      clear hx2 hw
      go_wp2_with fail
      refine (impl_cov (wf_i64_of (by omega) (by omega))).mono ?_
      rintro e w18 ⟨v18, rfl, h18, hb⟩
      obtain ⟨a18, c18, hv18, _⟩ := h18.open
      rw [strm24] at hv18
      subst hv18
      replace K9 := Lib.hid ((hb.block _ (lt_of_block K9.out)).trans K9.out)
      replace H9 := Lib.hid (H9.out.trans (hb.mono H9.out.size))
      obtain ⟨q0, q1, _, _⟩ := pcs K9.out
      clear hb h18
      have hvq := impl_vpl (w := w18) (a := a8) (cap := c8) (b := bs) HDW.out HUl.out
      rw [← HLb.out, H4.out] at hvq
      go_wp2_with fail
      refine hvq.mono ?_
      rintro e w19 ⟨rfl, hw⟩
      subst hw
      clear hvq
      go_wp2_with fail
      go_ret
      exact ⟨rfl, H9.out.alloc H9.out.size _⟩

end Go.Proofs.YtbimihljaalllaaDoor
