/- Sealed cells: valid plain messages, check values, cover cells, the cipher's key, the check value's bytes; the program's and the document's. No conditions but numbers that a machine holds. -/
import Derived.Test.YtjbkhbbchacooaaGreatDoorBdN
import Derived.Test.YtjbkhbbchacooaaGreatDoorBa6
namespace Go.Proofs.YtjbkhbbchacooaaGreatDoor
open Go Go.RowKit
set_option linter.unusedVariables false
attribute [local irreducible] kh kid

theorem Own.lits2 {B : Nat} {w : World} {x y : Int} (k : IntKind) (e : TypeId) (hB : B ≤ w.heap.size) (hx : (Lit.int k x).wf = true) (hy : (Lit.int k y).wf = true) : Own e k B (w.alloc (.cells #[.int k x, .int k y] e)) (.slice (some ⟨w.heap.size, 0, none⟩) 2 2) [x, y] :=
  ⟨by intro u hu; simp at hu; rcases hu with rfl | rfl; exact hx; exact hy, by simp; omega, World.ownsRow_lit w #[.int k x, .int k y] 2 hB (by unfold maxLen; omega) rfl⟩
theorem pc0 (x y : Value) : (#[x, y] : Array Value)[0]? = some x := rfl
theorem pc1 (x y : Value) : (#[x, y] : Array Value)[1]? = some y := rfl

/-- A block of two cells, both written. -/
theorem pst {w : World} {b : Nat} {y0 y1 : Value} {t : TypeId} (h : w.heap[b]? = some (.cells #[y0, y1] t (0, 0))) (x0 x1 : Value) :
    ((w.setCell ⟨b, 0, none⟩ x0).setCell ⟨b, 1, none⟩ x1).heap[b]? = some (.cells #[x0, x1] t (0, 0)) ∧ w.grownBy ((w.setCell ⟨b, 0, none⟩ x0).setCell ⟨b, 1, none⟩ x1) (some b) :=
  ⟨blk_set (blk_set h 0 x0) 1 x1, grown_trans (grown_set _ _ _ _) (grown_set _ _ _ _)⟩
theorem pcs {w : World} {b : Nat} {y0 y1 : Value} {t : TypeId} (h : w.heap[b]? = some (.cells #[y0, y1] t (0, 0))) : w.cell? ⟨b, 0, none⟩ = some y0 ∧ w.cell? ⟨b, 1, none⟩ = some y1 ∧ w.frozen? ⟨b, 0, none⟩ = false ∧ w.frozen? ⟨b, 1, none⟩ = false :=
  ⟨(blk_cell h 0).trans (pc0 _ _), (blk_cell h 1).trans (pc1 _ _), blk_free h 0, blk_free h 1⟩

/-- impl.isCounter. -/
theorem isCounter_any {x : Int} {w : World} (hx : (Lit.int .i64 x).wf = true) : Calls Tryz.prog 48 #[.int .i64 x] w fun e w' => e = .returned (.bool (inR x 0 1000000000000)) ∧ w' = w := by
  go_enter Tryz.func48, Tryz.ntmps48
  go_wp2_with fail
  refine (impl_in _ _ _ _ hx).mono ?_
  rintro e w1 ⟨rfl, rfl⟩
  go_wp2_with fail
  go_ret
  exact ⟨rfl, rfl⟩

set_option maxHeartbeats 1000000 in
/-- impl.IsValidPlain. -/
theorem impl_vpl {w : World} {a : Option Addr} {cap : Nat} {b : List Int} {d : Int} (hd : (Lit.int .i64 d).wf = true) (hb : b.length ≤ maxLen) :
    Calls Tryz.prog 49 #[.agg #[.int .i64 d, .slice a b.length cap]] w fun e w' => e = .returned (.bool (okPlain d b)) ∧ w' = w.alloc (.cells #[.int .i64 d, .slice a b.length cap] 55) := by
  obtain ⟨q, hq⟩ : ∃ q, q = okPlain d b := ⟨_, rfl⟩
  rw [← hq]
  have hk := heap_alloc_new w (.cells #[.int .i64 d, .slice a b.length cap] 55)
  have k0 := blk_cell hk 0
  have k1 := blk_cell hk 1
  rw [pc0] at k0
  rw [pc1] at k1
  unfold maxLen at hb
  cases hr : inR d 0 3 with
  | false =>
    have HR := Lib.hid hr
    have HE : Hid (q = false) := Lib.hid (by rw [hq, okPlain, hr]; rfl)
    clear hq hr
    go_enter Tryz.func49, Tryz.ntmps49
    go_wp2_with fail
    refine (impl_in _ _ _ _ hd).mono ?_
    rw [HR.out]
    rintro e w1 ⟨rfl, rfl⟩
    go_wp2_with fail
    go_ret
    exact ⟨by rw [HE.out]; rfl, rfl⟩
  | true =>
    have HR := Lib.hid hr
    have HE : Hid (q = decide (b.length ≤ 14)) := Lib.hid (by rw [hq, okPlain, hr]; rfl)
    by_cases h14 : b.length ≤ 14
    · have e1 : decide ((b.length : Int) ≤ 14) = true := by simp; omega
      have HE2 : Hid (q = true) := Lib.hid (by rw [HE.out]; exact decide_eq_true h14)
      clear hq hr
      go_enter Tryz.func49, Tryz.ntmps49
      go_wp2_with fail
      refine (impl_in _ _ _ _ hd).mono ?_
      rw [HR.out]
      rintro e w1 ⟨rfl, rfl⟩
      go_wp2_with fail
      go_ret
      exact ⟨by rw [HE2.out]; rfl, rfl⟩
    · have e1 : decide ((b.length : Int) ≤ 14) = false := by simp; omega
      have HE2 : Hid (q = false) := Lib.hid (by rw [HE.out]; exact decide_eq_false h14)
      clear hq hr
      go_enter Tryz.func49, Tryz.ntmps49
      go_wp2_with fail
      refine (impl_in _ _ _ _ hd).mono ?_
      rw [HR.out]
      rintro e w1 ⟨rfl, rfl⟩
      go_wp2_with fail
      go_ret
      exact ⟨by rw [HE2.out]; rfl, rfl⟩

set_option maxHeartbeats 1000000 in
/-- impl.CellCheck. -/
theorem impl_cc {lim : Nat} {w : World} {v : Value} {zs : List Int} {k n : Int} (h : Rd lim .u8 w v zs) (hlim : lim ≤ w.heap.size) (hk : (Lit.int .i64 k).wf = true) (hn : (Lit.int .i64 n).wf = true) (hl : zs.length ≤ 1073741824) :
    Calls Tryz.prog 77 #[.int .i64 k, .int .i64 n, v] w fun e w' => e = .returned (.int .i64 (chkv k n zs)) ∧ Below w.heap.size w w' := by
  obtain ⟨i0, hi, hz0, hz1, hz2⟩ := info_parts infoi64
  obtain ⟨p, cap, rfl, h1, h2, hc⟩ := h.open
  have Hhi := Lib.hid hi
  have Hc := Lib.hid hc
  have H := Lib.hid h
  have HK := Lib.hid hk
  have HLz := Lib.hid hl
  have b1 := (Below.refl w.heap.size w).alloc (Nat.le_refl _) (.cells #[.int .i64 71, .int .i64 n] 3)
  have HO : Hid (Own 3 .i64 w.heap.size (w.alloc (.cells #[.int .i64 71, .int .i64 n] 3)) (.slice (some ⟨w.heap.size, 0, none⟩) 2 2) [71, n]) := Lib.hid (Own.lits2 .i64 3 (Nat.le_refl _) (by decide) hn)
  have HB := Lib.hid b1
  unfold maxLen at h2
  clear h hc hi b1 hk
  go_enter Tryz.func77, Tryz.ntmps77
  go_wp2_with fail
  go_loopw [7, 14] (fun s i wr => ∃ j : Nat, i = .int .i64 j ∧ j ≤ zs.length ∧ Own 3 .i64 w.heap.size wr s (71 :: n :: zs.take j) ∧ Below w.heap.size w wr) (fun _ i _ => zs.length - (intOf i).toNat)
  case atStart => exact ⟨0, rfl, Nat.zero_le _, HO.out, HB.out⟩
  case round =>
    obtain ⟨j, rfl, hj, hO, hB⟩ := hrel
    have HO' := Lib.hid hO
    have HB' := Lib.hid hB
    clear hO hB HO HB
    by_cases hlt : j < zs.length
    · have e1 : decide ((j : Int) < (zs.length : Int)) = true := by simp; omega
      obtain ⟨b, o, rfl, hb, hcell⟩ := Hc.out (by omega)
      have c1 := hcell _ (HB'.out.mono hlim) j hlt
      have hw := H.out.wf hlt
      obtain ⟨z, hz⟩ : ∃ z, z = zs.getD j 0 := ⟨_, rfl⟩
      rw [← hz] at c1 hw
      have hwb := wf_u8 hw
      have HT : Hid (71 :: n :: (zs.take j ++ [z]) = 71 :: n :: zs.take (j + 1)) := Lib.hid (by
        rw [hz, List.take_add_one, List.getD_eq_getElem?_getD, List.getElem?_eq_getElem hlt]; rfl)
      have R1 := Lib.hid (Rd.one 3 .i64 wr z (u8_i64z hw))
      have O1 := Lib.hid (HO'.out.alloc (.cells #[.int .i64 z] 3))
      have B1 := Lib.hid (HB'.out.alloc HO'.out.2.1 (.cells #[.int .i64 z] 3))
      have hlen : (71 :: n :: zs.take j).length ≤ 1099511627777 := by simp; omega
      have HLn := Lib.hid hlen
      clear hcell hz hw hlen
      go_wp2_with (first | (at_builtin; refine append_rd _ rfl _ _ 32 rfl 3 i0 (.int .i64 0) 8 Tryz.underlying32 Hhi.out hz0 hz1 hz2 rfl (by omega) rfl O1.out rfl R1.out (by have := HLn.out; simp only [List.length_singleton]; omega) ?_))
      intro v' w' h1 h2
      rw [HT.out] at h1
      have H1 := Lib.hid h1
      have H2 := Lib.hid (B1.out.trans (O1.out.below (Nat.le_refl _) h2))
      clear h1 h2
      go_wp2
      go_roundw
      case rel => exact ⟨j + 1, by simp, hlt, H1.out, H2.out⟩
      case measure => simp [intOf]; omega
    · have e1 : decide ((j : Int) < (zs.length : Int)) = false := by simp; omega
      have ej : j = zs.length := by omega
      have h9 := HO'.out
      rw [ej, List.take_length] at h9
      have H1 := Lib.hid h9
      clear ej h9 HO'
      go_wp2_with fail
      refine (impl_kh H1.out.rd (Nat.le_refl _) HK.out).mono ?_
      rintro e w2 ⟨he, hb⟩
      have HB2 := Lib.hid (HB'.out.trans (hb.mono HB'.out.size))
      obtain ⟨q, hq⟩ : ∃ q, q = kh k (71 :: n :: zs) := ⟨_, rfl⟩
      have HQ : Hid (q = chkv k n zs) := Lib.hid hq
      rw [← hq] at he
      subst he
      clear hb hq
      go_wp2_with fail
      go_ret
      exact ⟨by rw [HQ.out]; rfl, HB2.out⟩

set_option maxHeartbeats 1000000 in
/-- spec.CellCheck. -/
theorem spec_cc {lim : Nat} {w : World} {v : Value} {zs : List Int} {k n : Int} (h : Rd lim .u8 w v zs) (hlim : lim ≤ w.heap.size) (hk : (Lit.int .i64 k).wf = true) (hn : (Lit.int .i64 n).wf = true) (hl : zs.length ≤ 1073741824) :
    Calls Tryz.prog 68 #[.int .i64 k, .int .i64 n, v] w fun e w' => e = .returned (.int .i64 (chkv k n zs)) ∧ Below w.heap.size w w' := by
  obtain ⟨i0, hi, hz0, hz1, hz2⟩ := info_parts infoi64
  obtain ⟨p, cap, rfl, h1, h2, hc⟩ := h.open
  have Hhi := Lib.hid hi
  have Hc := Lib.hid hc
  have H := Lib.hid h
  have HK := Lib.hid hk
  have HLz := Lib.hid hl
  have b1 := (Below.refl w.heap.size w).alloc (Nat.le_refl _) (.cells #[.int .i64 71, .int .i64 n] 3)
  have HO : Hid (Own 3 .i64 w.heap.size (w.alloc (.cells #[.int .i64 71, .int .i64 n] 3)) (.slice (some ⟨w.heap.size, 0, none⟩) 2 2) [71, n]) := Lib.hid (Own.lits2 .i64 3 (Nat.le_refl _) (by decide) hn)
  have HB := Lib.hid b1
  unfold maxLen at h2
  clear h hc hi b1 hk
  go_enter Tryz.func68, Tryz.ntmps68
  go_wp2_with fail
  go_loopw [7, 8] (fun s i wr => ∃ j : Nat, i = .int .i64 j ∧ j ≤ zs.length ∧ Own 3 .i64 w.heap.size wr s (71 :: n :: zs.take j) ∧ Below w.heap.size w wr) (fun _ i _ => zs.length - (intOf i).toNat)
  case atStart => exact ⟨0, rfl, Nat.zero_le _, HO.out, HB.out⟩
  case round =>
    obtain ⟨j, rfl, hj, hO, hB⟩ := hrel
    have HO' := Lib.hid hO
    have HB' := Lib.hid hB
    clear hO hB HO HB
    by_cases hlt : j < zs.length
    · have e1 : decide ((j : Int) < (zs.length : Int)) = true := by simp; omega
      obtain ⟨b, o, rfl, hb, hcell⟩ := Hc.out (by omega)
      have c1 := hcell _ (HB'.out.mono hlim) j hlt
      have hw := H.out.wf hlt
      obtain ⟨z, hz⟩ : ∃ z, z = zs.getD j 0 := ⟨_, rfl⟩
      rw [← hz] at c1 hw
      have hwb := wf_u8 hw
      have HT : Hid (71 :: n :: (zs.take j ++ [z]) = 71 :: n :: zs.take (j + 1)) := Lib.hid (by
        rw [hz, List.take_add_one, List.getD_eq_getElem?_getD, List.getElem?_eq_getElem hlt]; rfl)
      have R1 := Lib.hid (Rd.one 3 .i64 wr z (u8_i64z hw))
      have O1 := Lib.hid (HO'.out.alloc (.cells #[.int .i64 z] 3))
      have B1 := Lib.hid (HB'.out.alloc HO'.out.2.1 (.cells #[.int .i64 z] 3))
      have hlen : (71 :: n :: zs.take j).length ≤ 1099511627777 := by simp; omega
      have HLn := Lib.hid hlen
      clear hcell hz hw hlen
      go_wp2_with (first | (at_builtin; refine append_rd _ rfl _ _ 32 rfl 3 i0 (.int .i64 0) 8 Tryz.underlying32 Hhi.out hz0 hz1 hz2 rfl (by omega) rfl O1.out rfl R1.out (by have := HLn.out; simp only [List.length_singleton]; omega) ?_))
      intro v' w' h1 h2
      rw [HT.out] at h1
      have H1 := Lib.hid h1
      have H2 := Lib.hid (B1.out.trans (O1.out.below (Nat.le_refl _) h2))
      clear h1 h2
      go_wp2
      go_roundw
      case rel => exact ⟨j + 1, by simp, hlt, H1.out, H2.out⟩
      case measure => simp [intOf]; omega
    · have e1 : decide ((j : Int) < (zs.length : Int)) = false := by simp; omega
      have ej : j = zs.length := by omega
      have h9 := HO'.out
      rw [ej, List.take_length] at h9
      have H1 := Lib.hid h9
      clear ej h9 HO'
      go_wp2_with fail
      refine (spec_kh H1.out.rd (Nat.le_refl _) HK.out (by have := HLz.out; simp only [List.length_cons]; omega)).mono ?_
      rintro e w2 ⟨he, hb⟩
      have HB2 := Lib.hid (HB'.out.trans (hb.mono HB'.out.size))
      obtain ⟨q, hq⟩ : ∃ q, q = kh k (71 :: n :: zs) := ⟨_, rfl⟩
      have HQ : Hid (q = chkv k n zs) := Lib.hid hq
      rw [← hq] at he
      subst he
      clear hb hq
      go_wp2_with fail
      go_ret
      exact ⟨by rw [HQ.out]; rfl, HB2.out⟩

/-- impl.cipherKey. -/
theorem impl_ck {w : World} {k n : Int} (hk : (Lit.int .i64 k).wf = true) (hn : (Lit.int .i64 n).wf = true) :
    Calls Tryz.prog 51 #[.int .i64 k, .int .i64 n] w fun e w' => e = .returned (.int .i64 (ckey k n)) ∧ Below w.heap.size w w' := by
  have HR := Lib.hid (Rd.two 3 .i64 w 67 n (by decide) hn)
  have HS := Lib.hid hk
  have HB := Lib.hid ((Below.refl w.heap.size w).alloc (Nat.le_refl _) (.cells #[.int .i64 67, .int .i64 n] 3))
  have HW := Lib.hid (kh_wf k [67, n])
  have HT : Hid (mx (kh k [67, n]) 1 = ckey k n) := Lib.hid (by unfold ckey; rfl)
  obtain ⟨q, hq⟩ : ∃ q, q = kh k [67, n] := ⟨_, rfl⟩
  rw [← hq] at HW HT
  have HQ := Lib.hid hq
  clear hk hn hq
  go_enter Tryz.func51, Tryz.ntmps51
  go_wp2_with fail
  refine (impl_kh HR.out (by simp) HS.out).mono ?_
  rintro e w1 ⟨he, hb⟩
  rw [← HQ.out] at he
  subst he
  replace HB := Lib.hid (HB.out.trans (hb.mono HB.out.size))
  clear hb
  go_wp2_with fail
  refine (impl_max _ _ _ HW.out (by decide)).mono ?_
  rw [HT.out]
  rintro e w2 ⟨rfl, hb⟩
  replace HB := Lib.hid (HB.out.trans (hb.mono HB.out.size))
  clear hb
  go_wp2_with fail
  go_ret
  exact ⟨rfl, HB.out⟩

/-- spec.l13Cipher. -/
theorem spec_ck {w : World} {k n : Int} (hk : (Lit.int .i64 k).wf = true) (hn : (Lit.int .i64 n).wf = true) :
    Calls Tryz.prog 70 #[.int .i64 k, .int .i64 n] w fun e w' => e = .returned (.int .i64 (ckey k n)) ∧ Below w.heap.size w w' := by
  have HR := Lib.hid (Rd.two 3 .i64 w 67 n (by decide) hn)
  have HS := Lib.hid hk
  have HB := Lib.hid ((Below.refl w.heap.size w).alloc (Nat.le_refl _) (.cells #[.int .i64 67, .int .i64 n] 3))
  have HW := Lib.hid (kh_wf k [67, n])
  have HT : Hid (mx 1 (kh k [67, n]) = ckey k n) := Lib.hid (by unfold ckey; exact mx_turn _ _)
  obtain ⟨q, hq⟩ : ∃ q, q = kh k [67, n] := ⟨_, rfl⟩
  rw [← hq] at HW HT
  have HQ := Lib.hid hq
  clear hk hn hq
  go_enter Tryz.func70, Tryz.ntmps70
  go_wp2_with fail
  refine (spec_kh HR.out (by simp) HS.out (by simp)).mono ?_
  rintro e w1 ⟨he, hb⟩
  rw [← HQ.out] at he
  subst he
  replace HB := Lib.hid (HB.out.trans (hb.mono HB.out.size))
  clear hb
  go_wp2_with fail
  refine (spec_max _ _ _).mono ?_
  rw [HT.out]
  rintro e w2 ⟨rfl, hb⟩
  subst hb
  go_wp2_with fail
  go_ret
  exact ⟨rfl, HB.out⟩

set_option maxHeartbeats 2000000 in
/-- The lowest bytes of a number, the low one first. -/
def lowL (x : Int) (m : Nat) : List Int := (List.range m).map (le4f x)
theorem lowL_four (x : Int) : lowL x 4 = le4 x := rfl
theorem lowL_two (x : Int) : lowL x 2 = [x % 256, x / 256 % 256] := by
  unfold lowL le4f
  simp [List.range, List.range.loop]

set_option maxHeartbeats 1000000 in
/-- impl.lowBytes. -/
theorem impl_lob {w : World} {x k : Int} {m : Nat} (hk : k = (m : Int)) (hx : (Lit.int .i64 x).wf = true) (hm : m ≤ 4) :
    Calls Tryz.prog 76 #[.int .i64 x, .int .i64 k] w fun e w' => ∃ v', e = .returned v' ∧ Own 5 .u8 w.heap.size w' v' (lowL x m) ∧ Below w.heap.size w w' := by
  subst hk
  obtain ⟨i0, hi, hz0, hz1, hz2⟩ := info_parts infou8
  have Hhi := Lib.hid hi
  have hxb := wf_i64 hx
  have HB := Lib.hid (Below.refl w.heap.size w)
  clear hi hx
  go_enter Tryz.func76, Tryz.ntmps76
  go_wp2_with (first | (at_make; refine wpList_make_full _ rfl _ _ 22 rfl w.heap.size 5 i0 (.int .u8 0) 1 Tryz.underlying22 Hhi.out hz0 hz1 .i64 .i64 _ _ m rfl rfl rfl rfl (by rw [hz2]; omega) (by unfold maxLen; omega) (Nat.le_refl _) ?_))
  intro w2 hown hg
  have hO := own_made hown hg.size (by decide)
  rw [← upt_rep (le4f x) m] at hO
  have HO := Lib.hid hO
  replace HB := Lib.hid ((Below.refl w.heap.size w).grown hg (Nat.le_refl _) (fun k hk => by cases hk))
  clear hown hg hO
  go_wp2_with fail
  go_loopw [11] (fun i wr => ∃ j : Nat, i = .int .i64 j ∧ j ≤ m ∧ Own 5 .u8 w.heap.size wr (.slice (some ⟨w.heap.size, 0, none⟩) m m) (upt (le4f x) (fun _ => 0) j m) ∧ Below w.heap.size w wr) (fun i _ => m - (intOf i).toNat)
  case atStart => exact ⟨0, rfl, Nat.zero_le _, HO.out, HB.out⟩
  case round =>
    obtain ⟨j, rfl, hj, hO, hB⟩ := hrel
    replace HO := Lib.hid hO
    replace HB := Lib.hid hB
    clear hO hB
    by_cases hlt : j < m
    · have e1 : decide ((j : Int) < (m : Int)) = true := by simp; omega
      have c2 := HO.out.cellAt (upt_length _ _ _ _) hlt
      have f2 := HO.out.free (upt_length _ _ _ _) j
      obtain ⟨p1, p2⟩ := HO.out.put (f := le4f x) (j := j) (le4f_u8 _ _)
      have P1 := Lib.hid p1
      have P2 := Lib.hid p2
      have HK2 : Hid (x / 2 ^ (8 * j) % 256 = le4f x j) := Lib.hid rfl
      have hj4 : j < 4 := by omega
      clear p1 p2
      go_wp2_with fail
      go_roundw
      case rel =>
        rw [HK2.out]
        exact ⟨j + 1, by simp, hlt, P1.out, HB.out.grown P2.out HB.out.size (fun k hk => by injection hk with hk; omega)⟩
      case measure => simp [intOf]; omega
    · have e1 : decide (j < m) = false := by simp; omega
      have e2 : decide ((j : Int) < (m : Int)) = false := by simp; omega
      have ej : j = m := by omega
      have HE2 : Hid (upt (le4f x) (fun _ => 0) j m = lowL x m) := Lib.hid (by rw [ej, upt_full]; rfl)
      clear ej
      go_wp2
      go_ret
      exact ⟨_, rfl, by rw [← HE2.out]; exact HO.out, HB.out⟩

/-- impl.checkOf. -/
theorem impl_co {lim : Nat} {w : World} {v : Value} {zs : List Int} {k n : Int} (h : Rd lim .u8 w v zs) (hlim : lim ≤ w.heap.size) (hk : (Lit.int .i64 k).wf = true) (hn : (Lit.int .i64 n).wf = true) (hl : zs.length ≤ 1073741824) :
    Calls Tryz.prog 53 #[.int .i64 k, .int .i64 n, v] w fun e w' => ∃ v', e = .returned v' ∧ Own 5 .u8 w.heap.size w' v' (le4 (chkv k n zs)) ∧ Below w.heap.size w w' := by
  have H := Lib.hid h
  have HK := Lib.hid hk
  have HN := Lib.hid hn
  have hx := chkv_bound k n zs
  obtain ⟨x, hxe⟩ : ∃ x, x = chkv k n zs := ⟨_, rfl⟩
  rw [← hxe] at hx ⊢
  have HX := Lib.hid hxe
  have HXw : Hid ((Lit.int .i64 x).wf = true) := Lib.hid (wf_i64_of (by omega) (by omega))
  clear h hk hn hxe
  go_enter Tryz.func53, Tryz.ntmps53
  go_wp2_with fail
  refine (impl_cc H.out hlim HK.out HN.out hl).mono ?_
  rw [← HX.out]
  rintro e w1 ⟨rfl, hb⟩
  have HB := Lib.hid hb
  clear hb
  go_wp2_with fail
  refine (impl_lob (m := 4) rfl HXw.out (by omega)).mono ?_
  rintro e w2 ⟨v2, rfl, hO, hb⟩
  have HO := Lib.hid (hO.mono HB.out.size)
  replace HB := Lib.hid (HB.out.trans (hb.mono HB.out.size))
  clear hO hb
  go_wp2_with fail
  go_ret
  exact ⟨_, rfl, HO.out, HB.out⟩

end Go.Proofs.YtjbkhbbchacooaaGreatDoor
