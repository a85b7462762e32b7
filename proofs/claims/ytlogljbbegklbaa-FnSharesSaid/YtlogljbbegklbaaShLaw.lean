/- FnShares: the walk. No conditions. -/
import Derived.Test.YtlogljbbegklbaaDraw7
import Derived.Test.YtlogljbbegklbaaBaD
import Derived.Test.YtlogljbbegklbaaBa4
import Derived.Test.YtlogljbbegklbaaSh6
import Derived.Test.YtlogljbbegklbaaShP
import Derived.Test.YtlogljbbegklbaaBa8
import Derived.Test.YtlogljbbegklbaaBa5
import Derived.Deep.RegionHeld3
namespace Go.Proofs.Ytlogljbbegklbaa
open Go Go.RowKit
set_option linter.unusedVariables false
attribute [local irreducible] kh

theorem map_range_len (f : Nat → Int) (n : Nat) : ((List.range n).map f).length = n := by simp
theorem map_range_u8 {s : List Int} (h : ∀ i, i < s.length → (Lit.int .u8 (s.getD i 0)).wf = true) (n : Nat) : U8s ((List.range n).map (atv s)) := fun z hz => by
  obtain ⟨i, _, rfl⟩ := List.mem_map.1 hz
  have := atv_bound h i
  exact wf_u8_of this.1 this.2

set_option maxHeartbeats 8000000 in
set_option maxRecDepth 20000 in
theorem fnShares_walk (a : Option Addr) (len cap : Nat) (zs : List Int) (w : World) (hrow : IsRow .u8 w a len cap zs) :
    Calls Try.prog 3 #[.slice a len cap] w fun e w' => e = .returned (.bool true) ∧ Below w.heap.size w w' := by
  obtain ⟨hr, hl⟩ := row_own hrow
  obtain ⟨s, A, l⟩ : ∃ s, Rd w.heap.size .u8 w (.slice a len cap) s ∧ len = s.length := ⟨zs.take len, hrow.rd, hrow.rd.len_eq⟩
  subst l
  have HR := Lib.hid hr
  have HL := Lib.hid hl
  have HA := Lib.hid A
  have hl' : s.length ≤ 9223372036854775807 := by unfold maxLen at hl; omega
  clear hr hrow hl A
  by_cases hbig : 1048576 < s.length
  · have e0 : decide ((1048576 : Int) < (s.length : Int)) = true := by simp; omega
    go_enter Try.func3, Try.ntmps3
    go_wp2_with fail
    refine (big_is a s.length cap _ hl').mono ?_
    rw [e0]
    rintro e w0 ⟨rfl, rfl⟩
    go_wp2_with fail
    go_ret
    exact ⟨rfl, Below.refl _ _⟩
  have e0 : decide ((1048576 : Int) < (s.length : Int)) = false := by simp; omega
  have hs : s.length ≤ 1048576 := by omega
  clear hbig
  obtain ⟨i0, hi, hz0, hz1, hz2⟩ := info_parts infou8
  obtain ⟨i1, hi', hy0, hy1, hy2⟩ := info_parts infou8s
  obtain ⟨i2, hi2, hx0, hx1, hx2⟩ := info_parts infoi64
  have Hhi := Lib.hid hi
  have Hhi' := Lib.hid hi'
  have Hhi2 := Lib.hid hi2
  have HUa := Lib.hid (fun n => map_range_u8 (s := s) (fun i hi => HA.out.wf hi) n)
  have HAt := Lib.hid (fun i => atv_bound (s := s) (fun i hi => HA.out.wf hi) i)
  clear hi hi' hi2
  go_enter Try.func3, Try.ntmps3
  go_wp2_with fail
  refine (big_is a s.length cap _ hl').mono ?_
  rw [e0]
  rintro e w0 ⟨rfl, hw0⟩
  obtain rfl : w = w0 := hw0.symm
  clear hw0
  go_wp2_with fail
  refine (draw_shB w.heap.size a s.length cap zs _ (Nat.le_refl _) HR.out HL.out).mono ?_
  rintro e w1 ⟨v, u, xs, ss, rfl, hO, hU, hxl, hsl, hb⟩
  have HO := Lib.hid hO
  have HS := Lib.hid hU
  have HX8 := Lib.hid hO.u8s
  have HB := Lib.hid hb
  replace HA := Lib.hid (HA.out.behind hb)
  obtain ⟨ab, cb, rfl, _⟩ := HO.out.open
  obtain ⟨as', cs, rfl, _⟩ := HS.out.open
  clear hO hU hb
  -- l
  go_wp2_with fail
  refine (impl_shB HO.out.rd HS.out.rd (Nat.le_refl _) (Nat.le_refl _) (by omega)).mono ?_
  rintro e w2 ⟨vl, rfl, hO, hb⟩
  replace HA := Lib.hid (HA.out.behind (hb.mono HB.out.size))
  replace HO := Lib.hid (HO.out.next hb)
  replace HS := Lib.hid (HS.out.next hb)
  have HSz1 := Lib.hid HB.out.size
  replace HB := Lib.hid (HB.out.trans (hb.mono HB.out.size))
  obtain ⟨R, hR⟩ : ∃ R, R = shB xs ss := ⟨_, rfl⟩
  rw [← hR] at hO
  have HRe := Lib.hid hR
  have HRl4 := Lib.hid (show R.length ≤ 4 by rw [hR]; exact shB_len _ _)
  have HRt := Lib.hid (show tot R ≤ 1099511627776 by have := shB_tot xs ss; rw [← hR] at this; omega)
  have HLs := Lib.hid hO
  obtain ⟨al, cl, rfl, hcl, hcm, hgl⟩ := hO.open
  have Hgl := Lib.hid hgl
  unfold maxLen at hcm
  have hR4 : R.length ≤ 4 := HRl4.out
  clear hO hb hR hgl
  by_cases hin : 1 ≤ ss.length ∧ ss.length ≤ 3
  case neg =>
    have HE : Hid (R = []) := Lib.hid (by rw [HRe.out]; exact shB_no (fun h => hin h.2))
    have e3 : ((R.length : Int) == 0) = true := by simp [HE.out]
    by_cases h1 : 1 ≤ ss.length
    · have e1 : decide ((ss.length : Int) < 1) = false := by simp; omega
      have e2 : decide ((3 : Int) < (ss.length : Int)) = true := by simp; omega
      go_wp2_with fail
      go_ret
      exact ⟨rfl, HB.out⟩
    · have e1 : decide ((ss.length : Int) < 1) = true := by simp; omega
      go_wp2_with fail
      go_ret
      exact ⟨rfl, HB.out⟩
  have e1 : decide ((ss.length : Int) < 1) = false := by simp; omega
  have e2 : decide ((3 : Int) < (ss.length : Int)) = false := by simp; omega
  by_cases hx : xs.length ≤ 400
  case neg =>
    have HE : Hid (R = []) := Lib.hid (by rw [HRe.out]; exact shB_no (fun h => hx h.1))
    have e3 : ((R.length : Int) == 0) = true := by simp [HE.out]
    have e4 : decide ((400 : Int) < (xs.length : Int)) = true := by simp; omega
    go_wp2_with fail
    go_ret
    exact ⟨rfl, HB.out⟩
  have e4 : decide ((400 : Int) < (xs.length : Int)) = false := by simp; omega
  have hok : xs.length ≤ 400 ∧ 1 ≤ ss.length ∧ ss.length ≤ 3 := ⟨hx, hin.1, hin.2⟩
  have HOk := Lib.hid hok
  have HRl : Hid (R.length = ss.length + 1) := Lib.hid (by rw [HRe.out]; exact shB_length hok)
  have hRn : R.length = ss.length + 1 := HRl.out
  have HRok : Hid (okS R = true) := Lib.hid (by rw [HRe.out]; exact shB_ok hok)
  have HRj : Hid (jsh R = xs) := Lib.hid (by rw [HRe.out]; exact shB_join hok HX8.out)
  obtain ⟨gl, rfl, hFl⟩ := Hgl.out (by omega)
  have HFl := Lib.hid hFl
  obtain ⟨n, hn⟩ : ∃ n, n = R.length := ⟨_, rfl⟩
  rw [← hn] at hcl hRn hR4 HRl HLs Hgl ⊢
  have Hn := Lib.hid hn
  clear hok hn hFl Hgl hRn
  -- x
  go_wp2_with fail
  refine (impl_js HLs.out.rd2 (Nat.le_refl _) HRt.out).mono ?_
  rw [HRok.out, HRj.out]
  rintro e w3 ⟨vx, rfl, hO, hb⟩
  have HX := Lib.hid hO
  replace HA := Lib.hid (HA.out.behind (hb.mono HB.out.size))
  replace HO := Lib.hid (HO.out.next hb)
  replace HS := Lib.hid (HS.out.next hb)
  replace HLs := Lib.hid (HLs.out.next hb)
  replace HB := Lib.hid (HB.out.trans (hb.mono HB.out.size))
  obtain ⟨ax, cx, rfl, _⟩ := hO.open
  clear hO hb
  -- fresh
  go_wp2_with (first | (at_make; refine wpList_make_full _ rfl _ _ 24 rfl w3.heap.size 3 i2 (.int .i64 0) 1 Try.underlying24 Hhi2.out hx0 hx1 .i64 .i64 _ _ ss.length rfl rfl rfl rfl (by rw [hx2]; omega) (by unfold maxLen; omega) (Nat.le_refl _) ?_))
  intro w4 hown hg
  have hF := own_made hown hg.size (by decide)
  rw [← upt_rep (fun i => atv s i + 5) ss.length] at hF
  have HF := Lib.hid hF
  have HBf := Lib.hid ((Below.refl w3.heap.size w3).grown hg (Nat.le_refl _) (fun k hk => by cases hk))
  clear hown hg hF
  go_wp2_with fail
  go_loopw [9] (fun i wr => ∃ j : Nat, i = .int .i64 j ∧ j ≤ ss.length ∧ Own 3 .i64 w3.heap.size wr (.slice (some ⟨w3.heap.size, 0, none⟩) ss.length ss.length) (upt (fun i => atv s i + 5) (fun _ => 0) j ss.length) ∧ Below w3.heap.size w3 wr) (fun i _ => ss.length - (intOf i).toNat)
  case atStart => exact ⟨0, rfl, Nat.zero_le _, HF.out, HBf.out⟩
  case round =>
    obtain ⟨j, rfl, hj, hF, hB⟩ := hrel
    replace HF := Lib.hid hF
    replace HBf := Lib.hid hB
    clear hF hB
    by_cases hlt : j < ss.length
    case pos =>
      have e5 : decide ((j : Int) < (ss.length : Int)) = true := by simp; omega
      go_wp2_with fail
      refine (at_any (HA.out.behind (HBf.out.mono HB.out.size)) j (by omega) hs).mono ?_
      obtain ⟨q, hq⟩ : ∃ q, q = atv s j := ⟨_, rfl⟩
      rw [← hq]
      have HQ := Lib.hid hq
      rintro e w5 ⟨⟨rfl, q0, q1⟩, hw5⟩
      subst hw5
      have c2 := HF.out.cellAt (upt_length _ _ _ _) hlt
      have f2 := HF.out.free (upt_length _ _ _ _) j
      have hjn : (j : Int) < (ss.length : Int) := by omega
      obtain ⟨p1, p2⟩ := HF.out.put (f := fun i => atv s i + 5) (j := j) (by rw [← HQ.out]; exact wf_i64_of (by omega) (by omega))
      rw [← HQ.out] at p1 p2
      have P1 := Lib.hid p1
      have P2 := Lib.hid p2
      clear hq p1 p2
      go_wp2_with fail
      go_roundw
      case rel => exact ⟨j + 1, by simp, hlt, P1.out, HBf.out.grown P2.out HBf.out.size (fun k hk => by injection hk with hk; omega)⟩
      case measure => simp [intOf]; omega
    have e5 : decide ((j : Int) < (ss.length : Int)) = false := by simp; omega
    have ej : j = ss.length := by omega
    obtain ⟨F, hFe⟩ : ∃ F, F = (List.range ss.length).map (fun i => atv s i + 5) := ⟨_, rfl⟩
    have hF2 : upt (fun i => atv s i + 5) (fun _ => 0) j ss.length = F := by rw [ej, upt_full, hFe]
    have HFl2 : Hid (F.length = ss.length) := Lib.hid (by rw [hFe, map_range_len])
    rw [hF2] at HF
    replace HA := Lib.hid (HA.out.behind (HBf.out.mono HB.out.size))
    replace HO := Lib.hid (HO.out.next HBf.out)
    replace HS := Lib.hid (HS.out.next HBf.out)
    replace HLs := Lib.hid (HLs.out.next HBf.out)
    replace HX := Lib.hid (HX.out.next HBf.out)
    replace HB := Lib.hid (HB.out.trans (HBf.out.mono HB.out.size))
    have HFok : Hid (refOk R F = true) := Lib.hid (by rw [HRe.out]; exact fresh_ok HOk.out HFl2.out)
    have HFs : Hid (okS (ref R F) = true) := Lib.hid (by rw [HRe.out]; exact fresh_okS HOk.out HFl2.out)
    have HFj : Hid (jsh (ref R F) = xs) := Lib.hid (by rw [HRe.out]; exact fresh_join HOk.out HFl2.out HX8.out)
    have HFt : Hid (tot (ref R F) ≤ 1099511627776) := Lib.hid (by rw [HRe.out]; have := fresh_tot HOk.out HFl2.out; omega)
    have hFl3 : F.length ≤ 1099511627776 := by rw [HFl2.out]; omega
    clear ej hFe hF2 HBf
    -- m
    go_wp2_with fail
    refine (impl_ref HLs.out.rd2 HF.out.rd (Nat.le_refl _) (Nat.le_refl _) HRt.out hFl3).mono ?_
    rw [HFok.out]
    rintro e w6 ⟨vm, rfl, hM, hb⟩
    replace HA := Lib.hid (HA.out.behind (hb.mono HB.out.size))
    replace HO := Lib.hid (HO.out.next hb)
    replace HS := Lib.hid (HS.out.next hb)
    replace HLs := Lib.hid (HLs.out.next hb)
    replace HX := Lib.hid (HX.out.next hb)
    replace HB := Lib.hid (HB.out.trans (hb.mono HB.out.size))
    have HM := Lib.hid hM.rd2
    clear hM hb HF
    -- y
    go_wp2_with fail
    refine (impl_js HM.out (Nat.le_refl _) HFt.out).mono ?_
    rw [HFs.out, HFj.out]
    rintro e w7 ⟨vy, rfl, hY, hb⟩
    replace HA := Lib.hid (HA.out.behind (hb.mono HB.out.size))
    replace HO := Lib.hid (HO.out.next hb)
    replace HS := Lib.hid (HS.out.next hb)
    replace HLs := Lib.hid (HLs.out.next hb)
    replace HX := Lib.hid (HX.out.next hb)
    replace HB := Lib.hid (HB.out.trans (hb.mono HB.out.size))
    have HY := Lib.hid hY
    clear hY hb HM HFok HFs HFj HFt HFl2 hFl3
    have e6 : ((n : Int) != (ss.length : Int) + 1) = false := by have := HRl.out; simp; omega
    go_wp2_with fail
    refine (sameBytes_same HX.out.rd HO.out.rd (Nat.le_refl _) (Nat.le_refl _)).mono ?_
    rintro e w8 ⟨rfl, hb⟩
    replace HA := Lib.hid (HA.out.behind (hb.mono HB.out.size))
    replace HO := Lib.hid (HO.out.next hb)
    replace HS := Lib.hid (HS.out.next hb)
    replace HLs := Lib.hid (HLs.out.next hb)
    replace HY := Lib.hid (HY.out.next hb)
    replace HB := Lib.hid (HB.out.trans (hb.mono HB.out.size))
    clear hb HX
    go_wp2_with fail
    refine (sameBytes_same HY.out.rd HO.out.rd (Nat.le_refl _) (Nat.le_refl _)).mono ?_
    rintro e w9 ⟨rfl, hb⟩
    replace HA := Lib.hid (HA.out.behind (hb.mono HB.out.size))
    replace HO := Lib.hid (HO.out.next hb)
    replace HLs := Lib.hid (HLs.out.next hb)
    replace HB := Lib.hid (HB.out.trans (hb.mono HB.out.size))
    clear hb HY HS
    -- other
    go_wp2_with (first | (at_make; refine wpList_make_full _ rfl _ _ 22 rfl w9.heap.size 5 i0 (.int .u8 0) 1 Try.underlying22 Hhi.out hz0 hz1 .i64 .i64 _ _ xs.length rfl rfl rfl rfl (by rw [hz2]; omega) (by unfold maxLen; omega) (Nat.le_refl _) ?_))
    intro w10 hown hg
    have hF := own_made hown hg.size (by decide)
    rw [← upt_rep (atv s) xs.length] at hF
    have HT := Lib.hid hF
    have HBf := Lib.hid ((Below.refl w9.heap.size w9).grown hg (Nat.le_refl _) (fun k hk => by cases hk))
    clear hown hg hF
    go_wp2_with fail
    go_loopw [15] (fun i wr => ∃ j : Nat, i = .int .i64 j ∧ j ≤ xs.length ∧ Own 5 .u8 w9.heap.size wr (.slice (some ⟨w9.heap.size, 0, none⟩) xs.length xs.length) (upt (atv s) (fun _ => 0) j xs.length) ∧ Below w9.heap.size w9 wr) (fun i _ => xs.length - (intOf i).toNat)
    case atStart => exact ⟨0, rfl, Nat.zero_le _, HT.out, HBf.out⟩
    case round =>
      obtain ⟨j, rfl, hj, hF, hB⟩ := hrel
      replace HT := Lib.hid hF
      replace HBf := Lib.hid hB
      clear hF hB
      by_cases hlt : j < xs.length
      case pos =>
        have e5 : decide ((j : Int) < (xs.length : Int)) = true := by simp; omega
        go_wp2_with fail
        refine (at_any (HA.out.behind (HBf.out.mono HB.out.size)) j (by omega) hs).mono ?_
        obtain ⟨q, hq⟩ : ∃ q, q = atv s j := ⟨_, rfl⟩
        rw [← hq]
        have HQ := Lib.hid hq
        rintro e w11 ⟨⟨rfl, q0, q1⟩, hw11⟩
        subst hw11
        have c2 := HT.out.cellAt (upt_length _ _ _ _) hlt
        have f2 := HT.out.free (upt_length _ _ _ _) j
        have hjn : (j : Int) < (xs.length : Int) := by omega
        have hq8 : q % 256 = q := by omega
        obtain ⟨p1, p2⟩ := HT.out.put (f := atv s) (j := j) (by rw [← HQ.out]; exact wf_u8_of (by omega) (by omega))
        rw [← HQ.out] at p1 p2
        have P1 := Lib.hid p1
        have P2 := Lib.hid p2
        clear hq p1 p2
        go_wp2_with fail
        go_roundw
        case rel => exact ⟨j + 1, by simp, hlt, P1.out, HBf.out.grown P2.out HBf.out.size (fun k hk => by injection hk with hk; omega)⟩
        case measure => simp [intOf]; omega
      have e5 : decide ((j : Int) < (xs.length : Int)) = false := by simp; omega
      have ej : j = xs.length := by omega
      obtain ⟨T, hTe⟩ : ∃ T, T = (List.range xs.length).map (atv s) := ⟨_, rfl⟩
      have hT2 : upt (atv s) (fun _ => 0) j xs.length = T := by rw [ej, upt_full, hTe]
      have HTl : Hid (T.length = xs.length) := Lib.hid (by rw [hTe, map_range_len])
      have HT8 : Hid (U8s T) := Lib.hid (by rw [hTe]; exact HUa.out _)
      rw [hT2] at HT
      replace HA := Lib.hid (HA.out.behind (HBf.out.mono HB.out.size))
      replace HO := Lib.hid (HO.out.next HBf.out)
      replace HLs := Lib.hid (HLs.out.next HBf.out)
      have HSz9 := Lib.hid HB.out.size
      replace HT := Lib.hid (HT.out.mono HSz9.out)
      replace HB := Lib.hid (HB.out.trans (HBf.out.mono HB.out.size))
      clear ej hTe hT2 HBf
      -- k
      have hqb := HAt.out 0
      obtain ⟨q, hq⟩ : ∃ q, q = atv s 0 := ⟨_, rfl⟩
      rw [← hq] at hqb
      have hn2 : 2 ≤ n := by have := HRl.out; omega
      obtain ⟨k, hk⟩ : ∃ k : Nat, q % (n : Int) = (k : Int) := ⟨(q % (n : Int)).toNat, by have := Int.emod_nonneg q (show (n : Int) ≠ 0 by omega); omega⟩
      have hkn : k < n := by have := Int.emod_lt_of_pos q (show (0 : Int) < (n : Int) by omega); omega
      have hk2 : q.tmod (n : Int) = (k : Int) := by rw [Int.tmod_eq_emod_of_nonneg hqb.1]; exact hk
      have HQ := Lib.hid hq
      have hnz : ¬ n = 0 := by omega
      have hn0 : ((n : Int) == 0) = false := by simp; omega
      clear hq
      go_wp2_with fail
      refine (at_any HA.out 0 (by omega) hs).mono ?_
      rw [← HQ.out]
      rintro e w12 ⟨⟨rfl, _, _⟩, hw12⟩
      subst hw12
      go_wp2_with fail
      -- all shares but one
      have HSzB := Lib.hid HB.out.size
      replace HO := Lib.hid HO.out.drew
      replace HT := Lib.hid HT.out.drew
      replace HLs := Lib.hid HLs.out.drew
      replace HB := Lib.hid HB.out.drew
      refine wp_region_held_drew (S := fun _ => True) (by kernel_rfl) trivial (fun _ => ?_)
      obtain ⟨wd, hwd⟩ : ∃ x, x = w12.drew := ⟨_, rfl⟩
      rw [← hwd] at HO HT HLs HB ⊢
      clear hwd
      obtain ⟨us, hus, hUs, hreads⟩ := HLs.out.rd2.parts
      have hun : us.length = n := by rw [hus, Hn.out]
      rw [show n = us.length from hun.symm] at hUs
      have HUs := Lib.hid hUs
      rw [hun] at HUs
      have HD1 := Lib.hid (HUs.out.head (n := k) (by omega))
      have HD2 := Lib.hid (HUs.out.tail (l := k + 1) (by omega))
      rw [hun] at HD2
      have Hreads := Lib.hid hreads
      have Hus := Lib.hid hus
      have HOne := Lib.hid (U3o hus hreads)
      clear hus hUs hreads
      have hkc : k ≤ cl := by omega
      have hk1 : k + 1 ≤ n := by omega
      have hkw : IntKind.i64.wrap ((k : Int) + 1) = (k : Int) + 1 := by rw [IntKind.wrap_i64]; omega
      apply wpAnyH_take (i := 1)
      · simp only [List.getElem?_toArray, List.getElem?_cons_succ, List.getElem?_cons_zero]
        rfl
      · kernel_rfl
      · kernel_rfl
      · kernel_rfl
      · exact fun _ _ _ h => h
      · first
          | exact Or.inr ⟨by rfl, rfl⟩
          | (refine Or.inl ⟨by rfl, fun _ _ => ?_⟩
             go_simp
             first
               | done
               | rfl)
      · trivial
      simp only [Act.put, List.setIfInBounds_toArray, List.set_cons_zero, List.set_cons_succ]
      apply wpAnyH_take (i := 2)
      · simp only [List.getElem?_toArray, List.getElem?_cons_succ, List.getElem?_cons_zero]
        rfl
      · kernel_rfl
      · kernel_rfl
      · kernel_rfl
      · exact fun _ _ _ h => h
      · first
          | exact Or.inr ⟨by rfl, rfl⟩
          | (refine Or.inl ⟨by rfl, fun _ _ => ?_⟩
             go_simp
             first
               | done
               | rfl)
      · trivial
      simp only [Act.put, List.setIfInBounds_toArray, List.set_cons_zero, List.set_cons_succ]
      apply wpAnyH_take (i := 5)
      · simp only [List.getElem?_toArray, List.getElem?_cons_succ, List.getElem?_cons_zero]
        rfl
      · kernel_rfl
      · kernel_rfl
      · kernel_rfl
      · exact fun _ _ _ h => h
      · first
          | exact Or.inr ⟨by rfl, rfl⟩
          | (refine Or.inl ⟨by rfl, fun _ _ => ?_⟩
             go_simp
             first
               | done
               | rfl)
      · trivial
      simp only [Act.put, List.setIfInBounds_toArray, List.set_cons_zero, List.set_cons_succ]
      apply wpAnyH_take (i := 6)
      · simp only [List.getElem?_toArray, List.getElem?_cons_succ, List.getElem?_cons_zero]
        rfl
      · kernel_rfl
      · kernel_rfl
      · kernel_rfl
      · exact fun _ _ _ h => h
      · first
          | exact Or.inr ⟨by rfl, rfl⟩
          | (refine Or.inl ⟨by rfl, fun _ _ => ?_⟩
             go_simp
             first
               | done
               | rfl)
      · trivial
      simp only [Act.put, List.setIfInBounds_toArray, List.set_cons_zero, List.set_cons_succ]
      apply wpAnyH_take (i := 7) (v := .int .i64 ((k + 1 : Nat) : Int))
      · simp only [List.getElem?_toArray, List.getElem?_cons_succ, List.getElem?_cons_zero]
        rfl
      · kernel_rfl
      · kernel_rfl
      · kernel_rfl
      · exact fun _ _ _ h => h
      · first
          | exact Or.inr ⟨by rfl, rfl⟩
          | (refine Or.inl ⟨by rfl, fun _ _ => ?_⟩
             go_simp
             first
               | done
               | rfl)
      · trivial
      simp only [Act.put, List.setIfInBounds_toArray, List.set_cons_zero, List.set_cons_succ]
      apply wpAnyH_take (i := 3)
      · simp only [List.getElem?_toArray, List.getElem?_cons_succ, List.getElem?_cons_zero]
        rfl
      · kernel_rfl
      · kernel_rfl
      · kernel_rfl
      · exact fun _ _ _ h => h
      · refine Or.inl ⟨by rfl, fun _ _ => ?_⟩
        exact run_slice_op_h _ 27 _ 22 i1 Try.underlying27 Hhi'.out hy1 (n := k) _ rfl rfl rfl hkc
      · trivial
      simp only [Act.put, List.setIfInBounds_toArray, List.set_cons_zero, List.set_cons_succ]
      obtain ⟨u1, hu1⟩ : ∃ u, u = Go.sliced (some ⟨gl, 0, none⟩) 0 k cl 1 := ⟨_, rfl⟩
      rw [← hu1] at HD1 ⊢
      clear hu1
      apply wpAnyH_take (i := 8)
      · simp only [List.getElem?_toArray, List.getElem?_cons_succ, List.getElem?_cons_zero]
        rfl
      · kernel_rfl
      · kernel_rfl
      · kernel_rfl
      · exact fun _ _ _ h => h
      · refine Or.inl ⟨by rfl, fun _ _ => ?_⟩
        exact run_slice_op_l _ 27 _ 22 i1 Try.underlying27 Hhi'.out hy1 (n := k + 1) _ rfl rfl rfl hk1
      · trivial
      simp only [Act.put, List.setIfInBounds_toArray, List.set_cons_zero, List.set_cons_succ]
      obtain ⟨u2, hu2⟩ : ∃ u, u = Go.sliced (some ⟨gl, 0, none⟩) (k + 1) n cl 1 := ⟨_, rfl⟩
      rw [← hu2] at HD2 ⊢
      clear hu2
      refine wpAnyH_ready (rs := [0]) (by kernel_rfl) (by simp) ?_
      apply AllReadyH.cons
      · simp only [List.getElem?_toArray, List.getElem?_cons_succ, List.getElem?_cons_zero]
        rfl
      rotate_left
      · exact AllReadyH.nil
      intro K hK
      go_simp
      have V0 : Hid (OwnV 22 wd.heap.size (wd.alloc (.cells #[] 22)) (.slice (some ⟨wd.heap.size, 0, none⟩) 0 0) []) := Lib.hid (OwnV.lit _ (Nat.le_refl _))
      have B0 := Lib.hid ((Below.refl wd.heap.size wd).alloc (Nat.le_refl _) (.cells #[] 22))
      refine hK.out _ _ trivial (fun _ => ?_)
      clear hK K
      try simp only [Act.put, List.setIfInBounds_toArray, List.set_cons_zero, List.set_cons_succ]
      refine wpAnyH_ready (rs := [4]) (by kernel_rfl) (by simp) ?_
      apply AllReadyH.cons
      · simp only [List.getElem?_toArray, List.getElem?_cons_succ, List.getElem?_cons_zero]
        rfl
      rotate_left
      · exact AllReadyH.nil
      intro K hK
      refine step_append_vals _ (by rfl) _ _ 27 (by rfl) 22 i1 24 Try.underlying27 Hhi'.out hy0 hy1 hy2 (by omega) (by rfl) V0.out (by rfl) (HD1.out.behind B0.out) (fun y hy => HOne.out y (List.mem_of_mem_take hy)) (by rw [List.length_take]; simp only [List.length_nil]; omega) ?_
      intro v13 w13 h13 hg13
      rw [List.nil_append] at h13
      have V1 := Lib.hid h13
      have B1 := Lib.hid (B0.out.trans (V0.out.below (Nat.le_refl _) hg13))
      clear h13 hg13
      refine hK.out _ _ trivial (fun _ => ?_)
      clear hK K
      try simp only [Act.put, List.setIfInBounds_toArray, List.set_cons_zero, List.set_cons_succ]
      refine wpAnyH_ready (rs := [9]) (by kernel_rfl) (by simp) ?_
      apply AllReadyH.cons
      · simp only [List.getElem?_toArray, List.getElem?_cons_succ, List.getElem?_cons_zero]
        rfl
      rotate_left
      · exact AllReadyH.nil
      intro K hK
      refine step_append_vals _ (by rfl) _ _ 27 (by rfl) 22 i1 24 Try.underlying27 Hhi'.out hy0 hy1 hy2 (by omega) (by rfl) V1.out (by rfl) (HD2.out.behind B1.out) (fun y hy => HOne.out y (List.mem_of_mem_drop hy)) (by rw [List.length_take, List.length_drop]; omega) ?_
      intro v14 w14 h14 hg14
      have V2 := Lib.hid h14
      have B2 := Lib.hid (B1.out.trans (V1.out.below (Nat.le_refl _) hg14))
      clear h14 hg14
      refine hK.out _ _ trivial (fun _ => ?_)
      clear hK K
      try simp only [Act.put, List.setIfInBounds_toArray, List.set_cons_zero, List.set_cons_succ]
      apply wpAnyH_take (i := 10)
      · simp only [List.getElem?_toArray, List.getElem?_cons_succ, List.getElem?_cons_zero]
        rfl
      · kernel_rfl
      · kernel_rfl
      · kernel_rfl
      · exact fun _ _ _ h => h
      · first
          | exact Or.inr ⟨by rfl, rfl⟩
          | (refine Or.inl ⟨by rfl, fun _ _ => ?_⟩
             go_simp
             first
               | done
               | rfl)
      · trivial
      simp only [Act.put, List.setIfInBounds_toArray, List.set_cons_zero, List.set_cons_succ]
      refine wpAnyH_done (by kernel_rfl) ?_ _
      have hdl : (del R k).length = n - 1 := by rw [Hn.out]; exact del_length (by rw [← Hn.out]; exact hkn)
      have hdu : (us.take k ++ us.drop (k + 1)).length = n - 1 := by rw [List.length_append, List.length_take, List.length_drop]; omega
      have HLd : Hid ((us.take k ++ us.drop (k + 1)).length = (del R k).length) := Lib.hid (by rw [hdl, hdu])
      have HRd : Hid (∀ (i : Nat) (u : Value) (zs : List Int), (us.take k ++ us.drop (k + 1))[i]? = some u → (del R k)[i]? = some zs → Rd wd.heap.size .u8 wd u zs) := Lib.hid (reads_del Hus.out Hreads.out (by rw [← Hn.out]; exact hkn))
      obtain ⟨ds, hds⟩ : ∃ ds, ds = us.take k ++ us.drop (k + 1) := ⟨_, rfl⟩
      rw [← hds] at HLd HRd V2 hdu
      obtain ⟨gr, cr, curr, hv14, hbr, hcr⟩ : ∃ g cap cur, v14 = .slice (some ⟨g, 0, none⟩) (n - 1) cap ∧ wd.heap.size ≤ g ∧ w14.heap[g]? = some (.cells cur 22 (0, 0)) := by
        rcases V2.out.2.2.2 with ⟨_, h0⟩ | ⟨g, cp, cu, h1, h2, h3, _⟩
        · omega
        · exact ⟨g, cp, cu, by rw [h1, hdu], h2, h3⟩
      subst hv14
      have HSd := Lib.hid B2.out.size
      have HDr : Hid (Rd2 w14.heap.size .u8 w14 (.slice (some ⟨gr, 0, none⟩) (n - 1) cr) (del R k)) := Lib.hid (V2.out.rd2 HLd.out HRd.out B2.out B2.out.size)
      have HDt : Hid (tot (del R k) ≤ 1099511627776) := Lib.hid (by rw [HRe.out]; have := del_tot HOk.out (k := k) (by have := HRl.out; omega); omega)
      have HJ1 : Hid (okS (del R k ++ [xorl (xorAll (del R k)) T]) = true) := Lib.hid (by rw [HRe.out]; exact del_joined HOk.out (by have := HRl.out; omega) HTl.out)
      have HJ2 : Hid (jsh (del R k ++ [xorl (xorAll (del R k)) T]) = T) := Lib.hid (by rw [HRe.out]; exact del_other HOk.out (by have := HRl.out; omega) HTl.out HT8.out)
      have HJ3 : Hid (tot (del R k ++ [xorl (xorAll (del R k)) T]) ≤ 1099511627776) := Lib.hid (by rw [HRe.out]; have := del_tot2 HOk.out (k := k) (by have := HRl.out; omega) HTl.out; omega)
      have HJ4 : Hid (xorl (xorAll (del R k)) xs = R.getD k []) := Lib.hid (by rw [HRe.out]; exact del_back HOk.out (by have := HRl.out; omega) HX8.out)
      have hTl4 : T.length ≤ 1099511627776 := by rw [HTl.out]; omega
      clear HD1 HD2 V0 V1 B0 B1 HUs HOne Hreads Hus hds
      obtain ⟨D, hD⟩ : ∃ D, D = del R k := ⟨_, rfl⟩
      rw [← hD] at HLd HRd HDr HDt HJ1 HJ2 HJ3 HJ4 hdl
      clear hD
      go_wp2_with fail
      refine (impl_ms HDr.out (HT.out.next B2.out).rd (Nat.le_refl _) (Nat.le_refl _) HDt.out hTl4).mono ?_
      rintro e w15 ⟨v15, rfl, h15, hb⟩
      obtain ⟨E, hE⟩ : ∃ E, E = xorl (xorAll D) T := ⟨_, rfl⟩
      rw [← hE] at h15 HJ1 HJ2 HJ3
      obtain ⟨a15, c15, hv15, _⟩ := h15.open
      obtain ⟨L15, hL15⟩ : ∃ L, L = E.length := ⟨_, rfl⟩
      rw [← hL15] at hv15
      subst hv15
      have O15 := Lib.hid (h15.alloc (.cells #[.slice a15 L15 c15] 22))
      have HG15 : Hid (∀ r, (Value.slice a15 L15 c15).ownBlock = some r → r ≠ gr) := Lib.hid (fun r hr e => by have h1 := (h15.lt r hr).1; have h2 := lt_of_block hcr; omega)
      have V3 : Hid (OwnV 22 wd.heap.size w15 (.slice (some ⟨gr, 0, none⟩) (n - 1) cr) ds) := Lib.hid ⟨V2.out.1, Nat.le_trans V2.out.2.1 hb.size, ownsRow_of_block V2.out.2.2 fun r hr => hb.block r (V2.out.2.2.lt r hr).2⟩
      have B3 := Lib.hid (B2.out.trans (hb.mono HSd.out))
      have HS15 := Lib.hid hb.size
      clear hcr h15 hb hE hL15 V2 B2
      have V4 := Lib.hid (V3.out.alloc (.cells #[.slice a15 L15 c15] 22))
      have hLe4 : (ds.length + 1) * 24 ≤ 140737488355328 := by omega
      go_wp2_with (first | (at_builtin; refine append_vals_keep _ rfl _ _ 27 rfl 22 i1 24 Try.underlying27 Hhi'.out hy0 hy1 hy2 (by omega) rfl V4.out rfl (cell_one_new _ _ _ 0 _ rfl) rfl hLe4 ?_))
      intro v16 w16 h16 hg16 hkeep
      have B4 := Lib.hid ((B3.out.alloc B3.out.size (.cells #[.slice a15 L15 c15] 22)).grown hg16 (Nat.le_trans B3.out.size (by simp)) (fun r hr => by injection hr with hr; omega))
      have O16 := Lib.hid (O15.out.kept hg16 (by
        cases hv : (Value.slice a15 L15 c15).ownBlock with
        | none => exact .inl rfl
        | some r => exact .inr (fun e => HG15.out r hv (by injection e))))
      have HR1 := Lib.hid (show Rd2 w16.heap.size .u8 w16 v16 (D ++ [E]) from ⟨ds ++ [.slice a15 L15 c15], by rw [List.length_append, List.length_append, HLd.out]; rfl, h16.rdv, reads_snoc HLd.out (fun i u zs hu hz => ((HRd.out i u zs hu hz).behind B4.out).mono B4.out.size) O16.out.rd⟩)
      have HD4 := Lib.hid (show Rd2 w16.heap.size .u8 w16 (.slice (some ⟨gr, 0, none⟩) (n - 1) cr) D from ⟨ds, HLd.out, hkeep, fun i u zs hu hz => ((HRd.out i u zs hu hz).behind B4.out).mono B4.out.size⟩)
      clear h16 hg16 hkeep O15 O16 HG15 V3 V4 B3 HDr
      -- joined
      go_wp2_with fail
      refine (impl_js HR1.out (Nat.le_refl _) HJ3.out).mono ?_
      rw [HJ1.out, HJ2.out]
      rintro e w17 ⟨vz, rfl, hZ, hb⟩
      have B5 := Lib.hid (B4.out.trans (hb.mono B4.out.size))
      have HZ := Lib.hid hZ
      have HD5 := Lib.hid ((HD4.out.behind hb).mono hb.size)
      obtain ⟨rk, ck, ork, _, _⟩ := HLs.out.at (i := k) (zs := R.getD k []) (by rw [List.getD_eq_getElem?_getD, List.getElem?_eq_getElem (show k < R.length by rw [← Hn.out]; exact hkn)]; rfl)
      have hglt : gl < wd.heap.size := World.block_lt_of_cell? wd _ ck
      have HC : Hid (∀ w', Below wd.heap.size wd w' → w'.cell? ⟨gl, k, none⟩ = some rk) := Lib.hid (fun w' hb' => (hb'.cell (p := ⟨gl, k, none⟩) hglt).trans ck)
      have HK := Lib.hid ork.rd
      clear hZ hb HR1 HD4 HJ1 HJ2 HJ3 ck ork B4
      -- the last line
      have B6 := Lib.hid B5.out.drew
      have hkn' : (k : Int) < (n : Int) := by omega
      have d0 := HC.out _ B5.out
      have d1 := HC.out _ B6.out
      have HZ6 := Lib.hid HZ.out.rd.drew
      have HT6 := Lib.hid ((HT.out.next B6.out).rd)
      have HO6 := Lib.hid (HO.out.next B6.out)
      have HD6 := Lib.hid (HD5.out.drew)
      have HK6 := Lib.hid (HK.out.behind B6.out)
      have HS6 := Lib.hid B6.out.size
      have HS17 : Hid (w17.heap.size ≤ w17.drew.heap.size) := Lib.hid (Nat.le_refl _)
      have HB6 := Lib.hid (HB.out.trans (B6.out.mono HB.out.size))
      have hxs4 : xs.length ≤ 1099511627776 := by omega
      go_wp2_with fail
      refine wp_region_held_drew (S := fun w' => w'.cell? ⟨gl, k, none⟩ = some rk) (by kernel_rfl) d1 (fun _ => ?_)
      obtain ⟨w18, hw18⟩ : ∃ x, x = w17.drew := ⟨_, rfl⟩
      rw [← hw18] at HZ6 HT6 HO6 HD6 HK6 HS6 HS17 HB6 B6 d1 ⊢
      clear hw18 d0 HZ HD5 B5
      apply wpAnyH_take (i := 0)
      · simp only [List.getElem?_toArray, List.getElem?_cons_succ, List.getElem?_cons_zero]
        rfl
      · kernel_rfl
      · kernel_rfl
      · kernel_rfl
      · exact fun _ _ _ h => h
      · first
          | exact Or.inr ⟨by rfl, rfl⟩
          | (refine Or.inl ⟨by rfl, fun _ _ => ?_⟩
             go_simp
             first
               | done
               | rfl)
      · exact d1
      simp only [Act.put, List.setIfInBounds_toArray, List.set_cons_zero, List.set_cons_succ]
      apply wpAnyH_take (i := 1)
      · simp only [List.getElem?_toArray, List.getElem?_cons_succ, List.getElem?_cons_zero]
        rfl
      · kernel_rfl
      · kernel_rfl
      · kernel_rfl
      · exact fun _ _ _ h => h
      · first
          | exact Or.inr ⟨by rfl, rfl⟩
          | (refine Or.inl ⟨by rfl, fun _ _ => ?_⟩
             go_simp
             first
               | done
               | rfl)
      · exact d1
      simp only [Act.put, List.setIfInBounds_toArray, List.set_cons_zero, List.set_cons_succ]
      apply wpAnyH_take (i := 2)
      · simp only [List.getElem?_toArray, List.getElem?_cons_succ, List.getElem?_cons_zero]
        rfl
      · kernel_rfl
      · kernel_rfl
      · kernel_rfl
      · exact fun _ _ _ h => h
      · first
          | exact Or.inr ⟨by rfl, rfl⟩
          | (refine Or.inl ⟨by rfl, fun _ _ => ?_⟩
             go_simp
             first
               | done
               | rfl)
      · exact d1
      simp only [Act.put, List.setIfInBounds_toArray, List.set_cons_zero, List.set_cons_succ]
      apply wpAnyH_take (i := 3)
      · simp only [List.getElem?_toArray, List.getElem?_cons_succ, List.getElem?_cons_zero]
        rfl
      · kernel_rfl
      · kernel_rfl
      · kernel_rfl
      · exact fun _ _ _ h => h
      · first
          | exact Or.inr ⟨by rfl, rfl⟩
          | (refine Or.inl ⟨by rfl, fun _ _ => ?_⟩
             go_simp
             first
               | done
               | rfl)
      · exact d1
      simp only [Act.put, List.setIfInBounds_toArray, List.set_cons_zero, List.set_cons_succ]
      refine wpAnyH_ready (rs := [4]) (by kernel_rfl) (by simp) ?_
      apply AllReadyH.cons
      · simp only [List.getElem?_toArray, List.getElem?_cons_succ, List.getElem?_cons_zero]
        rfl
      rotate_left
      · exact AllReadyH.nil
      intro K hK
      go_simp
      refine (sameBytes_same HZ6.out HT6.out (by first | exact Nat.le_refl _ | exact HS17.out) (Nat.le_refl _)).mono ?_
      rintro e' w19 ⟨he, hb⟩
      subst he
      have B7 := Lib.hid (B6.out.trans (hb.mono B6.out.size))
      have HD7 := Lib.hid (HD6.out.behind (hb.mono HS17.out))
      have HS7 := Lib.hid (Nat.le_trans HS17.out hb.size)
      have d2 := HC.out _ B7.out
      clear hb
      refine hK.out _ _ d2 (fun _ => ?_)
      clear hK K
      try simp only [Act.put, List.setIfInBounds_toArray, List.set_cons_zero, List.set_cons_succ]
      apply wpAnyH_take (i := 5)
      · simp only [List.getElem?_toArray, List.getElem?_cons_succ, List.getElem?_cons_zero]
        rfl
      · kernel_rfl
      · kernel_rfl
      · kernel_rfl
      · exact fun _ _ _ h => h
      · first
          | exact Or.inr ⟨by rfl, rfl⟩
          | (refine Or.inl ⟨by rfl, fun _ _ => ?_⟩
             go_simp
             first
               | done
               | rfl)
      · exact d2
      simp only [Act.put, List.setIfInBounds_toArray, List.set_cons_zero, List.set_cons_succ]
      apply wpAnyH_take (i := 6)
      · simp only [List.getElem?_toArray, List.getElem?_cons_succ, List.getElem?_cons_zero]
        rfl
      · kernel_rfl
      · kernel_rfl
      · kernel_rfl
      · exact fun _ _ _ h => h
      · first
          | exact Or.inr ⟨by rfl, rfl⟩
          | (refine Or.inl ⟨by rfl, fun _ _ => ?_⟩
             go_simp
             first
               | done
               | rfl)
      · exact d2
      simp only [Act.put, List.setIfInBounds_toArray, List.set_cons_zero, List.set_cons_succ]
      apply wpAnyH_take (i := 7)
      · simp only [List.getElem?_toArray, List.getElem?_cons_succ, List.getElem?_cons_zero]
        rfl
      · kernel_rfl
      · kernel_rfl
      · kernel_rfl
      · exact fun _ _ _ h => h
      · first
          | exact Or.inr ⟨by rfl, rfl⟩
          | (refine Or.inl ⟨by rfl, fun _ _ => ?_⟩
             go_simp
             first
               | done
               | rfl)
      · exact d2
      simp only [Act.put, List.setIfInBounds_toArray, List.set_cons_zero, List.set_cons_succ]
      apply wpAnyH_take (i := 8)
      · simp only [List.getElem?_toArray, List.getElem?_cons_succ, List.getElem?_cons_zero]
        rfl
      · kernel_rfl
      · kernel_rfl
      · kernel_rfl
      · exact fun _ _ _ h => h
      · first
          | exact Or.inr ⟨by rfl, rfl⟩
          | (refine Or.inl ⟨by rfl, fun _ _ => ?_⟩
             go_simp
             first
               | done
               | rfl)
      · exact d2
      simp only [Act.put, List.setIfInBounds_toArray, List.set_cons_zero, List.set_cons_succ]
      apply wpAnyH_take (i := 10)
      · simp only [List.getElem?_toArray, List.getElem?_cons_succ, List.getElem?_cons_zero]
        rfl
      · kernel_rfl
      · kernel_rfl
      · kernel_rfl
      · exact fun _ _ _ h => h
      · first
          | exact Or.inr ⟨by rfl, rfl⟩
          | (refine Or.inl ⟨by rfl, fun _ _ => ?_⟩
             go_simp
             first
               | done
               | rfl)
      · exact d2
      simp only [Act.put, List.setIfInBounds_toArray, List.set_cons_zero, List.set_cons_succ]
      apply wpAnyH_take (i := 11)
      · simp only [List.getElem?_toArray, List.getElem?_cons_succ, List.getElem?_cons_zero]
        rfl
      · kernel_rfl
      · kernel_rfl
      · kernel_rfl
      · exact fun _ _ _ h => h
      · first
          | exact Or.inr ⟨by rfl, rfl⟩
          | (refine Or.inl ⟨by rfl, fun _ _ => ?_⟩
             go_simp
             first
               | done
               | rfl)
      · exact d2
      simp only [Act.put, List.setIfInBounds_toArray, List.set_cons_zero, List.set_cons_succ]
      apply wpAnyH_take (i := 12)
      · simp only [List.getElem?_toArray, List.getElem?_cons_succ, List.getElem?_cons_zero]
        rfl
      · kernel_rfl
      · kernel_rfl
      · kernel_rfl
      · exact fun _ _ _ h => h
      · first
          | exact Or.inr ⟨by rfl, rfl⟩
          | (refine Or.inl ⟨by rfl, fun _ _ => ?_⟩
             go_simp
             first
               | done
               | rfl)
      · exact d2
      simp only [Act.put, List.setIfInBounds_toArray, List.set_cons_zero, List.set_cons_succ]
      apply wpAnyH_take (i := 13) (v := rk)
      · simp only [List.getElem?_toArray, List.getElem?_cons_succ, List.getElem?_cons_zero]
        rfl
      · kernel_rfl
      · kernel_rfl
      · kernel_rfl
      · exact fun _ _ _ h => h
      · refine Or.inl ⟨by rfl, fun wq hwq => ?_⟩
        go_simp
        first
          | done
          | rfl
      · exact d2
      simp only [Act.put, List.setIfInBounds_toArray, List.set_cons_zero, List.set_cons_succ]
      refine wpAnyH_ready (rs := [9]) (by kernel_rfl) (by simp) ?_
      apply AllReadyH.cons
      · simp only [List.getElem?_toArray, List.getElem?_cons_succ, List.getElem?_cons_zero]
        rfl
      rotate_left
      · exact AllReadyH.nil
      intro K hK
      go_simp
      refine (impl_ms HD7.out (HO.out.next B7.out).rd HS7.out (Nat.le_refl _) HDt.out hxs4).mono ?_
      rw [HJ4.out]
      rintro e' w20 ⟨v20, he, h20, hb⟩
      subst he
      have B8 := Lib.hid (B7.out.trans (hb.mono B7.out.size))
      have H20 := Lib.hid h20.rd
      have HK8 := Lib.hid ((HK.out.behind B8.out).mono B8.out.size)
      have d3 := HC.out _ B8.out
      clear hb h20
      refine hK.out _ _ d3 (fun _ => ?_)
      clear hK K
      try simp only [Act.put, List.setIfInBounds_toArray, List.set_cons_zero, List.set_cons_succ]
      refine wpAnyH_ready (rs := [14]) (by kernel_rfl) (by simp) ?_
      apply AllReadyH.cons
      · simp only [List.getElem?_toArray, List.getElem?_cons_succ, List.getElem?_cons_zero]
        rfl
      rotate_left
      · exact AllReadyH.nil
      intro K hK
      go_simp
      refine (sameBytes_same H20.out HK8.out (Nat.le_refl _) (Nat.le_refl _)).mono ?_
      rintro e' w21 ⟨he, hb⟩
      subst he
      have B9 := Lib.hid (B8.out.trans (hb.mono B8.out.size))
      have d4 := HC.out _ B9.out
      clear hb
      refine hK.out _ _ d4 (fun _ => ?_)
      clear hK K
      try simp only [Act.put, List.setIfInBounds_toArray, List.set_cons_zero, List.set_cons_succ]
      apply wpAnyH_take (i := 15)
      · simp only [List.getElem?_toArray, List.getElem?_cons_succ, List.getElem?_cons_zero]
        rfl
      · kernel_rfl
      · kernel_rfl
      · kernel_rfl
      · exact fun _ _ _ h => h
      · first
          | exact Or.inr ⟨by rfl, rfl⟩
          | (refine Or.inl ⟨by rfl, fun _ _ => ?_⟩
             go_simp
             first
               | done
               | rfl)
      · exact d4
      simp only [Act.put, List.setIfInBounds_toArray, List.set_cons_zero, List.set_cons_succ]
      apply wpAnyH_take (i := 16)
      · simp only [List.getElem?_toArray, List.getElem?_cons_succ, List.getElem?_cons_zero]
        rfl
      · kernel_rfl
      · kernel_rfl
      · kernel_rfl
      · exact fun _ _ _ h => h
      · first
          | exact Or.inr ⟨by rfl, rfl⟩
          | (refine Or.inl ⟨by rfl, fun _ _ => ?_⟩
             go_simp
             first
               | done
               | rfl)
      · exact d4
      simp only [Act.put, List.setIfInBounds_toArray, List.set_cons_zero, List.set_cons_succ]
      refine wpAnyH_done (by kernel_rfl) ?_ _
      go_wp2_with fail
      go_ret
      exact ⟨rfl, HB.out.trans (B9.out.mono HB.out.size)⟩

end Go.Proofs.Ytlogljbbegklbaa
