/- FnPrivateWriting: the walk. No conditions. -/
import Derived.Test.YtdipignajccdcaaBaD
import Derived.Test.YtdipignajccdcaaBa4
import Derived.Test.YtdipignajccdcaaBaZ
import Derived.Test.YtdipignajccdcaaWrA
import Derived.Test.YtdipignajccdcaaWrB
import Derived.Test.YtdipignajccdcaaWr7
import Derived.Test.YtdipignajccdcaaWrP
import Derived.Test.YtdipignajccdcaaDraw11
import Derived.Test.YtdipignajccdcaaDb11
import Derived.Test.YtdipignajccdcaaHeldL
import Derived.Deep.RegionHeld3
import Derived.Deep.DeepCutAuto
namespace Go.Proofs.Ytdipignajccdcaa
open Go Go.RowKit
set_option linter.unusedVariables false
attribute [local irreducible] kh

theorem zip_take {l m : List VDatabase} {j : Nat} {a b : VDatabase} (h1 : l[j]? = some a) (h2 : m[j]? = some b) : (List.zipWith xd l m).take j ++ [xd a b] = (List.zipWith xd l m).take (j + 1) := by
  have h : (List.zipWith xd l m)[j]? = some (xd a b) := by rw [List.getElem?_zipWith, h1, h2]
  rw [List.take_add_one, h]
  rfl

set_option maxHeartbeats 16000000 in
set_option maxRecDepth 20000 in
theorem fnPrivateWriting_walk (a : Option Addr) (len cap : Nat) (zs : List Int) (w : World) (hrow : IsRow .u8 w a len cap zs) :
    Calls Try.prog 9 #[.slice a len cap] w fun e w' => e = .returned (.bool true) ∧ Below w.heap.size w w' := by
  obtain ⟨hr, hl⟩ := row_own hrow
  obtain ⟨s, A, l⟩ : ∃ s, Rd w.heap.size .u8 w (.slice a len cap) s ∧ len = s.length := ⟨zs.take len, hrow.rd, hrow.rd.len_eq⟩
  subst l
  have HA := Lib.hid A
  have HRow := Lib.hid hr
  have HLen := Lib.hid hl
  have hl' : s.length ≤ 9223372036854775807 := by unfold maxLen at hl; omega
  clear hr hrow hl A
  by_cases hbig : 1048576 < s.length
  · have e0 : decide ((1048576 : Int) < (s.length : Int)) = true := by simp; omega
    go_enter Try.func9, Try.ntmps9
    go_wp2_with fail
    refine (big_is a s.length cap _ hl').mono ?_
    rw [e0]
    rintro e w0 ⟨rfl, rfl⟩
    go_wp2_with fail
    go_ret
    exact ⟨rfl, Below.refl _ _⟩
  have e0 : decide ((1048576 : Int) < (s.length : Int)) = false := by simp; omega
  have hs : s.length ≤ 1048576 := by omega
  clear hbig
  obtain ⟨i1, hi', hy0, hy1, hy2⟩ := info_parts infoDatabase
  have Hhi' := Lib.hid hi'
  obtain ⟨i2, hi2, hu0, hu1, hu2⟩ := info_parts infou8
  have Hhi2 := Lib.hid hi2
  have HAt := Lib.hid (fun i => atv_bound (s := s) (fun i hi => HA.out.wf hi) i)
  obtain ⟨q0, hq0⟩ : ∃ q, q = atv s 0 := ⟨_, rfl⟩
  have b0 := HAt.out 0
  rw [← hq0] at b0
  have HQ0 := Lib.hid hq0
  have HB := Lib.hid (Below.refl w.heap.size w)
  clear hi' hi2 hq0
  go_enter Try.func9, Try.ntmps9
  go_wp2_with fail
  refine (big_is a s.length cap _ hl').mono ?_
  rw [e0]
  rintro e w0 ⟨rfl, hw0⟩
  obtain rfl : w = w0 := hw0.symm
  clear hw0
  go_wp2_with fail
  -- what is drawn
  refine (draw_mkw w.heap.size a s.length cap zs _ (Nat.le_refl _) HRow.out HLen.out).mono ?_
  rintro e w1 ⟨r, x, vc, vs, c, ss, rfl, r0, r1, x0, x1, hC, hS, lc, ls, hb⟩
  obtain ⟨ac, cc, hvc, _⟩ := hC.open
  obtain ⟨as', cs', hvs, _⟩ := hS.open
  obtain ⟨nc, hnc⟩ : ∃ n, n = c.length := ⟨_, rfl⟩
  obtain ⟨ns, hns⟩ : ∃ n, n = ss.length := ⟨_, rfl⟩
  rw [← hnc] at hvc
  rw [← hns] at hvs
  subst hvc
  subst hvs
  have HNc := Lib.hid hnc
  have HNs := Lib.hid hns
  have HCr := Lib.hid hC.rd
  have HSr := Lib.hid hS.rd
  have HWr : Hid ((Lit.int .i64 r).wf = true) := Lib.hid (wf_i64_of (by omega) (by omega))
  have HWx : Hid ((Lit.int .i64 x).wf = true) := Lib.hid (wf_i64_of (by omega) (by omega))
  have HLs : Hid (ss.length ≤ 1099511627776) := Lib.hid (by omega)
  have hns4 : ns ≤ 4 := by omega
  have HCu : Hid (U8s c) := Lib.hid hC.rd.1
  replace HA := Lib.hid ((HA.out.behind hb).mono hb.size)
  replace HB := Lib.hid hb
  clear hC hS hb hnc hns HRow
  go_wp2_with fail
  refine (impl_mkw HCr.out HSr.out (Nat.le_refl _) (Nat.le_refl _) HWr.out HWx.out).mono ?_
  obtain ⟨Q, hQ⟩ : ∃ Q, Q = mkw r x c ss := ⟨_, rfl⟩
  have HQe := Lib.hid hQ
  rw [← hQ]
  clear hQ
  rintro e w2 ⟨vl, rfl, hq, hb⟩
  obtain ⟨al, cl, hvl, _⟩ := slo_open hq
  have hvl1 := (List.cons.inj hvl).1
  obtain ⟨nl, hnl⟩ : ∃ n, n = Q.length := ⟨_, rfl⟩
  rw [← hnl] at hvl1
  clear hvl
  subst hvl1
  have HNl := Lib.hid hnl
  have HL := Lib.hid ((sliceT 39 tyDatabase).ord hq)
  replace HB := Lib.hid (HB.out.trans (hb.mono HB.out.size))
  replace HA := Lib.hid ((HA.out.behind hb).mono hb.size)
  replace HCr := Lib.hid ((HCr.out.behind hb).mono hb.size)
  replace HSr := Lib.hid ((HSr.out.behind hb).mono hb.size)
  clear hq hb hnl
  go_wp2_with fail
  refine (spec_mkw HCr.out HSr.out (Nat.le_refl _) (Nat.le_refl _) HWr.out HWx.out HLs.out).mono ?_
  rw [← HQe.out]
  rintro e w3 ⟨v3, rfl, hq, hb⟩
  obtain ⟨a3, c3, hv3, _⟩ := slo_open hq
  have hv31 := (List.cons.inj hv3).1
  rw [← HNl.out] at hv31
  clear hv3
  subst hv31
  replace HB := Lib.hid (HB.out.trans (hb.mono HB.out.size))
  replace HA := Lib.hid ((HA.out.behind hb).mono hb.size)
  replace HCr := Lib.hid ((HCr.out.behind hb).mono hb.size)
  replace HSr := Lib.hid ((HSr.out.behind hb).mono hb.size)
  replace HL := Lib.hid ((sliceT 39 tyDatabase).mono ((sliceT 39 tyDatabase).behind HL.out hb) hb.size)
  clear hq hb
  by_cases hk : mkwK r x c ss = true
  case neg =>
    have h0 : nl = 0 := by rw [HNl.out, HQe.out, mkw_no (by simpa using hk)]; rfl
    subst h0
    clear hk
    go_wp2_with fail
    go_ret
    exact ⟨rfl, HB.out⟩
  have hall := mkw_all hk HCu.out
  have hrow := rowOk_iff.1 (show rowOk r x c = true by unfold mkwK at hk; rw [Bool.and_eq_true] at hk; exact hk.1)
  obtain ⟨n, rfl⟩ : ∃ n : Nat, r = (n : Int) := ⟨r.toNat, by omega⟩
  obtain ⟨k, rfl⟩ : ∃ k : Nat, x = (k : Int) := ⟨x.toNat, by omega⟩
  have hkn : k < n := by omega
  have hn64 : n ≤ 64 := by omega
  have hkn' : (k : Int) < (n : Int) := by omega
  rw [Int.toNat_natCast, ← HQe.out] at hall
  obtain ⟨D1, hD1⟩ : ∃ W, W = whole (n : Int) (k : Int) c := ⟨_, rfl⟩
  rw [← hD1] at hall
  have HRk : Hid (∀ q : Nat, q < n → mkwK (n : Int) (q : Int) c ss = true) := Lib.hid (fun q hq => by
    unfold mkwK at hk ⊢
    rw [Bool.and_eq_true] at hk ⊢
    exact ⟨rowOk_iff.2 ⟨by omega, by omega, hrow.2.2⟩, hk.2⟩)
  have HRok : Hid (rowOk (n : Int) (k : Int) c = true) := Lib.hid (rowOk_iff.2 hrow)
  have hc24 : nc = 24 := by rw [HNc.out]; exact hrow.2.2
  subst hc24
  have HQl : Hid (nl = ns + 1 ∧ 1 ≤ ns ∧ ns ≤ 3) := Lib.hid (by rw [HNl.out, HNs.out]; exact ⟨hall.1, hall.2.1, hall.2.2.1⟩)
  have HQv : Hid (∀ z ∈ Q, Vn n z) := Lib.hid hall.2.2.2.1
  have HJ : Hid (jwK Q = true ∧ jw Q = D1) := Lib.hid hall.2.2.2.2
  have HD1 : Hid (tot D1 ≤ 1600 ∧ crw D1 ≤ 1 ∧ D1[k]? = some c ∧ D1.length = n ∧ Vn n D1) := Lib.hid (by
    rw [hD1]
    exact ⟨vd_fl (whole_vd HRok.out), whole_crw HRok.out, whole_at HRok.out, by rw [whole_len HRok.out, Int.toNat_natCast], by have h := whole_Vn HRok.out HCu.out; rwa [Int.toNat_natCast] at h⟩)
  have HTq : Hid (totL tyDatabase Q ≤ 1099511627776) := Lib.hid (by have h := Vn_totL HQv.out; have h2 := HQl.out; have h3 := HNl.out; omega)
  have e1 : ((nl : Int) == 0) = false := by rw [beq_eq_false_iff_ne]; have := HQl.out; omega
  have h1n : 1 ≤ n := by omega
  have HNum := Lib.hid (show 1 ≤ n ∧ n ≤ 64 ∧ ns ≤ 4 ∧ s.length ≤ 1048576 ∧ 0 ≤ q0 ∧ q0 ≤ 255 from ⟨h1n, hn64, hns4, hs, b0.1, b0.2⟩)
  clear hk hall hrow hD1 r0 r1 x0 x1 h1n hn64 hns4 hs b0 lc ls hl' e0
  go_wp2_with fail
  clear e1
  refine (impl_jw HL.out (Nat.le_refl _) HTq.out).mono ?_
  rw [HJ.out.1, HJ.out.2]
  rintro e w4 ⟨v4, rfl, h4, hb⟩
  obtain ⟨ad, cd, hv4, _⟩ := h4.open
  rw [HD1.out.2.2.2.1] at hv4
  subst hv4
  have HDr := Lib.hid h4.rd2
  replace HB := Lib.hid (HB.out.trans (hb.mono HB.out.size))
  replace HA := Lib.hid ((HA.out.behind hb).mono hb.size)
  replace HCr := Lib.hid ((HCr.out.behind hb).mono hb.size)
  replace HSr := Lib.hid ((HSr.out.behind hb).mono hb.size)
  replace HL := Lib.hid ((sliceT 39 tyDatabase).mono ((sliceT 39 tyDatabase).behind HL.out hb) hb.size)
  clear h4 hb
  have hb := (Below.refl w4.heap.size w4).alloc (Nat.le_refl _) (.cells #[.slice ad n cd] 39)
  have hdx := heap_alloc_new w4 (.cells #[.slice ad n cd] 39)
  obtain ⟨w5, hw5⟩ : ∃ x, x = w4.alloc (.cells #[.slice ad n cd] 39) := ⟨_, rfl⟩
  rw [← hw5] at hb hdx
  obtain ⟨DB1, hdb⟩ : ∃ b, b = w4.heap.size := ⟨_, rfl⟩
  rw [← hdb] at hdx
  have HDx := Lib.hid hdx
  replace HB := Lib.hid (HB.out.trans (hb.mono HB.out.size))
  replace HA := Lib.hid ((HA.out.behind hb).mono hb.size)
  replace HCr := Lib.hid ((HCr.out.behind hb).mono hb.size)
  replace HSr := Lib.hid ((HSr.out.behind hb).mono hb.size)
  replace HL := Lib.hid ((sliceT 39 tyDatabase).mono ((sliceT 39 tyDatabase).behind HL.out hb) hb.size)
  replace HDr := Lib.hid ((HDr.out.behind hb).mono hb.size)
  have HW5 := Lib.hid hw5
  have HDb := Lib.hid hdb
  have hnl := HQl.out.1
  have e2 : ((nl : Int) != (ns : Int) + 1) = false := by rw [hnl]; simp
  have e3 : wrap64 ((ns : Int) + 1) = (ns : Int) + 1 := by have := HNum.out; unfold wrap64; omega
  obtain ⟨pa, pc, hpv, _, _, hcell⟩ := HDr.out.open
  injection hpv with p1 p2 p3
  obtain ⟨b7, o7, hea, _, hcl7⟩ := hcell (by rw [HD1.out.2.2.2.1]; omega)
  clear hcell
  rw [hea] at p1
  clear hea
  subst p1
  obtain ⟨u7, c7, hr7⟩ := hcl7 w5 (Below.refl _ _) k _ HD1.out.2.2.1
  obtain ⟨a7, k7, hu7, _⟩ := hr7.open
  rw [← HNc.out] at hu7
  subst hu7
  have H7 := Lib.hid hr7
  have cD := blk_cell HDx.out 0
  rw [one0] at cD
  have cD0 := cD
  rw [hw5, hdb] at cD0
  have c70 := c7
  rw [hw5] at c70
  clear hb hdx hw5 hdb hcl7 hr7 p2 p3 hnl
  go_wp2_with fail
  rw [← HW5.out, ← HDb.out]
  clear cD0 c70
  obtain ⟨m9, hm9⟩ : ∃ m, m = crw D1 := ⟨_, rfl⟩
  have hm1 : m9 ≤ 1 := by rw [hm9]; exact HD1.out.2.1
  have HM9 := Lib.hid hm9
  have e9 : decide ((1 : Int) < (m9 : Int)) = false := decide_eq_false (by omega)
  clear hm9
  refine (sameBytes_same H7.out HCr.out (Nat.le_refl _) (Nat.le_refl _)).mono ?_
  rintro e w6 ⟨rfl, hb⟩
  replace HB := Lib.hid (HB.out.trans (hb.mono HB.out.size))
  replace HA := Lib.hid ((HA.out.behind hb).mono hb.size)
  replace HCr := Lib.hid ((HCr.out.behind hb).mono hb.size)
  replace HSr := Lib.hid ((HSr.out.behind hb).mono hb.size)
  replace HL := Lib.hid ((sliceT 39 tyDatabase).mono ((sliceT 39 tyDatabase).behind HL.out hb) hb.size)
  replace HDr := Lib.hid ((HDr.out.behind hb).mono hb.size)
  replace HDx := Lib.hid ((hb.block _ (lt_of_block HDx.out)).trans HDx.out)
  clear hb cD c7 H7
  have cD := blk_cell HDx.out 0
  rw [one0] at cD
  go_wp2_with fail
  refine (impl_crw HDr.out (Nat.le_refl _)).mono ?_
  rw [← HM9.out]
  rintro e w7 ⟨rfl, hb⟩
  replace HB := Lib.hid (HB.out.trans (hb.mono HB.out.size))
  replace HA := Lib.hid ((HA.out.behind hb).mono hb.size)
  replace HCr := Lib.hid ((HCr.out.behind hb).mono hb.size)
  replace HSr := Lib.hid ((HSr.out.behind hb).mono hb.size)
  replace HL := Lib.hid ((sliceT 39 tyDatabase).mono ((sliceT 39 tyDatabase).behind HL.out hb) hb.size)
  replace HDr := Lib.hid ((HDr.out.behind hb).mono hb.size)
  replace HDx := Lib.hid ((hb.block _ (lt_of_block HDx.out)).trans HDx.out)
  clear hb cD
  obtain ⟨x2, hx2⟩ : ∃ x2 : Nat, q0 % (n : Int) = (x2 : Int) := ⟨(q0 % (n : Int)).toNat, by have := Int.emod_nonneg q0 (show (n : Int) ≠ 0 by omega); omega⟩
  have hx2n : x2 < n := by have := Int.emod_lt_of_pos q0 (show (0 : Int) < (n : Int) by omega); omega
  have hx2t : q0.tmod (n : Int) = (x2 : Int) := by rw [Int.tmod_eq_emod_of_nonneg HNum.out.2.2.2.2.1]; exact hx2
  have hnz : ¬ n = 0 := by omega
  have hn0 : ((n : Int) == 0) = false := by simp; omega
  have HWx2 : Hid ((Lit.int .i64 (x2 : Int)).wf = true) := Lib.hid (by have := HNum.out; exact wf_i64_of (by omega) (by omega))
  go_wp2_with fail
  refine (at_any HA.out 0 (by omega) HNum.out.2.2.2.1).mono ?_
  rw [← HQ0.out]
  rintro e w8 ⟨⟨rfl, _, _⟩, hw⟩
  obtain rfl : w7 = w8 := hw.symm
  clear hw
  go_wp2_with fail
  refine (impl_mkw HCr.out HSr.out (Nat.le_refl _) (Nat.le_refl _) HWr.out HWx2.out).mono ?_
  have hall := mkw_all (HRk.out x2 hx2n) HCu.out
  obtain ⟨M, hM⟩ : ∃ M, M = mkw (n : Int) (x2 : Int) c ss := ⟨_, rfl⟩
  rw [Int.toNat_natCast, ← hM] at hall
  rw [← hM]
  rintro e w9 ⟨vm, rfl, hq, hb⟩
  obtain ⟨am, cm, hvm, _⟩ := slo_open hq
  have hvm1 := (List.cons.inj hvm).1
  have hml : M.length = nl := by rw [hall.1, HQl.out.1, HNs.out]
  rw [hml] at hvm1
  clear hvm
  subst hvm1
  have HMl := Lib.hid hml
  have HMv : Hid (∀ z ∈ M, Vn n z) := Lib.hid hall.2.2.2.1
  have HTm : Hid (totL tyDatabase M ≤ 1099511627776) := Lib.hid (by have h := Vn_totL HMv.out; have h2 := HQl.out; omega)
  have HZ := Lib.hid (jw_zip HQv.out HMv.out (by rw [hml, HNl.out]) (by have h2 := HQl.out; have h3 := HNl.out; omega) (by have h2 := HQl.out; have h3 := HNl.out; omega))
  obtain ⟨Zs, hZs⟩ : ∃ Z, Z = List.zipWith xd Q M := ⟨_, rfl⟩
  obtain ⟨D2, hD2⟩ : ∃ D, D = jw M := ⟨_, rfl⟩
  obtain ⟨D3, hD3⟩ : ∃ D, D = xd D1 D2 := ⟨_, rfl⟩
  rw [HJ.out.2, ← hZs, ← hD2, ← hD3] at HZ
  have HZv : Hid (∀ z ∈ Zs, Vn n z) := Lib.hid (by rw [hZs]; exact zip_mem HQv.out HMv.out)
  have HZl : Hid (Zs.length = nl) := Lib.hid (by rw [hZs, List.length_zipWith, hml, ← HNl.out]; exact Nat.min_self _)
  have HTz : Hid (totL tyDatabase Zs ≤ 1099511627776) := Lib.hid (by have h := Vn_totL HZv.out; have h2 := HQl.out; have h3 := HZl.out; omega)
  have HZa : Hid (∀ (j : Nat) (a b : VDatabase), Q[j]? = some a → M[j]? = some b → Zs.take j ++ [xd a b] = Zs.take (j + 1)) := Lib.hid (fun j a b h1 h2 => by rw [hZs]; exact zip_take h1 h2)
  have HD2 : Hid (tot D2 ≤ 1600 ∧ Vn n D2) := Lib.hid ⟨HZ.out.2.2.2.1.tot, HZ.out.2.2.2.1⟩
  have HD3 : Hid (tot D3 ≤ 1600 ∧ D3.length = n) := Lib.hid (by have h := (HD1.out.2.2.2.2.xd HD2.out.2).1; rw [← hD3] at h; exact ⟨h.tot, h.1⟩)
  have HD3e := Lib.hid hD3
  have HD2e := Lib.hid hD2
  have HM := Lib.hid ((sliceT 39 tyDatabase).ord hq)
  replace HB := Lib.hid (HB.out.trans (hb.mono HB.out.size))
  replace HA := Lib.hid ((HA.out.behind hb).mono hb.size)
  replace HCr := Lib.hid ((HCr.out.behind hb).mono hb.size)
  replace HSr := Lib.hid ((HSr.out.behind hb).mono hb.size)
  replace HL := Lib.hid ((sliceT 39 tyDatabase).mono ((sliceT 39 tyDatabase).behind HL.out hb) hb.size)
  replace HDr := Lib.hid ((HDr.out.behind hb).mono hb.size)
  replace HDx := Lib.hid ((hb.block _ (lt_of_block HDx.out)).trans HDx.out)
  clear hq hb hall hM hml hZs hD2 hD3 hx2 hx2t
  -- the loop: the base world
  have hlit := slo_lit (w := w9) (e := 39 ) (T := tyDatabase) (F := fun b => b = w9.heap.size) rfl
  have hba := (Below.refl w9.heap.size w9).alloc (Nat.le_refl _) (.cells #[] 39 )
  have HLit := Lib.hid hlit
  have HBa := Lib.hid hba
  obtain ⟨nQ, hnQ⟩ : ∃ q : Nat, q = nl := ⟨_, rfl⟩
  have hnQ4 : nl ≤ 4 := by have := HQl.out; omega
  clear hlit hba hnQ
  go_wp2_with fail
  go_loopw [11, 12] (fun so i wr => ∃ (j : Nat) (F : Nat → Prop), i = .int .i64 j ∧ j ≤ nl ∧ (sliceT 39 tyDatabase).own F wr [so] (Zs.take j) ∧ (∀ b, F b → w9.heap.size ≤ b ∧ b < wr.heap.size) ∧ Below w9.heap.size w9 wr) (fun _ i _ => nl - (intOf i).toNat)
  case atStart => exact ⟨0, _, rfl, Nat.zero_le _, HLit.out, fun b hb => by simp; omega, HBa.out⟩
  case round =>
    obtain ⟨j, F, rfl, hj, hO, hF, hB⟩ := hrel
    have HO := Lib.hid hO
    have HF := Lib.hid hF
    have HBr := Lib.hid hB
    have HSo := Lib.hid (slo_in hO)
    obtain ⟨ao, co, hso, _⟩ := slo_open hO
    have hso1 := (List.cons.inj hso).1
    have hol : (Zs.take j).length = j := by rw [List.length_take, HZl.out]; omega
    rw [hol] at hso1
    have HOl := Lib.hid hol
    clear hso
    subst hso1
    clear hO hF hB hol
    by_cases hlt : j < nl
    case pos =>
      have e4 : decide ((j : Int) < (nl : Int)) = true := by simp; omega
      have hjn : (j : Int) < (nl : Int) := by omega
      obtain ⟨x1, hx1⟩ : ∃ x, Q[j]? = some x := ⟨_, List.getElem?_eq_getElem (by rw [← HNl.out]; exact hlt)⟩
      obtain ⟨y1, hy1'⟩ : ∃ x, M[j]? = some x := ⟨_, List.getElem?_eq_getElem (by rw [HMl.out]; exact hlt)⟩
      have HZj := Lib.hid (HZa.out j x1 y1 hx1 hy1')
      have hv1 := HQv.out x1 (List.mem_of_getElem? hx1)
      have hv2 := HMv.out y1 (List.mem_of_getElem? hy1')
      have HT1 : Hid (tot x1 ≤ 1099511627776) := Lib.hid (Nat.le_trans hv1.tot (by decide))
      have HT2 : Hid (tot y1 ≤ 1099511627776) := Lib.hid (Nat.le_trans hv2.tot (by decide))
      have HK : Hid (xdK x1 y1 = true) := Lib.hid (hv1.k hv2)
      have HX : Hid ((xd x1 y1).length = n) := Lib.hid (hv1.xd hv2).1.1
      obtain ⟨apl, cpl, hpl, _, _, hcL⟩ := sl_open HL.out
      have hpl1 := (List.cons.inj hpl).1
      injection hpl1 with p1 p2 p3
      obtain ⟨bl, ol, hal, hbl, hcL⟩ := hcL (by rw [← HNl.out]; omega)
      rw [hal] at p1
      subst p1
      obtain ⟨c1, hr1, hc1⟩ := hcL wr HBr.out j x1 hx1
      obtain ⟨a1, k1, rfl, hr1'⟩ := rd_Database hr1
      have hrx : Rd2 w9.heap.size .u8 wr (.slice a1 x1.length k1) x1 := rd2_of_sl2 hr1'
      have d1 : wr.cell? ⟨bl, ol + j, none⟩ = some (.slice a1 x1.length k1) := by have := hc1 0 _ rfl; rwa [show j * tyDatabase.sz + 0 = j from Nat.mul_one j] at this
      obtain ⟨apm, cpm, hpm, _, _, hcM⟩ := sl_open HM.out
      have hpm1 := (List.cons.inj hpm).1
      injection hpm1 with r1 r2 r3
      obtain ⟨bm, om, ham, hbm, hcM⟩ := hcM (by rw [HMl.out]; omega)
      rw [ham] at r1
      subst r1
      obtain ⟨c2, hr2, hc2⟩ := hcM wr HBr.out j y1 hy1'
      obtain ⟨a2, k2, rfl, hr2'⟩ := rd_Database hr2
      have hry : Rd2 w9.heap.size .u8 wr (.slice a2 y1.length k2) y1 := rd2_of_sl2 hr2'
      have d2 : wr.cell? ⟨bm, om + j, none⟩ = some (.slice a2 y1.length k2) := by have := hc2 0 _ rfl; rwa [show j * tyDatabase.sz + 0 = j from Nat.mul_one j] at this
      obtain ⟨m1, hm1⟩ : ∃ m, m = x1.length := ⟨_, rfl⟩
      obtain ⟨m2, hm2⟩ : ∃ m, m = y1.length := ⟨_, rfl⟩
      rw [← hm1] at hrx d1
      rw [← hm2] at hry d2
      have HS : Hid (∀ w', Below wr.heap.size wr w' → w'.cell? ⟨bl, ol + j, none⟩ = some (.slice a1 m1 k1) ∧ w'.cell? ⟨bm, om + j, none⟩ = some (.slice a2 m2 k2)) := Lib.hid (fun w' hb => ⟨(hb.cell (p := ⟨bl, ol + j, none⟩) (Nat.lt_of_lt_of_le hbl HBr.out.size)).trans d1, (hb.cell (p := ⟨bm, om + j, none⟩) (Nat.lt_of_lt_of_le hbm HBr.out.size)).trans d2⟩)
      have d0 := HS.out wr.drew (Below.refl _ _).drew
      have HRx := Lib.hid hrx
      have HRy := Lib.hid hry
      have HSz : Hid (w9.heap.size ≤ wr.heap.size) := Lib.hid HBr.out.size
      clear hx1 hy1' hv1 hv2 hpl p2 p3 hcL hr1 hr1' hc1 hrx d1 hpm r2 r3 hcM hr2 hr2' hc2 hry d2 hm1 hm2 hal ham
      go_wp2_with fail
      go_cut [13, 14] (fun p b wx => ∃ (E : Nat) (G : Nat → Prop) (a : Option Addr) (c : Nat), p = .pointer (some ⟨E, 0, none⟩) ∧ b = .bool true ∧ tyDatabase.own G wx [.slice a n c] (xd x1 y1) ∧ (∀ b, G b → wr.heap.size ≤ b ∧ b < wx.heap.size) ∧ wx.heap[E]? = some (.cells #[.slice a n c] 39 ) ∧ Below wr.heap.size wr wx)
      case first =>
        refine region_till (fun w' => w'.cell? ⟨bl, ol + j, none⟩ = some (.slice a1 m1 k1) ∧ w'.cell? ⟨bm, om + j, none⟩ = some (.slice a2 m2 k2)) 14 (by kernel_rfl) ?_
        obtain ⟨wd, hwd⟩ : ∃ x, x = wr.drew := ⟨_, rfl⟩
        have HZd : Hid (wr.heap.size = wd.heap.size) := Lib.hid (by rw [hwd]; rfl)
        have HBd : Hid (Below wr.heap.size wr wd) := Lib.hid (by rw [hwd]; exact (Below.refl _ _).drew)
        have HSd : Hid (∀ w', Below wd.heap.size wd w' → w'.cell? ⟨bl, ol + j, none⟩ = some (.slice a1 m1 k1) ∧ w'.cell? ⟨bm, om + j, none⟩ = some (.slice a2 m2 k2)) := Lib.hid (fun w' hb => HS.out w' (HBd.out.trans (by rw [HZd.out]; exact hb)))
        have HRxd := Lib.hid (HRx.out.behind (HBd.out.mono HSz.out))
        have HRyd := Lib.hid (HRy.out.behind (HBd.out.mono HSz.out))
        have HLd : Hid (w9.heap.size ≤ wd.heap.size) := Lib.hid (by rw [← HZd.out]; exact HSz.out)
        rw [← hwd] at d0 ⊢
        clear hwd
        apply Till.take (i := 0) [0, 2, 3, 8, 9, 11, 14]
        · simp only [List.getElem?_toArray, List.getElem?_cons_zero]
          rfl
        · kernel_rfl
        · kernel_rfl
        · kernel_rfl
        · kernel_rfl
        · exact fun _ _ _ h => h
        · first
            | exact Or.inr ⟨by rfl, rfl⟩
            | (refine Or.inl ⟨by rfl, fun wq hwq => ?_⟩
               dsimp only at hwq
               go_simp
               first
                 | done
                 | rfl)
        · exact d0
        simp only [Act.put, List.setIfInBounds_toArray, List.set_cons_zero, List.set_cons_succ]
        apply Till.take (i := 1) [1, 2, 3, 8, 9, 11, 14]
        · simp only [List.getElem?_toArray, List.getElem?_cons_succ, List.getElem?_cons_zero]
          rfl
        · kernel_rfl
        · kernel_rfl
        · kernel_rfl
        · kernel_rfl
        · exact fun _ _ _ h => h
        · first
            | exact Or.inr ⟨by rfl, rfl⟩
            | (refine Or.inl ⟨by rfl, fun wq hwq => ?_⟩
               dsimp only at hwq
               go_simp
               first
                 | done
                 | rfl)
        · exact d0
        simp only [Act.put, List.setIfInBounds_toArray, List.set_cons_zero, List.set_cons_succ]
        apply Till.take (i := 2) [2, 3, 8, 9, 11, 14]
        · simp only [List.getElem?_toArray, List.getElem?_cons_succ, List.getElem?_cons_zero]
          rfl
        · kernel_rfl
        · kernel_rfl
        · kernel_rfl
        · kernel_rfl
        · exact fun _ _ _ h => h
        · first
            | exact Or.inr ⟨by rfl, rfl⟩
            | (refine Or.inl ⟨by rfl, fun wq hwq => ?_⟩
               dsimp only at hwq
               go_simp
               first
                 | done
                 | rfl)
        · exact d0
        simp only [Act.put, List.setIfInBounds_toArray, List.set_cons_zero, List.set_cons_succ]
        apply Till.take (i := 3) [3, 8, 9, 11, 14]
        · simp only [List.getElem?_toArray, List.getElem?_cons_succ, List.getElem?_cons_zero]
          rfl
        · kernel_rfl
        · kernel_rfl
        · kernel_rfl
        · kernel_rfl
        · exact fun _ _ _ h => h
        · first
            | exact Or.inr ⟨by rfl, rfl⟩
            | (refine Or.inl ⟨by rfl, fun wq hwq => ?_⟩
               dsimp only at hwq
               go_simp
               first
                 | done
                 | rfl)
        · exact d0
        simp only [Act.put, List.setIfInBounds_toArray, List.set_cons_zero, List.set_cons_succ]
        apply Till.take (i := 4) [4, 6, 7, 8, 9, 11, 14]
        · simp only [List.getElem?_toArray, List.getElem?_cons_succ, List.getElem?_cons_zero]
          rfl
        · kernel_rfl
        · kernel_rfl
        · kernel_rfl
        · kernel_rfl
        · exact fun _ _ _ h => h
        · first
            | exact Or.inr ⟨by rfl, rfl⟩
            | (refine Or.inl ⟨by rfl, fun wq hwq => ?_⟩
               dsimp only at hwq
               go_simp
               first
                 | done
                 | rfl)
        · exact d0
        simp only [Act.put, List.setIfInBounds_toArray, List.set_cons_zero, List.set_cons_succ]
        apply Till.take (i := 5) [5, 6, 7, 8, 9, 11, 14]
        · simp only [List.getElem?_toArray, List.getElem?_cons_succ, List.getElem?_cons_zero]
          rfl
        · kernel_rfl
        · kernel_rfl
        · kernel_rfl
        · kernel_rfl
        · exact fun _ _ _ h => h
        · first
            | exact Or.inr ⟨by rfl, rfl⟩
            | (refine Or.inl ⟨by rfl, fun wq hwq => ?_⟩
               dsimp only at hwq
               go_simp
               first
                 | done
                 | rfl)
        · exact d0
        simp only [Act.put, List.setIfInBounds_toArray, List.set_cons_zero, List.set_cons_succ]
        apply Till.take (i := 6) [6, 7, 8, 9, 11, 14]
        · simp only [List.getElem?_toArray, List.getElem?_cons_succ, List.getElem?_cons_zero]
          rfl
        · kernel_rfl
        · kernel_rfl
        · kernel_rfl
        · kernel_rfl
        · exact fun _ _ _ h => h
        · first
            | exact Or.inr ⟨by rfl, rfl⟩
            | (refine Or.inl ⟨by rfl, fun wq hwq => ?_⟩
               dsimp only at hwq
               go_simp
               first
                 | done
                 | rfl)
        · exact d0
        simp only [Act.put, List.setIfInBounds_toArray, List.set_cons_zero, List.set_cons_succ]
        apply Till.take (i := 7) [7, 8, 9, 11, 14]
        · simp only [List.getElem?_toArray, List.getElem?_cons_succ, List.getElem?_cons_zero]
          rfl
        · kernel_rfl
        · kernel_rfl
        · kernel_rfl
        · kernel_rfl
        · exact fun _ _ _ h => h
        · first
            | exact Or.inr ⟨by rfl, rfl⟩
            | (refine Or.inl ⟨by rfl, fun wq hwq => ?_⟩
               dsimp only at hwq
               go_simp
               first
                 | done
                 | rfl)
        · exact d0
        simp only [Act.put, List.setIfInBounds_toArray, List.set_cons_zero, List.set_cons_succ]
        apply Till.two (i := 8) (j := 12)
        · kernel_rfl
        · simp only [List.getElem?_toArray, List.getElem?_cons_succ, List.getElem?_cons_zero]
          rfl
        · simp only [List.getElem?_toArray, List.getElem?_cons_succ, List.getElem?_cons_zero]
          rfl
        · intro K hK
          go_simp
          refine (impl_aw HRxd.out HRyd.out HLd.out HLd.out HT1.out HT2.out).mono ?_
          rw [HK.out]
          rintro e' w3' ⟨v3, he, h3, hb3⟩
          subst he
          obtain ⟨a3', c3', hv3, _⟩ := h3.open
          rw [HX.out] at hv3
          subst hv3
          have d3 := HSd.out w3' hb3
          have HO0 := Lib.hid (h3.alloc (.cells #[.slice none 0 0] 39))
          have HE0 := Lib.hid (heap_alloc_new w3' (.cells #[.slice none 0 0] 39))
          have HBz0 : Hid (Below wd.heap.size wd (w3'.alloc (.cells #[.slice none 0 0] 39))) := Lib.hid (hb3.alloc hb3.size (.cells #[.slice none 0 0] 39))
          have HZ3 := Lib.hid hb3.size
          clear h3 hb3
          refine hK.out _ _ (Or.inr d3) ?_
          clear hK K
          try simp only [Act.put, List.setIfInBounds_toArray, List.set_cons_zero, List.set_cons_succ]
          apply Till.take (i := 9) [9, 11, 14]
          · simp only [List.getElem?_toArray, List.getElem?_cons_succ, List.getElem?_cons_zero]
            rfl
          · kernel_rfl
          · kernel_rfl
          · kernel_rfl
          · kernel_rfl
          · exact fun _ _ _ h => h
          · first
              | exact Or.inr ⟨by rfl, rfl⟩
              | (refine Or.inl ⟨by rfl, fun wq hwq => ?_⟩
                 dsimp only at hwq
                 go_simp
                 first
                   | done
                   | rfl)
          · exact d3
          simp only [Act.put, List.setIfInBounds_toArray, List.set_cons_zero, List.set_cons_succ]
          apply Till.take (i := 10) [10, 13, 14]
          · simp only [List.getElem?_toArray, List.getElem?_cons_succ, List.getElem?_cons_zero]
            rfl
          · kernel_rfl
          · kernel_rfl
          · kernel_rfl
          · kernel_rfl
          · exact fun _ _ _ h => h
          · first
              | exact Or.inr ⟨by rfl, rfl⟩
              | (refine Or.inl ⟨by rfl, fun wq hwq => ?_⟩
                 dsimp only at hwq
                 go_simp
                 first
                   | done
                   | rfl)
          · exact d3
          simp only [Act.put, List.setIfInBounds_toArray, List.set_cons_zero, List.set_cons_succ]
          apply Till.take (i := 11) [11, 14]
          · simp only [List.getElem?_toArray, List.getElem?_cons_succ, List.getElem?_cons_zero]
            rfl
          · kernel_rfl
          · kernel_rfl
          · kernel_rfl
          · kernel_rfl
          · exact fun _ _ _ h => h
          · first
              | exact Or.inr ⟨by rfl, rfl⟩
              | (refine Or.inl ⟨by rfl, fun wq hwq => ?_⟩
                 dsimp only at hwq
                 go_simp
                 first
                   | done
                   | rfl)
          · exact d3
          simp only [Act.put, List.setIfInBounds_toArray, List.set_cons_zero, List.set_cons_succ]
          have d5 := HSd.out _ HBz0.out
          apply Till.one (i := 12)
          · kernel_rfl
          · simp only [List.getElem?_toArray, List.getElem?_cons_succ, List.getElem?_cons_zero]
            rfl
          intro K hK
          go_simp
          skip
          refine hK.out _ _ (Or.inr d5) ?_
          clear hK K
          try simp only [Act.put, List.setIfInBounds_toArray, List.set_cons_zero, List.set_cons_succ]
          obtain ⟨wz, hwz⟩ : ∃ x, x = w3'.alloc (.cells #[.slice none 0 0] 39) := ⟨_, rfl⟩
          obtain ⟨E, hE⟩ : ∃ x, x = w3'.heap.size := ⟨_, rfl⟩
          obtain ⟨G3, hG3⟩ : ∃ G, G = ival wd.heap.size w3'.heap.size := ⟨_, rfl⟩
          have HEb : Hid (wd.heap.size ≤ E ∧ wd.heap.size ≤ wz.heap.size) := Lib.hid (by rw [hE, hwz]; have h := HZ3.out; simp; omega)
          have HG3 : Hid (∀ b, G3 b → wd.heap.size ≤ b ∧ b < wz.heap.size ∧ b ≠ E) := Lib.hid (fun b hb => by rw [hG3] at hb; rw [hwz, hE]; unfold ival at hb; simp; omega)
          rw [← hG3] at HO0
          rw [← hwz] at HO0 HE0 HBz0 d5 ⊢
          rw [← hE] at HE0 ⊢
          have HO3 := HO0
          have HE := HE0
          have HBz := HBz0
          have d3 := d5
          clear hwz hE hG3 HO0 HE0 HBz0 HZ3 d5
          have cE := blk_cell HE.out 0
          have fE := blk_free HE.out 0
          rw [one0] at cE
          obtain ⟨t1, t2, t3⟩ := store1 HE.out (.slice a3' n c3')
          have hB9 : Below wd.heap.size wd (wz.setCell ⟨E, 0, none⟩ (.slice a3' n c3')) := HBz.out.trans (t3.below (fun b hb => by have := HEb.out; omega) HBz.out.size)
          have d4 := HSd.out _ hB9
          have HX9 := Lib.hid (tyDatabase.okept (slo2_of_own2 HO3.out) t3 (fun b hb e => (HG3.out b hb).2.2 e))
          have HT1 := Lib.hid t1
          have HB9 := Lib.hid hB9
          clear t1 t2 t3 hB9 d3
          apply Till.one (i := 13)
          · kernel_rfl
          · simp only [List.getElem?_toArray, List.getElem?_cons_succ, List.getElem?_cons_zero]
            rfl
          intro K hK
          go_simp
          skip
          refine hK.out _ _ (Or.inr d4) ?_
          clear hK K
          try simp only [Act.put, List.setIfInBounds_toArray, List.set_cons_zero, List.set_cons_succ]
          apply Till.one (i := 14)
          · kernel_rfl
          · simp only [List.getElem?_toArray, List.getElem?_cons_succ, List.getElem?_cons_zero]
            rfl
          intro K hK
          go_simp
          skip
          refine hK.out _ _ (Or.inl (by rfl)) ?_
          clear hK K
          try simp only [Act.put, List.setIfInBounds_toArray, List.set_cons_zero, List.set_cons_succ]
          refine Till.done (by kernel_rfl) ?_ _
          clear cE fE d4
          obtain ⟨wy, hwy⟩ : ∃ x, x = wz.setCell ⟨E, 0, none⟩ (.slice a3' n c3') := ⟨_, rfl⟩
          have HZy : Hid (wy.heap.size = wz.heap.size) := Lib.hid (by rw [hwy, World.setCell_size])
          rw [← hwy] at HT1 HX9 HB9 ⊢
          clear hwy
          go_wp2_with fail
          go_meet
          case rel => exact ⟨E, _, a3', c3', rfl, rfl, HX9.out, fun b hb => by have h1 := HG3.out b hb; have h2 := HZy.out; have h3 := HZd.out; omega, HT1.out, HBd.out.trans (by have h := HB9.out; rw [← HZd.out] at h; exact h)⟩
        · intro K hK
          go_simp
          have HB1 : Hid (Below wd.heap.size wd (wd.alloc (.cells #[.slice none 0 0] 39))) := Lib.hid ((Below.refl _ _).alloc (Nat.le_refl _) (.cells #[.slice none 0 0] 39))
          have HE0 := Lib.hid (heap_alloc_new wd (.cells #[.slice none 0 0] 39))
          have d2 := HSd.out _ HB1.out
          refine hK.out _ _ (Or.inr d2) ?_
          clear hK K
          try simp only [Act.put, List.setIfInBounds_toArray, List.set_cons_zero, List.set_cons_succ]
          obtain ⟨wq, hwq⟩ : ∃ x, x = wd.alloc (.cells #[.slice none 0 0] 39) := ⟨_, rfl⟩
          have HZq : Hid (wq.heap.size = wd.heap.size + 1) := Lib.hid (by rw [hwq]; simp)
          rw [← hwq] at HB1 HE0 d2 ⊢
          obtain ⟨E, hE⟩ : ∃ x, x = wd.heap.size := ⟨_, rfl⟩
          have HEe := Lib.hid hE
          rw [← hE] at HE0 ⊢
          clear hwq hE
          apply Till.one (i := 8)
          · kernel_rfl
          · simp only [List.getElem?_toArray, List.getElem?_cons_succ, List.getElem?_cons_zero]
            rfl
          intro K hK
          go_simp
          refine (impl_aw (HRxd.out.behind (HB1.out.mono HLd.out)) (HRyd.out.behind (HB1.out.mono HLd.out)) (Nat.le_trans HLd.out HB1.out.size) (Nat.le_trans HLd.out HB1.out.size) HT1.out HT2.out).mono ?_
          rw [HK.out]
          rintro e' w3' ⟨v3, he, h3, hb3⟩
          subst he
          obtain ⟨a3', c3', hv3, _⟩ := h3.open
          rw [HX.out] at hv3
          subst hv3
          have HE := Lib.hid ((hb3.block _ (lt_of_block HE0.out)).trans HE0.out)
          have HBz : Hid (Below wd.heap.size wd w3') := Lib.hid (HB1.out.trans (hb3.mono HB1.out.size))
          have d3 := HSd.out w3' HBz.out
          have HO0 := Lib.hid h3
          have HZ3 := Lib.hid hb3.size
          clear h3 hb3 d2
          refine hK.out _ _ (Or.inr d3) ?_
          clear hK K
          try simp only [Act.put, List.setIfInBounds_toArray, List.set_cons_zero, List.set_cons_succ]
          apply Till.take (i := 9) [9, 11, 14]
          · simp only [List.getElem?_toArray, List.getElem?_cons_succ, List.getElem?_cons_zero]
            rfl
          · kernel_rfl
          · kernel_rfl
          · kernel_rfl
          · kernel_rfl
          · exact fun _ _ _ h => h
          · first
              | exact Or.inr ⟨by rfl, rfl⟩
              | (refine Or.inl ⟨by rfl, fun wq hwq => ?_⟩
                 dsimp only at hwq
                 go_simp
                 first
                   | done
                   | rfl)
          · exact d3
          simp only [Act.put, List.setIfInBounds_toArray, List.set_cons_zero, List.set_cons_succ]
          apply Till.take (i := 10) [10, 13, 14]
          · simp only [List.getElem?_toArray, List.getElem?_cons_succ, List.getElem?_cons_zero]
            rfl
          · kernel_rfl
          · kernel_rfl
          · kernel_rfl
          · kernel_rfl
          · exact fun _ _ _ h => h
          · first
              | exact Or.inr ⟨by rfl, rfl⟩
              | (refine Or.inl ⟨by rfl, fun wq hwq => ?_⟩
                 dsimp only at hwq
                 go_simp
                 first
                   | done
                   | rfl)
          · exact d3
          simp only [Act.put, List.setIfInBounds_toArray, List.set_cons_zero, List.set_cons_succ]
          apply Till.take (i := 11) [11, 14]
          · simp only [List.getElem?_toArray, List.getElem?_cons_succ, List.getElem?_cons_zero]
            rfl
          · kernel_rfl
          · kernel_rfl
          · kernel_rfl
          · kernel_rfl
          · exact fun _ _ _ h => h
          · first
              | exact Or.inr ⟨by rfl, rfl⟩
              | (refine Or.inl ⟨by rfl, fun wq hwq => ?_⟩
                 dsimp only at hwq
                 go_simp
                 first
                   | done
                   | rfl)
          · exact d3
          simp only [Act.put, List.setIfInBounds_toArray, List.set_cons_zero, List.set_cons_succ]
          obtain ⟨wz, hwz⟩ : ∃ x, x = w3' := ⟨_, rfl⟩
          obtain ⟨G3, hG3⟩ : ∃ G, G = ival wq.heap.size w3'.heap.size := ⟨_, rfl⟩
          have HEb : Hid (wd.heap.size ≤ E ∧ wd.heap.size ≤ wz.heap.size) := Lib.hid (by rw [HEe.out, hwz]; have h := HZ3.out; have h2 := HZq.out; omega)
          have HG3 : Hid (∀ b, G3 b → wd.heap.size ≤ b ∧ b < wz.heap.size ∧ b ≠ E) := Lib.hid (fun b hb => by rw [hG3] at hb; rw [hwz, HEe.out]; have h2 := HZq.out; unfold ival at hb; omega)
          rw [← hG3] at HO0
          rw [← hwz] at HO0 HE HBz d3 ⊢
          have HO3 := HO0
          clear hwz hG3 HO0 HZ3 HE0 HB1
          have cE := blk_cell HE.out 0
          have fE := blk_free HE.out 0
          rw [one0] at cE
          obtain ⟨t1, t2, t3⟩ := store1 HE.out (.slice a3' n c3')
          have hB9 : Below wd.heap.size wd (wz.setCell ⟨E, 0, none⟩ (.slice a3' n c3')) := HBz.out.trans (t3.below (fun b hb => by have := HEb.out; omega) HBz.out.size)
          have d4 := HSd.out _ hB9
          have HX9 := Lib.hid (tyDatabase.okept (slo2_of_own2 HO3.out) t3 (fun b hb e => (HG3.out b hb).2.2 e))
          have HT1 := Lib.hid t1
          have HB9 := Lib.hid hB9
          clear t1 t2 t3 hB9 d3
          apply Till.one (i := 13)
          · kernel_rfl
          · simp only [List.getElem?_toArray, List.getElem?_cons_succ, List.getElem?_cons_zero]
            rfl
          intro K hK
          go_simp
          skip
          refine hK.out _ _ (Or.inr d4) ?_
          clear hK K
          try simp only [Act.put, List.setIfInBounds_toArray, List.set_cons_zero, List.set_cons_succ]
          apply Till.one (i := 14)
          · kernel_rfl
          · simp only [List.getElem?_toArray, List.getElem?_cons_succ, List.getElem?_cons_zero]
            rfl
          intro K hK
          go_simp
          skip
          refine hK.out _ _ (Or.inl (by rfl)) ?_
          clear hK K
          try simp only [Act.put, List.setIfInBounds_toArray, List.set_cons_zero, List.set_cons_succ]
          refine Till.done (by kernel_rfl) ?_ _
          clear cE fE d4
          obtain ⟨wy, hwy⟩ : ∃ x, x = wz.setCell ⟨E, 0, none⟩ (.slice a3' n c3') := ⟨_, rfl⟩
          have HZy : Hid (wy.heap.size = wz.heap.size) := Lib.hid (by rw [hwy, World.setCell_size])
          rw [← hwy] at HT1 HX9 HB9 ⊢
          clear hwy
          go_wp2_with fail
          go_meet
          case rel => exact ⟨E, _, a3', c3', rfl, rfl, HX9.out, fun b hb => by have h1 := HG3.out b hb; have h2 := HZy.out; have h3 := HZd.out; omega, HT1.out, HBd.out.trans (by have h := HB9.out; rw [← HZd.out] at h; exact h)⟩
      case rest =>
        obtain ⟨E, G, ex, ec, rfl, rfl, hX, hG, hE, hb⟩ := hcut
        have HXo := Lib.hid hX
        have HG := Lib.hid hG
        have HBx := Lib.hid hb
        have HOx := Lib.hid ((sliceT 39 tyDatabase).onext HO.out hb)
        have cE := blk_cell hE 0
        rw [one0] at cE
        have HOa : Hid ((sliceT 39 tyDatabase).own F (wc.alloc (.cells #[.slice ex n ec] 39)) [.slice ao j co] (Zs.take j)) := Lib.hid ((sliceT 39 tyDatabase).oalloc HOx.out (.cells #[.slice ex n ec] 39))
        have HXa : Hid (tyDatabase.own G (wc.alloc (.cells #[.slice ex n ec] 39)) [.slice ex n ec] (xd x1 y1)) := Lib.hid (tyDatabase.oalloc HXo.out (.cells #[.slice ex n ec] 39))
        have HFa : Hid (∀ b, F b → b < (wc.alloc (.cells #[.slice ex n ec] 39)).heap.size) := Lib.hid (fun b hb => by have h1 := HF.out b hb; have h2 := HBx.out.size; simp; omega)
        have HGa : Hid (∀ b, G b → b < (wc.alloc (.cells #[.slice ex n ec] 39)).heap.size) := Lib.hid (fun b hb => by have h1 := HG.out b hb; simp; omega)
        have HDj : Hid (∀ b, G b → ¬ F b) := Lib.hid (fun b hg hf => by have h1 := HF.out b hf; have h2 := HG.out b hg; omega)
        have HLo : Hid (((Zs.take j).length + 1) * 24 ≤ 140737488355328) := Lib.hid (by rw [HOl.out]; omega)
        have HBc : Hid (Below w9.heap.size w9 (wc.alloc (.cells #[.slice ex n ec] 39))) := Lib.hid ((HBr.out.trans (hb.mono HSz.out)).alloc (Nat.le_trans HSz.out hb.size) (.cells #[.slice ex n ec] 39))
        clear hX hG hE hb
        go_wp2_with (first | (at_builtin; refine append_slo _ rfl _ _ 24 rfl 39 i1 (.agg #[.slice none 0 0]) 24 Try.underlying24 Hhi'.out hy0 hy1 hy2 rfl (by omega) rfl HOa.out HFa.out rfl HXa.out HDj.out HGa.out (fun j u hu => cell_one_new _ _ _ j u hu) HLo.out ?_))
        rw [HZj.out]
        intro v8 w8 h8 hg8
        have HB8 := Lib.hid (HBc.out.grown hg8 HBc.out.size (fun b hb => (HF.out b (HSo.out b hb)).1))
        have H8 := Lib.hid h8
        have HZ8 : Hid (wc.heap.size + 1 ≤ w8.heap.size) := Lib.hid (by have := hg8.size; simpa using this)
        clear h8 hg8 cE
        go_wp2_with fail
        go_roundw
        case rel =>
          refine ⟨j + 1, _, by simp, hlt, H8.out, fun b hb => ?_, HB8.out⟩
          have h1 := HZ8.out
          have h2 := HBx.out.size
          have h3 := HSz.out
          rcases hb with hb | hb | hb
          · have := HF.out b hb; omega
          · have := HG.out b hb; omega
          · try simp at hb
            omega
        case measure => simp [intOf]; omega
    have e4 : decide ((j : Int) < (nl : Int)) = false := by simp; omega
    have ej : Zs.take j = Zs := List.take_of_length_le (by rw [HZl.out]; omega)
    rw [ej] at HO
    have hb := HBr.out
    replace HB := Lib.hid (HB.out.trans (hb.mono HB.out.size))
    replace HA := Lib.hid ((HA.out.behind hb).mono hb.size)
    replace HCr := Lib.hid ((HCr.out.behind hb).mono hb.size)
    replace HSr := Lib.hid ((HSr.out.behind hb).mono hb.size)
    replace HL := Lib.hid ((sliceT 39 tyDatabase).mono ((sliceT 39 tyDatabase).behind HL.out hb) hb.size)
    replace HDr := Lib.hid ((HDr.out.behind hb).mono hb.size)
    replace HDx := Lib.hid ((hb.block _ (lt_of_block HDx.out)).trans HDx.out)
    replace HM := Lib.hid ((sliceT 39 tyDatabase).mono ((sliceT 39 tyDatabase).behind HM.out hb) hb.size)
    have HSum := Lib.hid ((sliceT 39 tyDatabase).ord HO.out)
    have HBsz := Lib.hid HBr.out.size
    clear hb ej HO HF HSo HBr HLit HBa HZa
    have hj := HZl.out
    go_wp2_with fail
    refine (impl_jw HSum.out (Nat.le_refl _) HTz.out).mono ?_
    rw [HZ.out.1, HZ.out.2.2.1]
    rintro e u1 ⟨v1, rfl, h1, hb⟩
    obtain ⟨ae, ce, hve, _⟩ := h1.open
    rw [HD3.out.2] at hve
    subst hve
    have HEr := Lib.hid h1.rd2
    replace HB := Lib.hid (HB.out.trans (hb.mono HB.out.size))
    replace HA := Lib.hid ((HA.out.behind hb).mono hb.size)
    replace HCr := Lib.hid ((HCr.out.behind hb).mono hb.size)
    replace HSr := Lib.hid ((HSr.out.behind hb).mono hb.size)
    replace HL := Lib.hid ((sliceT 39 tyDatabase).mono ((sliceT 39 tyDatabase).behind HL.out hb) hb.size)
    replace HDr := Lib.hid ((HDr.out.behind hb).mono hb.size)
    replace HDx := Lib.hid ((hb.block _ (lt_of_block HDx.out)).trans HDx.out)
    replace HM := Lib.hid ((sliceT 39 tyDatabase).mono ((sliceT 39 tyDatabase).behind HM.out hb) hb.size)
    replace HSum := Lib.hid ((sliceT 39 tyDatabase).mono ((sliceT 39 tyDatabase).behind HSum.out hb) hb.size)
    clear h1 hb
    have hb := (Below.refl u1.heap.size u1).alloc (Nat.le_refl _) (.cells #[.slice ae n ce] 39)
    have hdx := heap_alloc_new u1 (.cells #[.slice ae n ce] 39)
    obtain ⟨u2, hw5⟩ : ∃ x, x = u1.alloc (.cells #[.slice ae n ce] 39) := ⟨_, rfl⟩
    rw [← hw5] at hb hdx
    obtain ⟨EB, hdb⟩ : ∃ b, b = u1.heap.size := ⟨_, rfl⟩
    rw [← hdb] at hdx
    have HEx := Lib.hid hdx
    replace HB := Lib.hid (HB.out.trans (hb.mono HB.out.size))
    replace HA := Lib.hid ((HA.out.behind hb).mono hb.size)
    replace HCr := Lib.hid ((HCr.out.behind hb).mono hb.size)
    replace HSr := Lib.hid ((HSr.out.behind hb).mono hb.size)
    replace HL := Lib.hid ((sliceT 39 tyDatabase).mono ((sliceT 39 tyDatabase).behind HL.out hb) hb.size)
    replace HDr := Lib.hid ((HDr.out.behind hb).mono hb.size)
    replace HDx := Lib.hid ((hb.block _ (lt_of_block HDx.out)).trans HDx.out)
    replace HM := Lib.hid ((sliceT 39 tyDatabase).mono ((sliceT 39 tyDatabase).behind HM.out hb) hb.size)
    replace HSum := Lib.hid ((sliceT 39 tyDatabase).mono ((sliceT 39 tyDatabase).behind HSum.out hb) hb.size)
    replace HEr := Lib.hid ((HEr.out.behind hb).mono hb.size)
    have HWu2 := Lib.hid hw5
    have HBu2 := Lib.hid hdb
    clear hb hdx hw5 hdb
    go_wp2_with fail
    rw [← HWu2.out, ← HBu2.out]
    clear HWu2 HBu2
    refine (spec_jw HM.out (Nat.le_refl _) HTm.out).mono ?_
    rw [HZ.out.2.2.2.2, ← HD2e.out]
    rintro e u3 ⟨v3, rfl, h1, hb⟩
    obtain ⟨ab, cb, hvb, _⟩ := h1.open
    rw [HD2.out.2.1] at hvb
    subst hvb
    have HBb := Lib.hid h1.rd2
    replace HB := Lib.hid (HB.out.trans (hb.mono HB.out.size))
    replace HA := Lib.hid ((HA.out.behind hb).mono hb.size)
    replace HCr := Lib.hid ((HCr.out.behind hb).mono hb.size)
    replace HSr := Lib.hid ((HSr.out.behind hb).mono hb.size)
    replace HL := Lib.hid ((sliceT 39 tyDatabase).mono ((sliceT 39 tyDatabase).behind HL.out hb) hb.size)
    replace HDr := Lib.hid ((HDr.out.behind hb).mono hb.size)
    replace HDx := Lib.hid ((hb.block _ (lt_of_block HDx.out)).trans HDx.out)
    replace HM := Lib.hid ((sliceT 39 tyDatabase).mono ((sliceT 39 tyDatabase).behind HM.out hb) hb.size)
    replace HSum := Lib.hid ((sliceT 39 tyDatabase).mono ((sliceT 39 tyDatabase).behind HSum.out hb) hb.size)
    replace HEr := Lib.hid ((HEr.out.behind hb).mono hb.size)
    replace HEx := Lib.hid ((hb.block _ (lt_of_block HEx.out)).trans HEx.out)
    clear h1 hb
    have hb := (Below.refl u3.heap.size u3).alloc (Nat.le_refl _) (.cells #[.slice ab n cb] 39)
    have hdx := heap_alloc_new u3 (.cells #[.slice ab n cb] 39)
    obtain ⟨u4, hw5⟩ : ∃ x, x = u3.alloc (.cells #[.slice ab n cb] 39) := ⟨_, rfl⟩
    rw [← hw5] at hb hdx
    obtain ⟨BB, hdb⟩ : ∃ b, b = u3.heap.size := ⟨_, rfl⟩
    rw [← hdb] at hdx
    have HBx := Lib.hid hdx
    replace HB := Lib.hid (HB.out.trans (hb.mono HB.out.size))
    replace HA := Lib.hid ((HA.out.behind hb).mono hb.size)
    replace HCr := Lib.hid ((HCr.out.behind hb).mono hb.size)
    replace HSr := Lib.hid ((HSr.out.behind hb).mono hb.size)
    replace HL := Lib.hid ((sliceT 39 tyDatabase).mono ((sliceT 39 tyDatabase).behind HL.out hb) hb.size)
    replace HDr := Lib.hid ((HDr.out.behind hb).mono hb.size)
    replace HDx := Lib.hid ((hb.block _ (lt_of_block HDx.out)).trans HDx.out)
    replace HM := Lib.hid ((sliceT 39 tyDatabase).mono ((sliceT 39 tyDatabase).behind HM.out hb) hb.size)
    replace HSum := Lib.hid ((sliceT 39 tyDatabase).mono ((sliceT 39 tyDatabase).behind HSum.out hb) hb.size)
    replace HEr := Lib.hid ((HEr.out.behind hb).mono hb.size)
    replace HEx := Lib.hid ((hb.block _ (lt_of_block HEx.out)).trans HEx.out)
    replace HBb := Lib.hid ((HBb.out.behind hb).mono hb.size)
    have HWu4 := Lib.hid hw5
    have HBu4 := Lib.hid hdb
    clear hb hdx hw5 hdb
    have cD := blk_cell HDx.out 0
    have cB := blk_cell HBx.out 0
    rw [one0] at cD cB
    have cD0 := cD
    have cB0 := cB
    rw [HWu4.out] at cD0 cB0
    rw [HBu4.out] at cB0
    go_wp2_with fail
    rw [← HWu4.out]
    clear HWu4 HBu4 cD cB cD0 cB0
    refine (spec_xd HDr.out HBb.out (Nat.le_refl _) (Nat.le_refl _) (Nat.le_trans HD1.out.1 (by decide)) (Nat.le_trans HD2.out.1 (by decide))).mono ?_
    rw [HZ.out.2.1, ← HD3e.out]
    rintro e u5 ⟨v5, rfl, h1, hb⟩
    obtain ⟨aw, cw, hvw, _⟩ := h1.open
    rw [HD3.out.2] at hvw
    subst hvw
    have HWr3 := Lib.hid h1.rd2
    replace HB := Lib.hid (HB.out.trans (hb.mono HB.out.size))
    replace HA := Lib.hid ((HA.out.behind hb).mono hb.size)
    replace HCr := Lib.hid ((HCr.out.behind hb).mono hb.size)
    replace HSr := Lib.hid ((HSr.out.behind hb).mono hb.size)
    replace HL := Lib.hid ((sliceT 39 tyDatabase).mono ((sliceT 39 tyDatabase).behind HL.out hb) hb.size)
    replace HDr := Lib.hid ((HDr.out.behind hb).mono hb.size)
    replace HDx := Lib.hid ((hb.block _ (lt_of_block HDx.out)).trans HDx.out)
    replace HM := Lib.hid ((sliceT 39 tyDatabase).mono ((sliceT 39 tyDatabase).behind HM.out hb) hb.size)
    replace HSum := Lib.hid ((sliceT 39 tyDatabase).mono ((sliceT 39 tyDatabase).behind HSum.out hb) hb.size)
    replace HEr := Lib.hid ((HEr.out.behind hb).mono hb.size)
    replace HEx := Lib.hid ((hb.block _ (lt_of_block HEx.out)).trans HEx.out)
    replace HBb := Lib.hid ((HBb.out.behind hb).mono hb.size)
    replace HBx := Lib.hid ((hb.block _ (lt_of_block HBx.out)).trans HBx.out)
    clear h1 hb
    have hb := (Below.refl u5.heap.size u5).alloc (Nat.le_refl _) (.cells #[.slice aw n cw] 39)
    have hdx := heap_alloc_new u5 (.cells #[.slice aw n cw] 39)
    obtain ⟨u6, hw5⟩ : ∃ x, x = u5.alloc (.cells #[.slice aw n cw] 39) := ⟨_, rfl⟩
    rw [← hw5] at hb hdx
    obtain ⟨WB, hdb⟩ : ∃ b, b = u5.heap.size := ⟨_, rfl⟩
    rw [← hdb] at hdx
    have HWx3 := Lib.hid hdx
    replace HB := Lib.hid (HB.out.trans (hb.mono HB.out.size))
    replace HA := Lib.hid ((HA.out.behind hb).mono hb.size)
    replace HCr := Lib.hid ((HCr.out.behind hb).mono hb.size)
    replace HSr := Lib.hid ((HSr.out.behind hb).mono hb.size)
    replace HL := Lib.hid ((sliceT 39 tyDatabase).mono ((sliceT 39 tyDatabase).behind HL.out hb) hb.size)
    replace HDr := Lib.hid ((HDr.out.behind hb).mono hb.size)
    replace HDx := Lib.hid ((hb.block _ (lt_of_block HDx.out)).trans HDx.out)
    replace HM := Lib.hid ((sliceT 39 tyDatabase).mono ((sliceT 39 tyDatabase).behind HM.out hb) hb.size)
    replace HSum := Lib.hid ((sliceT 39 tyDatabase).mono ((sliceT 39 tyDatabase).behind HSum.out hb) hb.size)
    replace HEr := Lib.hid ((HEr.out.behind hb).mono hb.size)
    replace HEx := Lib.hid ((hb.block _ (lt_of_block HEx.out)).trans HEx.out)
    replace HBb := Lib.hid ((HBb.out.behind hb).mono hb.size)
    replace HBx := Lib.hid ((hb.block _ (lt_of_block HBx.out)).trans HBx.out)
    replace HWr3 := Lib.hid ((HWr3.out.behind hb).mono hb.size)
    have HWu6 := Lib.hid hw5
    have HBu6 := Lib.hid hdb
    clear hb hdx hw5 hdb
    go_wp2_with fail
    rw [← HWu6.out, ← HBu6.out]
    clear HWu6 HBu6
    have HS2 : Hid (∀ w', Below u6.heap.size u6 w' → w'.cell? ⟨EB, 0, none⟩ = some (.slice ae n ce) ∧ w'.cell? ⟨WB, 0, none⟩ = some (.slice aw n cw)) := Lib.hid (fun w' hb => ⟨(blk_cell ((hb.block _ (lt_of_block HEx.out)).trans HEx.out) 0).trans (one0 _), (blk_cell ((hb.block _ (lt_of_block HWx3.out)).trans HWx3.out) 0).trans (one0 _)⟩)
    have d0 := HS2.out u6.drew (Below.refl _ _).drew
    have hbd : Below u6.heap.size u6 u6.drew := (Below.refl _ _).drew
    refine region_till (fun w' => w'.cell? ⟨EB, 0, none⟩ = some (.slice ae n ce) ∧ w'.cell? ⟨WB, 0, none⟩ = some (.slice aw n cw)) 21 (by kernel_rfl) ?_
    obtain ⟨wd, hwd⟩ : ∃ x, x = u6.drew := ⟨_, rfl⟩
    have HZd : Hid (u6.heap.size = wd.heap.size) := Lib.hid (by rw [hwd]; rfl)
    rw [← hwd] at d0 hbd ⊢
    have HSd : Hid (∀ w', Below wd.heap.size wd w' → w'.cell? ⟨EB, 0, none⟩ = some (.slice ae n ce) ∧ w'.cell? ⟨WB, 0, none⟩ = some (.slice aw n cw)) := Lib.hid (fun w' hb => HS2.out w' (hbd.trans (by rw [HZd.out]; exact hb)))
    have hb := hbd
    clear hwd hbd
    replace HB := Lib.hid (HB.out.trans (hb.mono HB.out.size))
    replace HA := Lib.hid ((HA.out.behind hb).mono hb.size)
    replace HCr := Lib.hid ((HCr.out.behind hb).mono hb.size)
    replace HSr := Lib.hid ((HSr.out.behind hb).mono hb.size)
    replace HL := Lib.hid ((sliceT 39 tyDatabase).mono ((sliceT 39 tyDatabase).behind HL.out hb) hb.size)
    replace HDr := Lib.hid ((HDr.out.behind hb).mono hb.size)
    replace HDx := Lib.hid ((hb.block _ (lt_of_block HDx.out)).trans HDx.out)
    replace HM := Lib.hid ((sliceT 39 tyDatabase).mono ((sliceT 39 tyDatabase).behind HM.out hb) hb.size)
    replace HSum := Lib.hid ((sliceT 39 tyDatabase).mono ((sliceT 39 tyDatabase).behind HSum.out hb) hb.size)
    replace HEr := Lib.hid ((HEr.out.behind hb).mono hb.size)
    replace HEx := Lib.hid ((hb.block _ (lt_of_block HEx.out)).trans HEx.out)
    replace HBb := Lib.hid ((HBb.out.behind hb).mono hb.size)
    replace HBx := Lib.hid ((hb.block _ (lt_of_block HBx.out)).trans HBx.out)
    replace HWr3 := Lib.hid ((HWr3.out.behind hb).mono hb.size)
    replace HWx3 := Lib.hid ((hb.block _ (lt_of_block HWx3.out)).trans HWx3.out)
    clear hb
    apply Till.take (i := 0) [0, 1, 3, 4, 6, 7, 11, 12, 20, 21]
    · simp only [List.getElem?_toArray, List.getElem?_cons_zero]
      rfl
    · kernel_rfl
    · kernel_rfl
    · kernel_rfl
    · kernel_rfl
    · exact fun _ _ _ h => h
    · first
        | exact Or.inr ⟨by rfl, rfl⟩
        | (refine Or.inl ⟨by rfl, fun wq hwq => ?_⟩
           dsimp only at hwq
           go_simp
           first
             | done
             | rfl)
    · exact d0
    simp only [Act.put, List.setIfInBounds_toArray, List.set_cons_zero, List.set_cons_succ]
    apply Till.take (i := 1) [1, 3, 4, 6, 7, 11, 12, 20, 21]
    · simp only [List.getElem?_toArray, List.getElem?_cons_succ, List.getElem?_cons_zero]
      rfl
    · kernel_rfl
    · kernel_rfl
    · kernel_rfl
    · kernel_rfl
    · exact fun _ _ _ h => h
    · first
        | exact Or.inr ⟨by rfl, rfl⟩
        | (refine Or.inl ⟨by rfl, fun wq hwq => ?_⟩
           dsimp only at hwq
           go_simp
           first
             | done
             | rfl)
    · exact d0
    simp only [Act.put, List.setIfInBounds_toArray, List.set_cons_zero, List.set_cons_succ]
    apply Till.take (i := 2) [2, 3, 4, 6, 7, 11, 12, 20, 21]
    · simp only [List.getElem?_toArray, List.getElem?_cons_succ, List.getElem?_cons_zero]
      rfl
    · kernel_rfl
    · kernel_rfl
    · kernel_rfl
    · kernel_rfl
    · exact fun _ _ _ h => h
    · first
        | exact Or.inr ⟨by rfl, rfl⟩
        | (refine Or.inl ⟨by rfl, fun wq hwq => ?_⟩
           dsimp only at hwq
           go_simp
           first
             | done
             | rfl)
    · exact d0
    simp only [Act.put, List.setIfInBounds_toArray, List.set_cons_zero, List.set_cons_succ]
    apply Till.take (i := 3) [3, 4, 6, 7, 11, 12, 20, 21]
    · simp only [List.getElem?_toArray, List.getElem?_cons_succ, List.getElem?_cons_zero]
      rfl
    · kernel_rfl
    · kernel_rfl
    · kernel_rfl
    · kernel_rfl
    · exact fun _ _ _ h => h
    · first
        | exact Or.inr ⟨by rfl, rfl⟩
        | (refine Or.inl ⟨by rfl, fun wq hwq => ?_⟩
           dsimp only at hwq
           go_simp
           first
             | done
             | rfl)
    · exact d0
    simp only [Act.put, List.setIfInBounds_toArray, List.set_cons_zero, List.set_cons_succ]
    apply Till.take (i := 4) [4, 6, 7, 11, 12, 20, 21]
    · simp only [List.getElem?_toArray, List.getElem?_cons_succ, List.getElem?_cons_zero]
      rfl
    · kernel_rfl
    · kernel_rfl
    · kernel_rfl
    · kernel_rfl
    · exact fun _ _ _ h => h
    · first
        | exact Or.inr ⟨by rfl, rfl⟩
        | (refine Or.inl ⟨by rfl, fun wq hwq => ?_⟩
           dsimp only at hwq
           go_simp
           first
             | done
             | rfl)
    · exact d0
    simp only [Act.put, List.setIfInBounds_toArray, List.set_cons_zero, List.set_cons_succ]
    apply Till.take (i := 5) [5, 6, 7, 11, 12, 20, 21]
    · simp only [List.getElem?_toArray, List.getElem?_cons_succ, List.getElem?_cons_zero]
      rfl
    · kernel_rfl
    · kernel_rfl
    · kernel_rfl
    · kernel_rfl
    · exact fun _ _ _ h => h
    · first
        | exact Or.inr ⟨by rfl, rfl⟩
        | (refine Or.inl ⟨by rfl, fun wq hwq => ?_⟩
           dsimp only at hwq
           go_simp
           first
             | done
             | rfl)
    · exact d0
    simp only [Act.put, List.setIfInBounds_toArray, List.set_cons_zero, List.set_cons_succ]
    apply Till.take (i := 6) [6, 7, 11, 12, 20, 21]
    · simp only [List.getElem?_toArray, List.getElem?_cons_succ, List.getElem?_cons_zero]
      rfl
    · kernel_rfl
    · kernel_rfl
    · kernel_rfl
    · kernel_rfl
    · exact fun _ _ _ h => h
    · first
        | exact Or.inr ⟨by rfl, rfl⟩
        | (refine Or.inl ⟨by rfl, fun wq hwq => ?_⟩
           dsimp only at hwq
           go_simp
           first
             | done
             | rfl)
    · exact d0
    simp only [Act.put, List.setIfInBounds_toArray, List.set_cons_zero, List.set_cons_succ]
    apply Till.take (i := 7) [7, 11, 12, 20, 21]
    · simp only [List.getElem?_toArray, List.getElem?_cons_succ, List.getElem?_cons_zero]
      rfl
    · kernel_rfl
    · kernel_rfl
    · kernel_rfl
    · kernel_rfl
    · exact fun _ _ _ h => h
    · first
        | exact Or.inr ⟨by rfl, rfl⟩
        | (refine Or.inl ⟨by rfl, fun wq hwq => ?_⟩
           dsimp only at hwq
           go_simp
           first
             | done
             | rfl)
    · exact d0
    simp only [Act.put, List.setIfInBounds_toArray, List.set_cons_zero, List.set_cons_succ]
    apply Till.take (i := 8) [8, 10, 11, 12, 20, 21]
    · simp only [List.getElem?_toArray, List.getElem?_cons_succ, List.getElem?_cons_zero]
      rfl
    · kernel_rfl
    · kernel_rfl
    · kernel_rfl
    · kernel_rfl
    · exact fun _ _ _ h => h
    · first
        | exact Or.inr ⟨by rfl, rfl⟩
        | (refine Or.inl ⟨by rfl, fun wq hwq => ?_⟩
           dsimp only at hwq
           go_simp
           first
             | done
             | rfl)
    · exact d0
    simp only [Act.put, List.setIfInBounds_toArray, List.set_cons_zero, List.set_cons_succ]
    apply Till.take (i := 9) [9, 10, 11, 12, 20, 21]
    · simp only [List.getElem?_toArray, List.getElem?_cons_succ, List.getElem?_cons_zero]
      rfl
    · kernel_rfl
    · kernel_rfl
    · kernel_rfl
    · kernel_rfl
    · exact fun _ _ _ h => h
    · first
        | exact Or.inr ⟨by rfl, rfl⟩
        | (refine Or.inl ⟨by rfl, fun wq hwq => ?_⟩
           dsimp only at hwq
           go_simp
           first
             | done
             | rfl)
    · exact d0
    simp only [Act.put, List.setIfInBounds_toArray, List.set_cons_zero, List.set_cons_succ]
    apply Till.one (i := 10)
    · kernel_rfl
    · simp only [List.getElem?_toArray, List.getElem?_cons_succ, List.getElem?_cons_zero]
      rfl
    intro K hK
    go_simp
    refine (impl_ed HEr.out HWr3.out (Nat.le_refl _) (Nat.le_refl _) (Nat.le_trans HD3.out.1 (by decide))).mono ?_
    rw [decide_eq_true rfl]
    rintro e' wa ⟨he, hb⟩
    subst he
    have HBa := Lib.hid hb
    have da := HSd.out wa hb
    replace HB := Lib.hid (HB.out.trans (hb.mono HB.out.size))
    replace HCr := Lib.hid ((HCr.out.behind hb).mono hb.size)
    clear hb d0
    refine hK.out _ _ (Or.inr da) ?_
    clear hK K
    try simp only [Act.put, List.setIfInBounds_toArray, List.set_cons_zero, List.set_cons_succ]
    apply Till.take (i := 11) [11, 12, 20, 21]
    · simp only [List.getElem?_toArray, List.getElem?_cons_succ, List.getElem?_cons_zero]
      rfl
    · kernel_rfl
    · kernel_rfl
    · kernel_rfl
    · kernel_rfl
    · exact fun _ _ _ h => h
    · first
        | exact Or.inr ⟨by rfl, rfl⟩
        | (refine Or.inl ⟨by rfl, fun wq hwq => ?_⟩
           dsimp only at hwq
           go_simp
           first
             | done
             | rfl)
    · exact da
    simp only [Act.put, List.setIfInBounds_toArray, List.set_cons_zero, List.set_cons_succ]
    apply Till.take (i := 12) [12, 20, 21]
    · simp only [List.getElem?_toArray, List.getElem?_cons_succ, List.getElem?_cons_zero]
      rfl
    · kernel_rfl
    · kernel_rfl
    · kernel_rfl
    · kernel_rfl
    · exact fun _ _ _ h => h
    · first
        | exact Or.inr ⟨by rfl, rfl⟩
        | (refine Or.inl ⟨by rfl, fun wq hwq => ?_⟩
           dsimp only at hwq
           go_simp
           first
             | done
             | rfl)
    · exact da
    simp only [Act.put, List.setIfInBounds_toArray, List.set_cons_zero, List.set_cons_succ]
    apply Till.take (i := 13) [13, 15, 19, 20, 21]
    · simp only [List.getElem?_toArray, List.getElem?_cons_succ, List.getElem?_cons_zero]
      rfl
    · kernel_rfl
    · kernel_rfl
    · kernel_rfl
    · kernel_rfl
    · exact fun _ _ _ h => h
    · first
        | exact Or.inr ⟨by rfl, rfl⟩
        | (refine Or.inl ⟨by rfl, fun wq hwq => ?_⟩
           dsimp only at hwq
           go_simp
           first
             | done
             | rfl)
    · exact da
    simp only [Act.put, List.setIfInBounds_toArray, List.set_cons_zero, List.set_cons_succ]
    apply Till.take (i := 14) [14, 15, 19, 20, 21]
    · simp only [List.getElem?_toArray, List.getElem?_cons_succ, List.getElem?_cons_zero]
      rfl
    · kernel_rfl
    · kernel_rfl
    · kernel_rfl
    · kernel_rfl
    · exact fun _ _ _ h => h
    · first
        | exact Or.inr ⟨by rfl, rfl⟩
        | (refine Or.inl ⟨by rfl, fun wq hwq => ?_⟩
           dsimp only at hwq
           go_simp
           first
             | done
             | rfl)
    · exact da
    simp only [Act.put, List.setIfInBounds_toArray, List.set_cons_zero, List.set_cons_succ]
    apply Till.take (i := 16) [16, 17, 18, 19, 20, 21]
    · simp only [List.getElem?_toArray, List.getElem?_cons_succ, List.getElem?_cons_zero]
      rfl
    · kernel_rfl
    · kernel_rfl
    · kernel_rfl
    · kernel_rfl
    · exact fun _ _ _ h => h
    · first
        | exact Or.inr ⟨by rfl, rfl⟩
        | (refine Or.inl ⟨by rfl, fun wq hwq => ?_⟩
           dsimp only at hwq
           go_simp
           first
             | done
             | rfl)
    · exact da
    simp only [Act.put, List.setIfInBounds_toArray, List.set_cons_zero, List.set_cons_succ]
    apply Till.take (i := 17) [17, 18, 19, 20, 21]
    · simp only [List.getElem?_toArray, List.getElem?_cons_succ, List.getElem?_cons_zero]
      rfl
    · kernel_rfl
    · kernel_rfl
    · kernel_rfl
    · kernel_rfl
    · exact fun _ _ _ h => h
    · first
        | exact Or.inr ⟨by rfl, rfl⟩
        | (refine Or.inl ⟨by rfl, fun wq hwq => ?_⟩
           dsimp only at hwq
           go_simp
           first
             | done
             | rfl)
    · exact da
    simp only [Act.put, List.setIfInBounds_toArray, List.set_cons_zero, List.set_cons_succ]

    apply Till.two (i := 15) (j := 18)
    · kernel_rfl
    · simp only [List.getElem?_toArray, List.getElem?_cons_succ, List.getElem?_cons_zero]
      rfl
    · simp only [List.getElem?_toArray, List.getElem?_cons_succ, List.getElem?_cons_zero]
      rfl
    · intro K hK
      go_simp
      refine (impl_cw HCr.out HCr.out (Nat.le_refl _) (Nat.le_refl _) (by have := HNc.out; omega)).mono ?_
      rw [xorl_same, ← HNc.out]
      rintro e' wb ⟨vb, he, hxb, hb⟩
      subst he
      obtain ⟨ax, cx, hvx, _⟩ := hxb.open
      rw [List.length_replicate] at hvx
      subst hvx
      have HXr := Lib.hid hxb.rd
      have HBx2 := Lib.hid hb
      clear hxb hb
      have hb2 : Below wd.heap.size wd wb := HBa.out.trans (HBx2.out.mono HBa.out.size)
      have HB2 := Lib.hid hb2
      have db := HSd.out wb hb2
      replace HB := Lib.hid (HB.out.trans (HBx2.out.mono HB.out.size))
      clear hb2
      obtain ⟨wm, hrun, ho5, hg5⟩ := run_make_full (P := Try.prog) wb wb.heap.size 22 5 i2 (.int .u8 0) 1 Try.underlying22 Hhi2.out hu0 hu1 .i64 .i64 24 (by rw [hu2]; omega) (by unfold maxLen; omega) (Nat.le_refl _)
      have hm5 : (Instr.makeSlice 22 (.int .i64 24) (.int .i64 24)).run Try.prog wb = .ok (.slice (some ⟨wb.heap.size, 0, none⟩) 24 24) wm := hrun
      have hr5 : Own 5 .u8 wb.heap.size wm (.slice (some ⟨wb.heap.size, 0, none⟩) 24 24) (List.replicate 24 0) := own_made ho5 hg5.size (by decide)
      have hbm : Below wb.heap.size wb wm := (Below.refl wb.heap.size wb).grown hg5 (Nat.le_refl _) (fun k hk => by cases hk)
      have HMd := Lib.hid hr5.rd
      have HBm := Lib.hid hbm
      clear hrun ho5 hg5 hr5 hbm
      have hb3 : Below wd.heap.size wd wm := HB2.out.trans (HBm.out.mono HB2.out.size)
      have HB3 := Lib.hid hb3
      have dm := HSd.out wm hb3
      clear hb3
      refine hK.out _ _ (Or.inr db) ?_
      clear hK K
      try simp only [Act.put, List.setIfInBounds_toArray, List.set_cons_zero, List.set_cons_succ]
      apply Till.one (i := 18)
      · kernel_rfl
      · simp only [List.getElem?_toArray, List.getElem?_cons_succ, List.getElem?_cons_zero]
        rfl
      intro K hK
      go_simp
      replace HB := Lib.hid (HB.out.trans (HBm.out.mono HB.out.size))
      replace HXr := Lib.hid ((HXr.out.behind HBm.out).mono HBm.out.size)
      refine hK.out _ _ (Or.inr dm) ?_
      clear hK K
      try simp only [Act.put, List.setIfInBounds_toArray, List.set_cons_zero, List.set_cons_succ]
      clear db dm hm5
      apply Till.one (i := 19)
      · kernel_rfl
      · simp only [List.getElem?_toArray, List.getElem?_cons_succ, List.getElem?_cons_zero]
        rfl
      intro K hK
      go_simp
      refine (sameBytes_same HXr.out HMd.out (Nat.le_refl _) (Nat.le_refl _)).mono ?_
      rintro e' wf ⟨he, hb⟩
      subst he
      have HBf := Lib.hid (HB.out.trans (hb.mono HB.out.size))
      have df := HSd.out wf (HB3.out.trans (hb.mono HB3.out.size))
      clear hb
      refine hK.out _ _ (Or.inr df) ?_
      clear hK K
      try simp only [Act.put, List.setIfInBounds_toArray, List.set_cons_zero, List.set_cons_succ]
      apply Till.take (i := 20) [20, 21]
      · simp only [List.getElem?_toArray, List.getElem?_cons_succ, List.getElem?_cons_zero]
        rfl
      · kernel_rfl
      · kernel_rfl
      · kernel_rfl
      · kernel_rfl
      · exact fun _ _ _ h => h
      · first
          | exact Or.inr ⟨by rfl, rfl⟩
          | (refine Or.inl ⟨by rfl, fun wq hwq => ?_⟩
             dsimp only at hwq
             go_simp
             first
               | done
               | rfl)
      · exact df
      simp only [Act.put, List.setIfInBounds_toArray, List.set_cons_zero, List.set_cons_succ]
      apply Till.one (i := 21)
      · kernel_rfl
      · simp only [List.getElem?_toArray, List.getElem?_cons_succ, List.getElem?_cons_zero]
        rfl
      intro K hK
      go_simp
      skip
      refine hK.out _ _ (Or.inl (by rfl)) ?_
      clear hK K
      try simp only [Act.put, List.setIfInBounds_toArray, List.set_cons_zero, List.set_cons_succ]
      refine Till.done (by kernel_rfl) ?_ _
      clear df
      go_wp2_with fail
      go_ret
      exact ⟨rfl, HBf.out⟩
    · intro K hK
      obtain ⟨wm, hrun, ho5, hg5⟩ := run_make_full (P := Try.prog) wa wa.heap.size 22 5 i2 (.int .u8 0) 1 Try.underlying22 Hhi2.out hu0 hu1 .i64 .i64 24 (by rw [hu2]; omega) (by unfold maxLen; omega) (Nat.le_refl _)
      have hm5 : (Instr.makeSlice 22 (.int .i64 24) (.int .i64 24)).run Try.prog wa = .ok (.slice (some ⟨wa.heap.size, 0, none⟩) 24 24) wm := hrun
      have hr5 : Own 5 .u8 wa.heap.size wm (.slice (some ⟨wa.heap.size, 0, none⟩) 24 24) (List.replicate 24 0) := own_made ho5 hg5.size (by decide)
      have hbm : Below wa.heap.size wa wm := (Below.refl wa.heap.size wa).grown hg5 (Nat.le_refl _) (fun k hk => by cases hk)
      have HMd := Lib.hid hr5.rd
      have HBm := Lib.hid hbm
      clear hrun ho5 hg5 hr5 hbm
      go_simp
      have hb2 : Below wd.heap.size wd wm := HBa.out.trans (HBm.out.mono HBa.out.size)
      have HB2 := Lib.hid hb2
      have dm := HSd.out wm hb2
      replace HB := Lib.hid (HB.out.trans (HBm.out.mono HB.out.size))
      replace HCr := Lib.hid ((HCr.out.behind HBm.out).mono HBm.out.size)
      clear hb2
      refine hK.out _ _ (Or.inr dm) ?_
      clear hK K
      try simp only [Act.put, List.setIfInBounds_toArray, List.set_cons_zero, List.set_cons_succ]
      clear hm5
      apply Till.one (i := 15)
      · kernel_rfl
      · simp only [List.getElem?_toArray, List.getElem?_cons_succ, List.getElem?_cons_zero]
        rfl
      intro K hK
      go_simp
      refine (impl_cw HCr.out HCr.out (Nat.le_refl _) (Nat.le_refl _) (by have := HNc.out; omega)).mono ?_
      rw [xorl_same, ← HNc.out]
      rintro e' wb ⟨vb, he, hxb, hb⟩
      subst he
      obtain ⟨ax, cx, hvx, _⟩ := hxb.open
      rw [List.length_replicate] at hvx
      subst hvx
      have HXr := Lib.hid hxb.rd
      have HBx2 := Lib.hid hb
      clear hxb hb
      have hb3 : Below wd.heap.size wd wb := HB2.out.trans (HBx2.out.mono HB2.out.size)
      have HB3 := Lib.hid hb3
      have db := HSd.out wb hb3
      replace HB := Lib.hid (HB.out.trans (HBx2.out.mono HB.out.size))
      replace HMd := Lib.hid ((HMd.out.behind HBx2.out).mono HBx2.out.size)
      clear hb3
      refine hK.out _ _ (Or.inr db) ?_
      clear hK K
      try simp only [Act.put, List.setIfInBounds_toArray, List.set_cons_zero, List.set_cons_succ]
      clear db dm
      apply Till.one (i := 19)
      · kernel_rfl
      · simp only [List.getElem?_toArray, List.getElem?_cons_succ, List.getElem?_cons_zero]
        rfl
      intro K hK
      go_simp
      refine (sameBytes_same HXr.out HMd.out (Nat.le_refl _) (Nat.le_refl _)).mono ?_
      rintro e' wf ⟨he, hb⟩
      subst he
      have HBf := Lib.hid (HB.out.trans (hb.mono HB.out.size))
      have df := HSd.out wf (HB3.out.trans (hb.mono HB3.out.size))
      clear hb
      refine hK.out _ _ (Or.inr df) ?_
      clear hK K
      try simp only [Act.put, List.setIfInBounds_toArray, List.set_cons_zero, List.set_cons_succ]
      apply Till.take (i := 20) [20, 21]
      · simp only [List.getElem?_toArray, List.getElem?_cons_succ, List.getElem?_cons_zero]
        rfl
      · kernel_rfl
      · kernel_rfl
      · kernel_rfl
      · kernel_rfl
      · exact fun _ _ _ h => h
      · first
          | exact Or.inr ⟨by rfl, rfl⟩
          | (refine Or.inl ⟨by rfl, fun wq hwq => ?_⟩
             dsimp only at hwq
             go_simp
             first
               | done
               | rfl)
      · exact df
      simp only [Act.put, List.setIfInBounds_toArray, List.set_cons_zero, List.set_cons_succ]
      apply Till.one (i := 21)
      · kernel_rfl
      · simp only [List.getElem?_toArray, List.getElem?_cons_succ, List.getElem?_cons_zero]
        rfl
      intro K hK
      go_simp
      skip
      refine hK.out _ _ (Or.inl (by rfl)) ?_
      clear hK K
      try simp only [Act.put, List.setIfInBounds_toArray, List.set_cons_zero, List.set_cons_succ]
      refine Till.done (by kernel_rfl) ?_ _
      clear df
      go_wp2_with fail
      go_ret
      exact ⟨rfl, HBf.out⟩

end Go.Proofs.Ytdipignajccdcaa
