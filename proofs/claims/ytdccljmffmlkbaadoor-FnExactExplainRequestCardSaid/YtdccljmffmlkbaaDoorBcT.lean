/- Blind tokens: keys of issuers, requests of the document, replies; what serial numbers and exponents may be. No conditions but numbers that a machine holds. Blind tokens: tokens finished as the document says; tokens checked. No conditions but numbers that a machine holds. -/
import Derived.Test.YtdccljmffmlkbaaDoorBcP
import Derived.Test.YtdccljmffmlkbaaDoorBcG
import Derived.Test.YtdccljmffmlkbaaDoorCl1
import Derived.Test.YtdccljmffmlkbaaDoorMb1
import Derived.Test.YtdccljmffmlkbaaDoorQuietC
import Derived.Test.YtdccljmffmlkbaaDoorHeldL
import Derived.BigQuiet
import Derived.StillTailTactics

/-! Tk1 -/
namespace Go.Proofs.YtdccljmffmlkbaaDoor
open Go Go.RowKit
set_option linter.unusedVariables false
attribute [local irreducible] kh kid pwm tcm pw chl

/-- impl.isSerial. -/
theorem isS_any {w : World} {n : Int} (hn : (Lit.int .i64 n).wf = true) :
    Calls Tryd.prog 69 #[.int .i64 n] w fun e w' => e = .returned (.bool (okNr n)) ∧ w' = w := by
  obtain ⟨q, hq⟩ : ∃ q, q = okNr n := ⟨_, rfl⟩
  have HQ : Hid (inR n 0 100000 = q) := Lib.hid hq.symm
  rw [← hq]
  clear hq
  go_enter Tryd.func69, Tryd.ntmps69
  go_wp2_with fail
  refine (impl_in _ _ _ _ hn).mono ?_
  rw [HQ.out]
  rintro e w1 ⟨rfl, hw⟩
  subst hw
  go_wp2_with fail
  go_ret
  exact ⟨rfl, rfl⟩

/-- impl.isHiding. -/
theorem isH_any {w : World} {n : Int} (hn : (Lit.int .i64 n).wf = true) :
    Calls Tryd.prog 67 #[.int .i64 n] w fun e w' => e = .returned (.bool (nz n)) ∧ w' = w := by
  obtain ⟨m, hm⟩ : ∃ m, m = n % 1019 := ⟨_, rfl⟩
  obtain ⟨q, hq⟩ : ∃ q, q = nz n := ⟨_, rfl⟩
  have e1 : (m != 0) = q := by rw [hq, hm]; rfl
  have HM := Lib.hid hm
  rw [← hq]
  clear hq hm
  go_enter Tryd.func67, Tryd.ntmps67
  go_wp2_with fail
  refine (fe_any hn).mono ?_
  rw [← HM.out]
  rintro e w1 ⟨rfl, hw⟩
  subst hw
  go_wp2_with fail
  go_ret
  exact ⟨rfl, rfl⟩

/-- impl.serialElement. -/
theorem sel_any {w : World} {n : Int} (hn : (Lit.int .i64 n).wf = true) :
    Calls Tryd.prog 70 #[.int .i64 n] w fun e w' => e = .returned (.int .i64 (hs n)) ∧ Below w.heap.size w w' := by
  obtain ⟨q, hq⟩ : ∃ q, q = hs n := ⟨_, rfl⟩
  have HQ : Hid (hgr 101 n = q) := Lib.hid hq.symm
  rw [← hq]
  clear hq
  go_enter Tryd.func70, Tryd.ntmps70
  go_wp2_with fail
  refine (impl_hgr (by decide) hn).mono ?_
  rw [HQ.out]
  rintro e w1 ⟨rfl, hb⟩
  have HB := Lib.hid hb
  clear hb
  go_wp2_with fail
  go_ret
  exact ⟨rfl, HB.out⟩

/-- impl.IssuerKey. -/
theorem impl_ik {w : World} {n : Int} (hn : (Lit.int .i64 n).wf = true) :
    Calls Tryd.prog 31 #[.int .i64 n] w fun e w' => e = .returned (.int .i64 (pwG 4 n)) ∧ Below w.heap.size w w' := by
  obtain ⟨q, hq⟩ : ∃ q, q = pwG 4 n := ⟨_, rfl⟩
  have HQ := Lib.hid hq
  rw [← hq]
  clear hq
  go_enter Tryd.func31, Tryd.ntmps31
  go_wp2_with fail
  refine (impl_pwg (by decide) hn).mono ?_
  rw [← HQ.out]
  rintro e w1 ⟨rfl, hb⟩
  have HB := Lib.hid hb
  clear hb
  go_wp2_with fail
  go_ret
  exact ⟨rfl, HB.out⟩

/-- spec.IssuerKey. -/
theorem spec_ik {w : World} {n : Int} (hn : (Lit.int .i64 n).wf = true) :
    Calls Tryd.prog 35 #[.int .i64 n] w fun e w' => e = .returned (.int .i64 (pwG 4 n)) ∧ w' = w := by
  obtain ⟨q, hq⟩ : ∃ q, q = pwG 4 n := ⟨_, rfl⟩
  have HQ := Lib.hid hq
  rw [← hq]
  clear hq
  go_enter Tryd.func35, Tryd.ntmps35
  go_wp2_with fail
  refine (spec_pwg (by decide) hn).mono ?_
  rw [← HQ.out]
  rintro e w1 ⟨rfl, hw⟩
  subst hw
  go_wp2_with fail
  go_ret
  exact ⟨rfl, rfl⟩

/-- A number that a request holds. -/
theorem req_no {n b : Int} (h : blok n b = false) : (Ending.returned (.tuple #[.agg #[.int .i64 0], .bool false]) : Ending) = .returned (.tuple #[.agg #[.int .i64 (blE n b)], .bool (blok n b)]) := by rw [blE_no h, h]
theorem req_yes {n b : Int} (h : blok n b = true) : (Ending.returned (.tuple #[.agg #[.int .i64 (pwG (hs n) b)], .bool true]) : Ending) = .returned (.tuple #[.agg #[.int .i64 (blE n b)], .bool (blok n b)]) := by rw [blE_yes h, h]
theorem hs_wf (n : Int) : (Lit.int .i64 (hs n)).wf = true := by have := el_bound (hs_el n); exact small_wf (by omega) (by omega)

set_option maxHeartbeats 1000000 in
/-- spec.BlindToken. -/
theorem spec_bl {w : World} {n b : Int} (hn : (Lit.int .i64 n).wf = true) (hb : (Lit.int .i64 b).wf = true) :
    Calls Tryd.prog 71 #[.int .i64 n, .int .i64 b] w fun e w' => e = .returned (.tuple #[.agg #[.int .i64 (blE n b)], .bool (blok n b)]) ∧ Below w.heap.size w w' := by
  have HN := Lib.hid hn
  have HBw := Lib.hid hb
  have hbb := wf_i64 hb
  have HB0 := Lib.hid ((Below.refl w.heap.size w).alloc (Nat.le_refl _) (.cells #[.int .i64 0] 43))
  have HK0 := Lib.hid (heap_alloc_new w (.cells #[.int .i64 0] 43))
  clear hn hb
  cases h1 : okNr n with
  | false =>
    have H1 : Hid (inR n 0 100000 = false) := Lib.hid h1
    have HE := Lib.hid (req_no (n := n) (b := b) (by unfold blok; rw [h1]; rfl))
    have r0 := gc0 HK0.out
    clear h1
    go_enter Tryd.func71, Tryd.ntmps71
    go_wp2_with fail
    refine (spec_in _ _ _ _ HN.out).mono ?_
    rw [H1.out]
    rintro e w1 ⟨rfl, hw⟩
    obtain rfl := hw.symm
    go_wp2_with fail
    exact bodyPost_ret (v := .tuple #[.agg #[.int .i64 0], .bool false]) (by simp [results, Tryd.results71, go_sem, r0]) rfl ⟨HE.out, HB0.out⟩
  | true =>
    have H1 : Hid (inR n 0 100000 = true) := Lib.hid h1
    obtain ⟨m, hm⟩ : ∃ m, m = b % 1019 := ⟨_, rfl⟩
    have HM : Hid (modV b 1019 = m) := Lib.hid (by rw [hm]; exact modV_1019 b)
    cases h2 : nz b with
    | false =>
      have e2 : (m == 0) = true := by rw [hm]; unfold nz at h2; simpa using h2
      have HE := Lib.hid (req_no (n := n) (b := b) (by unfold blok; rw [h1, h2]; rfl))
      have r0 := gc0 HK0.out
      clear h1 h2 hm
      go_enter Tryd.func71, Tryd.ntmps71
      go_wp2_with fail
      refine (spec_in _ _ _ _ HN.out).mono ?_
      rw [H1.out]
      rintro e w1 ⟨rfl, hw⟩
      obtain rfl := hw.symm
      go_wp2_with fail
      refine (spec_mod _ _ _ hbb.1 hbb.2).mono ?_
      rw [HM.out]
      rintro e w1 ⟨rfl, hw⟩
      obtain rfl := hw.symm
      go_wp2_with fail
      exact bodyPost_ret (v := .tuple #[.agg #[.int .i64 0], .bool false]) (by simp [results, Tryd.results71, go_sem, r0]) rfl ⟨HE.out, HB0.out⟩
    | true =>
      have e2 : (m == 0) = false := by rw [hm]; unfold nz at h2; simpa using h2
      have HE := Lib.hid (req_yes (tk_bl h1 h2))
      obtain ⟨q, hq⟩ : ∃ q, q = hs n := ⟨_, rfl⟩
      have HQw := Lib.hid (hs_wf n)
      rw [← hq] at HE HQw
      have HQ : Hid (hgr 101 n = q) := Lib.hid (by rw [hq]; rfl)
      obtain ⟨x, hx⟩ : ∃ x, x = pwG q b := ⟨_, rfl⟩
      rw [← hx] at HE
      have HX := Lib.hid hx
      clear h1 h2 hm hq hx
      go_enter Tryd.func71, Tryd.ntmps71
      go_wp2_with fail
      refine (spec_in _ _ _ _ HN.out).mono ?_
      rw [H1.out]
      rintro e w1 ⟨rfl, hw⟩
      obtain rfl := hw.symm
      go_wp2_with fail
      refine (spec_mod _ _ _ hbb.1 hbb.2).mono ?_
      rw [HM.out]
      rintro e w1 ⟨rfl, hw⟩
      obtain rfl := hw.symm
      go_wp2_with fail
      refine (spec_hgr (by decide) HN.out).mono ?_
      rw [HQ.out]
      rintro e w1 ⟨rfl, hb⟩
      replace HB0 := Lib.hid (HB0.out.trans (hb.mono HB0.out.size))
      have k1 := (hb.block _ (lt_of_block HK0.out)).trans HK0.out
      clear hb
      have HK1 := Lib.hid k1
      clear k1
      go_wp2_with fail
      refine (spec_pwg HQw.out HBw.out).mono ?_
      rw [← HX.out]
      rintro e w2 ⟨rfl, hw⟩
      obtain rfl := hw.symm
      have f0 := blk_free HK1.out 0
      have c0 := gc0 HK1.out
      obtain ⟨k2, r0⟩ := gst HK1.out (.int .i64 x)
      have hB2 := HB0.out.grown (grown_set _ w.heap.size 0 (.int .i64 x)) HB0.out.size (fun k hk => by injection hk with hk; omega)
      have HB2 := Lib.hid hB2
      clear k2 hB2
      go_wp2_with fail
      exact bodyPost_ret (v := .tuple #[.agg #[.int .i64 x], .bool true]) (by simp [results, Tryd.results71, go_sem, r0]) rfl ⟨HE.out, HB2.out⟩

/-- What a reply holds. -/
theorem rep_no {s x : Int} (t : Int) (h : sgok s x = false) : (Ending.returned (.tuple #[.agg #[.int .i64 0, .int .i64 0, .int .i64 0], .bool false]) : Ending) = .returned (.tuple #[.agg #[.int .i64 (sgE s x), .int .i64 (sgC s x t), .int .i64 (sgR s x t)], .bool (sgok s x)]) := by
  obtain ⟨h1, h2, h3⟩ := sg_no t h
  rw [h1, h2, h3, h]
theorem rep_yes {s x : Int} (t : Int) (h : sgok s x = true) : (Ending.returned (.tuple #[.agg #[.int .i64 (pwG x s), .int .i64 (prC 4 x s t), .int .i64 (prR 4 x s t)], .bool true]) : Ending) = .returned (.tuple #[.agg #[.int .i64 (sgE s x), .int .i64 (sgC s x t), .int .i64 (sgR s x t)], .bool (sgok s x)]) := by
  obtain ⟨h1, h2, h3⟩ := sg_yes t h
  rw [h1, h2, h3, h]

set_option maxHeartbeats 2000000 in
/-- impl.SignBlinded. -/
theorem impl_sg {w : World} {s x t : Int} (hs : (Lit.int .i64 s).wf = true) (hx : (Lit.int .i64 x).wf = true) (ht : (Lit.int .i64 t).wf = true) :
    Calls Tryd.prog 29 #[.int .i64 s, .agg #[.int .i64 x], .int .i64 t] w fun e w' => e = .returned (.tuple #[.agg #[.int .i64 (sgE s x), .int .i64 (sgC s x t), .int .i64 (sgR s x t)], .bool (sgok s x)]) ∧ Below w.heap.size w w' := by
  have HS := Lib.hid hs
  have HX := Lib.hid hx
  have HT := Lib.hid ht
  have hsb := wf_i64 hs
  obtain ⟨a0, b0, hB⟩ := gtwo w (.cells #[.int .i64 x] 43) (.cells #[.int .i64 0, .int .i64 0, .int .i64 0] 47)
  have c0 := gc0 a0
  have HA := Lib.hid a0
  have HC := Lib.hid b0
  have HB0 := Lib.hid hB
  clear hs hx ht a0 b0 hB
  cases h1 : isG x with
  | false =>
    have H1 := Lib.hid h1
    have HE := Lib.hid (rep_no (s := s) (x := x) t (by unfold sgok; rw [h1]; rfl))
    clear h1
    go_enter Tryd.func29, Tryd.ntmps29
    go_wp2_with fail
    refine (impl_isg HX.out).mono ?_
    rw [H1.out]
    rintro e w1 ⟨rfl, hb⟩
    replace HB0 := Lib.hid (HB0.out.trans (hb.mono HB0.out.size))
    replace HA := Lib.hid ((hb.block _ (lt_of_block HA.out)).trans HA.out)
    replace HC := Lib.hid ((hb.block _ (lt_of_block HC.out)).trans HC.out)
    clear hb
    obtain ⟨q0, q1, q2, f0, f1, f2⟩ := ptc HC.out
    obtain ⟨k9, g9⟩ := pst3 HC.out (.int .i64 0) (.int .i64 0) (.int .i64 0)
    obtain ⟨r0, r1, r2, _⟩ := ptc k9
    replace HB0 := Lib.hid (HB0.out.grown g9 HB0.out.size (fun k hk => by injection hk with hk; omega))
    clear k9 g9
    go_wp2_with fail
    exact bodyPost_ret (v := .tuple #[.agg #[.int .i64 0, .int .i64 0, .int .i64 0], .bool false]) (by simp [results, Tryd.results29, go_sem, r0, r1, r2]) rfl ⟨HE.out, HB0.out⟩
  | true =>
    have H1 := Lib.hid h1
    cases h2 : (x == 1) with
    | true =>
      have HE := Lib.hid (rep_no (s := s) (x := x) t (by unfold sgok; rw [h1, h2]; rfl))
      clear h1
      go_enter Tryd.func29, Tryd.ntmps29
      go_wp2_with fail
      refine (impl_isg HX.out).mono ?_
      rw [H1.out]
      rintro e w1 ⟨rfl, hb⟩
      replace HB0 := Lib.hid (HB0.out.trans (hb.mono HB0.out.size))
      replace HA := Lib.hid ((hb.block _ (lt_of_block HA.out)).trans HA.out)
      replace HC := Lib.hid ((hb.block _ (lt_of_block HC.out)).trans HC.out)
      clear hb c0
      have c0 := gc0 HA.out
      obtain ⟨q0, q1, q2, f0, f1, f2⟩ := ptc HC.out
      obtain ⟨k9, g9⟩ := pst3 HC.out (.int .i64 0) (.int .i64 0) (.int .i64 0)
      obtain ⟨r0, r1, r2, _⟩ := ptc k9
      replace HB0 := Lib.hid (HB0.out.grown g9 HB0.out.size (fun k hk => by injection hk with hk; omega))
      clear k9 g9
      go_wp2_with fail
      exact bodyPost_ret (v := .tuple #[.agg #[.int .i64 0, .int .i64 0, .int .i64 0], .bool false]) (by simp [results, Tryd.results29, go_sem, r0, r1, r2]) rfl ⟨HE.out, HB0.out⟩
    | false =>
     obtain ⟨m, hm⟩ : ∃ m, m = s % 1019 := ⟨_, rfl⟩
     have HM : Hid (modV s 1019 = m) := Lib.hid (by rw [hm]; exact modV_1019 s)
     cases h3 : nz s with
     | false =>
      have H3 := Lib.hid h3
      have e3 : (m == 0) = true := by rw [hm]; unfold nz at h3; simpa using h3
      have HE := Lib.hid (rep_no (s := s) (x := x) t (by unfold sgok; rw [h1, h2, h3]; rfl))
      clear h1 h3 hm
      go_enter Tryd.func29, Tryd.ntmps29
      go_wp2_with fail
      refine (impl_isg HX.out).mono ?_
      rw [H1.out]
      rintro e w1 ⟨rfl, hb⟩
      replace HB0 := Lib.hid (HB0.out.trans (hb.mono HB0.out.size))
      replace HA := Lib.hid ((hb.block _ (lt_of_block HA.out)).trans HA.out)
      replace HC := Lib.hid ((hb.block _ (lt_of_block HC.out)).trans HC.out)
      clear hb c0
      have c0 := gc0 HA.out
      go_wp2_with fail
      refine (isH_any HS.out).mono ?_
      rw [H3.out]
      rintro e w1 ⟨rfl, hw⟩
      obtain rfl := hw.symm
      obtain ⟨q0, q1, q2, f0, f1, f2⟩ := ptc HC.out
      obtain ⟨k9, g9⟩ := pst3 HC.out (.int .i64 0) (.int .i64 0) (.int .i64 0)
      obtain ⟨r0, r1, r2, _⟩ := ptc k9
      replace HB0 := Lib.hid (HB0.out.grown g9 HB0.out.size (fun k hk => by injection hk with hk; omega))
      clear k9 g9
      go_wp2_with fail
      exact bodyPost_ret (v := .tuple #[.agg #[.int .i64 0, .int .i64 0, .int .i64 0], .bool false]) (by simp [results, Tryd.results29, go_sem, r0, r1, r2]) rfl ⟨HE.out, HB0.out⟩
     | true =>
      have H3 := Lib.hid h3
      have e3 : (m == 0) = false := by rw [hm]; unfold nz at h3; simpa using h3
      have HE := Lib.hid (rep_yes (s := s) (x := x) t (by unfold sgok; rw [h1, h2, h3]; rfl))
      obtain ⟨y, hy⟩ : ∃ y, y = pwG x s := ⟨_, rfl⟩
      obtain ⟨c, hc⟩ : ∃ y, y = prC 4 x s t := ⟨_, rfl⟩
      obtain ⟨r, hr⟩ : ∃ y, y = prR 4 x s t := ⟨_, rfl⟩
      rw [← hy, ← hc, ← hr] at HE
      have HY := Lib.hid hy
      have HCc := Lib.hid hc
      have HRr := Lib.hid hr
      clear h1 h3 hm hy hc hr
      go_enter Tryd.func29, Tryd.ntmps29
      go_wp2_with fail
      refine (impl_isg HX.out).mono ?_
      rw [H1.out]
      rintro e w1 ⟨rfl, hb⟩
      replace HB0 := Lib.hid (HB0.out.trans (hb.mono HB0.out.size))
      replace HA := Lib.hid ((hb.block _ (lt_of_block HA.out)).trans HA.out)
      replace HC := Lib.hid ((hb.block _ (lt_of_block HC.out)).trans HC.out)
      clear hb c0
      have c0 := gc0 HA.out
      go_wp2_with fail
      refine (isH_any HS.out).mono ?_
      rw [H3.out]
      rintro e w1 ⟨rfl, hw⟩
      obtain rfl := hw.symm
      go_wp2_with fail
      refine (impl_pr (by decide) HX.out HS.out HT.out).mono ?_
      rw [← HCc.out, ← HRr.out]
      rintro e w2 ⟨rfl, hb⟩
      replace HB0 := Lib.hid (HB0.out.trans (hb.mono HB0.out.size))
      replace HA := Lib.hid ((hb.block _ (lt_of_block HA.out)).trans HA.out)
      replace HC := Lib.hid ((hb.block _ (lt_of_block HC.out)).trans HC.out)
      clear hb c0
      have c0 := gc0 HA.out
      go_wp2_with fail
      refine (impl_pwg HX.out HS.out).mono ?_
      rw [← HY.out]
      rintro e w3 ⟨rfl, hb⟩
      replace HB0 := Lib.hid (HB0.out.trans (hb.mono HB0.out.size))
      replace HC := Lib.hid ((hb.block _ (lt_of_block HC.out)).trans HC.out)
      clear hb c0
      obtain ⟨q0, q1, q2, f0, f1, f2⟩ := ptc HC.out
      obtain ⟨k9, g9⟩ := pst3 HC.out (.int .i64 y) (.int .i64 c) (.int .i64 r)
      obtain ⟨r0, r1, r2, _⟩ := ptc k9
      replace HB0 := Lib.hid (HB0.out.grown g9 HB0.out.size (fun k hk => by injection hk with hk; omega))
      clear k9 g9
      go_wp2_with fail
      exact bodyPost_ret (v := .tuple #[.agg #[.int .i64 y, .int .i64 c, .int .i64 r], .bool true]) (by simp [results, Tryd.results29, go_sem, r0, r1, r2]) rfl ⟨HE.out, HB0.out⟩

end Go.Proofs.YtdccljmffmlkbaaDoor


/-! Tk2 -/
namespace Go.Proofs.YtdccljmffmlkbaaDoor
open Go Go.RowKit
set_option linter.unusedVariables false
set_option maxRecDepth 20000
attribute [local irreducible] kh kid pwm tcm pw chl

theorem tok_no {n b k e c r : Int} (h : fnok n b k e c r = false) : (Ending.returned (.tuple #[.agg #[.int .i64 0, .int .i64 0], .bool false]) : Ending) = .returned (.tuple #[.agg #[.int .i64 (fnS n b k e c r), .int .i64 (fnV n b k e c r)], .bool (fnok n b k e c r)]) := by
  obtain ⟨h1, h2⟩ := fn_no h
  rw [h1, h2, h]
theorem tok_yes {n b k e c r : Int} (h : fnok n b k e c r = true) : (Ending.returned (.tuple #[.agg #[.int .i64 n, .int .i64 (pwG e (invE b))], .bool true]) : Ending) = .returned (.tuple #[.agg #[.int .i64 (fnS n b k e c r), .int .i64 (fnV n b k e c r)], .bool (fnok n b k e c r)]) := by
  obtain ⟨h1, h2⟩ := fn_yes h
  rw [h1, h2, h]
theorem blE_wf (n b : Int) : (Lit.int .i64 (blE n b)).wf = true := by have := blE_bound n b; exact small_wf (by omega) (by omega)
theorem invE_wf (n : Int) : (Lit.int .i64 (invE n)).wf = true := by
  by_cases h : n % 1019 = 0
  · rw [invE_zero h]; decide
  · obtain ⟨m, h1, h2, h3, _⟩ := invE_ok h
    rw [h3]; exact small_wf (by omega) (by omega)

set_option maxHeartbeats 4000000 in
/-- spec.FinishToken. -/
theorem spec_fn {w : World} {n b k e c r : Int} (hn : (Lit.int .i64 n).wf = true) (hbw : (Lit.int .i64 b).wf = true) (hk : (Lit.int .i64 k).wf = true) (he : (Lit.int .i64 e).wf = true) (hc : (Lit.int .i64 c).wf = true) (hr : (Lit.int .i64 r).wf = true) :
    Calls Tryd.prog 34 #[.int .i64 n, .int .i64 b, .int .i64 k, .agg #[.int .i64 e, .int .i64 c, .int .i64 r]] w fun x w' => x = .returned (.tuple #[.agg #[.int .i64 (fnS n b k e c r), .int .i64 (fnV n b k e c r)], .bool (fnok n b k e c r)]) ∧ Below w.heap.size w w' := by
  have HN := Lib.hid hn
  have HBw := Lib.hid hbw
  have HKw := Lib.hid hk
  have HEw := Lib.hid he
  have HCw := Lib.hid hc
  have HRw := Lib.hid hr
  obtain ⟨a0, b0, hB⟩ := gtwo w (.cells #[.int .i64 e, .int .i64 c, .int .i64 r] 47) (.cells #[.int .i64 0, .int .i64 0] 51)
  have HA := Lib.hid a0
  have HC := Lib.hid b0
  have HB0 := Lib.hid hB
  have HXw := Lib.hid (blE_wf n b)
  obtain ⟨x, hx⟩ : ∃ x, x = blE n b := ⟨_, rfl⟩
  rw [← hx] at HXw
  have HX := Lib.hid hx
  clear hn hbw hk he hc hr a0 b0 hB hx
  cases h1 : blok n b with
  | false =>
    have H1 := Lib.hid h1
    have HE := Lib.hid (tok_no (n := n) (b := b) (k := k) (e := e) (c := c) (r := r) (by unfold fnok; rw [h1]; rfl))
    clear h1
    go_enter Tryd.func34, Tryd.ntmps34
    go_wp2_with fail
    refine (spec_bl HN.out HBw.out).mono ?_
    rw [H1.out, ← HX.out]
    rintro e' w1 ⟨rfl, hb⟩
    replace HB0 := Lib.hid (HB0.out.trans (hb.mono HB0.out.size))
    replace HA := Lib.hid ((hb.block _ (lt_of_block HA.out)).trans HA.out)
    replace HC := Lib.hid ((hb.block _ (lt_of_block HC.out)).trans HC.out)
    clear hb
    have HA1 := Lib.hid ((heap_alloc_old w1 (.cells #[.int .i64 x] 43) (lt_of_block HA.out)).trans HA.out)
    have HC1 := Lib.hid ((heap_alloc_old w1 (.cells #[.int .i64 x] 43) (lt_of_block HC.out)).trans HC.out)
    have HX1 := Lib.hid (heap_alloc_new w1 (.cells #[.int .i64 x] 43))
    have HB1 := Lib.hid (HB0.out.alloc HB0.out.size (.cells #[.int .i64 x] 43))
    obtain ⟨W1, hW1⟩ : ∃ W, W = w1.alloc (.cells #[.int .i64 x] 43) := ⟨_, rfl⟩
    rw [← hW1] at HA1 HC1 HX1 HB1
    have HW1 := Lib.hid hW1
    clear hW1 HA HC HB0
    obtain ⟨q0, q1, f0, f1⟩ := pcs HC1.out
    obtain ⟨k9, g9⟩ := pst HC1.out (.int .i64 0) (.int .i64 0)
    obtain ⟨r0, r1, _⟩ := pcs k9
    replace HB1 := Lib.hid (HB1.out.grown g9 HB1.out.size (fun k hk => by injection hk with hk; omega))
    clear k9 g9
    go_wp2_with (rw [← HW1.out])
    exact bodyPost_ret (v := .tuple #[.agg #[.int .i64 0, .int .i64 0], .bool false]) (by simp [results, Tryd.results34, go_sem, r0, r1]) rfl ⟨HE.out, HB1.out⟩
  | true =>
   have H1 := Lib.hid h1
   cases h2 : vrf 4 x k e c r with
   | false =>
    have H2 := Lib.hid h2
    have HE := Lib.hid (tok_no (n := n) (b := b) (k := k) (e := e) (c := c) (r := r) (by unfold fnok; rw [h1, ← HX.out, h2]; rfl))
    clear h1 h2
    go_enter Tryd.func34, Tryd.ntmps34
    go_wp2_with fail
    refine (spec_bl HN.out HBw.out).mono ?_
    rw [H1.out, ← HX.out]
    rintro e' w1 ⟨rfl, hb⟩
    replace HB0 := Lib.hid (HB0.out.trans (hb.mono HB0.out.size))
    replace HA := Lib.hid ((hb.block _ (lt_of_block HA.out)).trans HA.out)
    replace HC := Lib.hid ((hb.block _ (lt_of_block HC.out)).trans HC.out)
    clear hb
    have HA1 := Lib.hid ((heap_alloc_old w1 (.cells #[.int .i64 x] 43) (lt_of_block HA.out)).trans HA.out)
    have HC1 := Lib.hid ((heap_alloc_old w1 (.cells #[.int .i64 x] 43) (lt_of_block HC.out)).trans HC.out)
    have HX1 := Lib.hid (heap_alloc_new w1 (.cells #[.int .i64 x] 43))
    have HB1 := Lib.hid (HB0.out.alloc HB0.out.size (.cells #[.int .i64 x] 43))
    obtain ⟨W1, hW1⟩ : ∃ W, W = w1.alloc (.cells #[.int .i64 x] 43) := ⟨_, rfl⟩
    rw [← hW1] at HA1 HC1 HX1 HB1
    have HW1 := Lib.hid hW1
    clear hW1 HA HC HB0
    obtain ⟨d0, d1, d2, _⟩ := ptc HA1.out
    have x0 := gc0 HX1.out
    rw [HW1.out] at d0 d1 d2 x0
    go_wp2_with fail
    rw [← HW1.out]
    refine (spec_vf (by decide) HXw.out HKw.out HEw.out HCw.out HRw.out).mono ?_
    rw [H2.out]
    rintro e' w2 ⟨rfl, hb⟩
    replace HB1 := Lib.hid (HB1.out.trans (hb.mono HB1.out.size))
    replace HC1 := Lib.hid ((hb.block _ (lt_of_block HC1.out)).trans HC1.out)
    clear hb d0 d1 d2 x0
    obtain ⟨q0, q1, f0, f1⟩ := pcs HC1.out
    obtain ⟨k9, g9⟩ := pst HC1.out (.int .i64 0) (.int .i64 0)
    obtain ⟨r0, r1, _⟩ := pcs k9
    replace HB1 := Lib.hid (HB1.out.grown g9 HB1.out.size (fun k hk => by injection hk with hk; omega))
    clear k9 g9
    go_wp2_with fail
    exact bodyPost_ret (v := .tuple #[.agg #[.int .i64 0, .int .i64 0], .bool false]) (by simp [results, Tryd.results34, go_sem, r0, r1]) rfl ⟨HE.out, HB1.out⟩
   | true =>
    have H2 := Lib.hid h2
    have HE := Lib.hid (tok_yes (n := n) (b := b) (k := k) (e := e) (c := c) (r := r) (by unfold fnok; rw [h1, ← HX.out, h2]; rfl))
    have HIw := Lib.hid (invE_wf b)
    obtain ⟨i, hi⟩ : ∃ i, i = invE b := ⟨_, rfl⟩
    rw [← hi] at HE HIw
    have HI := Lib.hid hi
    obtain ⟨y, hy⟩ : ∃ y, y = pwG e i := ⟨_, rfl⟩
    rw [← hy] at HE
    have HY := Lib.hid hy
    clear h1 h2 hi hy
    go_enter Tryd.func34, Tryd.ntmps34
    go_wp2_with fail
    refine (spec_bl HN.out HBw.out).mono ?_
    rw [H1.out, ← HX.out]
    rintro e' w1 ⟨rfl, hb⟩
    replace HB0 := Lib.hid (HB0.out.trans (hb.mono HB0.out.size))
    replace HA := Lib.hid ((hb.block _ (lt_of_block HA.out)).trans HA.out)
    replace HC := Lib.hid ((hb.block _ (lt_of_block HC.out)).trans HC.out)
    clear hb
    have HA1 := Lib.hid ((heap_alloc_old w1 (.cells #[.int .i64 x] 43) (lt_of_block HA.out)).trans HA.out)
    have HC1 := Lib.hid ((heap_alloc_old w1 (.cells #[.int .i64 x] 43) (lt_of_block HC.out)).trans HC.out)
    have HX1 := Lib.hid (heap_alloc_new w1 (.cells #[.int .i64 x] 43))
    have HB1 := Lib.hid (HB0.out.alloc HB0.out.size (.cells #[.int .i64 x] 43))
    obtain ⟨W1, hW1⟩ : ∃ W, W = w1.alloc (.cells #[.int .i64 x] 43) := ⟨_, rfl⟩
    rw [← hW1] at HA1 HC1 HX1 HB1
    have HW1 := Lib.hid hW1
    clear hW1 HA HC HB0
    obtain ⟨d0, d1, d2, _⟩ := ptc HA1.out
    have x0 := gc0 HX1.out
    rw [HW1.out] at d0 d1 d2 x0
    go_wp2_with fail
    rw [← HW1.out]
    refine (spec_vf (by decide) HXw.out HKw.out HEw.out HCw.out HRw.out).mono ?_
    rw [H2.out]
    rintro e' w2 ⟨rfl, hb⟩
    replace HB1 := Lib.hid (HB1.out.trans (hb.mono HB1.out.size))
    replace HC1 := Lib.hid ((hb.block _ (lt_of_block HC1.out)).trans HC1.out)
    replace HA1 := Lib.hid ((hb.block _ (lt_of_block HA1.out)).trans HA1.out)
    clear hb d0 d1 d2 x0
    go_wp2_with fail
    refine region_till (fun w' => w'.cell? ⟨w.heap.size, 0, none⟩ = some (.int .i64 e)) 7 (by kernel_rfl) ?_
    obtain ⟨wd, hwd⟩ : ∃ x, x = w2.drew := ⟨_, rfl⟩
    have HBd : Hid (Below w.heap.size w wd) := Lib.hid (by rw [hwd]; exact HB1.out.drew)
    have HCd : Hid (wd.heap[w.heap.size + 1]? = some (.cells #[.int .i64 0, .int .i64 0] 51)) := Lib.hid (by rw [hwd]; exact HC1.out)
    have HAd : Hid (wd.heap[w.heap.size]? = some (.cells #[.int .i64 e, .int .i64 c, .int .i64 r] 47)) := Lib.hid (by rw [hwd]; exact HA1.out)
    have d0 := (ptc HAd.out).1
    rw [← hwd]
    clear hwd HB1 HC1 HA1
    apply Till.take (i := 0) [0, 6, 7]
    · simp only [List.getElem?_toArray, List.getElem?_cons_zero]
      rfl
    · kernel_rfl
    · kernel_rfl
    · kernel_rfl
    · kernel_rfl
    · exact fun _ _ _ h => h
    · first
        | exact Or.inr ⟨by rfl, rfl⟩
        | (refine Or.inl ⟨by rfl, fun wq hwq => ?_⟩
           dsimp only at hwq
           go_simp
           first
             | done
             | rfl)
    · exact d0
    simp only [Act.put, List.setIfInBounds_toArray, List.set_cons_zero, List.set_cons_succ]
    apply Till.take (i := 1) [1, 2, 5, 6, 7]
    · simp only [List.getElem?_toArray, List.getElem?_cons_succ, List.getElem?_cons_zero]
      rfl
    · kernel_rfl
    · kernel_rfl
    · kernel_rfl
    · kernel_rfl
    · exact fun _ _ _ h => h
    · first
        | exact Or.inr ⟨by rfl, rfl⟩
        | (refine Or.inl ⟨by rfl, fun wq hwq => ?_⟩
           dsimp only at hwq
           go_simp
           first
             | done
             | rfl)
    · exact d0
    simp only [Act.put, List.setIfInBounds_toArray, List.set_cons_zero, List.set_cons_succ]
    apply Till.take (i := 2) [2, 5, 6, 7]
    · simp only [List.getElem?_toArray, List.getElem?_cons_succ, List.getElem?_cons_zero]
      rfl
    · kernel_rfl
    · kernel_rfl
    · kernel_rfl
    · kernel_rfl
    · exact fun _ _ _ h => h
    · first
        | exact Or.inr ⟨by rfl, rfl⟩
        | (refine Or.inl ⟨by rfl, fun wq hwq => ?_⟩
           dsimp only at hwq
           go_simp
           first
             | done
             | rfl)
    · exact d0
    simp only [Act.put, List.setIfInBounds_toArray, List.set_cons_zero, List.set_cons_succ]
    apply Till.take (i := 3) [3, 4, 5, 6, 7]
    · simp only [List.getElem?_toArray, List.getElem?_cons_succ, List.getElem?_cons_zero]
      rfl
    · kernel_rfl
    · kernel_rfl
    · kernel_rfl
    · kernel_rfl
    · exact fun _ _ _ h => h
    · first
        | exact Or.inr ⟨by rfl, rfl⟩
        | (refine Or.inl ⟨by rfl, fun wq hwq => ?_⟩
           dsimp only at hwq
           go_simp
           first
             | done
             | rfl)
    · exact d0
    simp only [Act.put, List.setIfInBounds_toArray, List.set_cons_zero, List.set_cons_succ]
    apply Till.one (i := 4)
    · kernel_rfl
    · simp only [List.getElem?_toArray, List.getElem?_cons_succ, List.getElem?_cons_zero]
      rfl
    intro K hK
    go_simp
    refine (spec_inv HBw.out).mono ?_
    rw [← HI.out]
    rintro e' w3 ⟨he, hw⟩
    subst he
    obtain rfl := hw.symm
    refine hK.out _ _ (Or.inr d0) ?_
    clear hK K
    try simp only [Act.put, List.setIfInBounds_toArray, List.set_cons_zero, List.set_cons_succ]
    apply Till.one (i := 5)
    · kernel_rfl
    · simp only [List.getElem?_toArray, List.getElem?_cons_succ, List.getElem?_cons_zero]
      rfl
    intro K hK
    go_simp
    refine (spec_pwg HEw.out HIw.out).mono ?_
    rw [← HY.out]
    rintro e' w3 ⟨he, hw⟩
    subst he
    obtain rfl := hw.symm
    refine hK.out _ _ (Or.inr d0) ?_
    clear hK K
    try simp only [Act.put, List.setIfInBounds_toArray, List.set_cons_zero, List.set_cons_succ]
    apply Till.take (i := 6) [6, 7]
    · simp only [List.getElem?_toArray, List.getElem?_cons_succ, List.getElem?_cons_zero]
      rfl
    · kernel_rfl
    · kernel_rfl
    · kernel_rfl
    · kernel_rfl
    · exact fun _ _ _ h => h
    · first
        | exact Or.inr ⟨by rfl, rfl⟩
        | (refine Or.inl ⟨by rfl, fun wq hwq => ?_⟩
           dsimp only at hwq
           go_simp
           first
             | done
             | rfl)
    · exact d0
    simp only [Act.put, List.setIfInBounds_toArray, List.set_cons_zero, List.set_cons_succ]
    obtain ⟨q0, q1, f0, f1⟩ := pcs HCd.out
    obtain ⟨k9, g9⟩ := pst HCd.out (.int .i64 n) (.int .i64 y)
    obtain ⟨r0, r1, _⟩ := pcs k9
    have HB1 := Lib.hid (HBd.out.grown g9 HBd.out.size (fun k hk => by injection hk with hk; omega))
    clear k9 g9
    apply Till.one (i := 7)
    · kernel_rfl
    · simp only [List.getElem?_toArray, List.getElem?_cons_succ, List.getElem?_cons_zero]
      rfl
    intro K hK
    go_simp
    skip
    refine hK.out _ _ (Or.inl (by rfl)) ?_
    clear hK K
    try simp only [Act.put, List.setIfInBounds_toArray, List.set_cons_zero, List.set_cons_succ]
    apply Till.one (i := 8)
    · kernel_rfl
    · simp only [List.getElem?_toArray, List.getElem?_cons_succ, List.getElem?_cons_zero]
      rfl
    intro K hK
    go_simp
    skip
    refine hK.out _ _ (Or.inl (by rfl)) ?_
    clear hK K
    try simp only [Act.put, List.setIfInBounds_toArray, List.set_cons_zero, List.set_cons_succ]
    refine Till.done (by kernel_rfl) ?_ _
    go_wp2_with fail
    exact bodyPost_ret (v := .tuple #[.agg #[.int .i64 n, .int .i64 y], .bool true]) (by simp [results, Tryd.results34, go_sem, r0, r1]) rfl ⟨HE.out, HB1.out⟩

/-- The worlds in which a token's box stands. -/
def TokW (w : World) (n v : Int) (w' : World) : Prop := Below w.heap.size w w' ∧ w'.heap[w.heap.size]? = some (.cells #[.int .i64 n, .int .i64 v] 51)
theorem TokW.next {w : World} {n v : Int} {w1 w2 : World} (h : TokW w n v w1) (hb : Below w1.heap.size w1 w2) : TokW w n v w2 := ⟨h.1.trans (hb.mono h.1.size), (hb.block _ (lt_of_block h.2)).trans h.2⟩
theorem tokW_start (w : World) (n v : Int) : TokW w n v (w.alloc (.cells #[.int .i64 n, .int .i64 v] 51)).drew :=
  ⟨((Below.refl w.heap.size w).alloc (Nat.le_refl _) _).drew, heap_alloc_new w _⟩

set_option maxHeartbeats 4000000 in
/-- impl.IsValidToken. -/
theorem impl_vt {w : World} {s n v : Int} (hs : (Lit.int .i64 s).wf = true) (hn : (Lit.int .i64 n).wf = true) (hv : (Lit.int .i64 v).wf = true) :
    Calls Tryd.prog 32 #[.int .i64 s, .agg #[.int .i64 n, .int .i64 v]] w fun e w' => e = .returned (.bool (vtok s n v)) ∧ Below w.heap.size w w' := by
  have HS := Lib.hid hs
  have HN := Lib.hid hn
  have hsb := wf_i64 hs
  obtain ⟨m, hm⟩ : ∃ m, m = s % 1019 := ⟨_, rfl⟩
  have HM : Hid (modV s 1019 = m) := Lib.hid (by rw [hm]; exact modV_1019 s)
  have HYw := Lib.hid (hs_wf n)
  obtain ⟨y, hy⟩ : ∃ y, y = Go.Proofs.YtdccljmffmlkbaaDoor.hs n := ⟨_, rfl⟩
  rw [← hy] at HYw
  obtain ⟨z, hz⟩ : ∃ z, z = pwG y s := ⟨_, rfl⟩
  obtain ⟨t, ht⟩ : ∃ t, t = (v == z) := ⟨_, rfl⟩
  have hE : vtok s n v = (okNr n && (nz s && t)) := by unfold vtok; rw [← hy, ← hz, ← ht]
  have HY := Lib.hid hy
  have HYs : Hid (hgr 101 n = y) := Lib.hid (by rw [hy]; rfl)
  have HZ := Lib.hid hz
  have ht' : (v == z) = t := ht.symm
  have hmz : nz s = (m != 0) := by rw [hm]; rfl
  clear hs hn hv hm hy hz ht
  cases h1 : okNr n with
  | false =>
    cases h2 : nz s with
    | false =>
      have H1 : Hid (okNr n = false) := Lib.hid h1
      have H2 := Lib.hid h2
      have HE : Hid ((Ending.returned (.bool false) : Ending) = .returned (.bool (vtok s n v))) := Lib.hid (by rw [hE, h1]; rfl)
      have e2 : (m != 0) = false := by rw [← hmz, h2]
      clear h1 h2 hE hmz
      go_enter Tryd.func32, Tryd.ntmps32
      go_wp2_with fail
      refine region_quiet_c (C := TokW w n v) (by kernel_rfl) (by kernel_rfl) (tokW_start w n v) ?_
      repeat (first
        | go_big_quiet_skip
        | (apply quiet_on
           · kernel_rfl
           · intro wq hq
             obtain ⟨c0, c1, _⟩ := pcs hq.2
             go_simp
             first
               | done
               | (go_at_call 67
                  refine (isH_any HS.out).mono ?_
                  rintro e' w7 ⟨he, hw⟩
                  rw [H2.out] at he
                  subst hw
                  exact ⟨he, hq⟩)
               | (go_at_call 69
                  refine (isS_any HN.out).mono ?_
                  rintro e' w7 ⟨he, hw⟩
                  first | rw [H1.out] at he | (have h9 := H1.out; unfold okNr at h9; rw [h9] at he)
                  subst hw
                  exact ⟨he, hq⟩)
               | (go_at_call 70
                  refine (sel_any HN.out).mono ?_
                  rintro e' w7 ⟨he, hb⟩
                  rw [← HY.out] at he
                  exact ⟨he, hq.next hb⟩)
               | (go_at_call 20
                  refine (impl_pwg HYw.out HS.out).mono ?_
                  rintro e' w7 ⟨he, hb⟩
                  rw [← HZ.out] at he
                  exact ⟨he, hq.next hb⟩)
               | rfl
               | exact ⟨rfl, hq⟩
           simp only [Act.put, List.setIfInBounds_toArray, List.set_cons_zero, List.set_cons_succ]))
      refine wpQuiet_nil ?_
      intro w7 hq
      have HQ7 := Lib.hid hq
      clear hq
      go_wp2_with fail
      go_ret
      exact ⟨HE.out, HQ7.out.1⟩
    | true =>
      have H1 : Hid (okNr n = false) := Lib.hid h1
      have H2 := Lib.hid h2
      have HE : Hid ((Ending.returned (.bool false) : Ending) = .returned (.bool (vtok s n v))) := Lib.hid (by rw [hE, h1]; rfl)
      have e2 : (m != 0) = true := by rw [← hmz, h2]
      clear h1 h2 hE hmz
      go_enter Tryd.func32, Tryd.ntmps32
      go_wp2_with fail
      refine region_quiet_c (C := TokW w n v) (by kernel_rfl) (by kernel_rfl) (tokW_start w n v) ?_
      repeat (first
        | go_big_quiet_skip
        | (apply quiet_on
           · kernel_rfl
           · intro wq hq
             obtain ⟨c0, c1, _⟩ := pcs hq.2
             go_simp
             first
               | done
               | (go_at_call 67
                  refine (isH_any HS.out).mono ?_
                  rintro e' w7 ⟨he, hw⟩
                  rw [H2.out] at he
                  subst hw
                  exact ⟨he, hq⟩)
               | (go_at_call 69
                  refine (isS_any HN.out).mono ?_
                  rintro e' w7 ⟨he, hw⟩
                  first | rw [H1.out] at he | (have h9 := H1.out; unfold okNr at h9; rw [h9] at he)
                  subst hw
                  exact ⟨he, hq⟩)
               | (go_at_call 70
                  refine (sel_any HN.out).mono ?_
                  rintro e' w7 ⟨he, hb⟩
                  rw [← HY.out] at he
                  exact ⟨he, hq.next hb⟩)
               | (go_at_call 20
                  refine (impl_pwg HYw.out HS.out).mono ?_
                  rintro e' w7 ⟨he, hb⟩
                  rw [← HZ.out] at he
                  exact ⟨he, hq.next hb⟩)
               | rfl
               | exact ⟨rfl, hq⟩
           simp only [Act.put, List.setIfInBounds_toArray, List.set_cons_zero, List.set_cons_succ]))
      refine wpQuiet_nil ?_
      intro w7 hq
      have HQ7 := Lib.hid hq
      clear hq
      go_wp2_with fail
      go_ret
      exact ⟨HE.out, HQ7.out.1⟩
  | true =>
    cases h2 : nz s with
    | false =>
      have H1 : Hid (okNr n = true) := Lib.hid h1
      have H2 := Lib.hid h2
      have HE : Hid ((Ending.returned (.bool false) : Ending) = .returned (.bool (vtok s n v))) := Lib.hid (by rw [hE, h1, h2]; rfl)
      have e2 : (m != 0) = false := by rw [← hmz, h2]
      clear h1 h2 hE hmz
      go_enter Tryd.func32, Tryd.ntmps32
      go_wp2_with fail
      refine region_quiet_c (C := TokW w n v) (by kernel_rfl) (by kernel_rfl) (tokW_start w n v) ?_
      repeat (first
        | go_big_quiet_skip
        | (apply quiet_on
           · kernel_rfl
           · intro wq hq
             obtain ⟨c0, c1, _⟩ := pcs hq.2
             go_simp
             first
               | done
               | (go_at_call 67
                  refine (isH_any HS.out).mono ?_
                  rintro e' w7 ⟨he, hw⟩
                  rw [H2.out] at he
                  subst hw
                  exact ⟨he, hq⟩)
               | (go_at_call 69
                  refine (isS_any HN.out).mono ?_
                  rintro e' w7 ⟨he, hw⟩
                  first | rw [H1.out] at he | (have h9 := H1.out; unfold okNr at h9; rw [h9] at he)
                  subst hw
                  exact ⟨he, hq⟩)
               | (go_at_call 70
                  refine (sel_any HN.out).mono ?_
                  rintro e' w7 ⟨he, hb⟩
                  rw [← HY.out] at he
                  exact ⟨he, hq.next hb⟩)
               | (go_at_call 20
                  refine (impl_pwg HYw.out HS.out).mono ?_
                  rintro e' w7 ⟨he, hb⟩
                  rw [← HZ.out] at he
                  exact ⟨he, hq.next hb⟩)
               | rfl
               | exact ⟨rfl, hq⟩
           simp only [Act.put, List.setIfInBounds_toArray, List.set_cons_zero, List.set_cons_succ]))
      refine wpQuiet_nil ?_
      intro w7 hq
      have HQ7 := Lib.hid hq
      clear hq
      go_wp2_with fail
      go_ret
      exact ⟨HE.out, HQ7.out.1⟩
    | true =>
      have H1 : Hid (okNr n = true) := Lib.hid h1
      have H2 := Lib.hid h2
      have HE : Hid ((Ending.returned (.bool t) : Ending) = .returned (.bool (vtok s n v))) := Lib.hid (by rw [hE, h1, h2]; rfl)
      have e2 : (m != 0) = true := by rw [← hmz, h2]
      clear h1 h2 hE hmz
      go_enter Tryd.func32, Tryd.ntmps32
      go_wp2_with fail
      refine region_quiet_c (C := TokW w n v) (by kernel_rfl) (by kernel_rfl) (tokW_start w n v) ?_
      repeat (first
        | go_big_quiet_skip
        | (apply quiet_on
           · kernel_rfl
           · intro wq hq
             obtain ⟨c0, c1, _⟩ := pcs hq.2
             go_simp
             first
               | done
               | (go_at_call 67
                  refine (isH_any HS.out).mono ?_
                  rintro e' w7 ⟨he, hw⟩
                  rw [H2.out] at he
                  subst hw
                  exact ⟨he, hq⟩)
               | (go_at_call 69
                  refine (isS_any HN.out).mono ?_
                  rintro e' w7 ⟨he, hw⟩
                  first | rw [H1.out] at he | (have h9 := H1.out; unfold okNr at h9; rw [h9] at he)
                  subst hw
                  exact ⟨he, hq⟩)
               | (go_at_call 70
                  refine (sel_any HN.out).mono ?_
                  rintro e' w7 ⟨he, hb⟩
                  rw [← HY.out] at he
                  exact ⟨he, hq.next hb⟩)
               | (go_at_call 20
                  refine (impl_pwg HYw.out HS.out).mono ?_
                  rintro e' w7 ⟨he, hb⟩
                  rw [← HZ.out] at he
                  exact ⟨he, hq.next hb⟩)
               | rfl
               | exact ⟨rfl, hq⟩
           simp only [Act.put, List.setIfInBounds_toArray, List.set_cons_zero, List.set_cons_succ]))
      refine wpQuiet_nil ?_
      intro w7 hq
      have HQ7 := Lib.hid hq
      clear hq
      go_wp2_with fail
      go_ret
      exact ⟨HE.out, HQ7.out.1⟩

end Go.Proofs.YtdccljmffmlkbaaDoor
