/- Blind tokens: keys of issuers, requests of the document, replies; what serial numbers and exponents may be. No conditions but numbers that a machine holds. -/
import Derived.Test.YtkmfcboejojgmaaDoorTkN
import Derived.Test.YtkmfcboejojgmaaDoorGr4
import Derived.Test.YtkmfcboejojgmaaDoorCl1
import Derived.Test.YtkmfcboejojgmaaDoorMb1
namespace Go.Proofs.YtkmfcboejojgmaaDoor
open Go Go.RowKit
set_option linter.unusedVariables false
attribute [local irreducible] kh kid pwm tcm pw chl

/-- impl.isSerial. -/
theorem isS_any {w : World} {n : Int} (hn : (Lit.int .i64 n).wf = true) :
    Calls Tryd.prog 32 #[.int .i64 n] w fun e w' => e = .returned (.bool (okNr n)) ∧ w' = w := by
  obtain ⟨q, hq⟩ : ∃ q, q = okNr n := ⟨_, rfl⟩
  have HQ : Hid (inR n 0 100000 = q) := Lib.hid hq.symm
  rw [← hq]
  clear hq
  go_enter Tryd.func32, Tryd.ntmps32
  go_wp2_with fail
  refine (impl_in _ _ _ _ hn).mono ?_
  rw [HQ.out]
  rintro e w1 ⟨rfl, hw⟩
  subst hw
  go_wp2_with fail
  go_ret
  exact ⟨rfl, rfl⟩

/-- impl.isHiding. -/
theorem isH_any {w : World} {n : Int} (hn : (Lit.int .i64 n).wf = true) :
    Calls Tryd.prog 29 #[.int .i64 n] w fun e w' => e = .returned (.bool (nz n)) ∧ w' = w := by
  obtain ⟨m, hm⟩ : ∃ m, m = n % 1019 := ⟨_, rfl⟩
  obtain ⟨q, hq⟩ : ∃ q, q = nz n := ⟨_, rfl⟩
  have e1 : (m != 0) = q := by rw [hq, hm]; rfl
  have HM := Lib.hid hm
  rw [← hq]
  clear hq hm
  go_enter Tryd.func29, Tryd.ntmps29
  go_wp2_with fail
  refine (fe_any hn).mono ?_
  rw [← HM.out]
  rintro e w1 ⟨rfl, hw⟩
  subst hw
  go_wp2_with fail
  go_ret
  exact ⟨rfl, rfl⟩

/-- impl.serialElement. -/
theorem sel_any {w : World} {n : Int} (hn : (Lit.int .i64 n).wf = true) :
    Calls Tryd.prog 33 #[.int .i64 n] w fun e w' => e = .returned (.int .i64 (hs n)) ∧ Below w.heap.size w w' := by
  obtain ⟨q, hq⟩ : ∃ q, q = hs n := ⟨_, rfl⟩
  have HQ : Hid (hgr 101 n = q) := Lib.hid hq.symm
  rw [← hq]
  clear hq
  go_enter Tryd.func33, Tryd.ntmps33
  go_wp2_with fail
  refine (impl_hgr (by decide) hn).mono ?_
  rw [HQ.out]
  rintro e w1 ⟨rfl, hb⟩
  have HB := Lib.hid hb
  clear hb
  go_wp2_with fail
  go_ret
  exact ⟨rfl, HB.out⟩

/-- impl.IssuerKey. -/
theorem impl_ik {w : World} {n : Int} (hn : (Lit.int .i64 n).wf = true) :
    Calls Tryd.prog 13 #[.int .i64 n] w fun e w' => e = .returned (.int .i64 (pwG 4 n)) ∧ Below w.heap.size w w' := by
  obtain ⟨q, hq⟩ : ∃ q, q = pwG 4 n := ⟨_, rfl⟩
  have HQ := Lib.hid hq
  rw [← hq]
  clear hq
  go_enter Tryd.func13, Tryd.ntmps13
  go_wp2_with fail
  refine (impl_pwg (by decide) hn).mono ?_
  rw [← HQ.out]
  rintro e w1 ⟨rfl, hb⟩
  have HB := Lib.hid hb
  clear hb
  go_wp2_with fail
  go_ret
  exact ⟨rfl, HB.out⟩

/-- spec.IssuerKey. -/
theorem spec_ik {w : World} {n : Int} (hn : (Lit.int .i64 n).wf = true) :
    Calls Tryd.prog 17 #[.int .i64 n] w fun e w' => e = .returned (.int .i64 (pwG 4 n)) ∧ w' = w := by
  obtain ⟨q, hq⟩ : ∃ q, q = pwG 4 n := ⟨_, rfl⟩
  have HQ := Lib.hid hq
  rw [← hq]
  clear hq
  go_enter Tryd.func17, Tryd.ntmps17
  go_wp2_with fail
  refine (spec_pwg (by decide) hn).mono ?_
  rw [← HQ.out]
  rintro e w1 ⟨rfl, hw⟩
  subst hw
  go_wp2_with fail
  go_ret
  exact ⟨rfl, rfl⟩

/-- A number that a request holds. -/
theorem req_no {n b : Int} (h : blok n b = false) : (Ending.returned (.tuple #[.agg #[.int .i64 0], .bool false]) : Ending) = .returned (.tuple #[.agg #[.int .i64 (blE n b)], .bool (blok n b)]) := by rw [blE_no h, h]
theorem req_yes {n b : Int} (h : blok n b = true) : (Ending.returned (.tuple #[.agg #[.int .i64 (pwG (hs n) b)], .bool true]) : Ending) = .returned (.tuple #[.agg #[.int .i64 (blE n b)], .bool (blok n b)]) := by rw [blE_yes h, h]
theorem hs_wf (n : Int) : (Lit.int .i64 (hs n)).wf = true := by have := el_bound (hs_el n); exact small_wf (by omega) (by omega)

set_option maxHeartbeats 1000000 in
/-- spec.BlindToken. -/
theorem spec_bl {w : World} {n b : Int} (hn : (Lit.int .i64 n).wf = true) (hb : (Lit.int .i64 b).wf = true) :
    Calls Tryd.prog 35 #[.int .i64 n, .int .i64 b] w fun e w' => e = .returned (.tuple #[.agg #[.int .i64 (blE n b)], .bool (blok n b)]) ∧ Below w.heap.size w w' := by
  have HN := Lib.hid hn
  have HBw := Lib.hid hb
  have hbb := wf_i64 hb
  have HB0 := Lib.hid ((Below.refl w.heap.size w).alloc (Nat.le_refl _) (.cells #[.int .i64 0] 27))
  have HK0 := Lib.hid (heap_alloc_new w (.cells #[.int .i64 0] 27))
  clear hn hb
  cases h1 : okNr n with
  | false =>
    have H1 : Hid (inR n 0 100000 = false) := Lib.hid h1
    have HE := Lib.hid (req_no (n := n) (b := b) (by unfold blok; rw [h1]; rfl))
    have r0 := gc0 HK0.out
    clear h1
    go_enter Tryd.func35, Tryd.ntmps35
    go_wp2_with fail
    refine (spec_in _ _ _ _ HN.out).mono ?_
    rw [H1.out]
    rintro e w1 ⟨rfl, hw⟩
    obtain rfl := hw.symm
    go_wp2_with fail
    exact bodyPost_ret (v := .tuple #[.agg #[.int .i64 0], .bool false]) (by simp [results, Tryd.results35, go_sem, r0]) rfl ⟨HE.out, HB0.out⟩
  | true =>
    have H1 : Hid (inR n 0 100000 = true) := Lib.hid h1
    obtain ⟨m, hm⟩ : ∃ m, m = b % 1019 := ⟨_, rfl⟩
    have HM : Hid (modV b 1019 = m) := Lib.hid (by rw [hm]; exact modV_1019 b)
    cases h2 : nz b with
    | false =>
      have e2 : (m == 0) = true := by rw [hm]; unfold nz at h2; simpa using h2
      have HE := Lib.hid (req_no (n := n) (b := b) (by unfold blok; rw [h1, h2]; rfl))
      have r0 := gc0 HK0.out
      clear h1 h2 hm
      go_enter Tryd.func35, Tryd.ntmps35
      go_wp2_with fail
      refine (spec_in _ _ _ _ HN.out).mono ?_
      rw [H1.out]
      rintro e w1 ⟨rfl, hw⟩
      obtain rfl := hw.symm
      go_wp2_with fail
      refine (spec_mod _ _ _ hbb.1 hbb.2).mono ?_
      rw [HM.out]
      rintro e w1 ⟨rfl, hw⟩
      obtain rfl := hw.symm
      go_wp2_with fail
      exact bodyPost_ret (v := .tuple #[.agg #[.int .i64 0], .bool false]) (by simp [results, Tryd.results35, go_sem, r0]) rfl ⟨HE.out, HB0.out⟩
    | true =>
      have e2 : (m == 0) = false := by rw [hm]; unfold nz at h2; simpa using h2
      have HE := Lib.hid (req_yes (tk_bl h1 h2))
      obtain ⟨q, hq⟩ : ∃ q, q = hs n := ⟨_, rfl⟩
      have HQw := Lib.hid (hs_wf n)
      rw [← hq] at HE HQw
      have HQ : Hid (hgr 101 n = q) := Lib.hid (by rw [hq]; rfl)
      obtain ⟨x, hx⟩ : ∃ x, x = pwG q b := ⟨_, rfl⟩
      rw [← hx] at HE
      have HX := Lib.hid hx
      clear h1 h2 hm hq hx
      go_enter Tryd.func35, Tryd.ntmps35
      go_wp2_with fail
      refine (spec_in _ _ _ _ HN.out).mono ?_
      rw [H1.out]
      rintro e w1 ⟨rfl, hw⟩
      obtain rfl := hw.symm
      go_wp2_with fail
      refine (spec_mod _ _ _ hbb.1 hbb.2).mono ?_
      rw [HM.out]
      rintro e w1 ⟨rfl, hw⟩
      obtain rfl := hw.symm
      go_wp2_with fail
      refine (spec_hgr (by decide) HN.out).mono ?_
      rw [HQ.out]
      rintro e w1 ⟨rfl, hb⟩
      replace HB0 := Lib.hid (HB0.out.trans (hb.mono HB0.out.size))
      have k1 := (hb.block _ (lt_of_block HK0.out)).trans HK0.out
      clear hb
      have HK1 := Lib.hid k1
      clear k1
      go_wp2_with fail
      refine (spec_pwg HQw.out HBw.out).mono ?_
      rw [← HX.out]
      rintro e w2 ⟨rfl, hw⟩
      obtain rfl := hw.symm
      have f0 := blk_free HK1.out 0
      have c0 := gc0 HK1.out
      obtain ⟨k2, r0⟩ := gst HK1.out (.int .i64 x)
      have hB2 := HB0.out.grown (grown_set _ w.heap.size 0 (.int .i64 x)) HB0.out.size (fun k hk => by injection hk with hk; omega)
      have HB2 := Lib.hid hB2
      clear k2 hB2
      go_wp2_with fail
      exact bodyPost_ret (v := .tuple #[.agg #[.int .i64 x], .bool true]) (by simp [results, Tryd.results35, go_sem, r0]) rfl ⟨HE.out, HB2.out⟩

/-- What a reply holds. -/
theorem rep_no {s x : Int} (t : Int) (h : sgok s x = false) : (Ending.returned (.tuple #[.agg #[.int .i64 0, .int .i64 0, .int .i64 0], .bool false]) : Ending) = .returned (.tuple #[.agg #[.int .i64 (sgE s x), .int .i64 (sgC s x t), .int .i64 (sgR s x t)], .bool (sgok s x)]) := by
  obtain ⟨h1, h2, h3⟩ := sg_no t h
  rw [h1, h2, h3, h]
theorem rep_yes {s x : Int} (t : Int) (h : sgok s x = true) : (Ending.returned (.tuple #[.agg #[.int .i64 (pwG x s), .int .i64 (prC 4 x s t), .int .i64 (prR 4 x s t)], .bool true]) : Ending) = .returned (.tuple #[.agg #[.int .i64 (sgE s x), .int .i64 (sgC s x t), .int .i64 (sgR s x t)], .bool (sgok s x)]) := by
  obtain ⟨h1, h2, h3⟩ := sg_yes t h
  rw [h1, h2, h3, h]

set_option maxHeartbeats 2000000 in
/-- impl.SignBlinded. -/
theorem impl_sg {w : World} {s x t : Int} (hs : (Lit.int .i64 s).wf = true) (hx : (Lit.int .i64 x).wf = true) (ht : (Lit.int .i64 t).wf = true) :
    Calls Tryd.prog 10 #[.int .i64 s, .agg #[.int .i64 x], .int .i64 t] w fun e w' => e = .returned (.tuple #[.agg #[.int .i64 (sgE s x), .int .i64 (sgC s x t), .int .i64 (sgR s x t)], .bool (sgok s x)]) ∧ Below w.heap.size w w' := by
  have HS := Lib.hid hs
  have HX := Lib.hid hx
  have HT := Lib.hid ht
  have hsb := wf_i64 hs
  obtain ⟨a0, b0, hB⟩ := gtwo w (.cells #[.int .i64 x] 27) (.cells #[.int .i64 0, .int .i64 0, .int .i64 0] 31)
  have c0 := gc0 a0
  have HA := Lib.hid a0
  have HC := Lib.hid b0
  have HB0 := Lib.hid hB
  clear hs hx ht a0 b0 hB
  cases h1 : isG x with
  | false =>
    have H1 := Lib.hid h1
    have HE := Lib.hid (rep_no (s := s) (x := x) t (by unfold sgok; rw [h1]; rfl))
    clear h1
    go_enter Tryd.func10, Tryd.ntmps10
    go_wp2_with fail
    refine (impl_isg HX.out).mono ?_
    rw [H1.out]
    rintro e w1 ⟨rfl, hb⟩
    replace HB0 := Lib.hid (HB0.out.trans (hb.mono HB0.out.size))
    replace HA := Lib.hid ((hb.block _ (lt_of_block HA.out)).trans HA.out)
    replace HC := Lib.hid ((hb.block _ (lt_of_block HC.out)).trans HC.out)
    clear hb
    obtain ⟨q0, q1, q2, f0, f1, f2⟩ := ptc HC.out
    obtain ⟨k9, g9⟩ := pst3 HC.out (.int .i64 0) (.int .i64 0) (.int .i64 0)
    obtain ⟨r0, r1, r2, _⟩ := ptc k9
    replace HB0 := Lib.hid (HB0.out.grown g9 HB0.out.size (fun k hk => by injection hk with hk; omega))
    clear k9 g9
    go_wp2_with fail
    exact bodyPost_ret (v := .tuple #[.agg #[.int .i64 0, .int .i64 0, .int .i64 0], .bool false]) (by simp [results, Tryd.results10, go_sem, r0, r1, r2]) rfl ⟨HE.out, HB0.out⟩
  | true =>
    have H1 := Lib.hid h1
    cases h2 : (x == 1) with
    | true =>
      have HE := Lib.hid (rep_no (s := s) (x := x) t (by unfold sgok; rw [h1, h2]; rfl))
      clear h1
      go_enter Tryd.func10, Tryd.ntmps10
      go_wp2_with fail
      refine (impl_isg HX.out).mono ?_
      rw [H1.out]
      rintro e w1 ⟨rfl, hb⟩
      replace HB0 := Lib.hid (HB0.out.trans (hb.mono HB0.out.size))
      replace HA := Lib.hid ((hb.block _ (lt_of_block HA.out)).trans HA.out)
      replace HC := Lib.hid ((hb.block _ (lt_of_block HC.out)).trans HC.out)
      clear hb c0
      have c0 := gc0 HA.out
      obtain ⟨q0, q1, q2, f0, f1, f2⟩ := ptc HC.out
      obtain ⟨k9, g9⟩ := pst3 HC.out (.int .i64 0) (.int .i64 0) (.int .i64 0)
      obtain ⟨r0, r1, r2, _⟩ := ptc k9
      replace HB0 := Lib.hid (HB0.out.grown g9 HB0.out.size (fun k hk => by injection hk with hk; omega))
      clear k9 g9
      go_wp2_with fail
      exact bodyPost_ret (v := .tuple #[.agg #[.int .i64 0, .int .i64 0, .int .i64 0], .bool false]) (by simp [results, Tryd.results10, go_sem, r0, r1, r2]) rfl ⟨HE.out, HB0.out⟩
    | false =>
     obtain ⟨m, hm⟩ : ∃ m, m = s % 1019 := ⟨_, rfl⟩
     have HM : Hid (modV s 1019 = m) := Lib.hid (by rw [hm]; exact modV_1019 s)
     cases h3 : nz s with
     | false =>
      have H3 := Lib.hid h3
      have e3 : (m == 0) = true := by rw [hm]; unfold nz at h3; simpa using h3
      have HE := Lib.hid (rep_no (s := s) (x := x) t (by unfold sgok; rw [h1, h2, h3]; rfl))
      clear h1 h3 hm
      go_enter Tryd.func10, Tryd.ntmps10
      go_wp2_with fail
      refine (impl_isg HX.out).mono ?_
      rw [H1.out]
      rintro e w1 ⟨rfl, hb⟩
      replace HB0 := Lib.hid (HB0.out.trans (hb.mono HB0.out.size))
      replace HA := Lib.hid ((hb.block _ (lt_of_block HA.out)).trans HA.out)
      replace HC := Lib.hid ((hb.block _ (lt_of_block HC.out)).trans HC.out)
      clear hb c0
      have c0 := gc0 HA.out
      go_wp2_with fail
      refine (isH_any HS.out).mono ?_
      rw [H3.out]
      rintro e w1 ⟨rfl, hw⟩
      obtain rfl := hw.symm
      obtain ⟨q0, q1, q2, f0, f1, f2⟩ := ptc HC.out
      obtain ⟨k9, g9⟩ := pst3 HC.out (.int .i64 0) (.int .i64 0) (.int .i64 0)
      obtain ⟨r0, r1, r2, _⟩ := ptc k9
      replace HB0 := Lib.hid (HB0.out.grown g9 HB0.out.size (fun k hk => by injection hk with hk; omega))
      clear k9 g9
      go_wp2_with fail
      exact bodyPost_ret (v := .tuple #[.agg #[.int .i64 0, .int .i64 0, .int .i64 0], .bool false]) (by simp [results, Tryd.results10, go_sem, r0, r1, r2]) rfl ⟨HE.out, HB0.out⟩
     | true =>
      have H3 := Lib.hid h3
      have e3 : (m == 0) = false := by rw [hm]; unfold nz at h3; simpa using h3
      have HE := Lib.hid (rep_yes (s := s) (x := x) t (by unfold sgok; rw [h1, h2, h3]; rfl))
      obtain ⟨y, hy⟩ : ∃ y, y = pwG x s := ⟨_, rfl⟩
      obtain ⟨c, hc⟩ : ∃ y, y = prC 4 x s t := ⟨_, rfl⟩
      obtain ⟨r, hr⟩ : ∃ y, y = prR 4 x s t := ⟨_, rfl⟩
      rw [← hy, ← hc, ← hr] at HE
      have HY := Lib.hid hy
      have HCc := Lib.hid hc
      have HRr := Lib.hid hr
      clear h1 h3 hm hy hc hr
      go_enter Tryd.func10, Tryd.ntmps10
      go_wp2_with fail
      refine (impl_isg HX.out).mono ?_
      rw [H1.out]
      rintro e w1 ⟨rfl, hb⟩
      replace HB0 := Lib.hid (HB0.out.trans (hb.mono HB0.out.size))
      replace HA := Lib.hid ((hb.block _ (lt_of_block HA.out)).trans HA.out)
      replace HC := Lib.hid ((hb.block _ (lt_of_block HC.out)).trans HC.out)
      clear hb c0
      have c0 := gc0 HA.out
      go_wp2_with fail
      refine (isH_any HS.out).mono ?_
      rw [H3.out]
      rintro e w1 ⟨rfl, hw⟩
      obtain rfl := hw.symm
      go_wp2_with fail
      refine (impl_pr (by decide) HX.out HS.out HT.out).mono ?_
      rw [← HCc.out, ← HRr.out]
      rintro e w2 ⟨rfl, hb⟩
      replace HB0 := Lib.hid (HB0.out.trans (hb.mono HB0.out.size))
      replace HA := Lib.hid ((hb.block _ (lt_of_block HA.out)).trans HA.out)
      replace HC := Lib.hid ((hb.block _ (lt_of_block HC.out)).trans HC.out)
      clear hb c0
      have c0 := gc0 HA.out
      go_wp2_with fail
      refine (impl_pwg HX.out HS.out).mono ?_
      rw [← HY.out]
      rintro e w3 ⟨rfl, hb⟩
      replace HB0 := Lib.hid (HB0.out.trans (hb.mono HB0.out.size))
      replace HC := Lib.hid ((hb.block _ (lt_of_block HC.out)).trans HC.out)
      clear hb c0
      obtain ⟨q0, q1, q2, f0, f1, f2⟩ := ptc HC.out
      obtain ⟨k9, g9⟩ := pst3 HC.out (.int .i64 y) (.int .i64 c) (.int .i64 r)
      obtain ⟨r0, r1, r2, _⟩ := ptc k9
      replace HB0 := Lib.hid (HB0.out.grown g9 HB0.out.size (fun k hk => by injection hk with hk; omega))
      clear k9 g9
      go_wp2_with fail
      exact bodyPost_ret (v := .tuple #[.agg #[.int .i64 y, .int .i64 c, .int .i64 r], .bool true]) (by simp [results, Tryd.results10, go_sem, r0, r1, r2]) rfl ⟨HE.out, HB0.out⟩

end Go.Proofs.YtkmfcboejojgmaaDoor
