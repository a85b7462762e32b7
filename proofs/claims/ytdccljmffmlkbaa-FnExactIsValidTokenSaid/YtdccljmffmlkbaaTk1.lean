/- Blind tokens: keys of issuers, requests of the document, replies; what serial numbers and exponents may be. No conditions but numbers that a machine holds. -/
import Derived.Test.YtdccljmffmlkbaaTkN
import Derived.Test.YtdccljmffmlkbaaGr4
import Derived.Test.YtdccljmffmlkbaaCl1
import Derived.Test.YtdccljmffmlkbaaMb1
namespace Go.Proofs.Ytdccljmffmlkbaa
open Go Go.RowKit
set_option linter.unusedVariables false
attribute [local irreducible] kh kid pwm tcm pw chl

/-- impl.isSerial. -/
theorem isS_any {w : World} {n : Int} (hn : (Lit.int .i64 n).wf = true) :
    Calls Try.prog 45 #[.int .i64 n] w fun e w' => e = .returned (.bool (okNr n)) ∧ w' = w := by
  obtain ⟨q, hq⟩ : ∃ q, q = okNr n := ⟨_, rfl⟩
  have HQ : Hid (inR n 0 100000 = q) := Lib.hid hq.symm
  rw [← hq]
  clear hq
  go_enter Try.func45, Try.ntmps45
  go_wp2_with fail
  refine (impl_in _ _ _ _ hn).mono ?_
  rw [HQ.out]
  rintro e w1 ⟨rfl, hw⟩
  subst hw
  go_wp2_with fail
  go_ret
  exact ⟨rfl, rfl⟩

/-- impl.isHiding. -/
theorem isH_any {w : World} {n : Int} (hn : (Lit.int .i64 n).wf = true) :
    Calls Try.prog 44 #[.int .i64 n] w fun e w' => e = .returned (.bool (nz n)) ∧ w' = w := by
  obtain ⟨m, hm⟩ : ∃ m, m = n % 1019 := ⟨_, rfl⟩
  obtain ⟨q, hq⟩ : ∃ q, q = nz n := ⟨_, rfl⟩
  have e1 : (m != 0) = q := by rw [hq, hm]; rfl
  have HM := Lib.hid hm
  rw [← hq]
  clear hq hm
  go_enter Try.func44, Try.ntmps44
  go_wp2_with fail
  refine (fe_any hn).mono ?_
  rw [← HM.out]
  rintro e w1 ⟨rfl, hw⟩
  subst hw
  go_wp2_with fail
  go_ret
  exact ⟨rfl, rfl⟩

/-- impl.serialElement. -/
theorem sel_any {w : World} {n : Int} (hn : (Lit.int .i64 n).wf = true) :
    Calls Try.prog 46 #[.int .i64 n] w fun e w' => e = .returned (.int .i64 (hs n)) ∧ Below w.heap.size w w' := by
  obtain ⟨q, hq⟩ : ∃ q, q = hs n := ⟨_, rfl⟩
  have HQ : Hid (hgr 101 n = q) := Lib.hid hq.symm
  rw [← hq]
  clear hq
  go_enter Try.func46, Try.ntmps46
  go_wp2_with fail
  refine (impl_hgr (by decide) hn).mono ?_
  rw [HQ.out]
  rintro e w1 ⟨rfl, hb⟩
  have HB := Lib.hid hb
  clear hb
  go_wp2_with fail
  go_ret
  exact ⟨rfl, HB.out⟩

/-- A number that a request holds. -/
theorem req_no {n b : Int} (h : blok n b = false) : (Ending.returned (.tuple #[.agg #[.int .i64 0], .bool false]) : Ending) = .returned (.tuple #[.agg #[.int .i64 (blE n b)], .bool (blok n b)]) := by rw [blE_no h, h]
theorem req_yes {n b : Int} (h : blok n b = true) : (Ending.returned (.tuple #[.agg #[.int .i64 (pwG (hs n) b)], .bool true]) : Ending) = .returned (.tuple #[.agg #[.int .i64 (blE n b)], .bool (blok n b)]) := by rw [blE_yes h, h]
theorem hs_wf (n : Int) : (Lit.int .i64 (hs n)).wf = true := by have := el_bound (hs_el n); exact small_wf (by omega) (by omega)

set_option maxHeartbeats 1000000 in
/-- spec.BlindToken. -/
theorem spec_bl {w : World} {n b : Int} (hn : (Lit.int .i64 n).wf = true) (hb : (Lit.int .i64 b).wf = true) :
    Calls Try.prog 17 #[.int .i64 n, .int .i64 b] w fun e w' => e = .returned (.tuple #[.agg #[.int .i64 (blE n b)], .bool (blok n b)]) ∧ Below w.heap.size w w' := by
  have HN := Lib.hid hn
  have HBw := Lib.hid hb
  have hbb := wf_i64 hb
  have HB0 := Lib.hid ((Below.refl w.heap.size w).alloc (Nat.le_refl _) (.cells #[.int .i64 0] 32))
  have HK0 := Lib.hid (heap_alloc_new w (.cells #[.int .i64 0] 32))
  clear hn hb
  cases h1 : okNr n with
  | false =>
    have H1 : Hid (inR n 0 100000 = false) := Lib.hid h1
    have HE := Lib.hid (req_no (n := n) (b := b) (by unfold blok; rw [h1]; rfl))
    have r0 := gc0 HK0.out
    clear h1
    go_enter Try.func17, Try.ntmps17
    go_wp2_with fail
    refine (spec_in _ _ _ _ HN.out).mono ?_
    rw [H1.out]
    rintro e w1 ⟨rfl, hw⟩
    obtain rfl := hw.symm
    go_wp2_with fail
    exact bodyPost_ret (v := .tuple #[.agg #[.int .i64 0], .bool false]) (by simp [results, Try.results17, go_sem, r0]) rfl ⟨HE.out, HB0.out⟩
  | true =>
    have H1 : Hid (inR n 0 100000 = true) := Lib.hid h1
    obtain ⟨m, hm⟩ : ∃ m, m = b % 1019 := ⟨_, rfl⟩
    have HM : Hid (modV b 1019 = m) := Lib.hid (by rw [hm]; exact modV_1019 b)
    cases h2 : nz b with
    | false =>
      have e2 : (m == 0) = true := by rw [hm]; unfold nz at h2; simpa using h2
      have HE := Lib.hid (req_no (n := n) (b := b) (by unfold blok; rw [h1, h2]; rfl))
      have r0 := gc0 HK0.out
      clear h1 h2 hm
      go_enter Try.func17, Try.ntmps17
      go_wp2_with fail
      refine (spec_in _ _ _ _ HN.out).mono ?_
      rw [H1.out]
      rintro e w1 ⟨rfl, hw⟩
      obtain rfl := hw.symm
      go_wp2_with fail
      refine (spec_mod _ _ _ hbb.1 hbb.2).mono ?_
      rw [HM.out]
      rintro e w1 ⟨rfl, hw⟩
      obtain rfl := hw.symm
      go_wp2_with fail
      exact bodyPost_ret (v := .tuple #[.agg #[.int .i64 0], .bool false]) (by simp [results, Try.results17, go_sem, r0]) rfl ⟨HE.out, HB0.out⟩
    | true =>
      have e2 : (m == 0) = false := by rw [hm]; unfold nz at h2; simpa using h2
      have HE := Lib.hid (req_yes (tk_bl h1 h2))
      obtain ⟨q, hq⟩ : ∃ q, q = hs n := ⟨_, rfl⟩
      have HQw := Lib.hid (hs_wf n)
      rw [← hq] at HE HQw
      have HQ : Hid (hgr 101 n = q) := Lib.hid (by rw [hq]; rfl)
      obtain ⟨x, hx⟩ : ∃ x, x = pwG q b := ⟨_, rfl⟩
      rw [← hx] at HE
      have HX := Lib.hid hx
      clear h1 h2 hm hq hx
      go_enter Try.func17, Try.ntmps17
      go_wp2_with fail
      refine (spec_in _ _ _ _ HN.out).mono ?_
      rw [H1.out]
      rintro e w1 ⟨rfl, hw⟩
      obtain rfl := hw.symm
      go_wp2_with fail
      refine (spec_mod _ _ _ hbb.1 hbb.2).mono ?_
      rw [HM.out]
      rintro e w1 ⟨rfl, hw⟩
      obtain rfl := hw.symm
      go_wp2_with fail
      refine (spec_hgr (by decide) HN.out).mono ?_
      rw [HQ.out]
      rintro e w1 ⟨rfl, hb⟩
      replace HB0 := Lib.hid (HB0.out.trans (hb.mono HB0.out.size))
      have k1 := (hb.block _ (lt_of_block HK0.out)).trans HK0.out
      clear hb
      have HK1 := Lib.hid k1
      clear k1
      go_wp2_with fail
      refine (spec_pwg HQw.out HBw.out).mono ?_
      rw [← HX.out]
      rintro e w2 ⟨rfl, hw⟩
      obtain rfl := hw.symm
      have f0 := blk_free HK1.out 0
      have c0 := gc0 HK1.out
      obtain ⟨k2, r0⟩ := gst HK1.out (.int .i64 x)
      have hB2 := HB0.out.grown (grown_set _ w.heap.size 0 (.int .i64 x)) HB0.out.size (fun k hk => by injection hk with hk; omega)
      have HB2 := Lib.hid hB2
      clear k2 hB2
      go_wp2_with fail
      exact bodyPost_ret (v := .tuple #[.agg #[.int .i64 x], .bool true]) (by simp [results, Try.results17, go_sem, r0]) rfl ⟨HE.out, HB2.out⟩

/-- What a reply holds. -/
theorem rep_no {s x : Int} (t : Int) (h : sgok s x = false) : (Ending.returned (.tuple #[.agg #[.int .i64 0, .int .i64 0, .int .i64 0], .bool false]) : Ending) = .returned (.tuple #[.agg #[.int .i64 (sgE s x), .int .i64 (sgC s x t), .int .i64 (sgR s x t)], .bool (sgok s x)]) := by
  obtain ⟨h1, h2, h3⟩ := sg_no t h
  rw [h1, h2, h3, h]
theorem rep_yes {s x : Int} (t : Int) (h : sgok s x = true) : (Ending.returned (.tuple #[.agg #[.int .i64 (pwG x s), .int .i64 (prC 4 x s t), .int .i64 (prR 4 x s t)], .bool true]) : Ending) = .returned (.tuple #[.agg #[.int .i64 (sgE s x), .int .i64 (sgC s x t), .int .i64 (sgR s x t)], .bool (sgok s x)]) := by
  obtain ⟨h1, h2, h3⟩ := sg_yes t h
  rw [h1, h2, h3, h]

end Go.Proofs.Ytdccljmffmlkbaa
