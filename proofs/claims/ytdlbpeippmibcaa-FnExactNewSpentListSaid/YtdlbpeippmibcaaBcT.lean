/- Blind tokens: keys of issuers, requests of the document, replies; what serial numbers and exponents may be. No conditions but numbers that a machine holds. Blind tokens: tokens finished as the document says; tokens checked. No conditions but numbers that a machine holds. -/
import Derived.Test.YtdlbpeippmibcaaBcP
import Derived.Test.YtdlbpeippmibcaaBcG
import Derived.Test.YtdlbpeippmibcaaCl1
import Derived.Test.YtdlbpeippmibcaaMb1
import Derived.Test.YtdlbpeippmibcaaQuietC
import Derived.Test.YtdlbpeippmibcaaHeldL
import Derived.BigQuiet
import Derived.StillTailTactics

/-! Tk1 -/
namespace Go.Proofs.Ytdlbpeippmibcaa
open Go Go.RowKit
set_option linter.unusedVariables false
attribute [local irreducible] kh kid pwm tcm pw chl

/-- impl.isSerial. -/
theorem isS_any {w : World} {n : Int} (hn : (Lit.int .i64 n).wf = true) :
    Calls Try.prog 76 #[.int .i64 n] w fun e w' => e = .returned (.bool (okNr n)) ∧ w' = w := by
  obtain ⟨q, hq⟩ : ∃ q, q = okNr n := ⟨_, rfl⟩
  have HQ : Hid (inR n 0 100000 = q) := Lib.hid hq.symm
  rw [← hq]
  clear hq
  go_enter Try.func76, Try.ntmps76
  go_wp2_with fail
  refine (impl_in _ _ _ _ hn).mono ?_
  rw [HQ.out]
  rintro e w1 ⟨rfl, hw⟩
  subst hw
  go_wp2_with fail
  go_ret
  exact ⟨rfl, rfl⟩

/-- impl.isHiding. -/
theorem isH_any {w : World} {n : Int} (hn : (Lit.int .i64 n).wf = true) :
    Calls Try.prog 75 #[.int .i64 n] w fun e w' => e = .returned (.bool (nz n)) ∧ w' = w := by
  obtain ⟨m, hm⟩ : ∃ m, m = n % 1019 := ⟨_, rfl⟩
  obtain ⟨q, hq⟩ : ∃ q, q = nz n := ⟨_, rfl⟩
  have e1 : (m != 0) = q := by rw [hq, hm]; rfl
  have HM := Lib.hid hm
  rw [← hq]
  clear hq hm
  go_enter Try.func75, Try.ntmps75
  go_wp2_with fail
  refine (fe_any hn).mono ?_
  rw [← HM.out]
  rintro e w1 ⟨rfl, hw⟩
  subst hw
  go_wp2_with fail
  go_ret
  exact ⟨rfl, rfl⟩

/-- impl.serialElement. -/
theorem sel_any {w : World} {n : Int} (hn : (Lit.int .i64 n).wf = true) :
    Calls Try.prog 78 #[.int .i64 n] w fun e w' => e = .returned (.int .i64 (hs n)) ∧ Below w.heap.size w w' := by
  obtain ⟨q, hq⟩ : ∃ q, q = hs n := ⟨_, rfl⟩
  have HQ : Hid (hgr 101 n = q) := Lib.hid hq.symm
  rw [← hq]
  clear hq
  go_enter Try.func78, Try.ntmps78
  go_wp2_with fail
  refine (impl_hgr (by decide) hn).mono ?_
  rw [HQ.out]
  rintro e w1 ⟨rfl, hb⟩
  have HB := Lib.hid hb
  clear hb
  go_wp2_with fail
  go_ret
  exact ⟨rfl, HB.out⟩

/-- A number that a request holds. -/
theorem req_no {n b : Int} (h : blok n b = false) : (Ending.returned (.tuple #[.agg #[.int .i64 0], .bool false]) : Ending) = .returned (.tuple #[.agg #[.int .i64 (blE n b)], .bool (blok n b)]) := by rw [blE_no h, h]
theorem req_yes {n b : Int} (h : blok n b = true) : (Ending.returned (.tuple #[.agg #[.int .i64 (pwG (hs n) b)], .bool true]) : Ending) = .returned (.tuple #[.agg #[.int .i64 (blE n b)], .bool (blok n b)]) := by rw [blE_yes h, h]
theorem hs_wf (n : Int) : (Lit.int .i64 (hs n)).wf = true := by have := el_bound (hs_el n); exact small_wf (by omega) (by omega)

/-- What a reply holds. -/
theorem rep_no {s x : Int} (t : Int) (h : sgok s x = false) : (Ending.returned (.tuple #[.agg #[.int .i64 0, .int .i64 0, .int .i64 0], .bool false]) : Ending) = .returned (.tuple #[.agg #[.int .i64 (sgE s x), .int .i64 (sgC s x t), .int .i64 (sgR s x t)], .bool (sgok s x)]) := by
  obtain ⟨h1, h2, h3⟩ := sg_no t h
  rw [h1, h2, h3, h]
theorem rep_yes {s x : Int} (t : Int) (h : sgok s x = true) : (Ending.returned (.tuple #[.agg #[.int .i64 (pwG x s), .int .i64 (prC 4 x s t), .int .i64 (prR 4 x s t)], .bool true]) : Ending) = .returned (.tuple #[.agg #[.int .i64 (sgE s x), .int .i64 (sgC s x t), .int .i64 (sgR s x t)], .bool (sgok s x)]) := by
  obtain ⟨h1, h2, h3⟩ := sg_yes t h
  rw [h1, h2, h3, h]

end Go.Proofs.Ytdlbpeippmibcaa


/-! Tk2 -/
namespace Go.Proofs.Ytdlbpeippmibcaa
open Go Go.RowKit
set_option linter.unusedVariables false
set_option maxRecDepth 20000
attribute [local irreducible] kh kid pwm tcm pw chl

theorem tok_no {n b k e c r : Int} (h : fnok n b k e c r = false) : (Ending.returned (.tuple #[.agg #[.int .i64 0, .int .i64 0], .bool false]) : Ending) = .returned (.tuple #[.agg #[.int .i64 (fnS n b k e c r), .int .i64 (fnV n b k e c r)], .bool (fnok n b k e c r)]) := by
  obtain ⟨h1, h2⟩ := fn_no h
  rw [h1, h2, h]
theorem tok_yes {n b k e c r : Int} (h : fnok n b k e c r = true) : (Ending.returned (.tuple #[.agg #[.int .i64 n, .int .i64 (pwG e (invE b))], .bool true]) : Ending) = .returned (.tuple #[.agg #[.int .i64 (fnS n b k e c r), .int .i64 (fnV n b k e c r)], .bool (fnok n b k e c r)]) := by
  obtain ⟨h1, h2⟩ := fn_yes h
  rw [h1, h2, h]
theorem blE_wf (n b : Int) : (Lit.int .i64 (blE n b)).wf = true := by have := blE_bound n b; exact small_wf (by omega) (by omega)
theorem invE_wf (n : Int) : (Lit.int .i64 (invE n)).wf = true := by
  by_cases h : n % 1019 = 0
  · rw [invE_zero h]; decide
  · obtain ⟨m, h1, h2, h3, _⟩ := invE_ok h
    rw [h3]; exact small_wf (by omega) (by omega)

/-- The worlds in which a token's box stands. -/
def TokW (w : World) (n v : Int) (w' : World) : Prop := Below w.heap.size w w' ∧ w'.heap[w.heap.size]? = some (.cells #[.int .i64 n, .int .i64 v] 28)
theorem TokW.next {w : World} {n v : Int} {w1 w2 : World} (h : TokW w n v w1) (hb : Below w1.heap.size w1 w2) : TokW w n v w2 := ⟨h.1.trans (hb.mono h.1.size), (hb.block _ (lt_of_block h.2)).trans h.2⟩
theorem tokW_start (w : World) (n v : Int) : TokW w n v (w.alloc (.cells #[.int .i64 n, .int .i64 v] 28)).drew :=
  ⟨((Below.refl w.heap.size w).alloc (Nat.le_refl _) _).drew, heap_alloc_new w _⟩

set_option maxHeartbeats 4000000 in
/-- spec.IsValidToken. -/
theorem spec_vt {w : World} {s n v : Int} (hs : (Lit.int .i64 s).wf = true) (hn : (Lit.int .i64 n).wf = true) (hv : (Lit.int .i64 v).wf = true) :
    Calls Try.prog 53 #[.int .i64 s, .agg #[.int .i64 n, .int .i64 v]] w fun e w' => e = .returned (.bool (vtok s n v)) ∧ Below w.heap.size w w' := by
  have HS := Lib.hid hs
  have HN := Lib.hid hn
  have hsb := wf_i64 hs
  obtain ⟨m, hm⟩ : ∃ m, m = s % 1019 := ⟨_, rfl⟩
  have HM : Hid (modV s 1019 = m) := Lib.hid (by rw [hm]; exact modV_1019 s)
  have HYw := Lib.hid (hs_wf n)
  obtain ⟨y, hy⟩ : ∃ y, y = Go.Proofs.Ytdlbpeippmibcaa.hs n := ⟨_, rfl⟩
  rw [← hy] at HYw
  obtain ⟨z, hz⟩ : ∃ z, z = pwG y s := ⟨_, rfl⟩
  obtain ⟨t, ht⟩ : ∃ t, t = (v == z) := ⟨_, rfl⟩
  have hE : vtok s n v = (okNr n && (nz s && t)) := by unfold vtok; rw [← hy, ← hz, ← ht]
  have HY := Lib.hid hy
  have HYs : Hid (hgr 101 n = y) := Lib.hid (by rw [hy]; rfl)
  have HZ := Lib.hid hz
  have ht' : (v == z) = t := ht.symm
  have hmz : nz s = (m != 0) := by rw [hm]; rfl
  clear hs hn hv hm hy hz ht
  cases h1 : okNr n with
  | false =>
    cases h2 : nz s with
    | false =>
      have H1 : Hid (okNr n = false) := Lib.hid h1
      have H2 := Lib.hid h2
      have HE : Hid ((Ending.returned (.bool false) : Ending) = .returned (.bool (vtok s n v))) := Lib.hid (by rw [hE, h1]; rfl)
      have e2 : (m != 0) = false := by rw [← hmz, h2]
      clear h1 h2 hE hmz
      go_enter Try.func53, Try.ntmps53
      go_wp2_with fail
      refine region_quiet_c (C := TokW w n v) (by kernel_rfl) (by kernel_rfl) (tokW_start w n v) ?_
      repeat (first
        | go_big_quiet_skip
        | (apply quiet_on
           · kernel_rfl
           · intro wq hq
             obtain ⟨c0, c1, _⟩ := pcs hq.2
             go_simp
             first
               | done
               | (go_at_call 62
                  refine (spec_in _ _ _ _ HN.out).mono ?_
                  rintro e' w7 ⟨he, hw⟩
                  first | rw [H1.out] at he | (have h9 := H1.out; unfold okNr at h9; rw [h9] at he)
                  subst hw
                  exact ⟨he, hq⟩)
               | (go_at_call 73
                  refine (spec_mod _ _ _ hsb.1 hsb.2).mono ?_
                  rintro e' w7 ⟨he, hw⟩
                  rw [HM.out] at he
                  subst hw
                  exact ⟨he, hq⟩)
               | (go_at_call 46
                  refine (spec_hgr (by decide) HN.out).mono ?_
                  rintro e' w7 ⟨he, hb⟩
                  rw [HYs.out] at he
                  exact ⟨he, hq.next hb⟩)
               | (go_at_call 45
                  refine (spec_pwg HYw.out HS.out).mono ?_
                  rintro e' w7 ⟨he, hw⟩
                  rw [← HZ.out] at he
                  subst hw
                  exact ⟨he, hq⟩)
               | rfl
               | exact ⟨rfl, hq⟩
           simp only [Act.put, List.setIfInBounds_toArray, List.set_cons_zero, List.set_cons_succ]))
      refine wpQuiet_nil ?_
      intro w7 hq
      have HQ7 := Lib.hid hq
      clear hq
      go_wp2_with fail
      go_ret
      exact ⟨HE.out, HQ7.out.1⟩
    | true =>
      have H1 : Hid (okNr n = false) := Lib.hid h1
      have H2 := Lib.hid h2
      have HE : Hid ((Ending.returned (.bool false) : Ending) = .returned (.bool (vtok s n v))) := Lib.hid (by rw [hE, h1]; rfl)
      have e2 : (m != 0) = true := by rw [← hmz, h2]
      clear h1 h2 hE hmz
      go_enter Try.func53, Try.ntmps53
      go_wp2_with fail
      refine region_quiet_c (C := TokW w n v) (by kernel_rfl) (by kernel_rfl) (tokW_start w n v) ?_
      repeat (first
        | go_big_quiet_skip
        | (apply quiet_on
           · kernel_rfl
           · intro wq hq
             obtain ⟨c0, c1, _⟩ := pcs hq.2
             go_simp
             first
               | done
               | (go_at_call 62
                  refine (spec_in _ _ _ _ HN.out).mono ?_
                  rintro e' w7 ⟨he, hw⟩
                  first | rw [H1.out] at he | (have h9 := H1.out; unfold okNr at h9; rw [h9] at he)
                  subst hw
                  exact ⟨he, hq⟩)
               | (go_at_call 73
                  refine (spec_mod _ _ _ hsb.1 hsb.2).mono ?_
                  rintro e' w7 ⟨he, hw⟩
                  rw [HM.out] at he
                  subst hw
                  exact ⟨he, hq⟩)
               | (go_at_call 46
                  refine (spec_hgr (by decide) HN.out).mono ?_
                  rintro e' w7 ⟨he, hb⟩
                  rw [HYs.out] at he
                  exact ⟨he, hq.next hb⟩)
               | (go_at_call 45
                  refine (spec_pwg HYw.out HS.out).mono ?_
                  rintro e' w7 ⟨he, hw⟩
                  rw [← HZ.out] at he
                  subst hw
                  exact ⟨he, hq⟩)
               | rfl
               | exact ⟨rfl, hq⟩
           simp only [Act.put, List.setIfInBounds_toArray, List.set_cons_zero, List.set_cons_succ]))
      refine wpQuiet_nil ?_
      intro w7 hq
      have HQ7 := Lib.hid hq
      clear hq
      go_wp2_with fail
      go_ret
      exact ⟨HE.out, HQ7.out.1⟩
  | true =>
    cases h2 : nz s with
    | false =>
      have H1 : Hid (okNr n = true) := Lib.hid h1
      have H2 := Lib.hid h2
      have HE : Hid ((Ending.returned (.bool false) : Ending) = .returned (.bool (vtok s n v))) := Lib.hid (by rw [hE, h1, h2]; rfl)
      have e2 : (m != 0) = false := by rw [← hmz, h2]
      clear h1 h2 hE hmz
      go_enter Try.func53, Try.ntmps53
      go_wp2_with fail
      refine region_quiet_c (C := TokW w n v) (by kernel_rfl) (by kernel_rfl) (tokW_start w n v) ?_
      repeat (first
        | go_big_quiet_skip
        | (apply quiet_on
           · kernel_rfl
           · intro wq hq
             obtain ⟨c0, c1, _⟩ := pcs hq.2
             go_simp
             first
               | done
               | (go_at_call 62
                  refine (spec_in _ _ _ _ HN.out).mono ?_
                  rintro e' w7 ⟨he, hw⟩
                  first | rw [H1.out] at he | (have h9 := H1.out; unfold okNr at h9; rw [h9] at he)
                  subst hw
                  exact ⟨he, hq⟩)
               | (go_at_call 73
                  refine (spec_mod _ _ _ hsb.1 hsb.2).mono ?_
                  rintro e' w7 ⟨he, hw⟩
                  rw [HM.out] at he
                  subst hw
                  exact ⟨he, hq⟩)
               | (go_at_call 46
                  refine (spec_hgr (by decide) HN.out).mono ?_
                  rintro e' w7 ⟨he, hb⟩
                  rw [HYs.out] at he
                  exact ⟨he, hq.next hb⟩)
               | (go_at_call 45
                  refine (spec_pwg HYw.out HS.out).mono ?_
                  rintro e' w7 ⟨he, hw⟩
                  rw [← HZ.out] at he
                  subst hw
                  exact ⟨he, hq⟩)
               | rfl
               | exact ⟨rfl, hq⟩
           simp only [Act.put, List.setIfInBounds_toArray, List.set_cons_zero, List.set_cons_succ]))
      refine wpQuiet_nil ?_
      intro w7 hq
      have HQ7 := Lib.hid hq
      clear hq
      go_wp2_with fail
      go_ret
      exact ⟨HE.out, HQ7.out.1⟩
    | true =>
      have H1 : Hid (okNr n = true) := Lib.hid h1
      have H2 := Lib.hid h2
      have HE : Hid ((Ending.returned (.bool t) : Ending) = .returned (.bool (vtok s n v))) := Lib.hid (by rw [hE, h1, h2]; rfl)
      have e2 : (m != 0) = true := by rw [← hmz, h2]
      clear h1 h2 hE hmz
      go_enter Try.func53, Try.ntmps53
      go_wp2_with fail
      refine region_quiet_c (C := TokW w n v) (by kernel_rfl) (by kernel_rfl) (tokW_start w n v) ?_
      repeat (first
        | go_big_quiet_skip
        | (apply quiet_on
           · kernel_rfl
           · intro wq hq
             obtain ⟨c0, c1, _⟩ := pcs hq.2
             go_simp
             first
               | done
               | (go_at_call 62
                  refine (spec_in _ _ _ _ HN.out).mono ?_
                  rintro e' w7 ⟨he, hw⟩
                  first | rw [H1.out] at he | (have h9 := H1.out; unfold okNr at h9; rw [h9] at he)
                  subst hw
                  exact ⟨he, hq⟩)
               | (go_at_call 73
                  refine (spec_mod _ _ _ hsb.1 hsb.2).mono ?_
                  rintro e' w7 ⟨he, hw⟩
                  rw [HM.out] at he
                  subst hw
                  exact ⟨he, hq⟩)
               | (go_at_call 46
                  refine (spec_hgr (by decide) HN.out).mono ?_
                  rintro e' w7 ⟨he, hb⟩
                  rw [HYs.out] at he
                  exact ⟨he, hq.next hb⟩)
               | (go_at_call 45
                  refine (spec_pwg HYw.out HS.out).mono ?_
                  rintro e' w7 ⟨he, hw⟩
                  rw [← HZ.out] at he
                  subst hw
                  exact ⟨he, hq⟩)
               | rfl
               | exact ⟨rfl, hq⟩
           simp only [Act.put, List.setIfInBounds_toArray, List.set_cons_zero, List.set_cons_succ]))
      refine wpQuiet_nil ?_
      intro w7 hq
      have HQ7 := Lib.hid hq
      clear hq
      go_wp2_with fail
      go_ret
      exact ⟨HE.out, HQ7.out.1⟩

set_option maxHeartbeats 4000000 in
/-- impl.IsValidToken. -/
theorem impl_vt {w : World} {s n v : Int} (hs : (Lit.int .i64 s).wf = true) (hn : (Lit.int .i64 n).wf = true) (hv : (Lit.int .i64 v).wf = true) :
    Calls Try.prog 49 #[.int .i64 s, .agg #[.int .i64 n, .int .i64 v]] w fun e w' => e = .returned (.bool (vtok s n v)) ∧ Below w.heap.size w w' := by
  have HS := Lib.hid hs
  have HN := Lib.hid hn
  have hsb := wf_i64 hs
  obtain ⟨m, hm⟩ : ∃ m, m = s % 1019 := ⟨_, rfl⟩
  have HM : Hid (modV s 1019 = m) := Lib.hid (by rw [hm]; exact modV_1019 s)
  have HYw := Lib.hid (hs_wf n)
  obtain ⟨y, hy⟩ : ∃ y, y = Go.Proofs.Ytdlbpeippmibcaa.hs n := ⟨_, rfl⟩
  rw [← hy] at HYw
  obtain ⟨z, hz⟩ : ∃ z, z = pwG y s := ⟨_, rfl⟩
  obtain ⟨t, ht⟩ : ∃ t, t = (v == z) := ⟨_, rfl⟩
  have hE : vtok s n v = (okNr n && (nz s && t)) := by unfold vtok; rw [← hy, ← hz, ← ht]
  have HY := Lib.hid hy
  have HYs : Hid (hgr 101 n = y) := Lib.hid (by rw [hy]; rfl)
  have HZ := Lib.hid hz
  have ht' : (v == z) = t := ht.symm
  have hmz : nz s = (m != 0) := by rw [hm]; rfl
  clear hs hn hv hm hy hz ht
  cases h1 : okNr n with
  | false =>
    cases h2 : nz s with
    | false =>
      have H1 : Hid (okNr n = false) := Lib.hid h1
      have H2 := Lib.hid h2
      have HE : Hid ((Ending.returned (.bool false) : Ending) = .returned (.bool (vtok s n v))) := Lib.hid (by rw [hE, h1]; rfl)
      have e2 : (m != 0) = false := by rw [← hmz, h2]
      clear h1 h2 hE hmz
      go_enter Try.func49, Try.ntmps49
      go_wp2_with fail
      refine region_quiet_c (C := TokW w n v) (by kernel_rfl) (by kernel_rfl) (tokW_start w n v) ?_
      repeat (first
        | go_big_quiet_skip
        | (apply quiet_on
           · kernel_rfl
           · intro wq hq
             obtain ⟨c0, c1, _⟩ := pcs hq.2
             go_simp
             first
               | done
               | (go_at_call 75
                  refine (isH_any HS.out).mono ?_
                  rintro e' w7 ⟨he, hw⟩
                  rw [H2.out] at he
                  subst hw
                  exact ⟨he, hq⟩)
               | (go_at_call 76
                  refine (isS_any HN.out).mono ?_
                  rintro e' w7 ⟨he, hw⟩
                  first | rw [H1.out] at he | (have h9 := H1.out; unfold okNr at h9; rw [h9] at he)
                  subst hw
                  exact ⟨he, hq⟩)
               | (go_at_call 78
                  refine (sel_any HN.out).mono ?_
                  rintro e' w7 ⟨he, hb⟩
                  rw [← HY.out] at he
                  exact ⟨he, hq.next hb⟩)
               | (go_at_call 77
                  refine (impl_pwg HYw.out HS.out).mono ?_
                  rintro e' w7 ⟨he, hb⟩
                  rw [← HZ.out] at he
                  exact ⟨he, hq.next hb⟩)
               | rfl
               | exact ⟨rfl, hq⟩
           simp only [Act.put, List.setIfInBounds_toArray, List.set_cons_zero, List.set_cons_succ]))
      refine wpQuiet_nil ?_
      intro w7 hq
      have HQ7 := Lib.hid hq
      clear hq
      go_wp2_with fail
      go_ret
      exact ⟨HE.out, HQ7.out.1⟩
    | true =>
      have H1 : Hid (okNr n = false) := Lib.hid h1
      have H2 := Lib.hid h2
      have HE : Hid ((Ending.returned (.bool false) : Ending) = .returned (.bool (vtok s n v))) := Lib.hid (by rw [hE, h1]; rfl)
      have e2 : (m != 0) = true := by rw [← hmz, h2]
      clear h1 h2 hE hmz
      go_enter Try.func49, Try.ntmps49
      go_wp2_with fail
      refine region_quiet_c (C := TokW w n v) (by kernel_rfl) (by kernel_rfl) (tokW_start w n v) ?_
      repeat (first
        | go_big_quiet_skip
        | (apply quiet_on
           · kernel_rfl
           · intro wq hq
             obtain ⟨c0, c1, _⟩ := pcs hq.2
             go_simp
             first
               | done
               | (go_at_call 75
                  refine (isH_any HS.out).mono ?_
                  rintro e' w7 ⟨he, hw⟩
                  rw [H2.out] at he
                  subst hw
                  exact ⟨he, hq⟩)
               | (go_at_call 76
                  refine (isS_any HN.out).mono ?_
                  rintro e' w7 ⟨he, hw⟩
                  first | rw [H1.out] at he | (have h9 := H1.out; unfold okNr at h9; rw [h9] at he)
                  subst hw
                  exact ⟨he, hq⟩)
               | (go_at_call 78
                  refine (sel_any HN.out).mono ?_
                  rintro e' w7 ⟨he, hb⟩
                  rw [← HY.out] at he
                  exact ⟨he, hq.next hb⟩)
               | (go_at_call 77
                  refine (impl_pwg HYw.out HS.out).mono ?_
                  rintro e' w7 ⟨he, hb⟩
                  rw [← HZ.out] at he
                  exact ⟨he, hq.next hb⟩)
               | rfl
               | exact ⟨rfl, hq⟩
           simp only [Act.put, List.setIfInBounds_toArray, List.set_cons_zero, List.set_cons_succ]))
      refine wpQuiet_nil ?_
      intro w7 hq
      have HQ7 := Lib.hid hq
      clear hq
      go_wp2_with fail
      go_ret
      exact ⟨HE.out, HQ7.out.1⟩
  | true =>
    cases h2 : nz s with
    | false =>
      have H1 : Hid (okNr n = true) := Lib.hid h1
      have H2 := Lib.hid h2
      have HE : Hid ((Ending.returned (.bool false) : Ending) = .returned (.bool (vtok s n v))) := Lib.hid (by rw [hE, h1, h2]; rfl)
      have e2 : (m != 0) = false := by rw [← hmz, h2]
      clear h1 h2 hE hmz
      go_enter Try.func49, Try.ntmps49
      go_wp2_with fail
      refine region_quiet_c (C := TokW w n v) (by kernel_rfl) (by kernel_rfl) (tokW_start w n v) ?_
      repeat (first
        | go_big_quiet_skip
        | (apply quiet_on
           · kernel_rfl
           · intro wq hq
             obtain ⟨c0, c1, _⟩ := pcs hq.2
             go_simp
             first
               | done
               | (go_at_call 75
                  refine (isH_any HS.out).mono ?_
                  rintro e' w7 ⟨he, hw⟩
                  rw [H2.out] at he
                  subst hw
                  exact ⟨he, hq⟩)
               | (go_at_call 76
                  refine (isS_any HN.out).mono ?_
                  rintro e' w7 ⟨he, hw⟩
                  first | rw [H1.out] at he | (have h9 := H1.out; unfold okNr at h9; rw [h9] at he)
                  subst hw
                  exact ⟨he, hq⟩)
               | (go_at_call 78
                  refine (sel_any HN.out).mono ?_
                  rintro e' w7 ⟨he, hb⟩
                  rw [← HY.out] at he
                  exact ⟨he, hq.next hb⟩)
               | (go_at_call 77
                  refine (impl_pwg HYw.out HS.out).mono ?_
                  rintro e' w7 ⟨he, hb⟩
                  rw [← HZ.out] at he
                  exact ⟨he, hq.next hb⟩)
               | rfl
               | exact ⟨rfl, hq⟩
           simp only [Act.put, List.setIfInBounds_toArray, List.set_cons_zero, List.set_cons_succ]))
      refine wpQuiet_nil ?_
      intro w7 hq
      have HQ7 := Lib.hid hq
      clear hq
      go_wp2_with fail
      go_ret
      exact ⟨HE.out, HQ7.out.1⟩
    | true =>
      have H1 : Hid (okNr n = true) := Lib.hid h1
      have H2 := Lib.hid h2
      have HE : Hid ((Ending.returned (.bool t) : Ending) = .returned (.bool (vtok s n v))) := Lib.hid (by rw [hE, h1, h2]; rfl)
      have e2 : (m != 0) = true := by rw [← hmz, h2]
      clear h1 h2 hE hmz
      go_enter Try.func49, Try.ntmps49
      go_wp2_with fail
      refine region_quiet_c (C := TokW w n v) (by kernel_rfl) (by kernel_rfl) (tokW_start w n v) ?_
      repeat (first
        | go_big_quiet_skip
        | (apply quiet_on
           · kernel_rfl
           · intro wq hq
             obtain ⟨c0, c1, _⟩ := pcs hq.2
             go_simp
             first
               | done
               | (go_at_call 75
                  refine (isH_any HS.out).mono ?_
                  rintro e' w7 ⟨he, hw⟩
                  rw [H2.out] at he
                  subst hw
                  exact ⟨he, hq⟩)
               | (go_at_call 76
                  refine (isS_any HN.out).mono ?_
                  rintro e' w7 ⟨he, hw⟩
                  first | rw [H1.out] at he | (have h9 := H1.out; unfold okNr at h9; rw [h9] at he)
                  subst hw
                  exact ⟨he, hq⟩)
               | (go_at_call 78
                  refine (sel_any HN.out).mono ?_
                  rintro e' w7 ⟨he, hb⟩
                  rw [← HY.out] at he
                  exact ⟨he, hq.next hb⟩)
               | (go_at_call 77
                  refine (impl_pwg HYw.out HS.out).mono ?_
                  rintro e' w7 ⟨he, hb⟩
                  rw [← HZ.out] at he
                  exact ⟨he, hq.next hb⟩)
               | rfl
               | exact ⟨rfl, hq⟩
           simp only [Act.put, List.setIfInBounds_toArray, List.set_cons_zero, List.set_cons_succ]))
      refine wpQuiet_nil ?_
      intro w7 hq
      have HQ7 := Lib.hid hq
      clear hq
      go_wp2_with fail
      go_ret
      exact ⟨HE.out, HQ7.out.1⟩

end Go.Proofs.Ytdlbpeippmibcaa
