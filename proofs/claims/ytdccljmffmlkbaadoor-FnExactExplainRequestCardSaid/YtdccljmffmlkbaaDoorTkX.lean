/- Blind tokens: ExplainRequest of the program and of the document. Condition: the package variable impl.unit as the rows list it. -/
import Derived.Test.YtdccljmffmlkbaaDoorBcT
import Derived.Test.YtdccljmffmlkbaaDoorGr5
import Derived.Test.YtdccljmffmlkbaaDoorQuietC
import Derived.Test.YtdccljmffmlkbaaDoorHp16
import Derived.Test.YtdccljmffmlkbaaDoorBaX
import Derived.BigQuiet
namespace Go.Proofs.YtdccljmffmlkbaaDoor
open Go Go.RowKit
set_option linter.unusedVariables false
attribute [local irreducible] kh kid pwm tcm pw chl kmap

theorem dlog_one (n : Int) : dlog (hs n) 1 = 0 := by
  have h1 : dlok (hs n) 1 = true := by unfold dlok; rw [hs_el, isG_one, beq_eq_false_iff_ne.2 (hs_ne n)]; rfl
  exact dlog_is (e := 0) h1 (by omega) (pw_zero _)
theorem exok_is (x n : Int) : exok x n = (okNr n && !(decide (dlog (hs n) x < 1))) := by
  unfold exok exqT
  cases okNr n with
  | false => rfl
  | true =>
    by_cases h : x = 1
    · subst h; rw [dlog_one]; rfl
    · rw [beq_eq_false_iff_ne.2 h]
      have e : decide (1 ≤ dlog (hs n) x) = !decide (dlog (hs n) x < 1) := by
        by_cases h1 : dlog (hs n) x < 1
        · rw [decide_eq_true h1, decide_eq_false (by omega)]; rfl
        · rw [decide_eq_false h1, decide_eq_true (by omega)]; rfl
      rw [e]; rfl
theorem exr_no {x n : Int} (h : exok x n = false) : (Ending.returned (.tuple #[.int .i64 0, .bool false]) : Ending) = .returned (.tuple #[.int .i64 (exV x n), .bool (exok x n)]) := by rw [ex_no h, h]
theorem exr_yes {x n : Int} (h : exok x n = true) : (Ending.returned (.tuple #[.int .i64 (dlog (hs n) x), .bool true]) : Ending) = .returned (.tuple #[.int .i64 (exV x n), .bool (exok x n)]) := by rw [ex_yes h, h]

/-- The worlds in which a request's box stands. -/
def ReqW (w : World) (x : Int) (w' : World) : Prop := Below w.heap.size w w' ∧ w'.heap[w.heap.size]? = some (.cells #[.int .i64 x] 43)
theorem ReqW.next {w : World} {x : Int} {w1 w2 : World} (h : ReqW w x w1) (hb : Below w1.heap.size w1 w2) : ReqW w x w2 := ⟨h.1.trans (hb.mono h.1.size), (hb.block _ (lt_of_block h.2)).trans h.2⟩
theorem reqW_start (w : World) (x : Int) : ReqW w x (w.alloc (.cells #[.int .i64 x] 43)) :=
  ⟨(Below.refl w.heap.size w).alloc (Nat.le_refl _) _, heap_alloc_new w _⟩
theorem reqW_drew {w : World} {x : Int} {w1 : World} (h : ReqW w x w1) : ReqW w x w1.drew := ⟨h.1.drew, h.2⟩

set_option maxHeartbeats 4000000 in
/-- impl.ExplainRequest. -/
theorem impl_ex {w : World} {x n : Int} (hx : (Lit.int .i64 x).wf = true) (hn : (Lit.int .i64 n).wf = true) (hL : GV w) :
    Calls Tryd.prog 38 #[.agg #[.int .i64 x], .int .i64 n] w fun e w' => e = .returned (.tuple #[.int .i64 (exV x n), .bool (exok x n)]) ∧ Below w.heap.size w w' := by
  have HX := Lib.hid hx
  have HN := Lib.hid hn
  have HG := Lib.hid hL
  have HW := Lib.hid (reqW_start w x)
  have HQw := Lib.hid (hs_wf n)
  obtain ⟨q, hq⟩ : ∃ q, q = hs n := ⟨_, rfl⟩
  rw [← hq] at HQw
  have HQ := Lib.hid hq
  have HQs : Hid (hgr 101 n = q) := Lib.hid (by rw [hq]; rfl)
  obtain ⟨d, hd⟩ : ∃ d, d = dlog q x := ⟨_, rfl⟩
  have HD := Lib.hid hd
  clear hx hn hq hd hL
  cases h1 : okNr n with
  | false =>
    have H1 := Lib.hid h1
    have HE := Lib.hid (exr_no (x := x) (n := n) (by rw [exok_is, h1]; rfl))
    clear h1
    go_enter Tryd.func38, Tryd.ntmps38
    go_wp2_with fail
    refine (isS_any HN.out).mono ?_
    rw [H1.out]
    rintro e w1 ⟨rfl, hw⟩
    obtain rfl := hw.symm
    go_wp2_with fail
    go_ret2
    exact ⟨HE.out, HW.out.1⟩
  | true =>
    have H1 := Lib.hid h1
    cases h3 : decide (d < 1) with
    | true =>
      have HE := Lib.hid (exr_no (x := x) (n := n) (by rw [exok_is, ← HQ.out, ← HD.out, h3, Bool.not_true, Bool.and_false]))
      go_enter Tryd.func38, Tryd.ntmps38
      go_wp2_with fail
      refine (isS_any HN.out).mono ?_
      rw [H1.out]
      rintro e w1 ⟨rfl, hw⟩
      obtain rfl := hw.symm
      go_wp2_with fail
      refine region_quiet_c (C := ReqW w x) (by kernel_rfl) (by kernel_rfl) (reqW_drew HW.out) ?_
      repeat (first
        | go_big_quiet_skip
        | (apply quiet_on
           · kernel_rfl
           · intro wq hq
             have c0 := gc0 hq.2
             go_simp
             first
               | done
               | (go_at_call 70
                  refine (sel_any HN.out).mono ?_
                  rintro e' w7 ⟨he, hb⟩
                  rw [← HQ.out] at he
                  exact ⟨he, hq.next hb⟩)
               | (go_at_call 21
                  refine (impl_dl HQw.out HX.out (HG.out.next hq.1)).mono ?_
                  rintro e' w7 ⟨he, hb⟩
                  rw [← HD.out] at he
                  exact ⟨he, hq.next hb⟩)
               | rfl
               | exact ⟨rfl, hq⟩
           simp only [Act.put, List.setIfInBounds_toArray, List.set_cons_zero, List.set_cons_succ]))
      refine wpQuiet_nil ?_
      intro w7 hq
      replace HW := Lib.hid hq
      clear hq
      go_wp2_with fail
      go_ret2
      exact ⟨HE.out, HW.out.1⟩
    | false =>
      have HE : Hid ((Ending.returned (.tuple #[.int .i64 d, .bool true]) : Ending) = .returned (.tuple #[.int .i64 (exV x n), .bool (exok x n)])) := Lib.hid (by rw [HD.out, HQ.out]; exact exr_yes (by rw [exok_is, ← HQ.out, ← HD.out, h3, H1.out]; rfl))
      go_enter Tryd.func38, Tryd.ntmps38
      go_wp2_with fail
      refine (isS_any HN.out).mono ?_
      rw [H1.out]
      rintro e w1 ⟨rfl, hw⟩
      obtain rfl := hw.symm
      go_wp2_with fail
      refine region_quiet_c (C := ReqW w x) (by kernel_rfl) (by kernel_rfl) (reqW_drew HW.out) ?_
      repeat (first
        | go_big_quiet_skip
        | (apply quiet_on
           · kernel_rfl
           · intro wq hq
             have c0 := gc0 hq.2
             go_simp
             first
               | done
               | (go_at_call 70
                  refine (sel_any HN.out).mono ?_
                  rintro e' w7 ⟨he, hb⟩
                  rw [← HQ.out] at he
                  exact ⟨he, hq.next hb⟩)
               | (go_at_call 21
                  refine (impl_dl HQw.out HX.out (HG.out.next hq.1)).mono ?_
                  rintro e' w7 ⟨he, hb⟩
                  rw [← HD.out] at he
                  exact ⟨he, hq.next hb⟩)
               | rfl
               | exact ⟨rfl, hq⟩
           simp only [Act.put, List.setIfInBounds_toArray, List.set_cons_zero, List.set_cons_succ]))
      refine wpQuiet_nil ?_
      intro w7 hq
      replace HW := Lib.hid hq
      clear hq
      go_wp2_with fail
      go_ret2
      exact ⟨HE.out, HW.out.1⟩

set_option maxHeartbeats 4000000 in
/-- spec.ExplainRequest. -/
theorem spec_ex {w : World} {x n : Int} (hx : (Lit.int .i64 x).wf = true) (hn : (Lit.int .i64 n).wf = true) :
    Calls Tryd.prog 39 #[.agg #[.int .i64 x], .int .i64 n] w fun e w' => e = .returned (.tuple #[.int .i64 (exV x n), .bool (exok x n)]) ∧ Below w.heap.size w w' := by
  have HX := Lib.hid hx
  have HN := Lib.hid hn
  have HW := Lib.hid (reqW_start w x)
  have HQw := Lib.hid (hs_wf n)
  obtain ⟨q, hq⟩ : ∃ q, q = hs n := ⟨_, rfl⟩
  rw [← hq] at HQw
  have HQ := Lib.hid hq
  have HQs : Hid (hgr 101 n = q) := Lib.hid (by rw [hq]; rfl)
  obtain ⟨d, hd⟩ : ∃ d, d = dlog q x := ⟨_, rfl⟩
  have HD := Lib.hid hd
  clear hx hn hq hd
  cases h1 : okNr n with
  | false =>
    have H1 := Lib.hid h1
    have HE := Lib.hid (exr_no (x := x) (n := n) (by rw [exok_is, h1]; rfl))
    clear h1
    go_enter Tryd.func39, Tryd.ntmps39
    go_wp2_with fail
    refine (spec_in _ _ _ _ HN.out).mono ?_
    have h9 := H1.out
    unfold okNr at h9
    rw [h9]
    clear h9
    rintro e w1 ⟨rfl, hw⟩
    obtain rfl := hw.symm
    go_wp2_with fail
    go_ret2
    exact ⟨HE.out, HW.out.1⟩
  | true =>
    have H1 := Lib.hid h1
    cases h2 : (x == 1) with
    | true =>
      have HE := Lib.hid (exr_no (x := x) (n := n) (by unfold exok exqT; rw [h1, h2]; rfl))
      have c0 := gc0 HW.out.2
      clear h1
      go_enter Tryd.func39, Tryd.ntmps39
      go_wp2_with fail
      refine (spec_in _ _ _ _ HN.out).mono ?_
      have h9 := H1.out
      unfold okNr at h9
      rw [h9]
      clear h9
      rintro e w1 ⟨rfl, hw⟩
      obtain rfl := hw.symm
      go_wp2_with fail
      go_ret2
      exact ⟨HE.out, HW.out.1⟩
    | false =>
      clear h1
      cases h3 : decide (d < 1) with
      | true =>
        have HE := Lib.hid (exr_no (x := x) (n := n) (by rw [exok_is, ← HQ.out, ← HD.out, h3, Bool.not_true, Bool.and_false]))
        have c0 := gc0 HW.out.2
        go_enter Tryd.func39, Tryd.ntmps39
        go_wp2_with fail
        refine (spec_in _ _ _ _ HN.out).mono ?_
        have h9 := H1.out
        unfold okNr at h9
        rw [h9]
        clear h9
        rintro e w1 ⟨rfl, hw⟩
        obtain rfl := hw.symm
        go_wp2_with fail
        clear c0
        refine region_quiet_c (C := ReqW w x) (by kernel_rfl) (by kernel_rfl) (reqW_drew HW.out) ?_
        repeat (first
          | go_big_quiet_skip
          | (apply quiet_on
             · kernel_rfl
             · intro wq hq
               have c0 := gc0 hq.2
               go_simp
               first
                 | done
                 | (go_at_call 78
                    refine (spec_hgr (by decide) HN.out).mono ?_
                    rintro e' w7 ⟨he, hb⟩
                    rw [HQs.out] at he
                    exact ⟨he, hq.next hb⟩)
                 | (go_at_call 77
                    refine (spec_dl HQw.out HX.out).mono ?_
                    rintro e' w7 ⟨he, hw⟩
                    rw [← HD.out] at he
                    subst hw
                    exact ⟨he, hq⟩)
                 | rfl
                 | exact ⟨rfl, hq⟩
             simp only [Act.put, List.setIfInBounds_toArray, List.set_cons_zero, List.set_cons_succ]))
        refine wpQuiet_nil ?_
        intro w7 hq
        replace HW := Lib.hid hq
        clear hq
        go_wp2_with fail
        go_ret2
        exact ⟨HE.out, HW.out.1⟩
      | false =>
        have HE : Hid ((Ending.returned (.tuple #[.int .i64 d, .bool true]) : Ending) = .returned (.tuple #[.int .i64 (exV x n), .bool (exok x n)])) := Lib.hid (by rw [HD.out, HQ.out]; exact exr_yes (by rw [exok_is, ← HQ.out, ← HD.out, h3, H1.out]; rfl))
        have c0 := gc0 HW.out.2
        go_enter Tryd.func39, Tryd.ntmps39
        go_wp2_with fail
        refine (spec_in _ _ _ _ HN.out).mono ?_
        have h9 := H1.out
        unfold okNr at h9
        rw [h9]
        clear h9
        rintro e w1 ⟨rfl, hw⟩
        obtain rfl := hw.symm
        go_wp2_with fail
        clear c0
        refine region_quiet_c (C := ReqW w x) (by kernel_rfl) (by kernel_rfl) (reqW_drew HW.out) ?_
        repeat (first
          | go_big_quiet_skip
          | (apply quiet_on
             · kernel_rfl
             · intro wq hq
               have c0 := gc0 hq.2
               go_simp
               first
                 | done
                 | (go_at_call 78
                    refine (spec_hgr (by decide) HN.out).mono ?_
                    rintro e' w7 ⟨he, hb⟩
                    rw [HQs.out] at he
                    exact ⟨he, hq.next hb⟩)
                 | (go_at_call 77
                    refine (spec_dl HQw.out HX.out).mono ?_
                    rintro e' w7 ⟨he, hw⟩
                    rw [← HD.out] at he
                    subst hw
                    exact ⟨he, hq⟩)
                 | rfl
                 | exact ⟨rfl, hq⟩
             simp only [Act.put, List.setIfInBounds_toArray, List.set_cons_zero, List.set_cons_succ]))
        refine wpQuiet_nil ?_
        intro w7 hq
        replace HW := Lib.hid hq
        clear hq
        go_wp2_with fail
        go_ret2
        exact ⟨HE.out, HW.out.1⟩

theorem spec_ex_t {w : World} {l : Nat} {c : List Value} {x : VBlindRequest} {n : Int} (h : tyBlindRequest.rd l w c x) (hl : l ≤ w.heap.size) (hn : (Lit.int .i64 n).wf = true) : Calls Tryd.prog 39 #[.agg c.toArray, .int .i64 n] w fun e w' => e = .returned (.tuple #[.int .i64 (exV x n), .bool (exok x n)]) ∧ Below w.heap.size w w' := by
  obtain ⟨rfl, h0⟩ := rd_BlindRequest h
  exact spec_ex h0 hn
theorem impl_ex_t {w : World} {l : Nat} {c : List Value} {x : VBlindRequest} {n : Int} (h : tyBlindRequest.rd l w c x) (hl : l ≤ w.heap.size) (hn : (Lit.int .i64 n).wf = true) (hL : GV w) : Calls Tryd.prog 38 #[.agg c.toArray, .int .i64 n] w fun e w' => e = .returned (.tuple #[.int .i64 (exV x n), .bool (exok x n)]) ∧ Below w.heap.size w w' := by
  obtain ⟨rfl, h0⟩ := rd_BlindRequest h
  exact impl_ex h0 hn hL
theorem vb_reqx (x : VBlindRequest) : tyBlindRequest.vcnt x ≤ 1099511627776 := by
  have e1 : tyBlindRequest.vcnt x = 0 := rfl
  omega
end Go.Proofs.YtdccljmffmlkbaaDoor
