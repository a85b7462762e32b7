/- Blind tokens: tokens finished as the document says; tokens checked. No conditions but numbers that a machine holds. -/
import Derived.Test.YtdccljmffmlkbaaTk1
import Derived.Test.YtdccljmffmlkbaaQuietC
import Derived.Test.YtdccljmffmlkbaaHeldL
import Derived.BigQuiet
import Derived.StillTailTactics
namespace Go.Proofs.Ytdccljmffmlkbaa
open Go Go.RowKit
set_option linter.unusedVariables false
set_option maxRecDepth 20000
attribute [local irreducible] kh kid pwm tcm pw chl

theorem tok_no {n b k e c r : Int} (h : fnok n b k e c r = false) : (Ending.returned (.tuple #[.agg #[.int .i64 0, .int .i64 0], .bool false]) : Ending) = .returned (.tuple #[.agg #[.int .i64 (fnS n b k e c r), .int .i64 (fnV n b k e c r)], .bool (fnok n b k e c r)]) := by
  obtain ⟨h1, h2⟩ := fn_no h
  rw [h1, h2, h]
theorem tok_yes {n b k e c r : Int} (h : fnok n b k e c r = true) : (Ending.returned (.tuple #[.agg #[.int .i64 n, .int .i64 (pwG e (invE b))], .bool true]) : Ending) = .returned (.tuple #[.agg #[.int .i64 (fnS n b k e c r), .int .i64 (fnV n b k e c r)], .bool (fnok n b k e c r)]) := by
  obtain ⟨h1, h2⟩ := fn_yes h
  rw [h1, h2, h]
theorem blE_wf (n b : Int) : (Lit.int .i64 (blE n b)).wf = true := by have := blE_bound n b; exact small_wf (by omega) (by omega)
theorem invE_wf (n : Int) : (Lit.int .i64 (invE n)).wf = true := by
  by_cases h : n % 1019 = 0
  · rw [invE_zero h]; decide
  · obtain ⟨m, h1, h2, h3, _⟩ := invE_ok h
    rw [h3]; exact small_wf (by omega) (by omega)

set_option maxHeartbeats 4000000 in
/-- spec.FinishToken. -/
theorem spec_fn {w : World} {n b k e c r : Int} (hn : (Lit.int .i64 n).wf = true) (hbw : (Lit.int .i64 b).wf = true) (hk : (Lit.int .i64 k).wf = true) (he : (Lit.int .i64 e).wf = true) (hc : (Lit.int .i64 c).wf = true) (hr : (Lit.int .i64 r).wf = true) :
    Calls Try.prog 20 #[.int .i64 n, .int .i64 b, .int .i64 k, .agg #[.int .i64 e, .int .i64 c, .int .i64 r]] w fun x w' => x = .returned (.tuple #[.agg #[.int .i64 (fnS n b k e c r), .int .i64 (fnV n b k e c r)], .bool (fnok n b k e c r)]) ∧ Below w.heap.size w w' := by
  have HN := Lib.hid hn
  have HBw := Lib.hid hbw
  have HKw := Lib.hid hk
  have HEw := Lib.hid he
  have HCw := Lib.hid hc
  have HRw := Lib.hid hr
  obtain ⟨a0, b0, hB⟩ := gtwo w (.cells #[.int .i64 e, .int .i64 c, .int .i64 r] 42) (.cells #[.int .i64 0, .int .i64 0] 39)
  have HA := Lib.hid a0
  have HC := Lib.hid b0
  have HB0 := Lib.hid hB
  have HXw := Lib.hid (blE_wf n b)
  obtain ⟨x, hx⟩ : ∃ x, x = blE n b := ⟨_, rfl⟩
  rw [← hx] at HXw
  have HX := Lib.hid hx
  clear hn hbw hk he hc hr a0 b0 hB hx
  cases h1 : blok n b with
  | false =>
    have H1 := Lib.hid h1
    have HE := Lib.hid (tok_no (n := n) (b := b) (k := k) (e := e) (c := c) (r := r) (by unfold fnok; rw [h1]; rfl))
    clear h1
    go_enter Try.func20, Try.ntmps20
    go_wp2_with fail
    refine (spec_bl HN.out HBw.out).mono ?_
    rw [H1.out, ← HX.out]
    rintro e' w1 ⟨rfl, hb⟩
    replace HB0 := Lib.hid (HB0.out.trans (hb.mono HB0.out.size))
    replace HA := Lib.hid ((hb.block _ (lt_of_block HA.out)).trans HA.out)
    replace HC := Lib.hid ((hb.block _ (lt_of_block HC.out)).trans HC.out)
    clear hb
    have HA1 := Lib.hid ((heap_alloc_old w1 (.cells #[.int .i64 x] 32) (lt_of_block HA.out)).trans HA.out)
    have HC1 := Lib.hid ((heap_alloc_old w1 (.cells #[.int .i64 x] 32) (lt_of_block HC.out)).trans HC.out)
    have HX1 := Lib.hid (heap_alloc_new w1 (.cells #[.int .i64 x] 32))
    have HB1 := Lib.hid (HB0.out.alloc HB0.out.size (.cells #[.int .i64 x] 32))
    obtain ⟨W1, hW1⟩ : ∃ W, W = w1.alloc (.cells #[.int .i64 x] 32) := ⟨_, rfl⟩
    rw [← hW1] at HA1 HC1 HX1 HB1
    have HW1 := Lib.hid hW1
    clear hW1 HA HC HB0
    obtain ⟨q0, q1, f0, f1⟩ := pcs HC1.out
    obtain ⟨k9, g9⟩ := pst HC1.out (.int .i64 0) (.int .i64 0)
    obtain ⟨r0, r1, _⟩ := pcs k9
    replace HB1 := Lib.hid (HB1.out.grown g9 HB1.out.size (fun k hk => by injection hk with hk; omega))
    clear k9 g9
    go_wp2_with (rw [← HW1.out])
    exact bodyPost_ret (v := .tuple #[.agg #[.int .i64 0, .int .i64 0], .bool false]) (by simp [results, Try.results20, go_sem, r0, r1]) rfl ⟨HE.out, HB1.out⟩
  | true =>
   have H1 := Lib.hid h1
   cases h2 : vrf 4 x k e c r with
   | false =>
    have H2 := Lib.hid h2
    have HE := Lib.hid (tok_no (n := n) (b := b) (k := k) (e := e) (c := c) (r := r) (by unfold fnok; rw [h1, ← HX.out, h2]; rfl))
    clear h1 h2
    go_enter Try.func20, Try.ntmps20
    go_wp2_with fail
    refine (spec_bl HN.out HBw.out).mono ?_
    rw [H1.out, ← HX.out]
    rintro e' w1 ⟨rfl, hb⟩
    replace HB0 := Lib.hid (HB0.out.trans (hb.mono HB0.out.size))
    replace HA := Lib.hid ((hb.block _ (lt_of_block HA.out)).trans HA.out)
    replace HC := Lib.hid ((hb.block _ (lt_of_block HC.out)).trans HC.out)
    clear hb
    have HA1 := Lib.hid ((heap_alloc_old w1 (.cells #[.int .i64 x] 32) (lt_of_block HA.out)).trans HA.out)
    have HC1 := Lib.hid ((heap_alloc_old w1 (.cells #[.int .i64 x] 32) (lt_of_block HC.out)).trans HC.out)
    have HX1 := Lib.hid (heap_alloc_new w1 (.cells #[.int .i64 x] 32))
    have HB1 := Lib.hid (HB0.out.alloc HB0.out.size (.cells #[.int .i64 x] 32))
    obtain ⟨W1, hW1⟩ : ∃ W, W = w1.alloc (.cells #[.int .i64 x] 32) := ⟨_, rfl⟩
    rw [← hW1] at HA1 HC1 HX1 HB1
    have HW1 := Lib.hid hW1
    clear hW1 HA HC HB0
    obtain ⟨d0, d1, d2, _⟩ := ptc HA1.out
    have x0 := gc0 HX1.out
    rw [HW1.out] at d0 d1 d2 x0
    go_wp2_with fail
    rw [← HW1.out]
    refine (spec_vf (by decide) HXw.out HKw.out HEw.out HCw.out HRw.out).mono ?_
    rw [H2.out]
    rintro e' w2 ⟨rfl, hb⟩
    replace HB1 := Lib.hid (HB1.out.trans (hb.mono HB1.out.size))
    replace HC1 := Lib.hid ((hb.block _ (lt_of_block HC1.out)).trans HC1.out)
    clear hb d0 d1 d2 x0
    obtain ⟨q0, q1, f0, f1⟩ := pcs HC1.out
    obtain ⟨k9, g9⟩ := pst HC1.out (.int .i64 0) (.int .i64 0)
    obtain ⟨r0, r1, _⟩ := pcs k9
    replace HB1 := Lib.hid (HB1.out.grown g9 HB1.out.size (fun k hk => by injection hk with hk; omega))
    clear k9 g9
    go_wp2_with fail
    exact bodyPost_ret (v := .tuple #[.agg #[.int .i64 0, .int .i64 0], .bool false]) (by simp [results, Try.results20, go_sem, r0, r1]) rfl ⟨HE.out, HB1.out⟩
   | true =>
    have H2 := Lib.hid h2
    have HE := Lib.hid (tok_yes (n := n) (b := b) (k := k) (e := e) (c := c) (r := r) (by unfold fnok; rw [h1, ← HX.out, h2]; rfl))
    have HIw := Lib.hid (invE_wf b)
    obtain ⟨i, hi⟩ : ∃ i, i = invE b := ⟨_, rfl⟩
    rw [← hi] at HE HIw
    have HI := Lib.hid hi
    obtain ⟨y, hy⟩ : ∃ y, y = pwG e i := ⟨_, rfl⟩
    rw [← hy] at HE
    have HY := Lib.hid hy
    clear h1 h2 hi hy
    go_enter Try.func20, Try.ntmps20
    go_wp2_with fail
    refine (spec_bl HN.out HBw.out).mono ?_
    rw [H1.out, ← HX.out]
    rintro e' w1 ⟨rfl, hb⟩
    replace HB0 := Lib.hid (HB0.out.trans (hb.mono HB0.out.size))
    replace HA := Lib.hid ((hb.block _ (lt_of_block HA.out)).trans HA.out)
    replace HC := Lib.hid ((hb.block _ (lt_of_block HC.out)).trans HC.out)
    clear hb
    have HA1 := Lib.hid ((heap_alloc_old w1 (.cells #[.int .i64 x] 32) (lt_of_block HA.out)).trans HA.out)
    have HC1 := Lib.hid ((heap_alloc_old w1 (.cells #[.int .i64 x] 32) (lt_of_block HC.out)).trans HC.out)
    have HX1 := Lib.hid (heap_alloc_new w1 (.cells #[.int .i64 x] 32))
    have HB1 := Lib.hid (HB0.out.alloc HB0.out.size (.cells #[.int .i64 x] 32))
    obtain ⟨W1, hW1⟩ : ∃ W, W = w1.alloc (.cells #[.int .i64 x] 32) := ⟨_, rfl⟩
    rw [← hW1] at HA1 HC1 HX1 HB1
    have HW1 := Lib.hid hW1
    clear hW1 HA HC HB0
    obtain ⟨d0, d1, d2, _⟩ := ptc HA1.out
    have x0 := gc0 HX1.out
    rw [HW1.out] at d0 d1 d2 x0
    go_wp2_with fail
    rw [← HW1.out]
    refine (spec_vf (by decide) HXw.out HKw.out HEw.out HCw.out HRw.out).mono ?_
    rw [H2.out]
    rintro e' w2 ⟨rfl, hb⟩
    replace HB1 := Lib.hid (HB1.out.trans (hb.mono HB1.out.size))
    replace HC1 := Lib.hid ((hb.block _ (lt_of_block HC1.out)).trans HC1.out)
    replace HA1 := Lib.hid ((hb.block _ (lt_of_block HA1.out)).trans HA1.out)
    clear hb d0 d1 d2 x0
    go_wp2_with fail
    refine region_till (fun w' => w'.cell? ⟨w.heap.size, 0, none⟩ = some (.int .i64 e)) 7 (by kernel_rfl) ?_
    obtain ⟨wd, hwd⟩ : ∃ x, x = w2.drew := ⟨_, rfl⟩
    have HBd : Hid (Below w.heap.size w wd) := Lib.hid (by rw [hwd]; exact HB1.out.drew)
    have HCd : Hid (wd.heap[w.heap.size + 1]? = some (.cells #[.int .i64 0, .int .i64 0] 39)) := Lib.hid (by rw [hwd]; exact HC1.out)
    have HAd : Hid (wd.heap[w.heap.size]? = some (.cells #[.int .i64 e, .int .i64 c, .int .i64 r] 42)) := Lib.hid (by rw [hwd]; exact HA1.out)
    have d0 := (ptc HAd.out).1
    rw [← hwd]
    clear hwd HB1 HC1 HA1
    apply Till.take (i := 0) [0, 6, 7]
    · simp only [List.getElem?_toArray, List.getElem?_cons_zero]
      rfl
    · kernel_rfl
    · kernel_rfl
    · kernel_rfl
    · kernel_rfl
    · exact fun _ _ _ h => h
    · first
        | exact Or.inr ⟨by rfl, rfl⟩
        | (refine Or.inl ⟨by rfl, fun wq hwq => ?_⟩
           dsimp only at hwq
           go_simp
           first
             | done
             | rfl)
    · exact d0
    simp only [Act.put, List.setIfInBounds_toArray, List.set_cons_zero, List.set_cons_succ]
    apply Till.take (i := 1) [1, 2, 5, 6, 7]
    · simp only [List.getElem?_toArray, List.getElem?_cons_succ, List.getElem?_cons_zero]
      rfl
    · kernel_rfl
    · kernel_rfl
    · kernel_rfl
    · kernel_rfl
    · exact fun _ _ _ h => h
    · first
        | exact Or.inr ⟨by rfl, rfl⟩
        | (refine Or.inl ⟨by rfl, fun wq hwq => ?_⟩
           dsimp only at hwq
           go_simp
           first
             | done
             | rfl)
    · exact d0
    simp only [Act.put, List.setIfInBounds_toArray, List.set_cons_zero, List.set_cons_succ]
    apply Till.take (i := 2) [2, 5, 6, 7]
    · simp only [List.getElem?_toArray, List.getElem?_cons_succ, List.getElem?_cons_zero]
      rfl
    · kernel_rfl
    · kernel_rfl
    · kernel_rfl
    · kernel_rfl
    · exact fun _ _ _ h => h
    · first
        | exact Or.inr ⟨by rfl, rfl⟩
        | (refine Or.inl ⟨by rfl, fun wq hwq => ?_⟩
           dsimp only at hwq
           go_simp
           first
             | done
             | rfl)
    · exact d0
    simp only [Act.put, List.setIfInBounds_toArray, List.set_cons_zero, List.set_cons_succ]
    apply Till.take (i := 3) [3, 4, 5, 6, 7]
    · simp only [List.getElem?_toArray, List.getElem?_cons_succ, List.getElem?_cons_zero]
      rfl
    · kernel_rfl
    · kernel_rfl
    · kernel_rfl
    · kernel_rfl
    · exact fun _ _ _ h => h
    · first
        | exact Or.inr ⟨by rfl, rfl⟩
        | (refine Or.inl ⟨by rfl, fun wq hwq => ?_⟩
           dsimp only at hwq
           go_simp
           first
             | done
             | rfl)
    · exact d0
    simp only [Act.put, List.setIfInBounds_toArray, List.set_cons_zero, List.set_cons_succ]
    apply Till.one (i := 4)
    · kernel_rfl
    · simp only [List.getElem?_toArray, List.getElem?_cons_succ, List.getElem?_cons_zero]
      rfl
    intro K hK
    go_simp
    refine (spec_inv HBw.out).mono ?_
    rw [← HI.out]
    rintro e' w3 ⟨he, hw⟩
    subst he
    obtain rfl := hw.symm
    refine hK.out _ _ (Or.inr d0) ?_
    clear hK K
    try simp only [Act.put, List.setIfInBounds_toArray, List.set_cons_zero, List.set_cons_succ]
    apply Till.one (i := 5)
    · kernel_rfl
    · simp only [List.getElem?_toArray, List.getElem?_cons_succ, List.getElem?_cons_zero]
      rfl
    intro K hK
    go_simp
    refine (spec_pwg HEw.out HIw.out).mono ?_
    rw [← HY.out]
    rintro e' w3 ⟨he, hw⟩
    subst he
    obtain rfl := hw.symm
    refine hK.out _ _ (Or.inr d0) ?_
    clear hK K
    try simp only [Act.put, List.setIfInBounds_toArray, List.set_cons_zero, List.set_cons_succ]
    apply Till.take (i := 6) [6, 7]
    · simp only [List.getElem?_toArray, List.getElem?_cons_succ, List.getElem?_cons_zero]
      rfl
    · kernel_rfl
    · kernel_rfl
    · kernel_rfl
    · kernel_rfl
    · exact fun _ _ _ h => h
    · first
        | exact Or.inr ⟨by rfl, rfl⟩
        | (refine Or.inl ⟨by rfl, fun wq hwq => ?_⟩
           dsimp only at hwq
           go_simp
           first
             | done
             | rfl)
    · exact d0
    simp only [Act.put, List.setIfInBounds_toArray, List.set_cons_zero, List.set_cons_succ]
    obtain ⟨q0, q1, f0, f1⟩ := pcs HCd.out
    obtain ⟨k9, g9⟩ := pst HCd.out (.int .i64 n) (.int .i64 y)
    obtain ⟨r0, r1, _⟩ := pcs k9
    have HB1 := Lib.hid (HBd.out.grown g9 HBd.out.size (fun k hk => by injection hk with hk; omega))
    clear k9 g9
    apply Till.one (i := 7)
    · kernel_rfl
    · simp only [List.getElem?_toArray, List.getElem?_cons_succ, List.getElem?_cons_zero]
      rfl
    intro K hK
    go_simp
    skip
    refine hK.out _ _ (Or.inl (by rfl)) ?_
    clear hK K
    try simp only [Act.put, List.setIfInBounds_toArray, List.set_cons_zero, List.set_cons_succ]
    apply Till.one (i := 8)
    · kernel_rfl
    · simp only [List.getElem?_toArray, List.getElem?_cons_succ, List.getElem?_cons_zero]
      rfl
    intro K hK
    go_simp
    skip
    refine hK.out _ _ (Or.inl (by rfl)) ?_
    clear hK K
    try simp only [Act.put, List.setIfInBounds_toArray, List.set_cons_zero, List.set_cons_succ]
    refine Till.done (by kernel_rfl) ?_ _
    go_wp2_with fail
    exact bodyPost_ret (v := .tuple #[.agg #[.int .i64 n, .int .i64 y], .bool true]) (by simp [results, Try.results20, go_sem, r0, r1]) rfl ⟨HE.out, HB1.out⟩

/-- The worlds in which a token's box stands. -/
def TokW (w : World) (n v : Int) (w' : World) : Prop := Below w.heap.size w w' ∧ w'.heap[w.heap.size]? = some (.cells #[.int .i64 n, .int .i64 v] 39)
theorem TokW.next {w : World} {n v : Int} {w1 w2 : World} (h : TokW w n v w1) (hb : Below w1.heap.size w1 w2) : TokW w n v w2 := ⟨h.1.trans (hb.mono h.1.size), (hb.block _ (lt_of_block h.2)).trans h.2⟩
theorem tokW_start (w : World) (n v : Int) : TokW w n v (w.alloc (.cells #[.int .i64 n, .int .i64 v] 39)).drew :=
  ⟨((Below.refl w.heap.size w).alloc (Nat.le_refl _) _).drew, heap_alloc_new w _⟩

set_option maxHeartbeats 4000000 in
/-- spec.IsValidToken. -/
theorem spec_vt {w : World} {s n v : Int} (hs : (Lit.int .i64 s).wf = true) (hn : (Lit.int .i64 n).wf = true) (hv : (Lit.int .i64 v).wf = true) :
    Calls Try.prog 24 #[.int .i64 s, .agg #[.int .i64 n, .int .i64 v]] w fun e w' => e = .returned (.bool (vtok s n v)) ∧ Below w.heap.size w w' := by
  have HS := Lib.hid hs
  have HN := Lib.hid hn
  have hsb := wf_i64 hs
  obtain ⟨m, hm⟩ : ∃ m, m = s % 1019 := ⟨_, rfl⟩
  have HM : Hid (modV s 1019 = m) := Lib.hid (by rw [hm]; exact modV_1019 s)
  have HYw := Lib.hid (hs_wf n)
  obtain ⟨y, hy⟩ : ∃ y, y = Go.Proofs.Ytdccljmffmlkbaa.hs n := ⟨_, rfl⟩
  rw [← hy] at HYw
  obtain ⟨z, hz⟩ : ∃ z, z = pwG y s := ⟨_, rfl⟩
  obtain ⟨t, ht⟩ : ∃ t, t = (v == z) := ⟨_, rfl⟩
  have hE : vtok s n v = (okNr n && (nz s && t)) := by unfold vtok; rw [← hy, ← hz, ← ht]
  have HY := Lib.hid hy
  have HYs : Hid (hgr 101 n = y) := Lib.hid (by rw [hy]; rfl)
  have HZ := Lib.hid hz
  have ht' : (v == z) = t := ht.symm
  have hmz : nz s = (m != 0) := by rw [hm]; rfl
  clear hs hn hv hm hy hz ht
  cases h1 : okNr n with
  | false =>
    cases h2 : nz s with
    | false =>
      have H1 : Hid (okNr n = false) := Lib.hid h1
      have H2 := Lib.hid h2
      have HE : Hid ((Ending.returned (.bool false) : Ending) = .returned (.bool (vtok s n v))) := Lib.hid (by rw [hE, h1]; rfl)
      have e2 : (m != 0) = false := by rw [← hmz, h2]
      clear h1 h2 hE hmz
      go_enter Try.func24, Try.ntmps24
      go_wp2_with fail
      refine region_quiet_c (C := TokW w n v) (by kernel_rfl) (by kernel_rfl) (tokW_start w n v) ?_
      repeat (first
        | go_big_quiet_skip
        | (apply quiet_on
           · kernel_rfl
           · intro wq hq
             obtain ⟨c0, c1, _⟩ := pcs hq.2
             go_simp
             first
               | done
               | (go_at_call 28
                  refine (spec_in _ _ _ _ HN.out).mono ?_
                  rintro e' w7 ⟨he, hw⟩
                  first | rw [H1.out] at he | (have h9 := H1.out; unfold okNr at h9; rw [h9] at he)
                  subst hw
                  exact ⟨he, hq⟩)
               | (go_at_call 39
                  refine (spec_mod _ _ _ hsb.1 hsb.2).mono ?_
                  rintro e' w7 ⟨he, hw⟩
                  rw [HM.out] at he
                  subst hw
                  exact ⟨he, hq⟩)
               | (go_at_call 15
                  refine (spec_hgr (by decide) HN.out).mono ?_
                  rintro e' w7 ⟨he, hb⟩
                  rw [HYs.out] at he
                  exact ⟨he, hq.next hb⟩)
               | (go_at_call 33
                  refine (spec_pwg HYw.out HS.out).mono ?_
                  rintro e' w7 ⟨he, hw⟩
                  rw [← HZ.out] at he
                  subst hw
                  exact ⟨he, hq⟩)
               | rfl
               | exact ⟨rfl, hq⟩
           simp only [Act.put, List.setIfInBounds_toArray, List.set_cons_zero, List.set_cons_succ]))
      refine wpQuiet_nil ?_
      intro w7 hq
      have HQ7 := Lib.hid hq
      clear hq
      go_wp2_with fail
      go_ret
      exact ⟨HE.out, HQ7.out.1⟩
    | true =>
      have H1 : Hid (okNr n = false) := Lib.hid h1
      have H2 := Lib.hid h2
      have HE : Hid ((Ending.returned (.bool false) : Ending) = .returned (.bool (vtok s n v))) := Lib.hid (by rw [hE, h1]; rfl)
      have e2 : (m != 0) = true := by rw [← hmz, h2]
      clear h1 h2 hE hmz
      go_enter Try.func24, Try.ntmps24
      go_wp2_with fail
      refine region_quiet_c (C := TokW w n v) (by kernel_rfl) (by kernel_rfl) (tokW_start w n v) ?_
      repeat (first
        | go_big_quiet_skip
        | (apply quiet_on
           · kernel_rfl
           · intro wq hq
             obtain ⟨c0, c1, _⟩ := pcs hq.2
             go_simp
             first
               | done
               | (go_at_call 28
                  refine (spec_in _ _ _ _ HN.out).mono ?_
                  rintro e' w7 ⟨he, hw⟩
                  first | rw [H1.out] at he | (have h9 := H1.out; unfold okNr at h9; rw [h9] at he)
                  subst hw
                  exact ⟨he, hq⟩)
               | (go_at_call 39
                  refine (spec_mod _ _ _ hsb.1 hsb.2).mono ?_
                  rintro e' w7 ⟨he, hw⟩
                  rw [HM.out] at he
                  subst hw
                  exact ⟨he, hq⟩)
               | (go_at_call 15
                  refine (spec_hgr (by decide) HN.out).mono ?_
                  rintro e' w7 ⟨he, hb⟩
                  rw [HYs.out] at he
                  exact ⟨he, hq.next hb⟩)
               | (go_at_call 33
                  refine (spec_pwg HYw.out HS.out).mono ?_
                  rintro e' w7 ⟨he, hw⟩
                  rw [← HZ.out] at he
                  subst hw
                  exact ⟨he, hq⟩)
               | rfl
               | exact ⟨rfl, hq⟩
           simp only [Act.put, List.setIfInBounds_toArray, List.set_cons_zero, List.set_cons_succ]))
      refine wpQuiet_nil ?_
      intro w7 hq
      have HQ7 := Lib.hid hq
      clear hq
      go_wp2_with fail
      go_ret
      exact ⟨HE.out, HQ7.out.1⟩
  | true =>
    cases h2 : nz s with
    | false =>
      have H1 : Hid (okNr n = true) := Lib.hid h1
      have H2 := Lib.hid h2
      have HE : Hid ((Ending.returned (.bool false) : Ending) = .returned (.bool (vtok s n v))) := Lib.hid (by rw [hE, h1, h2]; rfl)
      have e2 : (m != 0) = false := by rw [← hmz, h2]
      clear h1 h2 hE hmz
      go_enter Try.func24, Try.ntmps24
      go_wp2_with fail
      refine region_quiet_c (C := TokW w n v) (by kernel_rfl) (by kernel_rfl) (tokW_start w n v) ?_
      repeat (first
        | go_big_quiet_skip
        | (apply quiet_on
           · kernel_rfl
           · intro wq hq
             obtain ⟨c0, c1, _⟩ := pcs hq.2
             go_simp
             first
               | done
               | (go_at_call 28
                  refine (spec_in _ _ _ _ HN.out).mono ?_
                  rintro e' w7 ⟨he, hw⟩
                  first | rw [H1.out] at he | (have h9 := H1.out; unfold okNr at h9; rw [h9] at he)
                  subst hw
                  exact ⟨he, hq⟩)
               | (go_at_call 39
                  refine (spec_mod _ _ _ hsb.1 hsb.2).mono ?_
                  rintro e' w7 ⟨he, hw⟩
                  rw [HM.out] at he
                  subst hw
                  exact ⟨he, hq⟩)
               | (go_at_call 15
                  refine (spec_hgr (by decide) HN.out).mono ?_
                  rintro e' w7 ⟨he, hb⟩
                  rw [HYs.out] at he
                  exact ⟨he, hq.next hb⟩)
               | (go_at_call 33
                  refine (spec_pwg HYw.out HS.out).mono ?_
                  rintro e' w7 ⟨he, hw⟩
                  rw [← HZ.out] at he
                  subst hw
                  exact ⟨he, hq⟩)
               | rfl
               | exact ⟨rfl, hq⟩
           simp only [Act.put, List.setIfInBounds_toArray, List.set_cons_zero, List.set_cons_succ]))
      refine wpQuiet_nil ?_
      intro w7 hq
      have HQ7 := Lib.hid hq
      clear hq
      go_wp2_with fail
      go_ret
      exact ⟨HE.out, HQ7.out.1⟩
    | true =>
      have H1 : Hid (okNr n = true) := Lib.hid h1
      have H2 := Lib.hid h2
      have HE : Hid ((Ending.returned (.bool t) : Ending) = .returned (.bool (vtok s n v))) := Lib.hid (by rw [hE, h1, h2]; rfl)
      have e2 : (m != 0) = true := by rw [← hmz, h2]
      clear h1 h2 hE hmz
      go_enter Try.func24, Try.ntmps24
      go_wp2_with fail
      refine region_quiet_c (C := TokW w n v) (by kernel_rfl) (by kernel_rfl) (tokW_start w n v) ?_
      repeat (first
        | go_big_quiet_skip
        | (apply quiet_on
           · kernel_rfl
           · intro wq hq
             obtain ⟨c0, c1, _⟩ := pcs hq.2
             go_simp
             first
               | done
               | (go_at_call 28
                  refine (spec_in _ _ _ _ HN.out).mono ?_
                  rintro e' w7 ⟨he, hw⟩
                  first | rw [H1.out] at he | (have h9 := H1.out; unfold okNr at h9; rw [h9] at he)
                  subst hw
                  exact ⟨he, hq⟩)
               | (go_at_call 39
                  refine (spec_mod _ _ _ hsb.1 hsb.2).mono ?_
                  rintro e' w7 ⟨he, hw⟩
                  rw [HM.out] at he
                  subst hw
                  exact ⟨he, hq⟩)
               | (go_at_call 15
                  refine (spec_hgr (by decide) HN.out).mono ?_
                  rintro e' w7 ⟨he, hb⟩
                  rw [HYs.out] at he
                  exact ⟨he, hq.next hb⟩)
               | (go_at_call 33
                  refine (spec_pwg HYw.out HS.out).mono ?_
                  rintro e' w7 ⟨he, hw⟩
                  rw [← HZ.out] at he
                  subst hw
                  exact ⟨he, hq⟩)
               | rfl
               | exact ⟨rfl, hq⟩
           simp only [Act.put, List.setIfInBounds_toArray, List.set_cons_zero, List.set_cons_succ]))
      refine wpQuiet_nil ?_
      intro w7 hq
      have HQ7 := Lib.hid hq
      clear hq
      go_wp2_with fail
      go_ret
      exact ⟨HE.out, HQ7.out.1⟩

set_option maxHeartbeats 4000000 in
/-- impl.IsValidToken. -/
theorem impl_vt {w : World} {s n v : Int} (hs : (Lit.int .i64 s).wf = true) (hn : (Lit.int .i64 n).wf = true) (hv : (Lit.int .i64 v).wf = true) :
    Calls Try.prog 26 #[.int .i64 s, .agg #[.int .i64 n, .int .i64 v]] w fun e w' => e = .returned (.bool (vtok s n v)) ∧ Below w.heap.size w w' := by
  have HS := Lib.hid hs
  have HN := Lib.hid hn
  have hsb := wf_i64 hs
  obtain ⟨m, hm⟩ : ∃ m, m = s % 1019 := ⟨_, rfl⟩
  have HM : Hid (modV s 1019 = m) := Lib.hid (by rw [hm]; exact modV_1019 s)
  have HYw := Lib.hid (hs_wf n)
  obtain ⟨y, hy⟩ : ∃ y, y = Go.Proofs.Ytdccljmffmlkbaa.hs n := ⟨_, rfl⟩
  rw [← hy] at HYw
  obtain ⟨z, hz⟩ : ∃ z, z = pwG y s := ⟨_, rfl⟩
  obtain ⟨t, ht⟩ : ∃ t, t = (v == z) := ⟨_, rfl⟩
  have hE : vtok s n v = (okNr n && (nz s && t)) := by unfold vtok; rw [← hy, ← hz, ← ht]
  have HY := Lib.hid hy
  have HYs : Hid (hgr 101 n = y) := Lib.hid (by rw [hy]; rfl)
  have HZ := Lib.hid hz
  have ht' : (v == z) = t := ht.symm
  have hmz : nz s = (m != 0) := by rw [hm]; rfl
  clear hs hn hv hm hy hz ht
  cases h1 : okNr n with
  | false =>
    cases h2 : nz s with
    | false =>
      have H1 : Hid (okNr n = false) := Lib.hid h1
      have H2 := Lib.hid h2
      have HE : Hid ((Ending.returned (.bool false) : Ending) = .returned (.bool (vtok s n v))) := Lib.hid (by rw [hE, h1]; rfl)
      have e2 : (m != 0) = false := by rw [← hmz, h2]
      clear h1 h2 hE hmz
      go_enter Try.func26, Try.ntmps26
      go_wp2_with fail
      refine region_quiet_c (C := TokW w n v) (by kernel_rfl) (by kernel_rfl) (tokW_start w n v) ?_
      repeat (first
        | go_big_quiet_skip
        | (apply quiet_on
           · kernel_rfl
           · intro wq hq
             obtain ⟨c0, c1, _⟩ := pcs hq.2
             go_simp
             first
               | done
               | (go_at_call 44
                  refine (isH_any HS.out).mono ?_
                  rintro e' w7 ⟨he, hw⟩
                  rw [H2.out] at he
                  subst hw
                  exact ⟨he, hq⟩)
               | (go_at_call 45
                  refine (isS_any HN.out).mono ?_
                  rintro e' w7 ⟨he, hw⟩
                  first | rw [H1.out] at he | (have h9 := H1.out; unfold okNr at h9; rw [h9] at he)
                  subst hw
                  exact ⟨he, hq⟩)
               | (go_at_call 46
                  refine (sel_any HN.out).mono ?_
                  rintro e' w7 ⟨he, hb⟩
                  rw [← HY.out] at he
                  exact ⟨he, hq.next hb⟩)
               | (go_at_call 36
                  refine (impl_pwg HYw.out HS.out).mono ?_
                  rintro e' w7 ⟨he, hb⟩
                  rw [← HZ.out] at he
                  exact ⟨he, hq.next hb⟩)
               | rfl
               | exact ⟨rfl, hq⟩
           simp only [Act.put, List.setIfInBounds_toArray, List.set_cons_zero, List.set_cons_succ]))
      refine wpQuiet_nil ?_
      intro w7 hq
      have HQ7 := Lib.hid hq
      clear hq
      go_wp2_with fail
      go_ret
      exact ⟨HE.out, HQ7.out.1⟩
    | true =>
      have H1 : Hid (okNr n = false) := Lib.hid h1
      have H2 := Lib.hid h2
      have HE : Hid ((Ending.returned (.bool false) : Ending) = .returned (.bool (vtok s n v))) := Lib.hid (by rw [hE, h1]; rfl)
      have e2 : (m != 0) = true := by rw [← hmz, h2]
      clear h1 h2 hE hmz
      go_enter Try.func26, Try.ntmps26
      go_wp2_with fail
      refine region_quiet_c (C := TokW w n v) (by kernel_rfl) (by kernel_rfl) (tokW_start w n v) ?_
      repeat (first
        | go_big_quiet_skip
        | (apply quiet_on
           · kernel_rfl
           · intro wq hq
             obtain ⟨c0, c1, _⟩ := pcs hq.2
             go_simp
             first
               | done
               | (go_at_call 44
                  refine (isH_any HS.out).mono ?_
                  rintro e' w7 ⟨he, hw⟩
                  rw [H2.out] at he
                  subst hw
                  exact ⟨he, hq⟩)
               | (go_at_call 45
                  refine (isS_any HN.out).mono ?_
                  rintro e' w7 ⟨he, hw⟩
                  first | rw [H1.out] at he | (have h9 := H1.out; unfold okNr at h9; rw [h9] at he)
                  subst hw
                  exact ⟨he, hq⟩)
               | (go_at_call 46
                  refine (sel_any HN.out).mono ?_
                  rintro e' w7 ⟨he, hb⟩
                  rw [← HY.out] at he
                  exact ⟨he, hq.next hb⟩)
               | (go_at_call 36
                  refine (impl_pwg HYw.out HS.out).mono ?_
                  rintro e' w7 ⟨he, hb⟩
                  rw [← HZ.out] at he
                  exact ⟨he, hq.next hb⟩)
               | rfl
               | exact ⟨rfl, hq⟩
           simp only [Act.put, List.setIfInBounds_toArray, List.set_cons_zero, List.set_cons_succ]))
      refine wpQuiet_nil ?_
      intro w7 hq
      have HQ7 := Lib.hid hq
      clear hq
      go_wp2_with fail
      go_ret
      exact ⟨HE.out, HQ7.out.1⟩
  | true =>
    cases h2 : nz s with
    | false =>
      have H1 : Hid (okNr n = true) := Lib.hid h1
      have H2 := Lib.hid h2
      have HE : Hid ((Ending.returned (.bool false) : Ending) = .returned (.bool (vtok s n v))) := Lib.hid (by rw [hE, h1, h2]; rfl)
      have e2 : (m != 0) = false := by rw [← hmz, h2]
      clear h1 h2 hE hmz
      go_enter Try.func26, Try.ntmps26
      go_wp2_with fail
      refine region_quiet_c (C := TokW w n v) (by kernel_rfl) (by kernel_rfl) (tokW_start w n v) ?_
      repeat (first
        | go_big_quiet_skip
        | (apply quiet_on
           · kernel_rfl
           · intro wq hq
             obtain ⟨c0, c1, _⟩ := pcs hq.2
             go_simp
             first
               | done
               | (go_at_call 44
                  refine (isH_any HS.out).mono ?_
                  rintro e' w7 ⟨he, hw⟩
                  rw [H2.out] at he
                  subst hw
                  exact ⟨he, hq⟩)
               | (go_at_call 45
                  refine (isS_any HN.out).mono ?_
                  rintro e' w7 ⟨he, hw⟩
                  first | rw [H1.out] at he | (have h9 := H1.out; unfold okNr at h9; rw [h9] at he)
                  subst hw
                  exact ⟨he, hq⟩)
               | (go_at_call 46
                  refine (sel_any HN.out).mono ?_
                  rintro e' w7 ⟨he, hb⟩
                  rw [← HY.out] at he
                  exact ⟨he, hq.next hb⟩)
               | (go_at_call 36
                  refine (impl_pwg HYw.out HS.out).mono ?_
                  rintro e' w7 ⟨he, hb⟩
                  rw [← HZ.out] at he
                  exact ⟨he, hq.next hb⟩)
               | rfl
               | exact ⟨rfl, hq⟩
           simp only [Act.put, List.setIfInBounds_toArray, List.set_cons_zero, List.set_cons_succ]))
      refine wpQuiet_nil ?_
      intro w7 hq
      have HQ7 := Lib.hid hq
      clear hq
      go_wp2_with fail
      go_ret
      exact ⟨HE.out, HQ7.out.1⟩
    | true =>
      have H1 : Hid (okNr n = true) := Lib.hid h1
      have H2 := Lib.hid h2
      have HE : Hid ((Ending.returned (.bool t) : Ending) = .returned (.bool (vtok s n v))) := Lib.hid (by rw [hE, h1, h2]; rfl)
      have e2 : (m != 0) = true := by rw [← hmz, h2]
      clear h1 h2 hE hmz
      go_enter Try.func26, Try.ntmps26
      go_wp2_with fail
      refine region_quiet_c (C := TokW w n v) (by kernel_rfl) (by kernel_rfl) (tokW_start w n v) ?_
      repeat (first
        | go_big_quiet_skip
        | (apply quiet_on
           · kernel_rfl
           · intro wq hq
             obtain ⟨c0, c1, _⟩ := pcs hq.2
             go_simp
             first
               | done
               | (go_at_call 44
                  refine (isH_any HS.out).mono ?_
                  rintro e' w7 ⟨he, hw⟩
                  rw [H2.out] at he
                  subst hw
                  exact ⟨he, hq⟩)
               | (go_at_call 45
                  refine (isS_any HN.out).mono ?_
                  rintro e' w7 ⟨he, hw⟩
                  first | rw [H1.out] at he | (have h9 := H1.out; unfold okNr at h9; rw [h9] at he)
                  subst hw
                  exact ⟨he, hq⟩)
               | (go_at_call 46
                  refine (sel_any HN.out).mono ?_
                  rintro e' w7 ⟨he, hb⟩
                  rw [← HY.out] at he
                  exact ⟨he, hq.next hb⟩)
               | (go_at_call 36
                  refine (impl_pwg HYw.out HS.out).mono ?_
                  rintro e' w7 ⟨he, hb⟩
                  rw [← HZ.out] at he
                  exact ⟨he, hq.next hb⟩)
               | rfl
               | exact ⟨rfl, hq⟩
           simp only [Act.put, List.setIfInBounds_toArray, List.set_cons_zero, List.set_cons_succ]))
      refine wpQuiet_nil ?_
      intro w7 hq
      have HQ7 := Lib.hid hq
      clear hq
      go_wp2_with fail
      go_ret
      exact ⟨HE.out, HQ7.out.1⟩

end Go.Proofs.Ytdccljmffmlkbaa
