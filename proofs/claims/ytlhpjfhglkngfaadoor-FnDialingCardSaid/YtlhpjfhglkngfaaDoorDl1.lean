/- Dialing: identities, shared keys, rows of invitations, safety numbers, the body of an invitation; the program's and the document's. No conditions but numbers that a machine holds. -/
import Derived.Test.YtlhpjfhglkngfaaDoorDlN
import Derived.Test.YtlhpjfhglkngfaaDoorBcT
namespace Go.Proofs.YtlhpjfhglkngfaaDoor
open Go Go.RowKit
set_option linter.unusedVariables false
set_option maxRecDepth 20000
attribute [local irreducible] kh kid pwm tcm pw

theorem stood {w w' : World} {b : Nat} {o : Obj} (h : w.heap[b]? = some o) (hb : Below w.heap.size w w') : w'.heap[b]? = some o := (hb.block _ (lt_of_block h)).trans h
theorem pwG_mod (g s : Int) : pwG g (s % 1019) = pwG g s := by unfold pwG; rw [show s % 1019 % 1019 = s % 1019 by omega]
theorem id_zero {s : Int} (h : nz s = false) : idS s = 0 ∧ idP s = 0 := by
  have h1 : s % 1019 = 0 := by unfold nz at h; simpa using h
  exact ⟨h1, if_pos h1⟩
theorem id_pos {s : Int} (h : nz s = true) : idP s = pwG 4 (s % 1019) := by
  have h1 : ¬ s % 1019 = 0 := by unfold nz at h; simpa using h
  exact if_neg h1
theorem nz_is (s : Int) : nz s = !(s % 1019 == 0) := rfl

set_option maxHeartbeats 1000000 in
/-- impl.NewIdentity. -/
theorem impl_nid {w : World} {s : Int} (hs : (Lit.int .i64 s).wf = true) :
    Calls Tryd.prog 11 #[.int .i64 s] w fun e w' => e = .returned (.agg #[.int .i64 (idS s), .int .i64 (idP s)]) ∧ Below w.heap.size w w' := by
  have HS := Lib.hid hs
  have hsb := wf_i64 hs
  obtain ⟨m, hm⟩ : ∃ m, m = s % 1019 := ⟨_, rfl⟩
  have HMe := Lib.hid hm
  have HM : Hid (modV s 1019 = m) := Lib.hid (by rw [hm]; exact modV_1019 s)
  have HMw : Hid ((Lit.int .i64 m).wf = true) := Lib.hid (wf_i64_of (by omega) (by omega))
  have hc := heap_alloc_new w (.cells #[.int .i64 0, .int .i64 0] 25)
  have b1 := (Below.refl w.heap.size w).alloc (Nat.le_refl _) (.cells #[.int .i64 0, .int .i64 0] 25)
  obtain ⟨W0, hW0⟩ : ∃ W, W = w.alloc (.cells #[.int .i64 0, .int .i64 0] 25) := ⟨_, rfl⟩
  rw [← hW0] at hc b1
  have HW0 := Lib.hid hW0
  have HC := Lib.hid hc
  have HB := Lib.hid b1
  cases h1 : nz s with
  | false =>
    have H1 := Lib.hid h1
    have HE := Lib.hid (id_zero h1)
    have e1 : (m == 0) = true := by rw [hm]; rw [nz_is] at h1; simpa using h1
    clear hs hc b1 hW0 h1 hm
    go_enter Tryd.func11, Tryd.ntmps11
    go_wp2_with fail
    rw [← HW0.out]
    refine (isH_any HS.out).mono ?_
    rw [H1.out]
    rintro e w1 ⟨rfl, hw⟩
    obtain rfl : W0 = w1 := hw.symm
    obtain ⟨q0, q1, f0, f1⟩ := pcs HC.out
    obtain ⟨k9, g9⟩ := pst HC.out (.int .i64 0) (.int .i64 0)
    obtain ⟨r0, r1, _⟩ := pcs k9
    have HB1 := Lib.hid (HB.out.grown g9 HB.out.size (fun k hk => by injection hk with hk; omega))
    clear k9 g9
    go_wp2_with fail
    exact bodyPost_ret (v := .agg #[.int .i64 0, .int .i64 0]) (by simp [results, Tryd.results11, go_sem, r0, r1]) rfl ⟨by rw [HE.out.1, HE.out.2], HB1.out⟩
  | true =>
    have H1 := Lib.hid h1
    obtain ⟨p, hp⟩ : ∃ p, p = idP s := ⟨_, rfl⟩
    have HPm : Hid (pwG 4 m = p) := Lib.hid (by rw [hp, hm]; exact (id_pos h1).symm)
    have HP : Hid (pwG 4 s = p) := Lib.hid (by rw [← HPm.out, hm]; exact (pwG_mod _ _).symm)
    have HE : Hid (idS s = m ∧ idP s = p) := Lib.hid ⟨hm.symm, hp.symm⟩
    have e1 : (m == 0) = false := by rw [hm]; rw [nz_is] at h1; simpa using h1
    clear hs hc b1 hW0 h1 hm hp
    go_enter Tryd.func11, Tryd.ntmps11
    go_wp2_with fail
    rw [← HW0.out]
    refine (isH_any HS.out).mono ?_
    rw [H1.out]
    rintro e w1 ⟨rfl, hw⟩
    obtain rfl : W0 = w1 := hw.symm
    go_wp2_with fail
    refine (fe_any HS.out).mono ?_
    rw [← HMe.out]
    rintro e w1 ⟨rfl, hw⟩
    obtain rfl : W0 = w1 := hw.symm
    go_wp2_with fail
    refine (impl_pwg (by decide) HS.out).mono ?_
    rw [HP.out]
    rintro e w2 ⟨rfl, hb⟩
    replace HC := Lib.hid (stood HC.out hb)
    replace HB := Lib.hid (HB.out.trans (hb.mono HB.out.size))
    clear hb
    obtain ⟨q0, q1, f0, f1⟩ := pcs HC.out
    obtain ⟨k9, g9⟩ := pst HC.out (.int .i64 m) (.int .i64 p)
    obtain ⟨r0, r1, _⟩ := pcs k9
    have HB1 := Lib.hid (HB.out.grown g9 HB.out.size (fun k hk => by injection hk with hk; omega))
    clear k9 g9
    go_wp2_with fail
    exact bodyPost_ret (v := .agg #[.int .i64 m, .int .i64 p]) (by simp [results, Tryd.results11, go_sem, r0, r1]) rfl ⟨by rw [HE.out.1, HE.out.2], HB1.out⟩

set_option maxHeartbeats 1000000 in
/-- spec.NewIdentity. -/
theorem spec_nid {w : World} {s : Int} (hs : (Lit.int .i64 s).wf = true) :
    Calls Tryd.prog 44 #[.int .i64 s] w fun e w' => e = .returned (.agg #[.int .i64 (idS s), .int .i64 (idP s)]) ∧ Below w.heap.size w w' := by
  have HS := Lib.hid hs
  have hsb := wf_i64 hs
  obtain ⟨m, hm⟩ : ∃ m, m = s % 1019 := ⟨_, rfl⟩
  have HMe := Lib.hid hm
  have HM : Hid (modV s 1019 = m) := Lib.hid (by rw [hm]; exact modV_1019 s)
  have HMw : Hid ((Lit.int .i64 m).wf = true) := Lib.hid (wf_i64_of (by omega) (by omega))
  have hc := heap_alloc_new w (.cells #[.int .i64 0, .int .i64 0] 25)
  have b1 := (Below.refl w.heap.size w).alloc (Nat.le_refl _) (.cells #[.int .i64 0, .int .i64 0] 25)
  obtain ⟨W0, hW0⟩ : ∃ W, W = w.alloc (.cells #[.int .i64 0, .int .i64 0] 25) := ⟨_, rfl⟩
  rw [← hW0] at hc b1
  have HW0 := Lib.hid hW0
  have HC := Lib.hid hc
  have HB := Lib.hid b1
  cases h1 : nz s with
  | false =>
    have H1 := Lib.hid h1
    have HE := Lib.hid (id_zero h1)
    have e1 : (m == 0) = true := by rw [hm]; rw [nz_is] at h1; simpa using h1
    clear hs hc b1 hW0 h1 hm
    go_enter Tryd.func44, Tryd.ntmps44
    go_wp2_with fail
    rw [← HW0.out]
    refine (spec_mod _ _ _ hsb.1 hsb.2).mono ?_
    rw [HM.out]
    rintro e w1 ⟨rfl, hw⟩
    obtain rfl : W0 = w1 := hw.symm
    obtain ⟨q0, q1, f0, f1⟩ := pcs HC.out
    obtain ⟨k9, g9⟩ := pst HC.out (.int .i64 0) (.int .i64 0)
    obtain ⟨r0, r1, _⟩ := pcs k9
    have HB1 := Lib.hid (HB.out.grown g9 HB.out.size (fun k hk => by injection hk with hk; omega))
    clear k9 g9
    go_wp2_with fail
    exact bodyPost_ret (v := .agg #[.int .i64 0, .int .i64 0]) (by simp [results, Tryd.results44, go_sem, r0, r1]) rfl ⟨by rw [HE.out.1, HE.out.2], HB1.out⟩
  | true =>
    have H1 := Lib.hid h1
    obtain ⟨p, hp⟩ : ∃ p, p = idP s := ⟨_, rfl⟩
    have HPm : Hid (pwG 4 m = p) := Lib.hid (by rw [hp, hm]; exact (id_pos h1).symm)
    have HP : Hid (pwG 4 s = p) := Lib.hid (by rw [← HPm.out, hm]; exact (pwG_mod _ _).symm)
    have HE : Hid (idS s = m ∧ idP s = p) := Lib.hid ⟨hm.symm, hp.symm⟩
    have e1 : (m == 0) = false := by rw [hm]; rw [nz_is] at h1; simpa using h1
    clear hs hc b1 hW0 h1 hm hp
    go_enter Tryd.func44, Tryd.ntmps44
    go_wp2_with fail
    rw [← HW0.out]
    refine (spec_mod _ _ _ hsb.1 hsb.2).mono ?_
    rw [HM.out]
    rintro e w1 ⟨rfl, hw⟩
    obtain rfl : W0 = w1 := hw.symm
    go_wp2_with fail
    refine (spec_pwg (by decide) HMw.out).mono ?_
    rw [HPm.out]
    rintro e w2 ⟨rfl, hw⟩
    obtain rfl : W0 = w2 := hw.symm
    obtain ⟨q0, q1, f0, f1⟩ := pcs HC.out
    obtain ⟨k9, g9⟩ := pst HC.out (.int .i64 m) (.int .i64 p)
    obtain ⟨r0, r1, _⟩ := pcs k9
    have HB1 := Lib.hid (HB.out.grown g9 HB.out.size (fun k hk => by injection hk with hk; omega))
    clear k9 g9
    go_wp2_with fail
    exact bodyPost_ret (v := .agg #[.int .i64 m, .int .i64 p]) (by simp [results, Tryd.results44, go_sem, r0, r1]) rfl ⟨by rw [HE.out.1, HE.out.2], HB1.out⟩

set_option maxHeartbeats 4000000 in
/-- impl.IsValidIdentity. -/
theorem impl_vid {w : World} {s p : Int} (hs : (Lit.int .i64 s).wf = true) (hp : (Lit.int .i64 p).wf = true) :
    Calls Tryd.prog 15 #[.agg #[.int .i64 s, .int .i64 p]] w fun e w' => e = .returned (.bool (okId s p)) ∧ Below w.heap.size w w' := by
  have HS := Lib.hid hs
  obtain ⟨z, hz⟩ : ∃ z, z = pwG 4 s := ⟨_, rfl⟩
  have HZ := Lib.hid hz
  obtain ⟨t, ht⟩ : ∃ t, t = (p == z) := ⟨_, rfl⟩
  have hE : okId s p = (inR s 1 1018 && t) := by unfold okId; rw [← hz, ← ht]
  have ht' : (p == z) = t := ht.symm
  have hc := heap_alloc_new w (.cells #[.int .i64 s, .int .i64 p] 25)
  have b1 := (Below.refl w.heap.size w).alloc (Nat.le_refl _) (.cells #[.int .i64 s, .int .i64 p] 25)
  obtain ⟨W0, hW0⟩ : ∃ W, W = w.alloc (.cells #[.int .i64 s, .int .i64 p] 25) := ⟨_, rfl⟩
  rw [← hW0] at hc b1
  have HW0 := Lib.hid hW0
  have HC := Lib.hid hc
  have HB := Lib.hid b1
  clear hs hp hz ht hc b1 hW0
  cases h1 : inR s 1 1018 with
  | false =>
    have H1 := Lib.hid h1
    have HE : Hid (okId s p = false) := Lib.hid (by rw [hE, h1]; rfl)
    clear h1 hE
    go_enter Tryd.func15, Tryd.ntmps15
    go_wp2_with fail
    rw [← HW0.out]
    refine region_quiet_c (C := Below W0.heap.size W0) (by kernel_rfl) (by kernel_rfl) ((Below.refl _ _).drew) ?_
    repeat (first
      | go_big_quiet_skip
      | (apply quiet_on
         · kernel_rfl
         · intro wq hq
           obtain ⟨c0, c1, _⟩ := pcs (stood HC.out hq)
           go_simp
           first
             | done
             | (go_at_call 36
                refine (impl_in _ _ _ _ HS.out).mono ?_
                rintro e' w7 ⟨he, hw⟩
                rw [H1.out] at he
                subst hw
                exact ⟨he, hq⟩)
             | (go_at_call 28
                refine (impl_pwg (by decide) HS.out).mono ?_
                rintro e' w7 ⟨he, hb⟩
                rw [← HZ.out] at he
                exact ⟨he, hq.trans (hb.mono hq.size)⟩)
             | rfl
             | exact ⟨rfl, hq⟩
         simp only [Act.put, List.setIfInBounds_toArray, List.set_cons_zero, List.set_cons_succ]))
    refine wpQuiet_nil ?_
    intro w7 hb
    have HQ7 := Lib.hid (HB.out.trans (hb.mono HB.out.size))
    clear hb
    go_wp2_with fail
    go_ret
    exact ⟨by rw [HE.out]; first | done | rfl, HQ7.out⟩
  | true =>
    have H1 := Lib.hid h1
    have HE : Hid (okId s p = t) := Lib.hid (by rw [hE, h1]; rfl)
    clear h1 hE
    go_enter Tryd.func15, Tryd.ntmps15
    go_wp2_with fail
    rw [← HW0.out]
    refine region_quiet_c (C := Below W0.heap.size W0) (by kernel_rfl) (by kernel_rfl) ((Below.refl _ _).drew) ?_
    repeat (first
      | go_big_quiet_skip
      | (apply quiet_on
         · kernel_rfl
         · intro wq hq
           obtain ⟨c0, c1, _⟩ := pcs (stood HC.out hq)
           go_simp
           first
             | done
             | (go_at_call 36
                refine (impl_in _ _ _ _ HS.out).mono ?_
                rintro e' w7 ⟨he, hw⟩
                rw [H1.out] at he
                subst hw
                exact ⟨he, hq⟩)
             | (go_at_call 28
                refine (impl_pwg (by decide) HS.out).mono ?_
                rintro e' w7 ⟨he, hb⟩
                rw [← HZ.out] at he
                exact ⟨he, hq.trans (hb.mono hq.size)⟩)
             | rfl
             | exact ⟨rfl, hq⟩
         simp only [Act.put, List.setIfInBounds_toArray, List.set_cons_zero, List.set_cons_succ]))
    refine wpQuiet_nil ?_
    intro w7 hb
    have HQ7 := Lib.hid (HB.out.trans (hb.mono HB.out.size))
    clear hb
    go_wp2_with fail
    go_ret
    exact ⟨by rw [HE.out]; first | done | rfl, HQ7.out⟩

set_option maxHeartbeats 4000000 in
/-- spec.IsValidIdentity. -/
theorem spec_vid {w : World} {s p : Int} (hs : (Lit.int .i64 s).wf = true) (hp : (Lit.int .i64 p).wf = true) :
    Calls Tryd.prog 39 #[.agg #[.int .i64 s, .int .i64 p]] w fun e w' => e = .returned (.bool (okId s p)) ∧ Below w.heap.size w w' := by
  have HS := Lib.hid hs
  obtain ⟨z, hz⟩ : ∃ z, z = pwG 4 s := ⟨_, rfl⟩
  have HZ := Lib.hid hz
  obtain ⟨t, ht⟩ : ∃ t, t = (p == z) := ⟨_, rfl⟩
  have hE : okId s p = (inR s 1 1018 && t) := by unfold okId; rw [← hz, ← ht]
  have ht' : (p == z) = t := ht.symm
  have hc := heap_alloc_new w (.cells #[.int .i64 s, .int .i64 p] 25)
  have b1 := (Below.refl w.heap.size w).alloc (Nat.le_refl _) (.cells #[.int .i64 s, .int .i64 p] 25)
  obtain ⟨W0, hW0⟩ : ∃ W, W = w.alloc (.cells #[.int .i64 s, .int .i64 p] 25) := ⟨_, rfl⟩
  rw [← hW0] at hc b1
  have HW0 := Lib.hid hW0
  have HC := Lib.hid hc
  have HB := Lib.hid b1
  clear hs hp hz ht hc b1 hW0
  cases h1 : inR s 1 1018 with
  | false =>
    have H1 := Lib.hid h1
    have HE : Hid (okId s p = false) := Lib.hid (by rw [hE, h1]; rfl)
    clear h1 hE
    go_enter Tryd.func39, Tryd.ntmps39
    go_wp2_with fail
    rw [← HW0.out]
    refine region_quiet_c (C := Below W0.heap.size W0) (by kernel_rfl) (by kernel_rfl) ((Below.refl _ _).drew) ?_
    repeat (first
      | go_big_quiet_skip
      | (apply quiet_on
         · kernel_rfl
         · intro wq hq
           obtain ⟨c0, c1, _⟩ := pcs (stood HC.out hq)
           go_simp
           first
             | done
             | (go_at_call 63
                refine (spec_in _ _ _ _ HS.out).mono ?_
                rintro e' w7 ⟨he, hw⟩
                rw [H1.out] at he
                subst hw
                exact ⟨he, hq⟩)
             | (go_at_call 64
                refine (spec_pwg (by decide) HS.out).mono ?_
                rintro e' w7 ⟨he, hw⟩
                rw [← HZ.out] at he
                subst hw
                exact ⟨he, hq⟩)
             | rfl
             | exact ⟨rfl, hq⟩
         simp only [Act.put, List.setIfInBounds_toArray, List.set_cons_zero, List.set_cons_succ]))
    refine wpQuiet_nil ?_
    intro w7 hb
    have HQ7 := Lib.hid (HB.out.trans (hb.mono HB.out.size))
    clear hb
    go_wp2_with fail
    go_ret
    exact ⟨by rw [HE.out]; first | done | rfl, HQ7.out⟩
  | true =>
    have H1 := Lib.hid h1
    have HE : Hid (okId s p = t) := Lib.hid (by rw [hE, h1]; rfl)
    clear h1 hE
    go_enter Tryd.func39, Tryd.ntmps39
    go_wp2_with fail
    rw [← HW0.out]
    refine region_quiet_c (C := Below W0.heap.size W0) (by kernel_rfl) (by kernel_rfl) ((Below.refl _ _).drew) ?_
    repeat (first
      | go_big_quiet_skip
      | (apply quiet_on
         · kernel_rfl
         · intro wq hq
           obtain ⟨c0, c1, _⟩ := pcs (stood HC.out hq)
           go_simp
           first
             | done
             | (go_at_call 63
                refine (spec_in _ _ _ _ HS.out).mono ?_
                rintro e' w7 ⟨he, hw⟩
                rw [H1.out] at he
                subst hw
                exact ⟨he, hq⟩)
             | (go_at_call 64
                refine (spec_pwg (by decide) HS.out).mono ?_
                rintro e' w7 ⟨he, hw⟩
                rw [← HZ.out] at he
                subst hw
                exact ⟨he, hq⟩)
             | rfl
             | exact ⟨rfl, hq⟩
         simp only [Act.put, List.setIfInBounds_toArray, List.set_cons_zero, List.set_cons_succ]))
    refine wpQuiet_nil ?_
    intro w7 hb
    have HQ7 := Lib.hid (HB.out.trans (hb.mono HB.out.size))
    clear hb
    go_wp2_with fail
    go_ret
    exact ⟨by rw [HE.out]; first | done | rfl, HQ7.out⟩

set_option maxHeartbeats 2000000 in
/-- impl.SharedKey. -/
theorem impl_shk {w : World} {s p : Int} (hs : (Lit.int .i64 s).wf = true) (hp : (Lit.int .i64 p).wf = true) :
    Calls Tryd.prog 8 #[.int .i64 s, .int .i64 p] w fun e w' => e = .returned (.int .i64 (skey s p)) ∧ Below w.heap.size w w' := by
  have HS := Lib.hid hs
  have HP := Lib.hid hp
  have hsb := wf_i64 hs
  have HB := Lib.hid (Below.refl w.heap.size w)
  obtain ⟨m, hm⟩ : ∃ m, m = s % 1019 := ⟨_, rfl⟩
  have HM : Hid (modV s 1019 = m) := Lib.hid (by rw [hm]; exact modV_1019 s)
  cases hg : isG p with
  | false =>
    have HG := Lib.hid hg
    have HE : Hid (skey s p = 0) := Lib.hid (sk_no (by unfold skq; rw [hg]; rfl))
    clear hs hp hg hm
    go_enter Tryd.func8, Tryd.ntmps8
    go_wp2_with fail
    refine (impl_isg HP.out).mono ?_
    rw [HG.out]
    rintro e w1 ⟨rfl, hb⟩
    replace HB := Lib.hid (HB.out.trans (hb.mono HB.out.size))
    clear hb
    go_wp2_with fail
    go_ret
    exact ⟨by rw [HE.out]; first | done | rfl, HB.out⟩
  | true =>
   have HG := Lib.hid hg
   by_cases h1 : p = 1
   · have e1 : (p == 1) = true := by rw [h1]; rfl
     have HE : Hid (skey s p = 0) := Lib.hid (sk_no (by unfold skq; rw [e1]; simp))
     clear hs hp hg hm h1
     go_enter Tryd.func8, Tryd.ntmps8
     go_wp2_with fail
     refine (impl_isg HP.out).mono ?_
     rw [HG.out]
     rintro e w1 ⟨rfl, hb⟩
     replace HB := Lib.hid (HB.out.trans (hb.mono HB.out.size))
     clear hb
     go_wp2_with fail
     go_ret
     exact ⟨by rw [HE.out]; first | done | rfl, HB.out⟩
   have e1 : (p == 1) = false := beq_eq_false_iff_ne.2 h1
   cases hn : nz s with
   | false =>
     have HN := Lib.hid hn
     have e2 : (m == 0) = true := by rw [hm]; rw [nz_is] at hn; simpa using hn
     have HE : Hid (skey s p = 0) := Lib.hid (sk_no (by unfold skq; rw [hn]; simp))
     clear hs hp hg hm h1 hn
     go_enter Tryd.func8, Tryd.ntmps8
     go_wp2_with fail
     refine (impl_isg HP.out).mono ?_
     rw [HG.out]
     rintro e w1 ⟨rfl, hb⟩
     replace HB := Lib.hid (HB.out.trans (hb.mono HB.out.size))
     clear hb
     go_wp2_with fail
     refine (isH_any HS.out).mono ?_
     rw [HN.out]
     rintro e w2 ⟨rfl, hw⟩
     subst hw
     go_wp2_with fail
     go_ret
     exact ⟨by rw [HE.out]; first | done | rfl, HB.out⟩
   | true =>
     have HN := Lib.hid hn
     have e2 : (m == 0) = false := by rw [hm]; rw [nz_is] at hn; simpa using hn
     have hk := sk_yes (s := s) (p := p) (by unfold skq; rw [hg, e1, hn]; rfl)
     have HXw := Lib.hid (pwG_wf p s)
     obtain ⟨x, hx⟩ : ∃ x, x = pwG p s := ⟨_, rfl⟩
     rw [← hx] at hk HXw
     have HX := Lib.hid hx
     have HQw := Lib.hid (kh_wf x [107])
     obtain ⟨q, hq⟩ : ∃ q, q = kh x [107] := ⟨_, rfl⟩
     rw [← hq] at hk HQw
     have HQ := Lib.hid hq
     obtain ⟨r, hr⟩ : ∃ r, r = mx q 1 := ⟨_, rfl⟩
     rw [← hr] at hk
     have HR := Lib.hid hr
     have HE := Lib.hid hk
     clear hs hp hg hm h1 hn hk hx hq hr
     go_enter Tryd.func8, Tryd.ntmps8
     go_wp2_with fail
     refine (impl_isg HP.out).mono ?_
     rw [HG.out]
     rintro e w1 ⟨rfl, hb⟩
     replace HB := Lib.hid (HB.out.trans (hb.mono HB.out.size))
     clear hb
     go_wp2_with fail
     refine (isH_any HS.out).mono ?_
     rw [HN.out]
     rintro e w2 ⟨rfl, hw⟩
     subst hw
     go_wp2_with fail
     refine (impl_pwg HP.out HS.out).mono ?_
     rw [← HX.out]
     rintro e w3 ⟨rfl, hb⟩
     replace HB := Lib.hid (HB.out.trans (hb.mono HB.out.size))
     clear hb
     have R1 := Lib.hid (Rd.one 3 .i64 w3 107 (by decide))
     have B1 := Lib.hid (HB.out.alloc HB.out.size (.cells #[.int .i64 107] 3))
     go_wp2_with fail
     refine (impl_kh R1.out (by simp) HXw.out).mono ?_
     rw [← HQ.out]
     rintro e w4 ⟨rfl, hb⟩
     replace HB := Lib.hid (B1.out.trans (hb.mono B1.out.size))
     clear hb
     go_wp2_with fail
     refine (impl_max _ _ _ HQw.out (by decide)).mono ?_
     rw [← HR.out]
     rintro e w5 ⟨rfl, hb⟩
     replace HB := Lib.hid (HB.out.trans (hb.mono HB.out.size))
     clear hb
     go_wp2_with fail
     go_ret
     exact ⟨by rw [HE.out]; first | done | rfl, HB.out⟩

set_option maxHeartbeats 2000000 in
/-- spec.SharedKey. -/
theorem spec_shk {w : World} {s p : Int} (hs : (Lit.int .i64 s).wf = true) (hp : (Lit.int .i64 p).wf = true) :
    Calls Tryd.prog 40 #[.int .i64 s, .int .i64 p] w fun e w' => e = .returned (.int .i64 (skey s p)) ∧ Below w.heap.size w w' := by
  have HS := Lib.hid hs
  have HP := Lib.hid hp
  have hsb := wf_i64 hs
  have HB := Lib.hid (Below.refl w.heap.size w)
  obtain ⟨m, hm⟩ : ∃ m, m = s % 1019 := ⟨_, rfl⟩
  have HM : Hid (modV s 1019 = m) := Lib.hid (by rw [hm]; exact modV_1019 s)
  cases hg : isG p with
  | false =>
    have HG := Lib.hid hg
    have HE : Hid (skey s p = 0) := Lib.hid (sk_no (by unfold skq; rw [hg]; rfl))
    clear hs hp hg hm
    go_enter Tryd.func40, Tryd.ntmps40
    go_wp2_with fail
    refine (spec_isg HP.out).mono ?_
    rw [HG.out]
    rintro e w1 ⟨rfl, hw⟩
    obtain rfl : w = w1 := hw.symm
    go_wp2_with fail
    go_ret
    exact ⟨by rw [HE.out]; first | done | rfl, HB.out⟩
  | true =>
   have HG := Lib.hid hg
   by_cases h1 : p = 1
   · have e1 : (p == 1) = true := by rw [h1]; rfl
     have HE : Hid (skey s p = 0) := Lib.hid (sk_no (by unfold skq; rw [e1]; simp))
     clear hs hp hg hm h1
     go_enter Tryd.func40, Tryd.ntmps40
     go_wp2_with fail
     refine (spec_isg HP.out).mono ?_
     rw [HG.out]
     rintro e w1 ⟨rfl, hw⟩
     obtain rfl : w = w1 := hw.symm
     go_wp2_with fail
     go_ret
     exact ⟨by rw [HE.out]; first | done | rfl, HB.out⟩
   have e1 : (p == 1) = false := beq_eq_false_iff_ne.2 h1
   cases hn : nz s with
   | false =>
     have HN := Lib.hid hn
     have e2 : (m == 0) = true := by rw [hm]; rw [nz_is] at hn; simpa using hn
     have HE : Hid (skey s p = 0) := Lib.hid (sk_no (by unfold skq; rw [hn]; simp))
     clear hs hp hg hm h1 hn
     go_enter Tryd.func40, Tryd.ntmps40
     go_wp2_with fail
     refine (spec_isg HP.out).mono ?_
     rw [HG.out]
     rintro e w1 ⟨rfl, hw⟩
     obtain rfl : w = w1 := hw.symm
     go_wp2_with fail
     refine (spec_mod _ _ _ hsb.1 hsb.2).mono ?_
     rw [HM.out]
     rintro e w2 ⟨rfl, hw⟩
     obtain rfl : w = w2 := hw.symm
     go_wp2_with fail
     go_ret
     exact ⟨by rw [HE.out]; first | done | rfl, HB.out⟩
   | true =>
     have HN := Lib.hid hn
     have e2 : (m == 0) = false := by rw [hm]; rw [nz_is] at hn; simpa using hn
     have hk := sk_yes (s := s) (p := p) (by unfold skq; rw [hg, e1, hn]; rfl)
     have HXw := Lib.hid (pwG_wf p s)
     obtain ⟨x, hx⟩ : ∃ x, x = pwG p s := ⟨_, rfl⟩
     rw [← hx] at hk HXw
     have HX := Lib.hid hx
     have HQw := Lib.hid (kh_wf x [107])
     obtain ⟨q, hq⟩ : ∃ q, q = kh x [107] := ⟨_, rfl⟩
     rw [← hq] at hk HQw
     have HQ := Lib.hid hq
     obtain ⟨r, hr⟩ : ∃ r, r = mx q 1 := ⟨_, rfl⟩
     rw [← hr] at hk
     have HR := Lib.hid hr
     have HE := Lib.hid hk
     clear hs hp hg hm h1 hn hk hx hq hr
     go_enter Tryd.func40, Tryd.ntmps40
     go_wp2_with fail
     refine (spec_isg HP.out).mono ?_
     rw [HG.out]
     rintro e w1 ⟨rfl, hw⟩
     obtain rfl : w = w1 := hw.symm
     go_wp2_with fail
     refine (spec_mod _ _ _ hsb.1 hsb.2).mono ?_
     rw [HM.out]
     rintro e w2 ⟨rfl, hw⟩
     obtain rfl : w = w2 := hw.symm
     go_wp2_with fail
     refine (spec_pwg HP.out HS.out).mono ?_
     rw [← HX.out]
     rintro e w3 ⟨rfl, hw⟩
     obtain rfl : w = w3 := hw.symm
     have R1 := Lib.hid (Rd.one 3 .i64 w 107 (by decide))
     have B1 := Lib.hid (HB.out.alloc HB.out.size (.cells #[.int .i64 107] 3))
     go_wp2_with fail
     refine (spec_kh R1.out (by simp) HXw.out (by simp)).mono ?_
     rw [← HQ.out]
     rintro e w4 ⟨rfl, hb⟩
     replace HB := Lib.hid (B1.out.trans (hb.mono B1.out.size))
     clear hb
     go_wp2_with fail
     refine (spec_max _ _ _).mono ?_
     rw [mx_turn, ← HR.out]
     rintro e w5 ⟨rfl, hw⟩
     subst hw
     go_wp2_with fail
     go_ret
     exact ⟨by rw [HE.out]; first | done | rfl, HB.out⟩

set_option maxHeartbeats 1000000 in
/-- impl.DialRow. -/
theorem impl_drow {w : World} {p r n : Int} (hp : (Lit.int .i64 p).wf = true) (hr : (Lit.int .i64 r).wf = true) (hn : (Lit.int .i64 n).wf = true) :
    Calls Tryd.prog 12 #[.int .i64 p, .int .i64 r, .int .i64 n] w fun e w' => e = .returned (.int .i64 (drow p r n)) ∧ Below w.heap.size w w' := by
  have HK := Lib.hid hp
  have HR := Lib.hid hr
  have HN := Lib.hid hn
  cases h2 : inR r 0 1000000000000 with
  | false =>
    have H2 := Lib.hid h2
    have HE := Lib.hid (drow_no (p := p) (show rowq r n = false by unfold rowq; rw [h2, Bool.and_false]))
    clear h2 hp hr hn
    go_enter Tryd.func12, Tryd.ntmps12
    go_wp2_with fail
    refine (isRound_any HR.out).mono ?_
    rw [H2.out]
    rintro e w1 ⟨rfl, hw⟩
    obtain rfl := hw.symm
    go_wp2_with fail
    go_ret
    exact ⟨by rw [HE.out]; rfl, Below.refl _ _⟩
  | true =>
    have H2 := Lib.hid h2
    have HE : Hid (rowH (kh p [109, r]) n = drow p r n) := Lib.hid (by unfold rowH drow rowq; rw [h2, Bool.and_true])
    have HO := Lib.hid (Own.lits2 (B := w.heap.size) (w := w) .i64 3 (Nat.le_refl _) (by decide) hr (x := 109))
    have HB := Lib.hid ((Below.refl w.heap.size w).alloc (Nat.le_refl _) (.cells #[.int .i64 109, .int .i64 r] 3))
    have HW := Lib.hid (kh_wf p [109, r])
    obtain ⟨q, hq⟩ : ∃ q, q = kh p [109, r] := ⟨_, rfl⟩
    rw [← hq] at HW HE
    have HQ := Lib.hid hq
    clear h2 hp hr hn hq
    go_enter Tryd.func12, Tryd.ntmps12
    go_wp2_with fail
    refine (isRound_any HR.out).mono ?_
    rw [H2.out]
    rintro e w1 ⟨rfl, hw⟩
    obtain rfl := hw.symm
    go_wp2_with fail
    refine (impl_kh HO.out.rd (by simp) HK.out).mono ?_
    rw [← HQ.out]
    rintro e w2 ⟨rfl, hb⟩
    replace HB := Lib.hid (HB.out.trans (hb.mono HB.out.size))
    clear hb
    go_wp2_with fail
    refine (impl_rf HW.out HN.out).mono ?_
    rw [HE.out]
    rintro e w3 ⟨rfl, hb⟩
    replace HB := Lib.hid (HB.out.trans (hb.mono HB.out.size))
    clear hb
    go_wp2_with fail
    go_ret
    exact ⟨rfl, HB.out⟩

set_option maxHeartbeats 1000000 in
/-- impl.SafetyNumber. -/
theorem impl_sfn {w : World} {a b : Int} (ha : (Lit.int .i64 a).wf = true) (hb : (Lit.int .i64 b).wf = true) :
    Calls Tryd.prog 14 #[.int .i64 a, .int .i64 b] w fun e w' => e = .returned (.int .i64 (safe a b)) ∧ Below w.heap.size w w' := by
  have HA := Lib.hid ha
  have HBb := Lib.hid hb
  have HB := Lib.hid (Below.refl w.heap.size w)
  have hE : safe a b = kh 113 [mn a b, mx a b] % 1000000 := rfl
  have HXw : Hid ((Lit.int .i64 (mn a b)).wf = true) := Lib.hid (by unfold mn; split <;> assumption)
  have HYw : Hid ((Lit.int .i64 (mx a b)).wf = true) := Lib.hid (by unfold mx; split <;> assumption)
  obtain ⟨x, hx⟩ : ∃ x, x = mn a b := ⟨_, rfl⟩
  obtain ⟨y, hy⟩ : ∃ y, y = mx a b := ⟨_, rfl⟩
  rw [← hx] at hE HXw
  rw [← hy] at hE HYw
  have HX := Lib.hid hx
  have HY := Lib.hid hy
  have hqb := kh_bound 113 [x, y]
  obtain ⟨q, hq⟩ : ∃ q, q = kh 113 [x, y] := ⟨_, rfl⟩
  rw [← hq] at hE hqb
  have HQ := Lib.hid hq
  obtain ⟨m, hm⟩ : ∃ m, m = q % 1000000 := ⟨_, rfl⟩
  rw [← hm] at hE
  have HM : Hid (modV q 1000000 = m) := Lib.hid (by rw [hm]; exact if_pos (by omega))
  have HE := Lib.hid hE
  clear ha hb hx hy hq hm hE
  go_enter Tryd.func14, Tryd.ntmps14
  go_wp2_with fail
  refine (impl_mn _ _ _ HA.out HBb.out).mono ?_
  rw [← HX.out]
  rintro e w1 ⟨rfl, hb⟩
  replace HB := Lib.hid (HB.out.trans (hb.mono HB.out.size))
  clear hb
  go_wp2_with fail
  refine (impl_max _ _ _ HA.out HBb.out).mono ?_
  rw [← HY.out]
  rintro e w2 ⟨rfl, hb⟩
  replace HB := Lib.hid (HB.out.trans (hb.mono HB.out.size))
  clear hb
  have R1 := Lib.hid (Rd.two 3 .i64 w2 x y HXw.out HYw.out)
  have B1 := Lib.hid (HB.out.alloc HB.out.size (.cells #[.int .i64 x, .int .i64 y] 3))
  go_wp2_with fail
  refine (impl_kh R1.out (by simp) (by decide)).mono ?_
  rw [← HQ.out]
  rintro e w3 ⟨rfl, hb⟩
  replace HB := Lib.hid (B1.out.trans (hb.mono B1.out.size))
  clear hb
  go_wp2_with fail
  refine (impl_mod _ _ _ (by omega) (by omega)).mono ?_
  rw [HM.out]
  rintro e w4 ⟨rfl, hw⟩
  subst hw
  go_wp2_with fail
  go_ret
  exact ⟨by rw [HE.out]; first | done | rfl, HB.out⟩

theorem ibody_two (p : Int) : lowL p 2 = ibody p := lowL_two p
/-- The document's body of an invitation. -/
theorem spec_bod {w : World} {p : Int} (hp : (Lit.int .i64 p).wf = true) :
    Calls Tryd.prog 43 #[.int .i64 p] w fun e w' => ∃ v', e = .returned v' ∧ Own 5 .u8 w.heap.size w' v' (ibody p) ∧ Below w.heap.size w w' := by
  have hpb := wf_i64 hp
  have HO := Lib.hid (Own.lits2 (B := w.heap.size) (w := w) .u8 5 (Nat.le_refl _) (wf_u8_of (n := p % 256) (by omega) (by omega)) (wf_u8_of (n := p / 256 % 256) (by omega) (by omega)))
  have HB := Lib.hid ((Below.refl w.heap.size w).alloc (Nat.le_refl _) (.cells #[.int .u8 (p % 256), .int .u8 (p / 256 % 256)] 5))
  clear hp
  go_enter Tryd.func43, Tryd.ntmps43
  go_wp2_with fail
  go_ret
  exact ⟨_, rfl, HO.out, HB.out⟩
/-- The program's. -/
theorem impl_bod {w : World} {p : Int} (hp : (Lit.int .i64 p).wf = true) :
    Calls Tryd.prog 29 #[.int .i64 p, .int .i64 2] w fun e w' => ∃ v', e = .returned v' ∧ Own 5 .u8 w.heap.size w' v' (ibody p) ∧ Below w.heap.size w w' := by
  have h := impl_lob (w := w) (m := 2) (k := 2) rfl hp (by omega)
  rw [ibody_two] at h
  exact h

end Go.Proofs.YtlhpjfhglkngfaaDoor
