/- FnTokens: the walk. A token that was issued blindly is valid for its issuer alone; a reply is finished with another key as the document says; a token is formatted as the document says. Condition: the library's table of powers of ten as its text lays it. -/
import Derived.Test.YtdccljmffmlkbaaDoorTk5
import Derived.Test.YtdccljmffmlkbaaDoorTkF
import Derived.Test.YtdccljmffmlkbaaDoorDraw16
import Derived.Test.YtdccljmffmlkbaaDoorHeldL
import Derived.Deep.DeepCutAuto
import Derived.BigQuiet
namespace Go.Proofs.YtdccljmffmlkbaaDoor
open Go Go.RowKit
set_option linter.unusedVariables false
set_option maxRecDepth 20000
attribute [local irreducible] kh kid pwm tcm pw chl itoS fmtT

theorem sgw (s x t : Int) : (Lit.int .i64 (sgE s x)).wf = true ∧ (Lit.int .i64 (sgC s x t)).wf = true ∧ (Lit.int .i64 (sgR s x t)).wf = true := by
  obtain ⟨h1, h2, h3⟩ := sg_bound s x t
  exact ⟨small_wf (by omega) (by omega), small_wf (by omega) (by omega), small_wf (by omega) (by omega)⟩
theorem pwGw (g n : Int) : (Lit.int .i64 (pwG g n)).wf = true := by have := pwG_bound g n; exact small_wf (by omega) (by omega)
/-- The worlds in which two tokens' boxes stand. -/
def TwoW (w : World) (E D : Nat) (n v u : Int) (w' : World) : Prop := Below w.heap.size w w' ∧ w'.heap[E]? = some (.cells #[.int .i64 n, .int .i64 v] 51) ∧ w'.heap[D]? = some (.cells #[.int .i64 n, .int .i64 u] 51)
theorem TwoW.next {w : World} {E D : Nat} {n v u : Int} {w1 w2 : World} (h : TwoW w E D n v u w1) (hb : Below w1.heap.size w1 w2) : TwoW w E D n v u w2 := ⟨h.1.trans (hb.mono h.1.size), (hb.block _ (lt_of_block h.2.1)).trans h.2.1, (hb.block _ (lt_of_block h.2.2)).trans h.2.2⟩

set_option maxHeartbeats 16000000 in
theorem fnTokens_walk (a : Option Addr) (len cap : Nat) (zs : List Int) (w : World) (hrow : IsRow .u8 w a len cap zs) (hL : laidMetH Tryd.prog Rows.fnTokensRow.laid w) :
    Calls Tryd.prog 5 #[.slice a len cap] w fun e w' => e = .returned (.bool true) ∧ Below w.heap.size w w' := by
  have HTab := Lib.hid (tab_fnTokens hL)
  obtain ⟨hr, hl⟩ := row_own hrow
  obtain ⟨s, A, l⟩ : ∃ s, Rd w.heap.size .u8 w (.slice a len cap) s ∧ len = s.length := ⟨zs.take len, hrow.rd, hrow.rd.len_eq⟩
  subst l
  have HA := Lib.hid A
  have HRow := Lib.hid hr
  have HLen := Lib.hid hl
  have hl' : s.length ≤ 9223372036854775807 := by unfold maxLen at hl; omega
  clear hr hrow hl A hL
  by_cases hbig : 1048576 < s.length
  · have e0 : decide ((1048576 : Int) < (s.length : Int)) = true := by simp; omega
    go_enter Tryd.func5, Tryd.ntmps5
    go_wp2_with fail
    refine (big_is a s.length cap _ hl').mono ?_
    rw [e0]
    rintro e w0 ⟨rfl, rfl⟩
    go_wp2_with fail
    go_ret
    exact ⟨rfl, Below.refl _ _⟩
  have e0 : decide ((1048576 : Int) < (s.length : Int)) = false := by simp; omega
  have HS := Lib.hid (show s.length ≤ 1048576 by omega)
  have HYb := Lib.hid (atv_bound (s := s) (fun i hi => HA.out.wf hi) 0)
  clear hbig
  go_enter Tryd.func5, Tryd.ntmps5
  go_wp2_with fail
  refine (big_is a s.length cap _ hl').mono ?_
  rw [e0]
  rintro e w0 ⟨rfl, hw⟩
  obtain rfl : w = w0 := hw.symm
  clear e0 hw
  go_wp2_with fail
  refine (draw_is w.heap.size a s.length cap zs _ (Nat.le_refl _) HRow.out HLen.out).mono ?_
  rintro e w1 ⟨sc, n, b, rfl, hsb, hnb, hbb, hb⟩
  have HB := Lib.hid hb
  replace HA := Lib.hid (HA.out.behind hb)
  have Ws := Lib.hid (small_wf (x := sc) (by omega) (by omega))
  have Wn := Lib.hid (small_wf (x := n) (by omega) (by omega))
  have Wb := Lib.hid (small_wf (x := b) (by omega) (by omega))
  have hNk := okNr_in (n := n) (by omega) (by omega)
  have hNz := nz_small hbb.1 hbb.2
  have hSz := nz_small hsb.1 hsb.2
  have HBl := Lib.hid (tk_bl hNk hNz)
  have HSg := Lib.hid (tk_sg hNk hNz hSz)
  have HVal := Lib.hid (tk_val hNk hNz hSz)
  have HValid := Lib.hid (tk_valid hNk hSz)
  have HBad := Lib.hid (tk_bad (n := n) (s := sc))
  obtain ⟨y, hy⟩ : ∃ y, y = atv s 0 := ⟨_, rfl⟩
  have HY := Lib.hid hy
  have hyb := HYb.out
  rw [← hy] at hyb
  obtain ⟨m, hm⟩ : ∃ m, y * 3 = m := ⟨_, rfl⟩
  have hmb : 0 ≤ m ∧ m ≤ 765 := by omega
  have hmw : IntKind.i64.wrap (y * 3) = m := by rw [IntKind.wrap_i64, hm]; omega
  have Wm := Lib.hid (small_wf (x := m) (by omega) (by omega))
  have HFn0 := Lib.hid (tk_fn (s := sc) (t := m) hNk hNz hSz (by omega) (by omega))
  have Wx := Lib.hid (blE_wf n b)
  obtain ⟨x, hx⟩ : ∃ x, x = blE n b := ⟨_, rfl⟩
  rw [← hx] at Wx
  have HX := Lib.hid hx
  obtain ⟨w7, w8, w9⟩ := sgw sc x m
  obtain ⟨ee, hee⟩ : ∃ e, e = sgE sc x := ⟨_, rfl⟩
  obtain ⟨c, hc⟩ : ∃ c, c = sgC sc x m := ⟨_, rfl⟩
  obtain ⟨r, hrr⟩ : ∃ r, r = sgR sc x m := ⟨_, rfl⟩
  rw [← hee] at w7
  rw [← hc] at w8
  rw [← hrr] at w9
  have We := Lib.hid w7
  have Wc := Lib.hid w8
  have Wr := Lib.hid w9
  have HEe := Lib.hid hee
  have HCc := Lib.hid hc
  have HRr := Lib.hid hrr
  have HSg2 : Hid (sgok sc x = true) := Lib.hid (by rw [hx]; exact HSg.out)
  obtain ⟨k, hk⟩ : ∃ k, k = pwG 4 sc := ⟨_, rfl⟩
  have Wk : Hid ((Lit.int .i64 k).wf = true) := Lib.hid (by rw [hk]; exact pwGw _ _)
  have HKk := Lib.hid hk
  have HFn : Hid (fnok n b k ee c r = true) := Lib.hid (by rw [hk, hee, hc, hrr, hx]; exact HFn0.out)
  obtain ⟨v, hv⟩ : ∃ v, v = pwG ee (invE b) := ⟨_, rfl⟩
  have Wv : Hid ((Lit.int .i64 v).wf = true) := Lib.hid (by rw [hv]; exact pwGw _ _)
  have HFS : Hid (fnS n b k ee c r = n ∧ fnV n b k ee c r = v) := Lib.hid (by rw [hv]; exact fn_yes HFn.out)
  have hvv : v = pwG (hs n) sc := by rw [hv, hee, hx]; exact HVal.out
  have HVt : Hid (vtok sc n v = true) := Lib.hid (by rw [hvv]; exact HValid.out)
  obtain ⟨u, hu⟩ : ∃ u, u = mulG v 4 := ⟨_, rfl⟩
  have HU := Lib.hid hu
  have Wu : Hid ((Lit.int .i64 u).wf = true) := Lib.hid (by
    rw [hu, mulG_yes (by rw [hvv]; exact pwG_el (hs_el n) sc) isG_four]
    have h1 := Int.emod_nonneg (v * 4) (show (2039 : Int) ≠ 0 by omega)
    have h2 := Int.emod_lt_of_pos (v * 4) (show (0 : Int) < 2039 by omega)
    exact small_wf (by omega) (by omega))
  have HVu : Hid (vtok sc n u = false) := Lib.hid (by rw [hu, hvv]; exact HBad.out)
  obtain ⟨ot, hot⟩ : ∃ o, o = 1 + sc % 1018 := ⟨_, rfl⟩
  have hob : 1 ≤ ot ∧ ot ≤ 1018 ∧ ot ≠ sc := by omega
  have HOt : Hid (1 + sc % 1018 = ot) := Lib.hid hot.symm
  have hot2 : 1 + sc.tmod 1018 = ot := by rw [Int.tmod_eq_emod_of_nonneg (by omega), hot]
  have Wo := Lib.hid (small_wf (x := ot) (by omega) (by omega))
  have HVo : Hid (vtok ot n v = false) := Lib.hid (by rw [hvv]; exact tk_other (by omega))
  obtain ⟨k2, hk2⟩ : ∃ k, k = pwG 4 ot := ⟨_, rfl⟩
  have Wk2 : Hid ((Lit.int .i64 k2).wf = true) := Lib.hid (by rw [hk2]; exact pwGw _ _)
  have HK2 := Lib.hid hk2
  obtain ⟨q, hq⟩ : ∃ q, q = fnok n b k2 ee c r := ⟨_, rfl⟩
  have HQ := Lib.hid hq
  obtain ⟨S2, hS2⟩ : ∃ q, q = fnS n b k2 ee c r := ⟨_, rfl⟩
  have HS2 := Lib.hid hS2
  obtain ⟨V2, hV2⟩ : ∃ q, q = fnV n b k2 ee c r := ⟨_, rfl⟩
  have HV2 := Lib.hid hV2
  obtain ⟨fm, hfm⟩ : ∃ q, q = fmtT n v := ⟨_, rfl⟩
  have HFm := Lib.hid hfm
  clear hb hy hyb hm hx hee hc hrr hk hv hu hk2 hq hS2 hV2 hfm hvv hNk hNz hSz w7 w8 w9 HRow HLen HYb HSg HVal HValid HBad HFn0 hnb hbb hot
  go_wp2_with fail
  refine (impl_bl Wn.out Wb.out).mono ?_
  rw [HBl.out, ← HX.out]
  rintro e w2 ⟨rfl, hb⟩
  replace HA := Lib.hid (HA.out.behind (hb.mono HB.out.size))
  replace HB := Lib.hid (HB.out.trans (hb.mono HB.out.size))
  clear hb
  have hb := (Below.refl w2.heap.size w2).alloc (Nat.le_refl _) (.cells #[.int .i64 x] 43)
  replace HA := Lib.hid (HA.out.behind (hb.mono HB.out.size))
  replace HB := Lib.hid (HB.out.trans (hb.mono HB.out.size))
  have HR0 := Lib.hid (heap_alloc_new w2 (.cells #[.int .i64 x] 43))
  clear hb
  go_wp2_with fail
  obtain ⟨W5, hW5⟩ : ∃ W, W = w2.alloc (.cells #[.int .i64 x] 43) := ⟨_, rfl⟩
  obtain ⟨D6, hD6⟩ : ∃ D, D = w2.heap.size := ⟨_, rfl⟩
  rw [← hW5] at HA HB HR0 ⊢
  rw [← hD6] at HR0 ⊢
  clear hW5 hD6
  go_cut [8, 9] (fun p q wx => ∃ (E : Nat) (WW : World), WW = wx ∧ p = .pointer (some ⟨E, 0, none⟩) ∧ q = .bool true ∧ wx.heap[E]? = some (.cells #[.int .i64 ee, .int .i64 c, .int .i64 r] 47) ∧ Below w.heap.size w wx)
  case first =>
    refine region_till (fun w' => w'.cell? ⟨D6, 0, none⟩ = some (.int .i64 x)) 11 (by kernel_rfl) ?_
    obtain ⟨wd, hwd⟩ : ∃ x, x = (W5).drew := ⟨_, rfl⟩
    have hb : Below (W5).heap.size (W5) wd := by rw [hwd]; exact (Below.refl _ _).drew
    replace HA := Lib.hid (HA.out.behind (hb.mono HB.out.size))
    replace HR0 := Lib.hid ((hb.block _ (lt_of_block HR0.out)).trans HR0.out)
    replace HB := Lib.hid (HB.out.trans (hb.mono HB.out.size))
    clear hb
    have HSd : Hid (∀ w' : World, w'.heap[D6]? = some (.cells #[.int .i64 x] 43) → w'.cell? ⟨D6, 0, none⟩ = some (.int .i64 x)) := Lib.hid (fun w' h => by exact gc0 h)
    have d0 := HSd.out _ HR0.out
    rw [← hwd]
    clear hwd
    apply Till.take (i := 0) [0, 5, 6, 8, 11]
    · simp only [List.getElem?_toArray, List.getElem?_cons_zero]
      rfl
    · kernel_rfl
    · kernel_rfl
    · kernel_rfl
    · kernel_rfl
    · exact fun _ _ _ h => h
    · first
        | exact Or.inr ⟨by rfl, rfl⟩
        | (refine Or.inl ⟨by rfl, fun wq hwq => ?_⟩
           dsimp only at hwq
           go_simp
           first
             | done
             | rfl)
    · exact d0
    simp only [Act.put, List.setIfInBounds_toArray, List.set_cons_zero, List.set_cons_succ]
    apply Till.take (i := 1) [1, 5, 6, 8, 11]
    · simp only [List.getElem?_toArray, List.getElem?_cons_succ, List.getElem?_cons_zero]
      rfl
    · kernel_rfl
    · kernel_rfl
    · kernel_rfl
    · kernel_rfl
    · exact fun _ _ _ h => h
    · first
        | exact Or.inr ⟨by rfl, rfl⟩
        | (refine Or.inl ⟨by rfl, fun wq hwq => ?_⟩
           dsimp only at hwq
           go_simp
           first
             | done
             | rfl)
    · exact d0
    simp only [Act.put, List.setIfInBounds_toArray, List.set_cons_zero, List.set_cons_succ]
    apply Till.take (i := 2) [2, 3, 4, 5, 6, 8, 11]
    · simp only [List.getElem?_toArray, List.getElem?_cons_succ, List.getElem?_cons_zero]
      rfl
    · kernel_rfl
    · kernel_rfl
    · kernel_rfl
    · kernel_rfl
    · exact fun _ _ _ h => h
    · first
        | exact Or.inr ⟨by rfl, rfl⟩
        | (refine Or.inl ⟨by rfl, fun wq hwq => ?_⟩
           dsimp only at hwq
           go_simp
           first
             | done
             | rfl)
    · exact d0
    simp only [Act.put, List.setIfInBounds_toArray, List.set_cons_zero, List.set_cons_succ]
    apply Till.two (i := 3) (j := 9)
    · kernel_rfl
    · simp only [List.getElem?_toArray, List.getElem?_cons_succ, List.getElem?_cons_zero]
      rfl
    · simp only [List.getElem?_toArray, List.getElem?_cons_succ, List.getElem?_cons_zero]
      rfl
    · intro K0 hK
      go_simp
      refine (at_any HA.out 0 (by omega) HS.out).mono ?_
      rintro e' w3 ⟨⟨he, _, _⟩, hw⟩
      rw [← HY.out] at he
      subst he
      obtain rfl := hw.symm
      refine hK.out _ _ (Or.inr d0) ?_
      clear hK K0
      try simp only [Act.put, List.setIfInBounds_toArray, List.set_cons_zero, List.set_cons_succ]
      apply Till.take (i := 4) [4, 5, 6, 8, 11]
      · simp only [List.getElem?_toArray, List.getElem?_cons_succ, List.getElem?_cons_zero]
        rfl
      · kernel_rfl
      · kernel_rfl
      · kernel_rfl
      · kernel_rfl
      · exact fun _ _ _ h => h
      · first
          | exact Or.inr ⟨by rfl, rfl⟩
          | (refine Or.inl ⟨by rfl, fun wq hwq => ?_⟩
             dsimp only at hwq
             go_simp
             first
               | done
               | rfl)
      · exact d0
      simp only [Act.put, List.setIfInBounds_toArray, List.set_cons_zero, List.set_cons_succ]
      apply Till.two (i := 5) (j := 9)
      · kernel_rfl
      · simp only [List.getElem?_toArray, List.getElem?_cons_succ, List.getElem?_cons_zero]
        rfl
      · simp only [List.getElem?_toArray, List.getElem?_cons_succ, List.getElem?_cons_zero]
        rfl
      · intro K0 hK
        go_simp
        refine (impl_sg Ws.out Wx.out Wm.out).mono ?_
        rw [HSg2.out, ← HEe.out, ← HCc.out, ← HRr.out]
        rintro e' w4 ⟨he, hb⟩
        subst he
        replace HA := Lib.hid (HA.out.behind (hb.mono HB.out.size))
        replace HR0 := Lib.hid ((hb.block _ (lt_of_block HR0.out)).trans HR0.out)
        replace HB := Lib.hid (HB.out.trans (hb.mono HB.out.size))
        clear hb
        clear d0
        have d0 := HSd.out _ HR0.out
        refine hK.out _ _ (Or.inr d0) ?_
        clear hK K0
        try simp only [Act.put, List.setIfInBounds_toArray, List.set_cons_zero, List.set_cons_succ]
        apply Till.take (i := 6) [6, 8, 11]
        · simp only [List.getElem?_toArray, List.getElem?_cons_succ, List.getElem?_cons_zero]
          rfl
        · kernel_rfl
        · kernel_rfl
        · kernel_rfl
        · kernel_rfl
        · exact fun _ _ _ h => h
        · first
            | exact Or.inr ⟨by rfl, rfl⟩
            | (refine Or.inl ⟨by rfl, fun wq hwq => ?_⟩
               dsimp only at hwq
               go_simp
               first
                 | done
                 | rfl)
        · exact d0
        simp only [Act.put, List.setIfInBounds_toArray, List.set_cons_zero, List.set_cons_succ]
        apply Till.take (i := 7) [7, 10, 11]
        · simp only [List.getElem?_toArray, List.getElem?_cons_succ, List.getElem?_cons_zero]
          rfl
        · kernel_rfl
        · kernel_rfl
        · kernel_rfl
        · kernel_rfl
        · exact fun _ _ _ h => h
        · first
            | exact Or.inr ⟨by rfl, rfl⟩
            | (refine Or.inl ⟨by rfl, fun wq hwq => ?_⟩
               dsimp only at hwq
               go_simp
               first
                 | done
                 | rfl)
        · exact d0
        simp only [Act.put, List.setIfInBounds_toArray, List.set_cons_zero, List.set_cons_succ]
        apply Till.take (i := 8) [8, 11]
        · simp only [List.getElem?_toArray, List.getElem?_cons_succ, List.getElem?_cons_zero]
          rfl
        · kernel_rfl
        · kernel_rfl
        · kernel_rfl
        · kernel_rfl
        · exact fun _ _ _ h => h
        · first
            | exact Or.inr ⟨by rfl, rfl⟩
            | (refine Or.inl ⟨by rfl, fun wq hwq => ?_⟩
               dsimp only at hwq
               go_simp
               first
                 | done
                 | rfl)
        · exact d0
        simp only [Act.put, List.setIfInBounds_toArray, List.set_cons_zero, List.set_cons_succ]
        apply Till.one (i := 9)
        · kernel_rfl
        · simp only [List.getElem?_toArray, List.getElem?_cons_succ, List.getElem?_cons_zero]
          rfl
        intro K hK
        go_simp
        have hb : Below w4.heap.size w4 (w4.alloc (.cells #[.int .i64 0, .int .i64 0, .int .i64 0] 47)) := (Below.refl _ _).alloc (Nat.le_refl _) (.cells #[.int .i64 0, .int .i64 0, .int .i64 0] 47)
        have HEz := Lib.hid (heap_alloc_new w4 (.cells #[.int .i64 0, .int .i64 0, .int .i64 0] 47))
        have HL_HR0 := Lib.hid (lt_of_block HR0.out)
        have HLw := Lib.hid HB.out.size
        replace HA := Lib.hid (HA.out.behind (hb.mono HB.out.size))
        replace HR0 := Lib.hid ((hb.block _ (lt_of_block HR0.out)).trans HR0.out)
        replace HB := Lib.hid (HB.out.trans (hb.mono HB.out.size))
        clear hb
        clear d0
        have d0 := HSd.out _ HR0.out
        refine hK.out _ _ (Or.inr d0) ?_
        clear hK K
        try simp only [Act.put, List.setIfInBounds_toArray, List.set_cons_zero, List.set_cons_succ]
        obtain ⟨wa, hwa⟩ : ∃ x, x = w4.alloc (.cells #[.int .i64 0, .int .i64 0, .int .i64 0] 47) := ⟨_, rfl⟩
        obtain ⟨E, hE⟩ : ∃ x, x = w4.heap.size := ⟨_, rfl⟩
        rw [← hwa] at HEz HB HA HR0 d0 ⊢
        rw [← hE] at HEz HL_HR0 HLw ⊢
        have HE := HEz
        clear hwa hE HEz
        obtain ⟨wz, hwz⟩ : ∃ x, x = wa := ⟨_, rfl⟩
        rw [← hwz] at HE HB HA HR0 d0 ⊢
        clear hwz
        obtain ⟨q0, q1, q2, f0, f1, f2⟩ := ptc HE.out
        obtain ⟨t1, t3⟩ := pst3 HE.out (.int .i64 ee) (.int .i64 c) (.int .i64 r)
        have hB9 := HB.out.grown t3 HB.out.size (fun k hk => by injection hk with hk; have := HLw.out; omega)
        have h9_HR0 := (t3.block _ (lt_of_block HR0.out) (fun h => by injection h with h; have := HL_HR0.out; omega)).trans HR0.out
        have d9 := HSd.out _ h9_HR0
        have T1 := Lib.hid t1
        have B9 := Lib.hid hB9
        have N_HR0 := Lib.hid h9_HR0
        clear t1 t3 hB9 h9_HR0
        apply Till.one (i := 10)
        · kernel_rfl
        · simp only [List.getElem?_toArray, List.getElem?_cons_succ, List.getElem?_cons_zero]
          rfl
        intro K hK
        go_simp
        skip
        refine hK.out _ _ (Or.inr d9) ?_
        clear hK K
        try simp only [Act.put, List.setIfInBounds_toArray, List.set_cons_zero, List.set_cons_succ]
        apply Till.one (i := 11)
        · kernel_rfl
        · simp only [List.getElem?_toArray, List.getElem?_cons_succ, List.getElem?_cons_zero]
          rfl
        intro K hK
        go_simp
        skip
        refine hK.out _ _ (Or.inl (by rfl)) ?_
        clear hK K
        try simp only [Act.put, List.setIfInBounds_toArray, List.set_cons_zero, List.set_cons_succ]
        refine Till.done (by kernel_rfl) ?_ _
        clear q0 f0 q1 f1 q2 f2 d9
        obtain ⟨wy, hwy⟩ : ∃ x, x = ((wz.setCell ⟨E, 0, none⟩ (.int .i64 ee)).setCell ⟨E, 1, none⟩ (.int .i64 c)).setCell ⟨E, 2, none⟩ (.int .i64 r) := ⟨_, rfl⟩
        rw [← hwy] at T1 B9 N_HR0 ⊢
        clear hwy
        go_wp2_with fail
        go_meet
        case rel => exact ⟨E, _, rfl, rfl, rfl, T1.out, B9.out⟩
      · intro K0 hK
        go_simp
        have hb : Below wd.heap.size wd (wd.alloc (.cells #[.int .i64 0, .int .i64 0, .int .i64 0] 47)) := (Below.refl _ _).alloc (Nat.le_refl _) (.cells #[.int .i64 0, .int .i64 0, .int .i64 0] 47)
        have HEz := Lib.hid (heap_alloc_new wd (.cells #[.int .i64 0, .int .i64 0, .int .i64 0] 47))
        have HL_HR0 := Lib.hid (lt_of_block HR0.out)
        have HLw := Lib.hid HB.out.size
        replace HA := Lib.hid (HA.out.behind (hb.mono HB.out.size))
        replace HR0 := Lib.hid ((hb.block _ (lt_of_block HR0.out)).trans HR0.out)
        replace HB := Lib.hid (HB.out.trans (hb.mono HB.out.size))
        clear hb
        clear d0
        have d0 := HSd.out _ HR0.out
        refine hK.out _ _ (Or.inr d0) ?_
        clear hK K0
        try simp only [Act.put, List.setIfInBounds_toArray, List.set_cons_zero, List.set_cons_succ]
        obtain ⟨wa, hwa⟩ : ∃ x, x = wd.alloc (.cells #[.int .i64 0, .int .i64 0, .int .i64 0] 47) := ⟨_, rfl⟩
        obtain ⟨E, hE⟩ : ∃ x, x = wd.heap.size := ⟨_, rfl⟩
        rw [← hwa] at HEz HB HA HR0 d0 ⊢
        rw [← hE] at HEz HL_HR0 HLw ⊢
        have HE := HEz
        clear hwa hE HEz
        apply Till.one (i := 5)
        · kernel_rfl
        · simp only [List.getElem?_toArray, List.getElem?_cons_succ, List.getElem?_cons_zero]
          rfl
        intro K hK
        go_simp
        refine (impl_sg Ws.out Wx.out Wm.out).mono ?_
        rw [HSg2.out, ← HEe.out, ← HCc.out, ← HRr.out]
        rintro e' w4 ⟨he, hb⟩
        subst he
        replace HA := Lib.hid (HA.out.behind (hb.mono HB.out.size))
        replace HR0 := Lib.hid ((hb.block _ (lt_of_block HR0.out)).trans HR0.out)
        replace HE := Lib.hid ((hb.block _ (lt_of_block HE.out)).trans HE.out)
        replace HB := Lib.hid (HB.out.trans (hb.mono HB.out.size))
        clear hb
        clear d0
        have d0 := HSd.out _ HR0.out
        refine hK.out _ _ (Or.inr d0) ?_
        clear hK K
        try simp only [Act.put, List.setIfInBounds_toArray, List.set_cons_zero, List.set_cons_succ]
        apply Till.take (i := 6) [6, 8, 11]
        · simp only [List.getElem?_toArray, List.getElem?_cons_succ, List.getElem?_cons_zero]
          rfl
        · kernel_rfl
        · kernel_rfl
        · kernel_rfl
        · kernel_rfl
        · exact fun _ _ _ h => h
        · first
            | exact Or.inr ⟨by rfl, rfl⟩
            | (refine Or.inl ⟨by rfl, fun wq hwq => ?_⟩
               dsimp only at hwq
               go_simp
               first
                 | done
                 | rfl)
        · exact d0
        simp only [Act.put, List.setIfInBounds_toArray, List.set_cons_zero, List.set_cons_succ]
        apply Till.take (i := 7) [7, 10, 11]
        · simp only [List.getElem?_toArray, List.getElem?_cons_succ, List.getElem?_cons_zero]
          rfl
        · kernel_rfl
        · kernel_rfl
        · kernel_rfl
        · kernel_rfl
        · exact fun _ _ _ h => h
        · first
            | exact Or.inr ⟨by rfl, rfl⟩
            | (refine Or.inl ⟨by rfl, fun wq hwq => ?_⟩
               dsimp only at hwq
               go_simp
               first
                 | done
                 | rfl)
        · exact d0
        simp only [Act.put, List.setIfInBounds_toArray, List.set_cons_zero, List.set_cons_succ]
        apply Till.take (i := 8) [8, 11]
        · simp only [List.getElem?_toArray, List.getElem?_cons_succ, List.getElem?_cons_zero]
          rfl
        · kernel_rfl
        · kernel_rfl
        · kernel_rfl
        · kernel_rfl
        · exact fun _ _ _ h => h
        · first
            | exact Or.inr ⟨by rfl, rfl⟩
            | (refine Or.inl ⟨by rfl, fun wq hwq => ?_⟩
               dsimp only at hwq
               go_simp
               first
                 | done
                 | rfl)
        · exact d0
        simp only [Act.put, List.setIfInBounds_toArray, List.set_cons_zero, List.set_cons_succ]
        obtain ⟨wz, hwz⟩ : ∃ x, x = w4 := ⟨_, rfl⟩
        rw [← hwz] at HE HB HA HR0 d0 ⊢
        clear hwz
        obtain ⟨q0, q1, q2, f0, f1, f2⟩ := ptc HE.out
        obtain ⟨t1, t3⟩ := pst3 HE.out (.int .i64 ee) (.int .i64 c) (.int .i64 r)
        have hB9 := HB.out.grown t3 HB.out.size (fun k hk => by injection hk with hk; have := HLw.out; omega)
        have h9_HR0 := (t3.block _ (lt_of_block HR0.out) (fun h => by injection h with h; have := HL_HR0.out; omega)).trans HR0.out
        have d9 := HSd.out _ h9_HR0
        have T1 := Lib.hid t1
        have B9 := Lib.hid hB9
        have N_HR0 := Lib.hid h9_HR0
        clear t1 t3 hB9 h9_HR0
        apply Till.one (i := 10)
        · kernel_rfl
        · simp only [List.getElem?_toArray, List.getElem?_cons_succ, List.getElem?_cons_zero]
          rfl
        intro K hK
        go_simp
        skip
        refine hK.out _ _ (Or.inr d9) ?_
        clear hK K
        try simp only [Act.put, List.setIfInBounds_toArray, List.set_cons_zero, List.set_cons_succ]
        apply Till.one (i := 11)
        · kernel_rfl
        · simp only [List.getElem?_toArray, List.getElem?_cons_succ, List.getElem?_cons_zero]
          rfl
        intro K hK
        go_simp
        skip
        refine hK.out _ _ (Or.inl (by rfl)) ?_
        clear hK K
        try simp only [Act.put, List.setIfInBounds_toArray, List.set_cons_zero, List.set_cons_succ]
        refine Till.done (by kernel_rfl) ?_ _
        clear q0 f0 q1 f1 q2 f2 d9
        obtain ⟨wy, hwy⟩ : ∃ x, x = ((wz.setCell ⟨E, 0, none⟩ (.int .i64 ee)).setCell ⟨E, 1, none⟩ (.int .i64 c)).setCell ⟨E, 2, none⟩ (.int .i64 r) := ⟨_, rfl⟩
        rw [← hwy] at T1 B9 N_HR0 ⊢
        clear hwy
        go_wp2_with fail
        go_meet
        case rel => exact ⟨E, _, rfl, rfl, rfl, T1.out, B9.out⟩
    · intro K0 hK
      go_simp
      have hb : Below wd.heap.size wd (wd.alloc (.cells #[.int .i64 0, .int .i64 0, .int .i64 0] 47)) := (Below.refl _ _).alloc (Nat.le_refl _) (.cells #[.int .i64 0, .int .i64 0, .int .i64 0] 47)
      have HEz := Lib.hid (heap_alloc_new wd (.cells #[.int .i64 0, .int .i64 0, .int .i64 0] 47))
      have HL_HR0 := Lib.hid (lt_of_block HR0.out)
      have HLw := Lib.hid HB.out.size
      replace HA := Lib.hid (HA.out.behind (hb.mono HB.out.size))
      replace HR0 := Lib.hid ((hb.block _ (lt_of_block HR0.out)).trans HR0.out)
      replace HB := Lib.hid (HB.out.trans (hb.mono HB.out.size))
      clear hb
      clear d0
      have d0 := HSd.out _ HR0.out
      refine hK.out _ _ (Or.inr d0) ?_
      clear hK K0
      try simp only [Act.put, List.setIfInBounds_toArray, List.set_cons_zero, List.set_cons_succ]
      obtain ⟨wa, hwa⟩ : ∃ x, x = wd.alloc (.cells #[.int .i64 0, .int .i64 0, .int .i64 0] 47) := ⟨_, rfl⟩
      obtain ⟨E, hE⟩ : ∃ x, x = wd.heap.size := ⟨_, rfl⟩
      rw [← hwa] at HEz HB HA HR0 d0 ⊢
      rw [← hE] at HEz HL_HR0 HLw ⊢
      have HE := HEz
      clear hwa hE HEz
      apply Till.one (i := 3)
      · kernel_rfl
      · simp only [List.getElem?_toArray, List.getElem?_cons_succ, List.getElem?_cons_zero]
        rfl
      intro K hK
      go_simp
      refine (at_any HA.out 0 (by omega) HS.out).mono ?_
      rintro e' w3 ⟨⟨he, _, _⟩, hw⟩
      rw [← HY.out] at he
      subst he
      obtain rfl := hw.symm
      refine hK.out _ _ (Or.inr d0) ?_
      clear hK K
      try simp only [Act.put, List.setIfInBounds_toArray, List.set_cons_zero, List.set_cons_succ]
      apply Till.take (i := 4) [4, 5, 6, 8, 11]
      · simp only [List.getElem?_toArray, List.getElem?_cons_succ, List.getElem?_cons_zero]
        rfl
      · kernel_rfl
      · kernel_rfl
      · kernel_rfl
      · kernel_rfl
      · exact fun _ _ _ h => h
      · first
          | exact Or.inr ⟨by rfl, rfl⟩
          | (refine Or.inl ⟨by rfl, fun wq hwq => ?_⟩
             dsimp only at hwq
             go_simp
             first
               | done
               | rfl)
      · exact d0
      simp only [Act.put, List.setIfInBounds_toArray, List.set_cons_zero, List.set_cons_succ]
      apply Till.one (i := 5)
      · kernel_rfl
      · simp only [List.getElem?_toArray, List.getElem?_cons_succ, List.getElem?_cons_zero]
        rfl
      intro K hK
      go_simp
      refine (impl_sg Ws.out Wx.out Wm.out).mono ?_
      rw [HSg2.out, ← HEe.out, ← HCc.out, ← HRr.out]
      rintro e' w4 ⟨he, hb⟩
      subst he
      replace HA := Lib.hid (HA.out.behind (hb.mono HB.out.size))
      replace HR0 := Lib.hid ((hb.block _ (lt_of_block HR0.out)).trans HR0.out)
      replace HE := Lib.hid ((hb.block _ (lt_of_block HE.out)).trans HE.out)
      replace HB := Lib.hid (HB.out.trans (hb.mono HB.out.size))
      clear hb
      clear d0
      have d0 := HSd.out _ HR0.out
      refine hK.out _ _ (Or.inr d0) ?_
      clear hK K
      try simp only [Act.put, List.setIfInBounds_toArray, List.set_cons_zero, List.set_cons_succ]
      apply Till.take (i := 6) [6, 8, 11]
      · simp only [List.getElem?_toArray, List.getElem?_cons_succ, List.getElem?_cons_zero]
        rfl
      · kernel_rfl
      · kernel_rfl
      · kernel_rfl
      · kernel_rfl
      · exact fun _ _ _ h => h
      · first
          | exact Or.inr ⟨by rfl, rfl⟩
          | (refine Or.inl ⟨by rfl, fun wq hwq => ?_⟩
             dsimp only at hwq
             go_simp
             first
               | done
               | rfl)
      · exact d0
      simp only [Act.put, List.setIfInBounds_toArray, List.set_cons_zero, List.set_cons_succ]
      apply Till.take (i := 7) [7, 10, 11]
      · simp only [List.getElem?_toArray, List.getElem?_cons_succ, List.getElem?_cons_zero]
        rfl
      · kernel_rfl
      · kernel_rfl
      · kernel_rfl
      · kernel_rfl
      · exact fun _ _ _ h => h
      · first
          | exact Or.inr ⟨by rfl, rfl⟩
          | (refine Or.inl ⟨by rfl, fun wq hwq => ?_⟩
             dsimp only at hwq
             go_simp
             first
               | done
               | rfl)
      · exact d0
      simp only [Act.put, List.setIfInBounds_toArray, List.set_cons_zero, List.set_cons_succ]
      apply Till.take (i := 8) [8, 11]
      · simp only [List.getElem?_toArray, List.getElem?_cons_succ, List.getElem?_cons_zero]
        rfl
      · kernel_rfl
      · kernel_rfl
      · kernel_rfl
      · kernel_rfl
      · exact fun _ _ _ h => h
      · first
          | exact Or.inr ⟨by rfl, rfl⟩
          | (refine Or.inl ⟨by rfl, fun wq hwq => ?_⟩
             dsimp only at hwq
             go_simp
             first
               | done
               | rfl)
      · exact d0
      simp only [Act.put, List.setIfInBounds_toArray, List.set_cons_zero, List.set_cons_succ]
      obtain ⟨wz, hwz⟩ : ∃ x, x = w4 := ⟨_, rfl⟩
      rw [← hwz] at HE HB HA HR0 d0 ⊢
      clear hwz
      obtain ⟨q0, q1, q2, f0, f1, f2⟩ := ptc HE.out
      obtain ⟨t1, t3⟩ := pst3 HE.out (.int .i64 ee) (.int .i64 c) (.int .i64 r)
      have hB9 := HB.out.grown t3 HB.out.size (fun k hk => by injection hk with hk; have := HLw.out; omega)
      have h9_HR0 := (t3.block _ (lt_of_block HR0.out) (fun h => by injection h with h; have := HL_HR0.out; omega)).trans HR0.out
      have d9 := HSd.out _ h9_HR0
      have T1 := Lib.hid t1
      have B9 := Lib.hid hB9
      have N_HR0 := Lib.hid h9_HR0
      clear t1 t3 hB9 h9_HR0
      apply Till.one (i := 10)
      · kernel_rfl
      · simp only [List.getElem?_toArray, List.getElem?_cons_succ, List.getElem?_cons_zero]
        rfl
      intro K hK
      go_simp
      skip
      refine hK.out _ _ (Or.inr d9) ?_
      clear hK K
      try simp only [Act.put, List.setIfInBounds_toArray, List.set_cons_zero, List.set_cons_succ]
      apply Till.one (i := 11)
      · kernel_rfl
      · simp only [List.getElem?_toArray, List.getElem?_cons_succ, List.getElem?_cons_zero]
        rfl
      intro K hK
      go_simp
      skip
      refine hK.out _ _ (Or.inl (by rfl)) ?_
      clear hK K
      try simp only [Act.put, List.setIfInBounds_toArray, List.set_cons_zero, List.set_cons_succ]
      refine Till.done (by kernel_rfl) ?_ _
      clear q0 f0 q1 f1 q2 f2 d9
      obtain ⟨wy, hwy⟩ : ∃ x, x = ((wz.setCell ⟨E, 0, none⟩ (.int .i64 ee)).setCell ⟨E, 1, none⟩ (.int .i64 c)).setCell ⟨E, 2, none⟩ (.int .i64 r) := ⟨_, rfl⟩
      rw [← hwy] at T1 B9 N_HR0 ⊢
      clear hwy
      go_wp2_with fail
      go_meet
      case rel => exact ⟨E, _, rfl, rfl, rfl, T1.out, B9.out⟩
  case rest =>
    obtain ⟨D8, W6, rfl, rfl, rfl, hP, hb⟩ := hcut
    clear HA HR0 HB hmw
    have HP := Lib.hid hP
    have HB := Lib.hid hb
    clear hP hb
    go_wp2_with fail
    go_cut [10, 11] (fun p q wx => ∃ (E : Nat) (WW : World), WW = wx ∧ p = .pointer (some ⟨E, 0, none⟩) ∧ q = .bool true ∧ wx.heap[E]? = some (.cells #[.int .i64 n, .int .i64 v] 51) ∧ wx.heap[D8]? = some (.cells #[.int .i64 ee, .int .i64 c, .int .i64 r] 47) ∧ Below w.heap.size w wx)
    case first =>
      refine region_till (fun w' => w'.cell? ⟨D8, 0, none⟩ = some (.int .i64 ee) ∧ w'.cell? ⟨D8, 1, none⟩ = some (.int .i64 c) ∧ w'.cell? ⟨D8, 2, none⟩ = some (.int .i64 r)) 11 (by kernel_rfl) ?_
      obtain ⟨wd, hwd⟩ : ∃ x, x = (W6).drew := ⟨_, rfl⟩
      have hb : Below (W6).heap.size (W6) wd := by rw [hwd]; exact (Below.refl _ _).drew
      replace HP := Lib.hid ((hb.block _ (lt_of_block HP.out)).trans HP.out)
      replace HB := Lib.hid (HB.out.trans (hb.mono HB.out.size))
      clear hb
      have HSd : Hid (∀ w' : World, w'.heap[D8]? = some (.cells #[.int .i64 ee, .int .i64 c, .int .i64 r] 47) → w'.cell? ⟨D8, 0, none⟩ = some (.int .i64 ee) ∧ w'.cell? ⟨D8, 1, none⟩ = some (.int .i64 c) ∧ w'.cell? ⟨D8, 2, none⟩ = some (.int .i64 r)) := Lib.hid (fun w' h => by obtain ⟨h0, h1, h2, -⟩ := ptc h; exact ⟨h0, h1, h2⟩)
      have d0 := HSd.out _ HP.out
      rw [← hwd]
      clear hwd
      apply Till.take (i := 0) [0, 5, 6, 8, 11]
      · simp only [List.getElem?_toArray, List.getElem?_cons_zero]
        rfl
      · kernel_rfl
      · kernel_rfl
      · kernel_rfl
      · kernel_rfl
      · exact fun _ _ _ h => h
      · first
          | exact Or.inr ⟨by rfl, rfl⟩
          | (refine Or.inl ⟨by rfl, fun wq hwq => ?_⟩
             dsimp only at hwq
             go_simp
             first
               | done
               | rfl)
      · exact d0
      simp only [Act.put, List.setIfInBounds_toArray, List.set_cons_zero, List.set_cons_succ]
      apply Till.take (i := 1) [1, 5, 6, 8, 11]
      · simp only [List.getElem?_toArray, List.getElem?_cons_succ, List.getElem?_cons_zero]
        rfl
      · kernel_rfl
      · kernel_rfl
      · kernel_rfl
      · kernel_rfl
      · exact fun _ _ _ h => h
      · first
          | exact Or.inr ⟨by rfl, rfl⟩
          | (refine Or.inl ⟨by rfl, fun wq hwq => ?_⟩
             dsimp only at hwq
             go_simp
             first
               | done
               | rfl)
      · exact d0
      simp only [Act.put, List.setIfInBounds_toArray, List.set_cons_zero, List.set_cons_succ]
      apply Till.take (i := 2) [2, 3, 5, 6, 8, 11]
      · simp only [List.getElem?_toArray, List.getElem?_cons_succ, List.getElem?_cons_zero]
        rfl
      · kernel_rfl
      · kernel_rfl
      · kernel_rfl
      · kernel_rfl
      · exact fun _ _ _ h => h
      · first
          | exact Or.inr ⟨by rfl, rfl⟩
          | (refine Or.inl ⟨by rfl, fun wq hwq => ?_⟩
             dsimp only at hwq
             go_simp
             first
               | done
               | rfl)
      · exact d0
      simp only [Act.put, List.setIfInBounds_toArray, List.set_cons_zero, List.set_cons_succ]
      apply Till.take (i := 4) [4, 5, 6, 8, 11]
      · simp only [List.getElem?_toArray, List.getElem?_cons_succ, List.getElem?_cons_zero]
        rfl
      · kernel_rfl
      · kernel_rfl
      · kernel_rfl
      · kernel_rfl
      · exact fun _ _ _ h => h
      · first
          | exact Or.inr ⟨by rfl, rfl⟩
          | (refine Or.inl ⟨by rfl, fun wq hwq => ?_⟩
             dsimp only at hwq
             go_simp
             first
               | done
               | rfl)
      · exact d0
      simp only [Act.put, List.setIfInBounds_toArray, List.set_cons_zero, List.set_cons_succ]
      apply Till.two (i := 3) (j := 9)
      · kernel_rfl
      · simp only [List.getElem?_toArray, List.getElem?_cons_succ, List.getElem?_cons_zero]
        rfl
      · simp only [List.getElem?_toArray, List.getElem?_cons_succ, List.getElem?_cons_zero]
        rfl
      · intro K0 hK
        go_simp
        refine (impl_ik Ws.out).mono ?_
        rw [← HKk.out]
        rintro e' w3 ⟨he, hb⟩
        subst he
        replace HP := Lib.hid ((hb.block _ (lt_of_block HP.out)).trans HP.out)
        replace HB := Lib.hid (HB.out.trans (hb.mono HB.out.size))
        clear hb
        clear d0
        have d0 := HSd.out _ HP.out
        refine hK.out _ _ (Or.inr d0) ?_
        clear hK K0
        try simp only [Act.put, List.setIfInBounds_toArray, List.set_cons_zero, List.set_cons_succ]
        apply Till.two (i := 5) (j := 9)
        · kernel_rfl
        · simp only [List.getElem?_toArray, List.getElem?_cons_succ, List.getElem?_cons_zero]
          rfl
        · simp only [List.getElem?_toArray, List.getElem?_cons_succ, List.getElem?_cons_zero]
          rfl
        · intro K0 hK
          go_simp
          refine (impl_fn Wn.out Wb.out Wk.out We.out Wc.out Wr.out).mono ?_
          rw [HFn.out, HFS.out.1, HFS.out.2]
          rintro e' w4 ⟨he, hb⟩
          subst he
          replace HP := Lib.hid ((hb.block _ (lt_of_block HP.out)).trans HP.out)
          replace HB := Lib.hid (HB.out.trans (hb.mono HB.out.size))
          clear hb
          clear d0
          have d0 := HSd.out _ HP.out
          refine hK.out _ _ (Or.inr d0) ?_
          clear hK K0
          try simp only [Act.put, List.setIfInBounds_toArray, List.set_cons_zero, List.set_cons_succ]
          apply Till.take (i := 6) [6, 8, 11]
          · simp only [List.getElem?_toArray, List.getElem?_cons_succ, List.getElem?_cons_zero]
            rfl
          · kernel_rfl
          · kernel_rfl
          · kernel_rfl
          · kernel_rfl
          · exact fun _ _ _ h => h
          · first
              | exact Or.inr ⟨by rfl, rfl⟩
              | (refine Or.inl ⟨by rfl, fun wq hwq => ?_⟩
                 dsimp only at hwq
                 go_simp
                 first
                   | done
                   | rfl)
          · exact d0
          simp only [Act.put, List.setIfInBounds_toArray, List.set_cons_zero, List.set_cons_succ]
          apply Till.take (i := 7) [7, 10, 11]
          · simp only [List.getElem?_toArray, List.getElem?_cons_succ, List.getElem?_cons_zero]
            rfl
          · kernel_rfl
          · kernel_rfl
          · kernel_rfl
          · kernel_rfl
          · exact fun _ _ _ h => h
          · first
              | exact Or.inr ⟨by rfl, rfl⟩
              | (refine Or.inl ⟨by rfl, fun wq hwq => ?_⟩
                 dsimp only at hwq
                 go_simp
                 first
                   | done
                   | rfl)
          · exact d0
          simp only [Act.put, List.setIfInBounds_toArray, List.set_cons_zero, List.set_cons_succ]
          apply Till.take (i := 8) [8, 11]
          · simp only [List.getElem?_toArray, List.getElem?_cons_succ, List.getElem?_cons_zero]
            rfl
          · kernel_rfl
          · kernel_rfl
          · kernel_rfl
          · kernel_rfl
          · exact fun _ _ _ h => h
          · first
              | exact Or.inr ⟨by rfl, rfl⟩
              | (refine Or.inl ⟨by rfl, fun wq hwq => ?_⟩
                 dsimp only at hwq
                 go_simp
                 first
                   | done
                   | rfl)
          · exact d0
          simp only [Act.put, List.setIfInBounds_toArray, List.set_cons_zero, List.set_cons_succ]
          apply Till.one (i := 9)
          · kernel_rfl
          · simp only [List.getElem?_toArray, List.getElem?_cons_succ, List.getElem?_cons_zero]
            rfl
          intro K hK
          go_simp
          have hb : Below w4.heap.size w4 (w4.alloc (.cells #[.int .i64 0, .int .i64 0] 51)) := (Below.refl _ _).alloc (Nat.le_refl _) (.cells #[.int .i64 0, .int .i64 0] 51)
          have HEz := Lib.hid (heap_alloc_new w4 (.cells #[.int .i64 0, .int .i64 0] 51))
          have HL_HP := Lib.hid (lt_of_block HP.out)
          have HLw := Lib.hid HB.out.size
          replace HP := Lib.hid ((hb.block _ (lt_of_block HP.out)).trans HP.out)
          replace HB := Lib.hid (HB.out.trans (hb.mono HB.out.size))
          clear hb
          clear d0
          have d0 := HSd.out _ HP.out
          refine hK.out _ _ (Or.inr d0) ?_
          clear hK K
          try simp only [Act.put, List.setIfInBounds_toArray, List.set_cons_zero, List.set_cons_succ]
          obtain ⟨wa, hwa⟩ : ∃ x, x = w4.alloc (.cells #[.int .i64 0, .int .i64 0] 51) := ⟨_, rfl⟩
          obtain ⟨E, hE⟩ : ∃ x, x = w4.heap.size := ⟨_, rfl⟩
          rw [← hwa] at HEz HB HP d0 ⊢
          rw [← hE] at HEz HL_HP HLw ⊢
          have HE := HEz
          clear hwa hE HEz
          obtain ⟨wz, hwz⟩ : ∃ x, x = wa := ⟨_, rfl⟩
          rw [← hwz] at HE HB HP d0 ⊢
          clear hwz
          obtain ⟨q0, q1, f0, f1⟩ := pcs HE.out
          obtain ⟨t1, t3⟩ := pst HE.out (.int .i64 n) (.int .i64 v)
          have hB9 := HB.out.grown t3 HB.out.size (fun k hk => by injection hk with hk; have := HLw.out; omega)
          have h9_HP := (t3.block _ (lt_of_block HP.out) (fun h => by injection h with h; have := HL_HP.out; omega)).trans HP.out
          have d9 := HSd.out _ h9_HP
          have T1 := Lib.hid t1
          have B9 := Lib.hid hB9
          have N_HP := Lib.hid h9_HP
          clear t1 t3 hB9 h9_HP
          apply Till.one (i := 10)
          · kernel_rfl
          · simp only [List.getElem?_toArray, List.getElem?_cons_succ, List.getElem?_cons_zero]
            rfl
          intro K hK
          go_simp
          skip
          refine hK.out _ _ (Or.inr d9) ?_
          clear hK K
          try simp only [Act.put, List.setIfInBounds_toArray, List.set_cons_zero, List.set_cons_succ]
          apply Till.one (i := 11)
          · kernel_rfl
          · simp only [List.getElem?_toArray, List.getElem?_cons_succ, List.getElem?_cons_zero]
            rfl
          intro K hK
          go_simp
          skip
          refine hK.out _ _ (Or.inl (by rfl)) ?_
          clear hK K
          try simp only [Act.put, List.setIfInBounds_toArray, List.set_cons_zero, List.set_cons_succ]
          refine Till.done (by kernel_rfl) ?_ _
          clear q0 f0 q1 f1 d9
          obtain ⟨wy, hwy⟩ : ∃ x, x = (wz.setCell ⟨E, 0, none⟩ (.int .i64 n)).setCell ⟨E, 1, none⟩ (.int .i64 v) := ⟨_, rfl⟩
          rw [← hwy] at T1 B9 N_HP ⊢
          clear hwy
          go_wp2_with fail
          go_meet
          case rel => exact ⟨E, _, rfl, rfl, rfl, T1.out, N_HP.out, B9.out⟩
        · intro K0 hK
          go_simp
          have hb : Below w3.heap.size w3 (w3.alloc (.cells #[.int .i64 0, .int .i64 0] 51)) := (Below.refl _ _).alloc (Nat.le_refl _) (.cells #[.int .i64 0, .int .i64 0] 51)
          have HEz := Lib.hid (heap_alloc_new w3 (.cells #[.int .i64 0, .int .i64 0] 51))
          have HL_HP := Lib.hid (lt_of_block HP.out)
          have HLw := Lib.hid HB.out.size
          replace HP := Lib.hid ((hb.block _ (lt_of_block HP.out)).trans HP.out)
          replace HB := Lib.hid (HB.out.trans (hb.mono HB.out.size))
          clear hb
          clear d0
          have d0 := HSd.out _ HP.out
          refine hK.out _ _ (Or.inr d0) ?_
          clear hK K0
          try simp only [Act.put, List.setIfInBounds_toArray, List.set_cons_zero, List.set_cons_succ]
          obtain ⟨wa, hwa⟩ : ∃ x, x = w3.alloc (.cells #[.int .i64 0, .int .i64 0] 51) := ⟨_, rfl⟩
          obtain ⟨E, hE⟩ : ∃ x, x = w3.heap.size := ⟨_, rfl⟩
          rw [← hwa] at HEz HB HP d0 ⊢
          rw [← hE] at HEz HL_HP HLw ⊢
          have HE := HEz
          clear hwa hE HEz
          apply Till.one (i := 5)
          · kernel_rfl
          · simp only [List.getElem?_toArray, List.getElem?_cons_succ, List.getElem?_cons_zero]
            rfl
          intro K hK
          go_simp
          refine (impl_fn Wn.out Wb.out Wk.out We.out Wc.out Wr.out).mono ?_
          rw [HFn.out, HFS.out.1, HFS.out.2]
          rintro e' w4 ⟨he, hb⟩
          subst he
          replace HP := Lib.hid ((hb.block _ (lt_of_block HP.out)).trans HP.out)
          replace HE := Lib.hid ((hb.block _ (lt_of_block HE.out)).trans HE.out)
          replace HB := Lib.hid (HB.out.trans (hb.mono HB.out.size))
          clear hb
          clear d0
          have d0 := HSd.out _ HP.out
          refine hK.out _ _ (Or.inr d0) ?_
          clear hK K
          try simp only [Act.put, List.setIfInBounds_toArray, List.set_cons_zero, List.set_cons_succ]
          apply Till.take (i := 6) [6, 8, 11]
          · simp only [List.getElem?_toArray, List.getElem?_cons_succ, List.getElem?_cons_zero]
            rfl
          · kernel_rfl
          · kernel_rfl
          · kernel_rfl
          · kernel_rfl
          · exact fun _ _ _ h => h
          · first
              | exact Or.inr ⟨by rfl, rfl⟩
              | (refine Or.inl ⟨by rfl, fun wq hwq => ?_⟩
                 dsimp only at hwq
                 go_simp
                 first
                   | done
                   | rfl)
          · exact d0
          simp only [Act.put, List.setIfInBounds_toArray, List.set_cons_zero, List.set_cons_succ]
          apply Till.take (i := 7) [7, 10, 11]
          · simp only [List.getElem?_toArray, List.getElem?_cons_succ, List.getElem?_cons_zero]
            rfl
          · kernel_rfl
          · kernel_rfl
          · kernel_rfl
          · kernel_rfl
          · exact fun _ _ _ h => h
          · first
              | exact Or.inr ⟨by rfl, rfl⟩
              | (refine Or.inl ⟨by rfl, fun wq hwq => ?_⟩
                 dsimp only at hwq
                 go_simp
                 first
                   | done
                   | rfl)
          · exact d0
          simp only [Act.put, List.setIfInBounds_toArray, List.set_cons_zero, List.set_cons_succ]
          apply Till.take (i := 8) [8, 11]
          · simp only [List.getElem?_toArray, List.getElem?_cons_succ, List.getElem?_cons_zero]
            rfl
          · kernel_rfl
          · kernel_rfl
          · kernel_rfl
          · kernel_rfl
          · exact fun _ _ _ h => h
          · first
              | exact Or.inr ⟨by rfl, rfl⟩
              | (refine Or.inl ⟨by rfl, fun wq hwq => ?_⟩
                 dsimp only at hwq
                 go_simp
                 first
                   | done
                   | rfl)
          · exact d0
          simp only [Act.put, List.setIfInBounds_toArray, List.set_cons_zero, List.set_cons_succ]
          obtain ⟨wz, hwz⟩ : ∃ x, x = w4 := ⟨_, rfl⟩
          rw [← hwz] at HE HB HP d0 ⊢
          clear hwz
          obtain ⟨q0, q1, f0, f1⟩ := pcs HE.out
          obtain ⟨t1, t3⟩ := pst HE.out (.int .i64 n) (.int .i64 v)
          have hB9 := HB.out.grown t3 HB.out.size (fun k hk => by injection hk with hk; have := HLw.out; omega)
          have h9_HP := (t3.block _ (lt_of_block HP.out) (fun h => by injection h with h; have := HL_HP.out; omega)).trans HP.out
          have d9 := HSd.out _ h9_HP
          have T1 := Lib.hid t1
          have B9 := Lib.hid hB9
          have N_HP := Lib.hid h9_HP
          clear t1 t3 hB9 h9_HP
          apply Till.one (i := 10)
          · kernel_rfl
          · simp only [List.getElem?_toArray, List.getElem?_cons_succ, List.getElem?_cons_zero]
            rfl
          intro K hK
          go_simp
          skip
          refine hK.out _ _ (Or.inr d9) ?_
          clear hK K
          try simp only [Act.put, List.setIfInBounds_toArray, List.set_cons_zero, List.set_cons_succ]
          apply Till.one (i := 11)
          · kernel_rfl
          · simp only [List.getElem?_toArray, List.getElem?_cons_succ, List.getElem?_cons_zero]
            rfl
          intro K hK
          go_simp
          skip
          refine hK.out _ _ (Or.inl (by rfl)) ?_
          clear hK K
          try simp only [Act.put, List.setIfInBounds_toArray, List.set_cons_zero, List.set_cons_succ]
          refine Till.done (by kernel_rfl) ?_ _
          clear q0 f0 q1 f1 d9
          obtain ⟨wy, hwy⟩ : ∃ x, x = (wz.setCell ⟨E, 0, none⟩ (.int .i64 n)).setCell ⟨E, 1, none⟩ (.int .i64 v) := ⟨_, rfl⟩
          rw [← hwy] at T1 B9 N_HP ⊢
          clear hwy
          go_wp2_with fail
          go_meet
          case rel => exact ⟨E, _, rfl, rfl, rfl, T1.out, N_HP.out, B9.out⟩
      · intro K0 hK
        go_simp
        have hb : Below wd.heap.size wd (wd.alloc (.cells #[.int .i64 0, .int .i64 0] 51)) := (Below.refl _ _).alloc (Nat.le_refl _) (.cells #[.int .i64 0, .int .i64 0] 51)
        have HEz := Lib.hid (heap_alloc_new wd (.cells #[.int .i64 0, .int .i64 0] 51))
        have HL_HP := Lib.hid (lt_of_block HP.out)
        have HLw := Lib.hid HB.out.size
        replace HP := Lib.hid ((hb.block _ (lt_of_block HP.out)).trans HP.out)
        replace HB := Lib.hid (HB.out.trans (hb.mono HB.out.size))
        clear hb
        clear d0
        have d0 := HSd.out _ HP.out
        refine hK.out _ _ (Or.inr d0) ?_
        clear hK K0
        try simp only [Act.put, List.setIfInBounds_toArray, List.set_cons_zero, List.set_cons_succ]
        obtain ⟨wa, hwa⟩ : ∃ x, x = wd.alloc (.cells #[.int .i64 0, .int .i64 0] 51) := ⟨_, rfl⟩
        obtain ⟨E, hE⟩ : ∃ x, x = wd.heap.size := ⟨_, rfl⟩
        rw [← hwa] at HEz HB HP d0 ⊢
        rw [← hE] at HEz HL_HP HLw ⊢
        have HE := HEz
        clear hwa hE HEz
        apply Till.one (i := 3)
        · kernel_rfl
        · simp only [List.getElem?_toArray, List.getElem?_cons_succ, List.getElem?_cons_zero]
          rfl
        intro K hK
        go_simp
        refine (impl_ik Ws.out).mono ?_
        rw [← HKk.out]
        rintro e' w3 ⟨he, hb⟩
        subst he
        replace HP := Lib.hid ((hb.block _ (lt_of_block HP.out)).trans HP.out)
        replace HE := Lib.hid ((hb.block _ (lt_of_block HE.out)).trans HE.out)
        replace HB := Lib.hid (HB.out.trans (hb.mono HB.out.size))
        clear hb
        clear d0
        have d0 := HSd.out _ HP.out
        refine hK.out _ _ (Or.inr d0) ?_
        clear hK K
        try simp only [Act.put, List.setIfInBounds_toArray, List.set_cons_zero, List.set_cons_succ]
        apply Till.one (i := 5)
        · kernel_rfl
        · simp only [List.getElem?_toArray, List.getElem?_cons_succ, List.getElem?_cons_zero]
          rfl
        intro K hK
        go_simp
        refine (impl_fn Wn.out Wb.out Wk.out We.out Wc.out Wr.out).mono ?_
        rw [HFn.out, HFS.out.1, HFS.out.2]
        rintro e' w4 ⟨he, hb⟩
        subst he
        replace HP := Lib.hid ((hb.block _ (lt_of_block HP.out)).trans HP.out)
        replace HE := Lib.hid ((hb.block _ (lt_of_block HE.out)).trans HE.out)
        replace HB := Lib.hid (HB.out.trans (hb.mono HB.out.size))
        clear hb
        clear d0
        have d0 := HSd.out _ HP.out
        refine hK.out _ _ (Or.inr d0) ?_
        clear hK K
        try simp only [Act.put, List.setIfInBounds_toArray, List.set_cons_zero, List.set_cons_succ]
        apply Till.take (i := 6) [6, 8, 11]
        · simp only [List.getElem?_toArray, List.getElem?_cons_succ, List.getElem?_cons_zero]
          rfl
        · kernel_rfl
        · kernel_rfl
        · kernel_rfl
        · kernel_rfl
        · exact fun _ _ _ h => h
        · first
            | exact Or.inr ⟨by rfl, rfl⟩
            | (refine Or.inl ⟨by rfl, fun wq hwq => ?_⟩
               dsimp only at hwq
               go_simp
               first
                 | done
                 | rfl)
        · exact d0
        simp only [Act.put, List.setIfInBounds_toArray, List.set_cons_zero, List.set_cons_succ]
        apply Till.take (i := 7) [7, 10, 11]
        · simp only [List.getElem?_toArray, List.getElem?_cons_succ, List.getElem?_cons_zero]
          rfl
        · kernel_rfl
        · kernel_rfl
        · kernel_rfl
        · kernel_rfl
        · exact fun _ _ _ h => h
        · first
            | exact Or.inr ⟨by rfl, rfl⟩
            | (refine Or.inl ⟨by rfl, fun wq hwq => ?_⟩
               dsimp only at hwq
               go_simp
               first
                 | done
                 | rfl)
        · exact d0
        simp only [Act.put, List.setIfInBounds_toArray, List.set_cons_zero, List.set_cons_succ]
        apply Till.take (i := 8) [8, 11]
        · simp only [List.getElem?_toArray, List.getElem?_cons_succ, List.getElem?_cons_zero]
          rfl
        · kernel_rfl
        · kernel_rfl
        · kernel_rfl
        · kernel_rfl
        · exact fun _ _ _ h => h
        · first
            | exact Or.inr ⟨by rfl, rfl⟩
            | (refine Or.inl ⟨by rfl, fun wq hwq => ?_⟩
               dsimp only at hwq
               go_simp
               first
                 | done
                 | rfl)
        · exact d0
        simp only [Act.put, List.setIfInBounds_toArray, List.set_cons_zero, List.set_cons_succ]
        obtain ⟨wz, hwz⟩ : ∃ x, x = w4 := ⟨_, rfl⟩
        rw [← hwz] at HE HB HP d0 ⊢
        clear hwz
        obtain ⟨q0, q1, f0, f1⟩ := pcs HE.out
        obtain ⟨t1, t3⟩ := pst HE.out (.int .i64 n) (.int .i64 v)
        have hB9 := HB.out.grown t3 HB.out.size (fun k hk => by injection hk with hk; have := HLw.out; omega)
        have h9_HP := (t3.block _ (lt_of_block HP.out) (fun h => by injection h with h; have := HL_HP.out; omega)).trans HP.out
        have d9 := HSd.out _ h9_HP
        have T1 := Lib.hid t1
        have B9 := Lib.hid hB9
        have N_HP := Lib.hid h9_HP
        clear t1 t3 hB9 h9_HP
        apply Till.one (i := 10)
        · kernel_rfl
        · simp only [List.getElem?_toArray, List.getElem?_cons_succ, List.getElem?_cons_zero]
          rfl
        intro K hK
        go_simp
        skip
        refine hK.out _ _ (Or.inr d9) ?_
        clear hK K
        try simp only [Act.put, List.setIfInBounds_toArray, List.set_cons_zero, List.set_cons_succ]
        apply Till.one (i := 11)
        · kernel_rfl
        · simp only [List.getElem?_toArray, List.getElem?_cons_succ, List.getElem?_cons_zero]
          rfl
        intro K hK
        go_simp
        skip
        refine hK.out _ _ (Or.inl (by rfl)) ?_
        clear hK K
        try simp only [Act.put, List.setIfInBounds_toArray, List.set_cons_zero, List.set_cons_succ]
        refine Till.done (by kernel_rfl) ?_ _
        clear q0 f0 q1 f1 d9
        obtain ⟨wy, hwy⟩ : ∃ x, x = (wz.setCell ⟨E, 0, none⟩ (.int .i64 n)).setCell ⟨E, 1, none⟩ (.int .i64 v) := ⟨_, rfl⟩
        rw [← hwy] at T1 B9 N_HP ⊢
        clear hwy
        go_wp2_with fail
        go_meet
        case rel => exact ⟨E, _, rfl, rfl, rfl, T1.out, N_HP.out, B9.out⟩
    case rest =>
      obtain ⟨D10, W7, rfl, rfl, rfl, hT, hP, hb⟩ := hcut
      clear HP HB
      have HP := Lib.hid hP
      have HT := Lib.hid hT
      have HB := Lib.hid hb
      obtain ⟨c0, c1, -⟩ := pcs hT
      have enn : (n != n) = false := by simp
      clear hP hT hb
      go_wp2_with fail
      refine (impl_vt Ws.out Wn.out Wv.out).mono ?_
      rw [HVt.out]
      rintro e w3 ⟨rfl, hb⟩
      replace HP := Lib.hid ((hb.block _ (lt_of_block HP.out)).trans HP.out)
      replace HT := Lib.hid ((hb.block _ (lt_of_block HT.out)).trans HT.out)
      replace HB := Lib.hid (HB.out.trans (hb.mono HB.out.size))
      clear hb c0 c1 hot2
      have hot3 := HOt.out
      go_wp2_with fail
      clear hot3
      go_cut [14] (fun p wx => ∃ WW : World, WW = wx ∧ p = .bool q ∧ wx.heap[D10]? = some (.cells #[.int .i64 n, .int .i64 v] 51) ∧ wx.heap[D8]? = some (.cells #[.int .i64 ee, .int .i64 c, .int .i64 r] 47) ∧ Below w.heap.size w wx)
      case first =>
        refine region_till (fun w' => w'.cell? ⟨D8, 0, none⟩ = some (.int .i64 ee) ∧ w'.cell? ⟨D8, 1, none⟩ = some (.int .i64 c) ∧ w'.cell? ⟨D8, 2, none⟩ = some (.int .i64 r)) 11 (by kernel_rfl) ?_
        obtain ⟨wd, hwd⟩ : ∃ x, x = (w3).drew := ⟨_, rfl⟩
        have hb : Below (w3).heap.size (w3) wd := by rw [hwd]; exact (Below.refl _ _).drew
        replace HP := Lib.hid ((hb.block _ (lt_of_block HP.out)).trans HP.out)
        replace HT := Lib.hid ((hb.block _ (lt_of_block HT.out)).trans HT.out)
        replace HB := Lib.hid (HB.out.trans (hb.mono HB.out.size))
        clear hb
        have HSd : Hid (∀ w' : World, w'.heap[D8]? = some (.cells #[.int .i64 ee, .int .i64 c, .int .i64 r] 47) → w'.cell? ⟨D8, 0, none⟩ = some (.int .i64 ee) ∧ w'.cell? ⟨D8, 1, none⟩ = some (.int .i64 c) ∧ w'.cell? ⟨D8, 2, none⟩ = some (.int .i64 r)) := Lib.hid (fun w' h => by obtain ⟨h0, h1, h2, -⟩ := ptc h; exact ⟨h0, h1, h2⟩)
        have d0 := HSd.out _ HP.out
        rw [← hwd]
        clear hwd
        apply Till.take (i := 0) [0, 5, 6, 8, 11]
        · simp only [List.getElem?_toArray, List.getElem?_cons_zero]
          rfl
        · kernel_rfl
        · kernel_rfl
        · kernel_rfl
        · kernel_rfl
        · exact fun _ _ _ h => h
        · first
            | exact Or.inr ⟨by rfl, rfl⟩
            | (refine Or.inl ⟨by rfl, fun wq hwq => ?_⟩
               dsimp only at hwq
               go_simp
               first
                 | done
                 | rfl)
        · exact d0
        simp only [Act.put, List.setIfInBounds_toArray, List.set_cons_zero, List.set_cons_succ]
        apply Till.take (i := 1) [1, 5, 6, 8, 11]
        · simp only [List.getElem?_toArray, List.getElem?_cons_succ, List.getElem?_cons_zero]
          rfl
        · kernel_rfl
        · kernel_rfl
        · kernel_rfl
        · kernel_rfl
        · exact fun _ _ _ h => h
        · first
            | exact Or.inr ⟨by rfl, rfl⟩
            | (refine Or.inl ⟨by rfl, fun wq hwq => ?_⟩
               dsimp only at hwq
               go_simp
               first
                 | done
                 | rfl)
        · exact d0
        simp only [Act.put, List.setIfInBounds_toArray, List.set_cons_zero, List.set_cons_succ]
        apply Till.take (i := 2) [2, 3, 5, 6, 8, 11]
        · simp only [List.getElem?_toArray, List.getElem?_cons_succ, List.getElem?_cons_zero]
          rfl
        · kernel_rfl
        · kernel_rfl
        · kernel_rfl
        · kernel_rfl
        · exact fun _ _ _ h => h
        · first
            | exact Or.inr ⟨by rfl, rfl⟩
            | (refine Or.inl ⟨by rfl, fun wq hwq => ?_⟩
               dsimp only at hwq
               go_simp
               first
                 | done
                 | rfl)
        · exact d0
        simp only [Act.put, List.setIfInBounds_toArray, List.set_cons_zero, List.set_cons_succ]
        apply Till.take (i := 4) [4, 5, 6, 8, 11]
        · simp only [List.getElem?_toArray, List.getElem?_cons_succ, List.getElem?_cons_zero]
          rfl
        · kernel_rfl
        · kernel_rfl
        · kernel_rfl
        · kernel_rfl
        · exact fun _ _ _ h => h
        · first
            | exact Or.inr ⟨by rfl, rfl⟩
            | (refine Or.inl ⟨by rfl, fun wq hwq => ?_⟩
               dsimp only at hwq
               go_simp
               first
                 | done
                 | rfl)
        · exact d0
        simp only [Act.put, List.setIfInBounds_toArray, List.set_cons_zero, List.set_cons_succ]
        apply Till.two (i := 3) (j := 9)
        · kernel_rfl
        · simp only [List.getElem?_toArray, List.getElem?_cons_succ, List.getElem?_cons_zero]
          rfl
        · simp only [List.getElem?_toArray, List.getElem?_cons_succ, List.getElem?_cons_zero]
          rfl
        · intro K0 hK
          go_simp
          refine (impl_ik Wo.out).mono ?_
          rw [← HK2.out]
          rintro e' w3 ⟨he, hb⟩
          subst he
          replace HP := Lib.hid ((hb.block _ (lt_of_block HP.out)).trans HP.out)
          replace HT := Lib.hid ((hb.block _ (lt_of_block HT.out)).trans HT.out)
          replace HB := Lib.hid (HB.out.trans (hb.mono HB.out.size))
          clear hb
          clear d0
          have d0 := HSd.out _ HP.out
          refine hK.out _ _ (Or.inr d0) ?_
          clear hK K0
          try simp only [Act.put, List.setIfInBounds_toArray, List.set_cons_zero, List.set_cons_succ]
          apply Till.two (i := 5) (j := 9)
          · kernel_rfl
          · simp only [List.getElem?_toArray, List.getElem?_cons_succ, List.getElem?_cons_zero]
            rfl
          · simp only [List.getElem?_toArray, List.getElem?_cons_succ, List.getElem?_cons_zero]
            rfl
          · intro K0 hK
            go_simp
            refine (impl_fn Wn.out Wb.out Wk2.out We.out Wc.out Wr.out).mono ?_
            rw [← HQ.out, ← HS2.out, ← HV2.out]
            rintro e' w4 ⟨he, hb⟩
            subst he
            replace HP := Lib.hid ((hb.block _ (lt_of_block HP.out)).trans HP.out)
            replace HT := Lib.hid ((hb.block _ (lt_of_block HT.out)).trans HT.out)
            replace HB := Lib.hid (HB.out.trans (hb.mono HB.out.size))
            clear hb
            clear d0
            have d0 := HSd.out _ HP.out
            refine hK.out _ _ (Or.inr d0) ?_
            clear hK K0
            try simp only [Act.put, List.setIfInBounds_toArray, List.set_cons_zero, List.set_cons_succ]
            apply Till.take (i := 6) [6, 8, 11]
            · simp only [List.getElem?_toArray, List.getElem?_cons_succ, List.getElem?_cons_zero]
              rfl
            · kernel_rfl
            · kernel_rfl
            · kernel_rfl
            · kernel_rfl
            · exact fun _ _ _ h => h
            · first
                | exact Or.inr ⟨by rfl, rfl⟩
                | (refine Or.inl ⟨by rfl, fun wq hwq => ?_⟩
                   dsimp only at hwq
                   go_simp
                   first
                     | done
                     | rfl)
            · exact d0
            simp only [Act.put, List.setIfInBounds_toArray, List.set_cons_zero, List.set_cons_succ]
            apply Till.take (i := 7) [7, 10, 11]
            · simp only [List.getElem?_toArray, List.getElem?_cons_succ, List.getElem?_cons_zero]
              rfl
            · kernel_rfl
            · kernel_rfl
            · kernel_rfl
            · kernel_rfl
            · exact fun _ _ _ h => h
            · first
                | exact Or.inr ⟨by rfl, rfl⟩
                | (refine Or.inl ⟨by rfl, fun wq hwq => ?_⟩
                   dsimp only at hwq
                   go_simp
                   first
                     | done
                     | rfl)
            · exact d0
            simp only [Act.put, List.setIfInBounds_toArray, List.set_cons_zero, List.set_cons_succ]
            apply Till.take (i := 8) [8, 11]
            · simp only [List.getElem?_toArray, List.getElem?_cons_succ, List.getElem?_cons_zero]
              rfl
            · kernel_rfl
            · kernel_rfl
            · kernel_rfl
            · kernel_rfl
            · exact fun _ _ _ h => h
            · first
                | exact Or.inr ⟨by rfl, rfl⟩
                | (refine Or.inl ⟨by rfl, fun wq hwq => ?_⟩
                   dsimp only at hwq
                   go_simp
                   first
                     | done
                     | rfl)
            · exact d0
            simp only [Act.put, List.setIfInBounds_toArray, List.set_cons_zero, List.set_cons_succ]
            apply Till.one (i := 9)
            · kernel_rfl
            · simp only [List.getElem?_toArray, List.getElem?_cons_succ, List.getElem?_cons_zero]
              rfl
            intro K hK
            go_simp
            have hb : Below w4.heap.size w4 (w4.alloc (.cells #[.int .i64 0, .int .i64 0] 51)) := (Below.refl _ _).alloc (Nat.le_refl _) (.cells #[.int .i64 0, .int .i64 0] 51)
            have HEz := Lib.hid (heap_alloc_new w4 (.cells #[.int .i64 0, .int .i64 0] 51))
            have HL_HP := Lib.hid (lt_of_block HP.out)
            have HL_HT := Lib.hid (lt_of_block HT.out)
            have HLw := Lib.hid HB.out.size
            replace HP := Lib.hid ((hb.block _ (lt_of_block HP.out)).trans HP.out)
            replace HT := Lib.hid ((hb.block _ (lt_of_block HT.out)).trans HT.out)
            replace HB := Lib.hid (HB.out.trans (hb.mono HB.out.size))
            clear hb
            clear d0
            have d0 := HSd.out _ HP.out
            refine hK.out _ _ (Or.inr d0) ?_
            clear hK K
            try simp only [Act.put, List.setIfInBounds_toArray, List.set_cons_zero, List.set_cons_succ]
            obtain ⟨wa, hwa⟩ : ∃ x, x = w4.alloc (.cells #[.int .i64 0, .int .i64 0] 51) := ⟨_, rfl⟩
            obtain ⟨E, hE⟩ : ∃ x, x = w4.heap.size := ⟨_, rfl⟩
            rw [← hwa] at HEz HB HP HT d0 ⊢
            rw [← hE] at HEz HL_HP HL_HT HLw ⊢
            have HE := HEz
            clear hwa hE HEz
            obtain ⟨wz, hwz⟩ : ∃ x, x = wa := ⟨_, rfl⟩
            rw [← hwz] at HE HB HP HT d0 ⊢
            clear hwz
            obtain ⟨q0, q1, f0, f1⟩ := pcs HE.out
            obtain ⟨t1, t3⟩ := pst HE.out (.int .i64 S2) (.int .i64 V2)
            have hB9 := HB.out.grown t3 HB.out.size (fun k hk => by injection hk with hk; have := HLw.out; omega)
            have h9_HP := (t3.block _ (lt_of_block HP.out) (fun h => by injection h with h; have := HL_HP.out; omega)).trans HP.out
            have h9_HT := (t3.block _ (lt_of_block HT.out) (fun h => by injection h with h; have := HL_HT.out; omega)).trans HT.out
            have d9 := HSd.out _ h9_HP
            have T1 := Lib.hid t1
            have B9 := Lib.hid hB9
            have N_HP := Lib.hid h9_HP
            have N_HT := Lib.hid h9_HT
            clear t1 t3 hB9 h9_HP h9_HT
            apply Till.one (i := 10)
            · kernel_rfl
            · simp only [List.getElem?_toArray, List.getElem?_cons_succ, List.getElem?_cons_zero]
              rfl
            intro K hK
            go_simp
            skip
            refine hK.out _ _ (Or.inr d9) ?_
            clear hK K
            try simp only [Act.put, List.setIfInBounds_toArray, List.set_cons_zero, List.set_cons_succ]
            apply Till.one (i := 11)
            · kernel_rfl
            · simp only [List.getElem?_toArray, List.getElem?_cons_succ, List.getElem?_cons_zero]
              rfl
            intro K hK
            go_simp
            skip
            refine hK.out _ _ (Or.inl (by rfl)) ?_
            clear hK K
            try simp only [Act.put, List.setIfInBounds_toArray, List.set_cons_zero, List.set_cons_succ]
            refine Till.done (by kernel_rfl) ?_ _
            clear q0 f0 q1 f1 d9
            obtain ⟨wy, hwy⟩ : ∃ x, x = (wz.setCell ⟨E, 0, none⟩ (.int .i64 S2)).setCell ⟨E, 1, none⟩ (.int .i64 V2) := ⟨_, rfl⟩
            rw [← hwy] at T1 B9 N_HP N_HT ⊢
            clear hwy
            go_wp2_with fail
            go_meet
            case rel => exact ⟨_, rfl, rfl, N_HT.out, N_HP.out, B9.out⟩
          · intro K0 hK
            go_simp
            have hb : Below w3.heap.size w3 (w3.alloc (.cells #[.int .i64 0, .int .i64 0] 51)) := (Below.refl _ _).alloc (Nat.le_refl _) (.cells #[.int .i64 0, .int .i64 0] 51)
            have HEz := Lib.hid (heap_alloc_new w3 (.cells #[.int .i64 0, .int .i64 0] 51))
            have HL_HP := Lib.hid (lt_of_block HP.out)
            have HL_HT := Lib.hid (lt_of_block HT.out)
            have HLw := Lib.hid HB.out.size
            replace HP := Lib.hid ((hb.block _ (lt_of_block HP.out)).trans HP.out)
            replace HT := Lib.hid ((hb.block _ (lt_of_block HT.out)).trans HT.out)
            replace HB := Lib.hid (HB.out.trans (hb.mono HB.out.size))
            clear hb
            clear d0
            have d0 := HSd.out _ HP.out
            refine hK.out _ _ (Or.inr d0) ?_
            clear hK K0
            try simp only [Act.put, List.setIfInBounds_toArray, List.set_cons_zero, List.set_cons_succ]
            obtain ⟨wa, hwa⟩ : ∃ x, x = w3.alloc (.cells #[.int .i64 0, .int .i64 0] 51) := ⟨_, rfl⟩
            obtain ⟨E, hE⟩ : ∃ x, x = w3.heap.size := ⟨_, rfl⟩
            rw [← hwa] at HEz HB HP HT d0 ⊢
            rw [← hE] at HEz HL_HP HL_HT HLw ⊢
            have HE := HEz
            clear hwa hE HEz
            apply Till.one (i := 5)
            · kernel_rfl
            · simp only [List.getElem?_toArray, List.getElem?_cons_succ, List.getElem?_cons_zero]
              rfl
            intro K hK
            go_simp
            refine (impl_fn Wn.out Wb.out Wk2.out We.out Wc.out Wr.out).mono ?_
            rw [← HQ.out, ← HS2.out, ← HV2.out]
            rintro e' w4 ⟨he, hb⟩
            subst he
            replace HP := Lib.hid ((hb.block _ (lt_of_block HP.out)).trans HP.out)
            replace HT := Lib.hid ((hb.block _ (lt_of_block HT.out)).trans HT.out)
            replace HE := Lib.hid ((hb.block _ (lt_of_block HE.out)).trans HE.out)
            replace HB := Lib.hid (HB.out.trans (hb.mono HB.out.size))
            clear hb
            clear d0
            have d0 := HSd.out _ HP.out
            refine hK.out _ _ (Or.inr d0) ?_
            clear hK K
            try simp only [Act.put, List.setIfInBounds_toArray, List.set_cons_zero, List.set_cons_succ]
            apply Till.take (i := 6) [6, 8, 11]
            · simp only [List.getElem?_toArray, List.getElem?_cons_succ, List.getElem?_cons_zero]
              rfl
            · kernel_rfl
            · kernel_rfl
            · kernel_rfl
            · kernel_rfl
            · exact fun _ _ _ h => h
            · first
                | exact Or.inr ⟨by rfl, rfl⟩
                | (refine Or.inl ⟨by rfl, fun wq hwq => ?_⟩
                   dsimp only at hwq
                   go_simp
                   first
                     | done
                     | rfl)
            · exact d0
            simp only [Act.put, List.setIfInBounds_toArray, List.set_cons_zero, List.set_cons_succ]
            apply Till.take (i := 7) [7, 10, 11]
            · simp only [List.getElem?_toArray, List.getElem?_cons_succ, List.getElem?_cons_zero]
              rfl
            · kernel_rfl
            · kernel_rfl
            · kernel_rfl
            · kernel_rfl
            · exact fun _ _ _ h => h
            · first
                | exact Or.inr ⟨by rfl, rfl⟩
                | (refine Or.inl ⟨by rfl, fun wq hwq => ?_⟩
                   dsimp only at hwq
                   go_simp
                   first
                     | done
                     | rfl)
            · exact d0
            simp only [Act.put, List.setIfInBounds_toArray, List.set_cons_zero, List.set_cons_succ]
            apply Till.take (i := 8) [8, 11]
            · simp only [List.getElem?_toArray, List.getElem?_cons_succ, List.getElem?_cons_zero]
              rfl
            · kernel_rfl
            · kernel_rfl
            · kernel_rfl
            · kernel_rfl
            · exact fun _ _ _ h => h
            · first
                | exact Or.inr ⟨by rfl, rfl⟩
                | (refine Or.inl ⟨by rfl, fun wq hwq => ?_⟩
                   dsimp only at hwq
                   go_simp
                   first
                     | done
                     | rfl)
            · exact d0
            simp only [Act.put, List.setIfInBounds_toArray, List.set_cons_zero, List.set_cons_succ]
            obtain ⟨wz, hwz⟩ : ∃ x, x = w4 := ⟨_, rfl⟩
            rw [← hwz] at HE HB HP HT d0 ⊢
            clear hwz
            obtain ⟨q0, q1, f0, f1⟩ := pcs HE.out
            obtain ⟨t1, t3⟩ := pst HE.out (.int .i64 S2) (.int .i64 V2)
            have hB9 := HB.out.grown t3 HB.out.size (fun k hk => by injection hk with hk; have := HLw.out; omega)
            have h9_HP := (t3.block _ (lt_of_block HP.out) (fun h => by injection h with h; have := HL_HP.out; omega)).trans HP.out
            have h9_HT := (t3.block _ (lt_of_block HT.out) (fun h => by injection h with h; have := HL_HT.out; omega)).trans HT.out
            have d9 := HSd.out _ h9_HP
            have T1 := Lib.hid t1
            have B9 := Lib.hid hB9
            have N_HP := Lib.hid h9_HP
            have N_HT := Lib.hid h9_HT
            clear t1 t3 hB9 h9_HP h9_HT
            apply Till.one (i := 10)
            · kernel_rfl
            · simp only [List.getElem?_toArray, List.getElem?_cons_succ, List.getElem?_cons_zero]
              rfl
            intro K hK
            go_simp
            skip
            refine hK.out _ _ (Or.inr d9) ?_
            clear hK K
            try simp only [Act.put, List.setIfInBounds_toArray, List.set_cons_zero, List.set_cons_succ]
            apply Till.one (i := 11)
            · kernel_rfl
            · simp only [List.getElem?_toArray, List.getElem?_cons_succ, List.getElem?_cons_zero]
              rfl
            intro K hK
            go_simp
            skip
            refine hK.out _ _ (Or.inl (by rfl)) ?_
            clear hK K
            try simp only [Act.put, List.setIfInBounds_toArray, List.set_cons_zero, List.set_cons_succ]
            refine Till.done (by kernel_rfl) ?_ _
            clear q0 f0 q1 f1 d9
            obtain ⟨wy, hwy⟩ : ∃ x, x = (wz.setCell ⟨E, 0, none⟩ (.int .i64 S2)).setCell ⟨E, 1, none⟩ (.int .i64 V2) := ⟨_, rfl⟩
            rw [← hwy] at T1 B9 N_HP N_HT ⊢
            clear hwy
            go_wp2_with fail
            go_meet
            case rel => exact ⟨_, rfl, rfl, N_HT.out, N_HP.out, B9.out⟩
        · intro K0 hK
          go_simp
          have hb : Below wd.heap.size wd (wd.alloc (.cells #[.int .i64 0, .int .i64 0] 51)) := (Below.refl _ _).alloc (Nat.le_refl _) (.cells #[.int .i64 0, .int .i64 0] 51)
          have HEz := Lib.hid (heap_alloc_new wd (.cells #[.int .i64 0, .int .i64 0] 51))
          have HL_HP := Lib.hid (lt_of_block HP.out)
          have HL_HT := Lib.hid (lt_of_block HT.out)
          have HLw := Lib.hid HB.out.size
          replace HP := Lib.hid ((hb.block _ (lt_of_block HP.out)).trans HP.out)
          replace HT := Lib.hid ((hb.block _ (lt_of_block HT.out)).trans HT.out)
          replace HB := Lib.hid (HB.out.trans (hb.mono HB.out.size))
          clear hb
          clear d0
          have d0 := HSd.out _ HP.out
          refine hK.out _ _ (Or.inr d0) ?_
          clear hK K0
          try simp only [Act.put, List.setIfInBounds_toArray, List.set_cons_zero, List.set_cons_succ]
          obtain ⟨wa, hwa⟩ : ∃ x, x = wd.alloc (.cells #[.int .i64 0, .int .i64 0] 51) := ⟨_, rfl⟩
          obtain ⟨E, hE⟩ : ∃ x, x = wd.heap.size := ⟨_, rfl⟩
          rw [← hwa] at HEz HB HP HT d0 ⊢
          rw [← hE] at HEz HL_HP HL_HT HLw ⊢
          have HE := HEz
          clear hwa hE HEz
          apply Till.one (i := 3)
          · kernel_rfl
          · simp only [List.getElem?_toArray, List.getElem?_cons_succ, List.getElem?_cons_zero]
            rfl
          intro K hK
          go_simp
          refine (impl_ik Wo.out).mono ?_
          rw [← HK2.out]
          rintro e' w3 ⟨he, hb⟩
          subst he
          replace HP := Lib.hid ((hb.block _ (lt_of_block HP.out)).trans HP.out)
          replace HT := Lib.hid ((hb.block _ (lt_of_block HT.out)).trans HT.out)
          replace HE := Lib.hid ((hb.block _ (lt_of_block HE.out)).trans HE.out)
          replace HB := Lib.hid (HB.out.trans (hb.mono HB.out.size))
          clear hb
          clear d0
          have d0 := HSd.out _ HP.out
          refine hK.out _ _ (Or.inr d0) ?_
          clear hK K
          try simp only [Act.put, List.setIfInBounds_toArray, List.set_cons_zero, List.set_cons_succ]
          apply Till.one (i := 5)
          · kernel_rfl
          · simp only [List.getElem?_toArray, List.getElem?_cons_succ, List.getElem?_cons_zero]
            rfl
          intro K hK
          go_simp
          refine (impl_fn Wn.out Wb.out Wk2.out We.out Wc.out Wr.out).mono ?_
          rw [← HQ.out, ← HS2.out, ← HV2.out]
          rintro e' w4 ⟨he, hb⟩
          subst he
          replace HP := Lib.hid ((hb.block _ (lt_of_block HP.out)).trans HP.out)
          replace HT := Lib.hid ((hb.block _ (lt_of_block HT.out)).trans HT.out)
          replace HE := Lib.hid ((hb.block _ (lt_of_block HE.out)).trans HE.out)
          replace HB := Lib.hid (HB.out.trans (hb.mono HB.out.size))
          clear hb
          clear d0
          have d0 := HSd.out _ HP.out
          refine hK.out _ _ (Or.inr d0) ?_
          clear hK K
          try simp only [Act.put, List.setIfInBounds_toArray, List.set_cons_zero, List.set_cons_succ]
          apply Till.take (i := 6) [6, 8, 11]
          · simp only [List.getElem?_toArray, List.getElem?_cons_succ, List.getElem?_cons_zero]
            rfl
          · kernel_rfl
          · kernel_rfl
          · kernel_rfl
          · kernel_rfl
          · exact fun _ _ _ h => h
          · first
              | exact Or.inr ⟨by rfl, rfl⟩
              | (refine Or.inl ⟨by rfl, fun wq hwq => ?_⟩
                 dsimp only at hwq
                 go_simp
                 first
                   | done
                   | rfl)
          · exact d0
          simp only [Act.put, List.setIfInBounds_toArray, List.set_cons_zero, List.set_cons_succ]
          apply Till.take (i := 7) [7, 10, 11]
          · simp only [List.getElem?_toArray, List.getElem?_cons_succ, List.getElem?_cons_zero]
            rfl
          · kernel_rfl
          · kernel_rfl
          · kernel_rfl
          · kernel_rfl
          · exact fun _ _ _ h => h
          · first
              | exact Or.inr ⟨by rfl, rfl⟩
              | (refine Or.inl ⟨by rfl, fun wq hwq => ?_⟩
                 dsimp only at hwq
                 go_simp
                 first
                   | done
                   | rfl)
          · exact d0
          simp only [Act.put, List.setIfInBounds_toArray, List.set_cons_zero, List.set_cons_succ]
          apply Till.take (i := 8) [8, 11]
          · simp only [List.getElem?_toArray, List.getElem?_cons_succ, List.getElem?_cons_zero]
            rfl
          · kernel_rfl
          · kernel_rfl
          · kernel_rfl
          · kernel_rfl
          · exact fun _ _ _ h => h
          · first
              | exact Or.inr ⟨by rfl, rfl⟩
              | (refine Or.inl ⟨by rfl, fun wq hwq => ?_⟩
                 dsimp only at hwq
                 go_simp
                 first
                   | done
                   | rfl)
          · exact d0
          simp only [Act.put, List.setIfInBounds_toArray, List.set_cons_zero, List.set_cons_succ]
          obtain ⟨wz, hwz⟩ : ∃ x, x = w4 := ⟨_, rfl⟩
          rw [← hwz] at HE HB HP HT d0 ⊢
          clear hwz
          obtain ⟨q0, q1, f0, f1⟩ := pcs HE.out
          obtain ⟨t1, t3⟩ := pst HE.out (.int .i64 S2) (.int .i64 V2)
          have hB9 := HB.out.grown t3 HB.out.size (fun k hk => by injection hk with hk; have := HLw.out; omega)
          have h9_HP := (t3.block _ (lt_of_block HP.out) (fun h => by injection h with h; have := HL_HP.out; omega)).trans HP.out
          have h9_HT := (t3.block _ (lt_of_block HT.out) (fun h => by injection h with h; have := HL_HT.out; omega)).trans HT.out
          have d9 := HSd.out _ h9_HP
          have T1 := Lib.hid t1
          have B9 := Lib.hid hB9
          have N_HP := Lib.hid h9_HP
          have N_HT := Lib.hid h9_HT
          clear t1 t3 hB9 h9_HP h9_HT
          apply Till.one (i := 10)
          · kernel_rfl
          · simp only [List.getElem?_toArray, List.getElem?_cons_succ, List.getElem?_cons_zero]
            rfl
          intro K hK
          go_simp
          skip
          refine hK.out _ _ (Or.inr d9) ?_
          clear hK K
          try simp only [Act.put, List.setIfInBounds_toArray, List.set_cons_zero, List.set_cons_succ]
          apply Till.one (i := 11)
          · kernel_rfl
          · simp only [List.getElem?_toArray, List.getElem?_cons_succ, List.getElem?_cons_zero]
            rfl
          intro K hK
          go_simp
          skip
          refine hK.out _ _ (Or.inl (by rfl)) ?_
          clear hK K
          try simp only [Act.put, List.setIfInBounds_toArray, List.set_cons_zero, List.set_cons_succ]
          refine Till.done (by kernel_rfl) ?_ _
          clear q0 f0 q1 f1 d9
          obtain ⟨wy, hwy⟩ : ∃ x, x = (wz.setCell ⟨E, 0, none⟩ (.int .i64 S2)).setCell ⟨E, 1, none⟩ (.int .i64 V2) := ⟨_, rfl⟩
          rw [← hwy] at T1 B9 N_HP N_HT ⊢
          clear hwy
          go_wp2_with fail
          go_meet
          case rel => exact ⟨_, rfl, rfl, N_HT.out, N_HP.out, B9.out⟩
      case rest =>
        obtain ⟨W11, rfl, rfl, hT, hP, hb⟩ := hcut
        clear HP HT HB
        have hb2 := (Below.refl W11.heap.size W11).alloc (Nat.le_refl _) (.cells #[.int .i64 n, .int .i64 v] 51)
        have HP := Lib.hid ((hb2.block _ (lt_of_block hP)).trans hP)
        have HT := Lib.hid ((hb2.block _ (lt_of_block hT)).trans hT)
        have HU0 := Lib.hid (heap_alloc_new W11 (.cells #[.int .i64 n, .int .i64 v] 51))
        have HB := Lib.hid (hb.trans (hb2.mono hb.size))
        obtain ⟨c0, c1, -⟩ := pcs hT
        obtain ⟨i0, i1, -⟩ := pcs HT.out
        have HL8 := Lib.hid (lt_of_block hP)
        have HL10 := Lib.hid (lt_of_block hT)
        have HLw := Lib.hid hb.size
        clear hT hP hb hb2
        go_wp2_with fail
        obtain ⟨W12, hW12⟩ : ∃ W, W = W11.alloc (.cells #[.int .i64 n, .int .i64 v] 51) := ⟨_, rfl⟩
        obtain ⟨D15, hD15⟩ : ∃ D, D = W11.heap.size := ⟨_, rfl⟩
        rw [← hW12] at HP HT HU0 HB ⊢
        rw [← hD15] at HU0 HL8 HL10 HLw ⊢
        clear hW12 hD15 c0 c1 i0 i1
        refine (spec_mul Wv.out (by decide)).mono ?_
        rw [← HU.out]
        rintro e w4 ⟨rfl, hw⟩
        obtain rfl := hw.symm
        obtain ⟨i0, i1, f0, f1⟩ := pcs HU0.out
        have k9 : (W12.setCell ⟨D15, 1, none⟩ (.int .i64 u)).heap[D15]? = some (.cells #[.int .i64 n, .int .i64 u] 51) := blk_set HU0.out 1 (.int .i64 u)
        have g9 := grown_set W12 D15 1 (.int .i64 u)
        have HU1 := Lib.hid k9
        have HP1 := Lib.hid ((g9.block _ (lt_of_block HP.out) (fun h => by injection h with h; have := HL8.out; omega)).trans HP.out)
        have HT1 := Lib.hid ((g9.block _ (lt_of_block HT.out) (fun h => by injection h with h; have := HL10.out; omega)).trans HT.out)
        have HB1 := Lib.hid (HB.out.grown g9 HB.out.size (fun k hk => by injection hk with hk; have := HLw.out; omega))
        clear k9 g9 hw
        go_wp2_with fail
        obtain ⟨W13, hW13⟩ : ∃ W, W = W12.setCell ⟨D15, 1, none⟩ (.int .i64 u) := ⟨_, rfl⟩
        rw [← hW13] at HU1 HP1 HT1 HB1 ⊢
        clear hW13 i0 i1 f0 f1 HB HP HT HU0 HL8 HL10 HLw
        have HB := HB1
        have HP := HP1
        have HT := HT1
        have HV := HU1
        clear HB1 HP1 HT1 HU1
        go_cut [17] (fun p wx => ∃ WW : World, WW = wx ∧ p = .bool q ∧ wx.heap[D10]? = some (.cells #[.int .i64 n, .int .i64 v] 51) ∧ wx.heap[D15]? = some (.cells #[.int .i64 n, .int .i64 u] 51) ∧ Below w.heap.size w wx)
        case first =>
          refine region_till (fun w' => w'.cell? ⟨D8, 0, none⟩ = some (.int .i64 ee) ∧ w'.cell? ⟨D8, 1, none⟩ = some (.int .i64 c) ∧ w'.cell? ⟨D8, 2, none⟩ = some (.int .i64 r)) 11 (by kernel_rfl) ?_
          obtain ⟨wd, hwd⟩ : ∃ x, x = (W13).drew := ⟨_, rfl⟩
          have hb : Below (W13).heap.size (W13) wd := by rw [hwd]; exact (Below.refl _ _).drew
          replace HP := Lib.hid ((hb.block _ (lt_of_block HP.out)).trans HP.out)
          replace HT := Lib.hid ((hb.block _ (lt_of_block HT.out)).trans HT.out)
          replace HV := Lib.hid ((hb.block _ (lt_of_block HV.out)).trans HV.out)
          replace HB := Lib.hid (HB.out.trans (hb.mono HB.out.size))
          clear hb
          have HSd : Hid (∀ w' : World, w'.heap[D8]? = some (.cells #[.int .i64 ee, .int .i64 c, .int .i64 r] 47) → w'.cell? ⟨D8, 0, none⟩ = some (.int .i64 ee) ∧ w'.cell? ⟨D8, 1, none⟩ = some (.int .i64 c) ∧ w'.cell? ⟨D8, 2, none⟩ = some (.int .i64 r)) := Lib.hid (fun w' h => by obtain ⟨h0, h1, h2, -⟩ := ptc h; exact ⟨h0, h1, h2⟩)
          have d0 := HSd.out _ HP.out
          rw [← hwd]
          clear hwd
          apply Till.take (i := 0) [0, 5, 6, 8, 11]
          · simp only [List.getElem?_toArray, List.getElem?_cons_zero]
            rfl
          · kernel_rfl
          · kernel_rfl
          · kernel_rfl
          · kernel_rfl
          · exact fun _ _ _ h => h
          · first
              | exact Or.inr ⟨by rfl, rfl⟩
              | (refine Or.inl ⟨by rfl, fun wq hwq => ?_⟩
                 dsimp only at hwq
                 go_simp
                 first
                   | done
                   | rfl)
          · exact d0
          simp only [Act.put, List.setIfInBounds_toArray, List.set_cons_zero, List.set_cons_succ]
          apply Till.take (i := 1) [1, 5, 6, 8, 11]
          · simp only [List.getElem?_toArray, List.getElem?_cons_succ, List.getElem?_cons_zero]
            rfl
          · kernel_rfl
          · kernel_rfl
          · kernel_rfl
          · kernel_rfl
          · exact fun _ _ _ h => h
          · first
              | exact Or.inr ⟨by rfl, rfl⟩
              | (refine Or.inl ⟨by rfl, fun wq hwq => ?_⟩
                 dsimp only at hwq
                 go_simp
                 first
                   | done
                   | rfl)
          · exact d0
          simp only [Act.put, List.setIfInBounds_toArray, List.set_cons_zero, List.set_cons_succ]
          apply Till.take (i := 2) [2, 3, 5, 6, 8, 11]
          · simp only [List.getElem?_toArray, List.getElem?_cons_succ, List.getElem?_cons_zero]
            rfl
          · kernel_rfl
          · kernel_rfl
          · kernel_rfl
          · kernel_rfl
          · exact fun _ _ _ h => h
          · first
              | exact Or.inr ⟨by rfl, rfl⟩
              | (refine Or.inl ⟨by rfl, fun wq hwq => ?_⟩
                 dsimp only at hwq
                 go_simp
                 first
                   | done
                   | rfl)
          · exact d0
          simp only [Act.put, List.setIfInBounds_toArray, List.set_cons_zero, List.set_cons_succ]
          apply Till.take (i := 4) [4, 5, 6, 8, 11]
          · simp only [List.getElem?_toArray, List.getElem?_cons_succ, List.getElem?_cons_zero]
            rfl
          · kernel_rfl
          · kernel_rfl
          · kernel_rfl
          · kernel_rfl
          · exact fun _ _ _ h => h
          · first
              | exact Or.inr ⟨by rfl, rfl⟩
              | (refine Or.inl ⟨by rfl, fun wq hwq => ?_⟩
                 dsimp only at hwq
                 go_simp
                 first
                   | done
                   | rfl)
          · exact d0
          simp only [Act.put, List.setIfInBounds_toArray, List.set_cons_zero, List.set_cons_succ]
          apply Till.two (i := 3) (j := 9)
          · kernel_rfl
          · simp only [List.getElem?_toArray, List.getElem?_cons_succ, List.getElem?_cons_zero]
            rfl
          · simp only [List.getElem?_toArray, List.getElem?_cons_succ, List.getElem?_cons_zero]
            rfl
          · intro K0 hK
            go_simp
            refine (spec_ik Wo.out).mono ?_
            rw [← HK2.out]
            rintro e' w3 ⟨he, hw⟩
            subst he
            obtain rfl := hw.symm
            refine hK.out _ _ (Or.inr d0) ?_
            clear hK K0
            try simp only [Act.put, List.setIfInBounds_toArray, List.set_cons_zero, List.set_cons_succ]
            apply Till.two (i := 5) (j := 9)
            · kernel_rfl
            · simp only [List.getElem?_toArray, List.getElem?_cons_succ, List.getElem?_cons_zero]
              rfl
            · simp only [List.getElem?_toArray, List.getElem?_cons_succ, List.getElem?_cons_zero]
              rfl
            · intro K0 hK
              go_simp
              refine (spec_fn Wn.out Wb.out Wk2.out We.out Wc.out Wr.out).mono ?_
              rw [← HQ.out, ← HS2.out, ← HV2.out]
              rintro e' w4 ⟨he, hb⟩
              subst he
              replace HP := Lib.hid ((hb.block _ (lt_of_block HP.out)).trans HP.out)
              replace HT := Lib.hid ((hb.block _ (lt_of_block HT.out)).trans HT.out)
              replace HV := Lib.hid ((hb.block _ (lt_of_block HV.out)).trans HV.out)
              replace HB := Lib.hid (HB.out.trans (hb.mono HB.out.size))
              clear hb
              clear d0
              have d0 := HSd.out _ HP.out
              refine hK.out _ _ (Or.inr d0) ?_
              clear hK K0
              try simp only [Act.put, List.setIfInBounds_toArray, List.set_cons_zero, List.set_cons_succ]
              apply Till.take (i := 6) [6, 8, 11]
              · simp only [List.getElem?_toArray, List.getElem?_cons_succ, List.getElem?_cons_zero]
                rfl
              · kernel_rfl
              · kernel_rfl
              · kernel_rfl
              · kernel_rfl
              · exact fun _ _ _ h => h
              · first
                  | exact Or.inr ⟨by rfl, rfl⟩
                  | (refine Or.inl ⟨by rfl, fun wq hwq => ?_⟩
                     dsimp only at hwq
                     go_simp
                     first
                       | done
                       | rfl)
              · exact d0
              simp only [Act.put, List.setIfInBounds_toArray, List.set_cons_zero, List.set_cons_succ]
              apply Till.take (i := 7) [7, 10, 11]
              · simp only [List.getElem?_toArray, List.getElem?_cons_succ, List.getElem?_cons_zero]
                rfl
              · kernel_rfl
              · kernel_rfl
              · kernel_rfl
              · kernel_rfl
              · exact fun _ _ _ h => h
              · first
                  | exact Or.inr ⟨by rfl, rfl⟩
                  | (refine Or.inl ⟨by rfl, fun wq hwq => ?_⟩
                     dsimp only at hwq
                     go_simp
                     first
                       | done
                       | rfl)
              · exact d0
              simp only [Act.put, List.setIfInBounds_toArray, List.set_cons_zero, List.set_cons_succ]
              apply Till.take (i := 8) [8, 11]
              · simp only [List.getElem?_toArray, List.getElem?_cons_succ, List.getElem?_cons_zero]
                rfl
              · kernel_rfl
              · kernel_rfl
              · kernel_rfl
              · kernel_rfl
              · exact fun _ _ _ h => h
              · first
                  | exact Or.inr ⟨by rfl, rfl⟩
                  | (refine Or.inl ⟨by rfl, fun wq hwq => ?_⟩
                     dsimp only at hwq
                     go_simp
                     first
                       | done
                       | rfl)
              · exact d0
              simp only [Act.put, List.setIfInBounds_toArray, List.set_cons_zero, List.set_cons_succ]
              apply Till.one (i := 9)
              · kernel_rfl
              · simp only [List.getElem?_toArray, List.getElem?_cons_succ, List.getElem?_cons_zero]
                rfl
              intro K hK
              go_simp
              have hb : Below w4.heap.size w4 (w4.alloc (.cells #[.int .i64 0, .int .i64 0] 51)) := (Below.refl _ _).alloc (Nat.le_refl _) (.cells #[.int .i64 0, .int .i64 0] 51)
              have HEz := Lib.hid (heap_alloc_new w4 (.cells #[.int .i64 0, .int .i64 0] 51))
              have HL_HP := Lib.hid (lt_of_block HP.out)
              have HL_HT := Lib.hid (lt_of_block HT.out)
              have HL_HV := Lib.hid (lt_of_block HV.out)
              have HLw := Lib.hid HB.out.size
              replace HP := Lib.hid ((hb.block _ (lt_of_block HP.out)).trans HP.out)
              replace HT := Lib.hid ((hb.block _ (lt_of_block HT.out)).trans HT.out)
              replace HV := Lib.hid ((hb.block _ (lt_of_block HV.out)).trans HV.out)
              replace HB := Lib.hid (HB.out.trans (hb.mono HB.out.size))
              clear hb
              clear d0
              have d0 := HSd.out _ HP.out
              refine hK.out _ _ (Or.inr d0) ?_
              clear hK K
              try simp only [Act.put, List.setIfInBounds_toArray, List.set_cons_zero, List.set_cons_succ]
              obtain ⟨wa, hwa⟩ : ∃ x, x = w4.alloc (.cells #[.int .i64 0, .int .i64 0] 51) := ⟨_, rfl⟩
              obtain ⟨E, hE⟩ : ∃ x, x = w4.heap.size := ⟨_, rfl⟩
              rw [← hwa] at HEz HB HP HT HV d0 ⊢
              rw [← hE] at HEz HL_HP HL_HT HL_HV HLw ⊢
              have HE := HEz
              clear hwa hE HEz
              obtain ⟨wz, hwz⟩ : ∃ x, x = wa := ⟨_, rfl⟩
              rw [← hwz] at HE HB HP HT HV d0 ⊢
              clear hwz
              obtain ⟨q0, q1, f0, f1⟩ := pcs HE.out
              obtain ⟨t1, t3⟩ := pst HE.out (.int .i64 S2) (.int .i64 V2)
              have hB9 := HB.out.grown t3 HB.out.size (fun k hk => by injection hk with hk; have := HLw.out; omega)
              have h9_HP := (t3.block _ (lt_of_block HP.out) (fun h => by injection h with h; have := HL_HP.out; omega)).trans HP.out
              have h9_HT := (t3.block _ (lt_of_block HT.out) (fun h => by injection h with h; have := HL_HT.out; omega)).trans HT.out
              have h9_HV := (t3.block _ (lt_of_block HV.out) (fun h => by injection h with h; have := HL_HV.out; omega)).trans HV.out
              have d9 := HSd.out _ h9_HP
              have T1 := Lib.hid t1
              have B9 := Lib.hid hB9
              have N_HP := Lib.hid h9_HP
              have N_HT := Lib.hid h9_HT
              have N_HV := Lib.hid h9_HV
              clear t1 t3 hB9 h9_HP h9_HT h9_HV
              apply Till.one (i := 10)
              · kernel_rfl
              · simp only [List.getElem?_toArray, List.getElem?_cons_succ, List.getElem?_cons_zero]
                rfl
              intro K hK
              go_simp
              skip
              refine hK.out _ _ (Or.inr d9) ?_
              clear hK K
              try simp only [Act.put, List.setIfInBounds_toArray, List.set_cons_zero, List.set_cons_succ]
              apply Till.one (i := 11)
              · kernel_rfl
              · simp only [List.getElem?_toArray, List.getElem?_cons_succ, List.getElem?_cons_zero]
                rfl
              intro K hK
              go_simp
              skip
              refine hK.out _ _ (Or.inl (by rfl)) ?_
              clear hK K
              try simp only [Act.put, List.setIfInBounds_toArray, List.set_cons_zero, List.set_cons_succ]
              refine Till.done (by kernel_rfl) ?_ _
              clear q0 f0 q1 f1 d9
              obtain ⟨wy, hwy⟩ : ∃ x, x = (wz.setCell ⟨E, 0, none⟩ (.int .i64 S2)).setCell ⟨E, 1, none⟩ (.int .i64 V2) := ⟨_, rfl⟩
              rw [← hwy] at T1 B9 N_HP N_HT N_HV ⊢
              clear hwy
              go_wp2_with fail
              go_meet
              case rel => exact ⟨_, rfl, rfl, N_HT.out, N_HV.out, B9.out⟩
            · intro K0 hK
              go_simp
              have hb : Below wd.heap.size wd (wd.alloc (.cells #[.int .i64 0, .int .i64 0] 51)) := (Below.refl _ _).alloc (Nat.le_refl _) (.cells #[.int .i64 0, .int .i64 0] 51)
              have HEz := Lib.hid (heap_alloc_new wd (.cells #[.int .i64 0, .int .i64 0] 51))
              have HL_HP := Lib.hid (lt_of_block HP.out)
              have HL_HT := Lib.hid (lt_of_block HT.out)
              have HL_HV := Lib.hid (lt_of_block HV.out)
              have HLw := Lib.hid HB.out.size
              replace HP := Lib.hid ((hb.block _ (lt_of_block HP.out)).trans HP.out)
              replace HT := Lib.hid ((hb.block _ (lt_of_block HT.out)).trans HT.out)
              replace HV := Lib.hid ((hb.block _ (lt_of_block HV.out)).trans HV.out)
              replace HB := Lib.hid (HB.out.trans (hb.mono HB.out.size))
              clear hb
              clear d0
              have d0 := HSd.out _ HP.out
              refine hK.out _ _ (Or.inr d0) ?_
              clear hK K0
              try simp only [Act.put, List.setIfInBounds_toArray, List.set_cons_zero, List.set_cons_succ]
              obtain ⟨wa, hwa⟩ : ∃ x, x = wd.alloc (.cells #[.int .i64 0, .int .i64 0] 51) := ⟨_, rfl⟩
              obtain ⟨E, hE⟩ : ∃ x, x = wd.heap.size := ⟨_, rfl⟩
              rw [← hwa] at HEz HB HP HT HV d0 ⊢
              rw [← hE] at HEz HL_HP HL_HT HL_HV HLw ⊢
              have HE := HEz
              clear hwa hE HEz
              apply Till.one (i := 5)
              · kernel_rfl
              · simp only [List.getElem?_toArray, List.getElem?_cons_succ, List.getElem?_cons_zero]
                rfl
              intro K hK
              go_simp
              refine (spec_fn Wn.out Wb.out Wk2.out We.out Wc.out Wr.out).mono ?_
              rw [← HQ.out, ← HS2.out, ← HV2.out]
              rintro e' w4 ⟨he, hb⟩
              subst he
              replace HP := Lib.hid ((hb.block _ (lt_of_block HP.out)).trans HP.out)
              replace HT := Lib.hid ((hb.block _ (lt_of_block HT.out)).trans HT.out)
              replace HV := Lib.hid ((hb.block _ (lt_of_block HV.out)).trans HV.out)
              replace HE := Lib.hid ((hb.block _ (lt_of_block HE.out)).trans HE.out)
              replace HB := Lib.hid (HB.out.trans (hb.mono HB.out.size))
              clear hb
              clear d0
              have d0 := HSd.out _ HP.out
              refine hK.out _ _ (Or.inr d0) ?_
              clear hK K
              try simp only [Act.put, List.setIfInBounds_toArray, List.set_cons_zero, List.set_cons_succ]
              apply Till.take (i := 6) [6, 8, 11]
              · simp only [List.getElem?_toArray, List.getElem?_cons_succ, List.getElem?_cons_zero]
                rfl
              · kernel_rfl
              · kernel_rfl
              · kernel_rfl
              · kernel_rfl
              · exact fun _ _ _ h => h
              · first
                  | exact Or.inr ⟨by rfl, rfl⟩
                  | (refine Or.inl ⟨by rfl, fun wq hwq => ?_⟩
                     dsimp only at hwq
                     go_simp
                     first
                       | done
                       | rfl)
              · exact d0
              simp only [Act.put, List.setIfInBounds_toArray, List.set_cons_zero, List.set_cons_succ]
              apply Till.take (i := 7) [7, 10, 11]
              · simp only [List.getElem?_toArray, List.getElem?_cons_succ, List.getElem?_cons_zero]
                rfl
              · kernel_rfl
              · kernel_rfl
              · kernel_rfl
              · kernel_rfl
              · exact fun _ _ _ h => h
              · first
                  | exact Or.inr ⟨by rfl, rfl⟩
                  | (refine Or.inl ⟨by rfl, fun wq hwq => ?_⟩
                     dsimp only at hwq
                     go_simp
                     first
                       | done
                       | rfl)
              · exact d0
              simp only [Act.put, List.setIfInBounds_toArray, List.set_cons_zero, List.set_cons_succ]
              apply Till.take (i := 8) [8, 11]
              · simp only [List.getElem?_toArray, List.getElem?_cons_succ, List.getElem?_cons_zero]
                rfl
              · kernel_rfl
              · kernel_rfl
              · kernel_rfl
              · kernel_rfl
              · exact fun _ _ _ h => h
              · first
                  | exact Or.inr ⟨by rfl, rfl⟩
                  | (refine Or.inl ⟨by rfl, fun wq hwq => ?_⟩
                     dsimp only at hwq
                     go_simp
                     first
                       | done
                       | rfl)
              · exact d0
              simp only [Act.put, List.setIfInBounds_toArray, List.set_cons_zero, List.set_cons_succ]
              obtain ⟨wz, hwz⟩ : ∃ x, x = w4 := ⟨_, rfl⟩
              rw [← hwz] at HE HB HP HT HV d0 ⊢
              clear hwz
              obtain ⟨q0, q1, f0, f1⟩ := pcs HE.out
              obtain ⟨t1, t3⟩ := pst HE.out (.int .i64 S2) (.int .i64 V2)
              have hB9 := HB.out.grown t3 HB.out.size (fun k hk => by injection hk with hk; have := HLw.out; omega)
              have h9_HP := (t3.block _ (lt_of_block HP.out) (fun h => by injection h with h; have := HL_HP.out; omega)).trans HP.out
              have h9_HT := (t3.block _ (lt_of_block HT.out) (fun h => by injection h with h; have := HL_HT.out; omega)).trans HT.out
              have h9_HV := (t3.block _ (lt_of_block HV.out) (fun h => by injection h with h; have := HL_HV.out; omega)).trans HV.out
              have d9 := HSd.out _ h9_HP
              have T1 := Lib.hid t1
              have B9 := Lib.hid hB9
              have N_HP := Lib.hid h9_HP
              have N_HT := Lib.hid h9_HT
              have N_HV := Lib.hid h9_HV
              clear t1 t3 hB9 h9_HP h9_HT h9_HV
              apply Till.one (i := 10)
              · kernel_rfl
              · simp only [List.getElem?_toArray, List.getElem?_cons_succ, List.getElem?_cons_zero]
                rfl
              intro K hK
              go_simp
              skip
              refine hK.out _ _ (Or.inr d9) ?_
              clear hK K
              try simp only [Act.put, List.setIfInBounds_toArray, List.set_cons_zero, List.set_cons_succ]
              apply Till.one (i := 11)
              · kernel_rfl
              · simp only [List.getElem?_toArray, List.getElem?_cons_succ, List.getElem?_cons_zero]
                rfl
              intro K hK
              go_simp
              skip
              refine hK.out _ _ (Or.inl (by rfl)) ?_
              clear hK K
              try simp only [Act.put, List.setIfInBounds_toArray, List.set_cons_zero, List.set_cons_succ]
              refine Till.done (by kernel_rfl) ?_ _
              clear q0 f0 q1 f1 d9
              obtain ⟨wy, hwy⟩ : ∃ x, x = (wz.setCell ⟨E, 0, none⟩ (.int .i64 S2)).setCell ⟨E, 1, none⟩ (.int .i64 V2) := ⟨_, rfl⟩
              rw [← hwy] at T1 B9 N_HP N_HT N_HV ⊢
              clear hwy
              go_wp2_with fail
              go_meet
              case rel => exact ⟨_, rfl, rfl, N_HT.out, N_HV.out, B9.out⟩
          · intro K0 hK
            go_simp
            have hb : Below wd.heap.size wd (wd.alloc (.cells #[.int .i64 0, .int .i64 0] 51)) := (Below.refl _ _).alloc (Nat.le_refl _) (.cells #[.int .i64 0, .int .i64 0] 51)
            have HEz := Lib.hid (heap_alloc_new wd (.cells #[.int .i64 0, .int .i64 0] 51))
            have HL_HP := Lib.hid (lt_of_block HP.out)
            have HL_HT := Lib.hid (lt_of_block HT.out)
            have HL_HV := Lib.hid (lt_of_block HV.out)
            have HLw := Lib.hid HB.out.size
            replace HP := Lib.hid ((hb.block _ (lt_of_block HP.out)).trans HP.out)
            replace HT := Lib.hid ((hb.block _ (lt_of_block HT.out)).trans HT.out)
            replace HV := Lib.hid ((hb.block _ (lt_of_block HV.out)).trans HV.out)
            replace HB := Lib.hid (HB.out.trans (hb.mono HB.out.size))
            clear hb
            clear d0
            have d0 := HSd.out _ HP.out
            refine hK.out _ _ (Or.inr d0) ?_
            clear hK K0
            try simp only [Act.put, List.setIfInBounds_toArray, List.set_cons_zero, List.set_cons_succ]
            obtain ⟨wa, hwa⟩ : ∃ x, x = wd.alloc (.cells #[.int .i64 0, .int .i64 0] 51) := ⟨_, rfl⟩
            obtain ⟨E, hE⟩ : ∃ x, x = wd.heap.size := ⟨_, rfl⟩
            rw [← hwa] at HEz HB HP HT HV d0 ⊢
            rw [← hE] at HEz HL_HP HL_HT HL_HV HLw ⊢
            have HE := HEz
            clear hwa hE HEz
            apply Till.one (i := 3)
            · kernel_rfl
            · simp only [List.getElem?_toArray, List.getElem?_cons_succ, List.getElem?_cons_zero]
              rfl
            intro K hK
            go_simp
            refine (spec_ik Wo.out).mono ?_
            rw [← HK2.out]
            rintro e' w3 ⟨he, hw⟩
            subst he
            obtain rfl := hw.symm
            refine hK.out _ _ (Or.inr d0) ?_
            clear hK K
            try simp only [Act.put, List.setIfInBounds_toArray, List.set_cons_zero, List.set_cons_succ]
            apply Till.one (i := 5)
            · kernel_rfl
            · simp only [List.getElem?_toArray, List.getElem?_cons_succ, List.getElem?_cons_zero]
              rfl
            intro K hK
            go_simp
            refine (spec_fn Wn.out Wb.out Wk2.out We.out Wc.out Wr.out).mono ?_
            rw [← HQ.out, ← HS2.out, ← HV2.out]
            rintro e' w4 ⟨he, hb⟩
            subst he
            replace HP := Lib.hid ((hb.block _ (lt_of_block HP.out)).trans HP.out)
            replace HT := Lib.hid ((hb.block _ (lt_of_block HT.out)).trans HT.out)
            replace HV := Lib.hid ((hb.block _ (lt_of_block HV.out)).trans HV.out)
            replace HE := Lib.hid ((hb.block _ (lt_of_block HE.out)).trans HE.out)
            replace HB := Lib.hid (HB.out.trans (hb.mono HB.out.size))
            clear hb
            clear d0
            have d0 := HSd.out _ HP.out
            refine hK.out _ _ (Or.inr d0) ?_
            clear hK K
            try simp only [Act.put, List.setIfInBounds_toArray, List.set_cons_zero, List.set_cons_succ]
            apply Till.take (i := 6) [6, 8, 11]
            · simp only [List.getElem?_toArray, List.getElem?_cons_succ, List.getElem?_cons_zero]
              rfl
            · kernel_rfl
            · kernel_rfl
            · kernel_rfl
            · kernel_rfl
            · exact fun _ _ _ h => h
            · first
                | exact Or.inr ⟨by rfl, rfl⟩
                | (refine Or.inl ⟨by rfl, fun wq hwq => ?_⟩
                   dsimp only at hwq
                   go_simp
                   first
                     | done
                     | rfl)
            · exact d0
            simp only [Act.put, List.setIfInBounds_toArray, List.set_cons_zero, List.set_cons_succ]
            apply Till.take (i := 7) [7, 10, 11]
            · simp only [List.getElem?_toArray, List.getElem?_cons_succ, List.getElem?_cons_zero]
              rfl
            · kernel_rfl
            · kernel_rfl
            · kernel_rfl
            · kernel_rfl
            · exact fun _ _ _ h => h
            · first
                | exact Or.inr ⟨by rfl, rfl⟩
                | (refine Or.inl ⟨by rfl, fun wq hwq => ?_⟩
                   dsimp only at hwq
                   go_simp
                   first
                     | done
                     | rfl)
            · exact d0
            simp only [Act.put, List.setIfInBounds_toArray, List.set_cons_zero, List.set_cons_succ]
            apply Till.take (i := 8) [8, 11]
            · simp only [List.getElem?_toArray, List.getElem?_cons_succ, List.getElem?_cons_zero]
              rfl
            · kernel_rfl
            · kernel_rfl
            · kernel_rfl
            · kernel_rfl
            · exact fun _ _ _ h => h
            · first
                | exact Or.inr ⟨by rfl, rfl⟩
                | (refine Or.inl ⟨by rfl, fun wq hwq => ?_⟩
                   dsimp only at hwq
                   go_simp
                   first
                     | done
                     | rfl)
            · exact d0
            simp only [Act.put, List.setIfInBounds_toArray, List.set_cons_zero, List.set_cons_succ]
            obtain ⟨wz, hwz⟩ : ∃ x, x = w4 := ⟨_, rfl⟩
            rw [← hwz] at HE HB HP HT HV d0 ⊢
            clear hwz
            obtain ⟨q0, q1, f0, f1⟩ := pcs HE.out
            obtain ⟨t1, t3⟩ := pst HE.out (.int .i64 S2) (.int .i64 V2)
            have hB9 := HB.out.grown t3 HB.out.size (fun k hk => by injection hk with hk; have := HLw.out; omega)
            have h9_HP := (t3.block _ (lt_of_block HP.out) (fun h => by injection h with h; have := HL_HP.out; omega)).trans HP.out
            have h9_HT := (t3.block _ (lt_of_block HT.out) (fun h => by injection h with h; have := HL_HT.out; omega)).trans HT.out
            have h9_HV := (t3.block _ (lt_of_block HV.out) (fun h => by injection h with h; have := HL_HV.out; omega)).trans HV.out
            have d9 := HSd.out _ h9_HP
            have T1 := Lib.hid t1
            have B9 := Lib.hid hB9
            have N_HP := Lib.hid h9_HP
            have N_HT := Lib.hid h9_HT
            have N_HV := Lib.hid h9_HV
            clear t1 t3 hB9 h9_HP h9_HT h9_HV
            apply Till.one (i := 10)
            · kernel_rfl
            · simp only [List.getElem?_toArray, List.getElem?_cons_succ, List.getElem?_cons_zero]
              rfl
            intro K hK
            go_simp
            skip
            refine hK.out _ _ (Or.inr d9) ?_
            clear hK K
            try simp only [Act.put, List.setIfInBounds_toArray, List.set_cons_zero, List.set_cons_succ]
            apply Till.one (i := 11)
            · kernel_rfl
            · simp only [List.getElem?_toArray, List.getElem?_cons_succ, List.getElem?_cons_zero]
              rfl
            intro K hK
            go_simp
            skip
            refine hK.out _ _ (Or.inl (by rfl)) ?_
            clear hK K
            try simp only [Act.put, List.setIfInBounds_toArray, List.set_cons_zero, List.set_cons_succ]
            refine Till.done (by kernel_rfl) ?_ _
            clear q0 f0 q1 f1 d9
            obtain ⟨wy, hwy⟩ : ∃ x, x = (wz.setCell ⟨E, 0, none⟩ (.int .i64 S2)).setCell ⟨E, 1, none⟩ (.int .i64 V2) := ⟨_, rfl⟩
            rw [← hwy] at T1 B9 N_HP N_HT N_HV ⊢
            clear hwy
            go_wp2_with fail
            go_meet
            case rel => exact ⟨_, rfl, rfl, N_HT.out, N_HV.out, B9.out⟩
        case rest =>
          obtain ⟨W14, rfl, rfl, hT, hV, hb⟩ := hcut
          clear HP HT HB HV
          have HW : Hid (TwoW w D10 D15 n v u W14.drew) := Lib.hid ⟨hb.drew, hT, hV⟩
          clear hT hV hb
          go_wp2_with fail
          clear HQ
          cases q with
          | true =>
           refine region_quiet_c (C := TwoW w D10 D15 n v u) (by kernel_rfl) (by kernel_rfl) HW.out ?_
           repeat (first
             | go_big_quiet_skip
             | (apply quiet_on
                · kernel_rfl
                · intro wq hq
                  obtain ⟨c0, c1, -⟩ := pcs hq.2.1
                  obtain ⟨i0, i1, -⟩ := pcs hq.2.2
                  go_simp
                  first
                    | done
                    | (go_at_call_of 32 sc
                       refine (impl_vt Ws.out Wn.out Wu.out).mono ?_
                       rintro e' w7 ⟨he, hb⟩
                       rw [HVu.out] at he
                       exact ⟨he, hq.next hb⟩)
                    | (go_at_call_of 32 ot
                       refine (impl_vt Wo.out Wn.out Wv.out).mono ?_
                       rintro e' w7 ⟨he, hb⟩
                       rw [HVo.out] at he
                       exact ⟨he, hq.next hb⟩)
                    | (go_at_call 36
                       refine (impl_ft Wn.out Wv.out (tab_behind HTab.out hq.1)).mono ?_
                       rintro e' w7 ⟨he, hb⟩
                       rw [← HFm.out] at he
                       exact ⟨he, hq.next hb⟩)
                    | (go_at_call 37
                       refine (spec_ft Wn.out Wv.out).mono ?_
                       rintro e' w7 ⟨he, hb⟩
                       rw [← HFm.out] at he
                       exact ⟨he, hq.next hb⟩)
                    | rfl
                    | exact ⟨rfl, hq⟩
                simp only [Act.put, List.setIfInBounds_toArray, List.set_cons_zero, List.set_cons_succ]))
           refine wpQuiet_nil ?_
           intro w7 hq
           have HW7 := Lib.hid hq
           clear hq
           go_wp2_with fail
           go_ret
           exact ⟨rfl, HW7.out.1⟩
          | false =>
           refine region_quiet_c (C := TwoW w D10 D15 n v u) (by kernel_rfl) (by kernel_rfl) HW.out ?_
           repeat (first
             | go_big_quiet_skip
             | (apply quiet_on
                · kernel_rfl
                · intro wq hq
                  obtain ⟨c0, c1, -⟩ := pcs hq.2.1
                  obtain ⟨i0, i1, -⟩ := pcs hq.2.2
                  go_simp
                  first
                    | done
                    | (go_at_call_of 32 sc
                       refine (impl_vt Ws.out Wn.out Wu.out).mono ?_
                       rintro e' w7 ⟨he, hb⟩
                       rw [HVu.out] at he
                       exact ⟨he, hq.next hb⟩)
                    | (go_at_call_of 32 ot
                       refine (impl_vt Wo.out Wn.out Wv.out).mono ?_
                       rintro e' w7 ⟨he, hb⟩
                       rw [HVo.out] at he
                       exact ⟨he, hq.next hb⟩)
                    | (go_at_call 36
                       refine (impl_ft Wn.out Wv.out (tab_behind HTab.out hq.1)).mono ?_
                       rintro e' w7 ⟨he, hb⟩
                       rw [← HFm.out] at he
                       exact ⟨he, hq.next hb⟩)
                    | (go_at_call 37
                       refine (spec_ft Wn.out Wv.out).mono ?_
                       rintro e' w7 ⟨he, hb⟩
                       rw [← HFm.out] at he
                       exact ⟨he, hq.next hb⟩)
                    | rfl
                    | exact ⟨rfl, hq⟩
                simp only [Act.put, List.setIfInBounds_toArray, List.set_cons_zero, List.set_cons_succ]))
           refine wpQuiet_nil ?_
           intro w7 hq
           have HW7 := Lib.hid hq
           clear hq
           go_wp2_with fail
           go_ret
           exact ⟨rfl, HW7.out.1⟩

end Go.Proofs.YtdccljmffmlkbaaDoor
