/- Ratchets: KeyForStep, the document's, a step ahead; all together. No conditions but numbers and lengths that a machine holds. -/
import Derived.Test.YtlbijjifeaimjaaRt7
namespace Go.Proofs.Ytlbijjifeaimjaa
open Go Go.RowKit
set_option linter.unusedVariables false
set_option maxRecDepth 20000
attribute [local irreducible] kh kid

set_option maxHeartbeats 32000000 in
/-- spec.KeyForStep, a step ahead. -/
theorem spec_kf_hi {lim : Nat} {w : World} {v : Value} {xs : Kept} {c s t : Int} (h : RdS kepE lim w v xs) (hlim : lim ≤ w.heap.size) (hcw : (Lit.int .i64 c).wf = true) (hsw : (Lit.int .i64 s).wf = true) (htw : (Lit.int .i64 t).wf = true) (hn : xs.length ≤ 1048576) (hk : okR c s xs = true) (ht1 : t < 100000) (hlt : ¬ t < s) :
    Calls Try.prog 38 #[.agg #[.int .i64 c, .int .i64 s, v], .int .i64 t] w fun e w' => ∃ v', e = .returned (.tuple #[.agg #[.int .i64 (kfC c s xs t), .int .i64 (kfS c s xs t), v'], .int .i64 (kfM c s xs t), .bool (kfq c s xs t)]) ∧ OwnS kepE 40 w.heap.size w' v' (kfL c s xs t) ∧ Below w.heap.size w w' := by
  obtain ⟨p, cap, rfl, h1, h2, -⟩ := h.open
  have HR0 := Lib.hid h
  have HCw := Lib.hid hcw
  have HSw := Lib.hid hsw
  have hsb := wf_i64 hsw
  clear h hcw hsw h1 h2
  obtain ⟨W, hW⟩ : ∃ W, W = ((w.alloc (.cells #[.int .i64 c, .int .i64 s, .slice p xs.length cap] 26)).alloc (.cells #[.int .i64 0, .int .i64 0, .slice none 0 0] 26)) := ⟨_, rfl⟩
  have HW := Lib.hid hW
  have hK := blocks2T w (.cells #[.int .i64 c, .int .i64 s, .slice p xs.length cap] 26) (.cells #[.int .i64 0, .int .i64 0, .slice none 0 0] 26)
  rw [← hW] at hK
  have HA := Lib.hid hK.1
  have HC := Lib.hid hK.2
  have HB : Hid (Below w.heap.size w W) := Lib.hid (by rw [hW]; exact ((Below.refl _ _).alloc (Nat.le_refl _) _).alloc (by simp) _)
  have HS2 : Hid (W.heap.size = w.heap.size + 1 + 1) := Lib.hid (by rw [hW]; simp)
  clear hK hW
  have HR := Lib.hid (HR0.out.behind (HB.out.mono hlim))
  clear HR0
  have HN := Lib.hid hn
  have HTw := Lib.hid htw
  have htb := wf_i64 htw
  obtain ⟨i0, hi, hz0, hz1, hz2⟩ := info_parts infoSkippedKey
  have Hhi := Lib.hid hi
  have c0 := (rcs HA.out).1
  have c1 := (rcs HA.out).2.1
  have c2 := (rcs HA.out).2.2
  rw [HW.out] at c0 c1 c2
  clear hn htw hi
  go_enter Try.func38, Try.ntmps38
  go_wp2_with fail
  rw [← HW.out]
  refine (spec_cpr HR.out (Nat.le_trans hlim HB.out.size) HCw.out HSw.out HN.out).mono ?_
  rintro e w4 ⟨v4, rfl, h4, hb⟩
  obtain ⟨a4, n4, rfl, _⟩ := h4.open
  replace HA := Lib.hid (rstand HA.out hb)
  replace HC := Lib.hid (rstand HC.out hb)
  replace HR := Lib.hid (HR.out.behind (hb.mono (Nat.le_trans hlim HB.out.size)))
  replace HB := Lib.hid (HB.out.trans (hb.mono HB.out.size))
  obtain ⟨W5, hW5⟩ : ∃ W5, W5 = w4.alloc (.cells #[.int .i64 c, .int .i64 s, .slice a4 xs.length n4] 26) := ⟨_, rfl⟩
  have HW5 := Lib.hid hW5
  obtain ⟨G, hG⟩ : ∃ G, G = w4.heap.size := ⟨_, rfl⟩
  have HE : Hid (W5.heap[G]? = some (.cells #[.int .i64 c, .int .i64 s, .slice a4 xs.length n4] 26)) := Lib.hid (by rw [hW5, hG]; exact heap_alloc_new _ _)
  have hb5 : Below w4.heap.size w4 W5 := by rw [hW5]; exact (Below.refl _ _).alloc (Nat.le_refl _) _
  have HLow : Hid (w.heap.size + 1 + 1 ≤ G) := Lib.hid (by have := HS2.out; have := hb.size; omega)
  have HO := Lib.hid ((h4.mono (B' := w.heap.size + 1 + 1) (by have := HS2.out; omega)).next hb5)
  replace HA := Lib.hid (rstand HA.out hb5)
  replace HC := Lib.hid (rstand HC.out hb5)
  replace HR := Lib.hid (HR.out.behind (hb5.mono (Nat.le_trans hlim HB.out.size)))
  replace HB := Lib.hid (HB.out.trans (hb5.mono HB.out.size))
  clear hb5
  have HGe := Lib.hid hG
  clear h4 hW5 hG c0 c1 c2 hb
  obtain ⟨c0, c1, c2⟩ := rcs HA.out
  rw [HW5.out] at c0 c1 c2
  go_wp2_with fail
  rw [← HW5.out, ← HGe.out]
  have HNa : Hid (w.heap.size < G) := Lib.hid (by have := HLow.out; omega)
  have HNc : Hid (w.heap.size + 1 < G) := Lib.hid (by have := HLow.out; omega)
  have HK := Lib.hid hk
  have hs0 := (okR_iff.1 hk).2.1
  have hx8 := (okR_iff.1 hk).2.2.1
  have HC0 := Lib.hid (okR_iff.1 hk).1
  have HKK := Lib.hid (okR_iff.1 hk).2.2.2.1
  clear hk
  have e9 : decide (100000 ≤ t) = false := by simp; omega
  have e8 : decide (t < s) = false := by simp; omega
  obtain ⟨n, hn⟩ : ∃ n : Nat, t = s + (n : Int) := ⟨(t - s).toNat, by omega⟩
  subst hn
  have e7 : s + (n : Int) - s = (n : Int) := by omega
  have HLtn := Lib.hid hlt
  clear hlt
  refine (spec_vr HR.out (Nat.le_trans hlim HB.out.size) HCw.out HSw.out).mono ?_
  rw [HK.out]
  rintro e w6 ⟨rfl, hb⟩
  clear c0 c1 c2
  replace HA := Lib.hid (rstand HA.out hb)
  replace HC := Lib.hid (rstand HC.out hb)
  replace HE := Lib.hid (rstand HE.out hb)
  replace HO := Lib.hid (HO.out.next hb)
  replace HR := Lib.hid (HR.out.behind (hb.mono (Nat.le_trans hlim HB.out.size)))
  replace HB := Lib.hid (HB.out.trans (hb.mono HB.out.size))
  clear hb
  obtain ⟨c0, c1, c2⟩ := rcs HA.out
  by_cases hn8 : n ≤ 8
  case neg =>
    have e6 : decide ((8 : Int) < (n : Int)) = true := by simp; omega
    have HQf := Lib.hid (kf_far (c := c) (s := s) (t := s + (n : Int)) (xs := xs) (by have := HLtn.out; omega) (by omega))
    have HZ := Lib.hid (kf_no HQf.out)
    obtain ⟨k9, g9⟩ := rst HC.out (.int .i64 c) (.int .i64 s) (.slice a4 xs.length n4)
    obtain ⟨r0, r1, r2⟩ := rcs k9
    have HB9 := Lib.hid (HB.out.grown g9 HB.out.size (fun k hk => by injection hk with hk; omega))
    have HO9 := Lib.hid ((HO.out.kept g9 (Or.inr (fun hh => owns_ne_box (by decide) HO.out HC.out _ hh rfl))).mono (B' := w.heap.size) (by omega))
    obtain ⟨e0, e1, e2⟩ := rcs HE.out
    obtain ⟨q0, q1, q2⟩ := rcs HC.out
    obtain ⟨f0, f1, f2⟩ := rfr HC.out
    clear k9 g9
    go_wp2_with fail
    exact bodyPost_ret (v := .tuple #[.agg #[.int .i64 c, .int .i64 s, .slice a4 xs.length n4], .int .i64 0, .bool false]) (by simp [results, Try.results38, go_sem, r0, r1, r2]) rfl ⟨_, by rw [HZ.out.1, HZ.out.2.1, HZ.out.2.2.2, HQf.out], by rw [HZ.out.2.2.1]; exact HO9.out, HB9.out⟩
  have e6 : decide ((8 : Int) < (n : Int)) = false := by simp; omega
  have HAh := Lib.hid (kf_ahead HK.out ht1 hn8)
  have hLb : xs.length ≤ 8 := hx8
  obtain ⟨e0, e1, e2⟩ := rcs HE.out
  go_wp2_with fail
  go_loopw [67] (fun _ wr => ∃ (j : Nat) (v : Value), j ≤ n ∧ wr.heap[G]? = some (.cells #[.int .i64 (chn c j), .int .i64 (s + (j : Int)), v] 26) ∧ OwnS kepE 40 (w.heap.size + 1 + 1) wr v (xs ++ skp c s j) ∧ wr.heap[w.heap.size]? = some (.cells #[.int .i64 c, .int .i64 s, .slice p xs.length cap] 26) ∧ wr.heap[w.heap.size + 1]? = some (.cells #[.int .i64 0, .int .i64 0, .slice none 0 0] 26) ∧ Below w.heap.size w wr) (fun _ wr => n - (intOf ((wr.cell? ⟨G, 1, none⟩).getD undef) - s).toNat)
  case atStart => exact ⟨0, _, Nat.zero_le _, by have := HE.out; simpa [chn] using this, by have := HO.out; simpa [skp] using this, HA.out, HC.out, HB.out⟩
  case round =>
    obtain ⟨j, v, hj, hE, hO, hA, hC, hB⟩ := hrel
    replace HE := Lib.hid hE
    replace HO := Lib.hid hO
    replace HA := Lib.hid hA
    replace HC := Lib.hid hC
    replace HB := Lib.hid hB
    clear e0 e1 e2 c0 c1 c2
    obtain ⟨av, nv, rfl, _⟩ := hO.open
    obtain ⟨nl, hnl⟩ : ∃ q, q = (xs ++ skp c s j).length := ⟨_, rfl⟩
    rw [← hnl] at HE HO
    rw [List.length_append, skp_len] at hnl
    have HCj := Lib.hid (chn_bound HC0.out j)
    obtain ⟨x, hx⟩ : ∃ x, x = chn c j := ⟨_, rfl⟩
    obtain ⟨T, hT⟩ : ∃ T, T = s + (j : Int) := ⟨_, rfl⟩
    rw [← hx, ← hT] at HE
    rw [← hx] at HCj
    have HX := Lib.hid hx
    have HTe := Lib.hid hT
    have HXw : Hid ((Lit.int .i64 x).wf = true) := Lib.hid (wf_i64_of (by have := HCj.out; omega) (by have := HCj.out; omega))
    have hTb : 0 ≤ T ∧ T ≤ 200000 := by omega
    have HTw2 : Hid ((Lit.int .i64 T).wf = true) := Lib.hid (wf_i64_of (by omega) (by omega))
    have Hk0 : Hid (wr.cell? ⟨G, 1, none⟩ = some (.int .i64 T)) := Lib.hid (rcs HE.out).2.1
    obtain ⟨e0, e1, e2⟩ := rcs HE.out
    clear hE hO hA hC hB hx
    by_cases hjn : j < n
    · have e5 : decide (T < s + (n : Int)) = true := by simp; omega
      obtain ⟨m, hm⟩ : ∃ m, m = mky x := ⟨_, rfl⟩
      obtain ⟨xn, hxn⟩ : ∃ q, q = nxc x := ⟨_, rfl⟩
      have Hm := Lib.hid hm
      have Hn := Lib.hid hxn
      have Hmw : Hid ((Lit.int .i64 m).wf = true) := Lib.hid (by rw [hm]; exact mky_wf _)
      have HLen : Hid ((xs ++ skp c s j).length ≤ 1000) := Lib.hid (by rw [List.length_append, skp_len]; omega)
      have HL1 : Hid ((xs ++ skp c s j) ++ [(T, m)] = xs ++ skp c s (j + 1)) := Lib.hid (by rw [skp_snoc, ← List.append_assoc, HTe.out, hm, HX.out])
      clear hm hxn hT hnl
      go_wp2_with fail
      refine region_till (fun u => u.cell? ⟨G, 0, none⟩ = some (.int .i64 x) ∧ u.cell? ⟨G, 1, none⟩ = some (.int .i64 T) ∧ u.cell? ⟨G, 2, none⟩ = some (.slice av nl nv)) 11 (by kernel_rfl) ?_
      obtain ⟨wd, hwd⟩ : ∃ x, x = wr.drew := ⟨_, rfl⟩
      have hb : Below wr.heap.size wr wd := by rw [hwd]; exact (Below.refl _ _).drew
      rw [← hwd]
      clear hwd e0 e1 e2
      replace HA := Lib.hid (rstand HA.out hb)
      replace HC := Lib.hid (rstand HC.out hb)
      replace HE := Lib.hid (rstand HE.out hb)
      replace HO := Lib.hid (HO.out.next hb)
      replace HB := Lib.hid (HB.out.trans (hb.mono HB.out.size))
      clear hb
      have s0 := rcs HE.out
      apply Till.take (i := 0) [0, 1, 9, 11]
      · simp only [List.getElem?_toArray, List.getElem?_cons_zero]
        rfl
      · kernel_rfl
      · kernel_rfl
      · kernel_rfl
      · kernel_rfl
      · exact fun _ _ _ h => h
      · first
          | exact Or.inr ⟨by rfl, rfl⟩
          | (refine Or.inl ⟨by rfl, fun wq hwq => ?_⟩
             dsimp only at hwq
             go_simp
             first
               | done
               | rfl)
      · exact s0
      simp only [Act.put, List.setIfInBounds_toArray, List.set_cons_zero, List.set_cons_succ]
      apply Till.take (i := 1) [1, 9, 11]
      · simp only [List.getElem?_toArray, List.getElem?_cons_succ, List.getElem?_cons_zero]
        rfl
      · kernel_rfl
      · kernel_rfl
      · kernel_rfl
      · kernel_rfl
      · exact fun _ _ _ h => h
      · first
          | exact Or.inr ⟨by rfl, rfl⟩
          | (refine Or.inl ⟨by rfl, fun wq hwq => ?_⟩
             dsimp only at hwq
             go_simp
             first
               | done
               | rfl)
      · exact s0
      simp only [Act.put, List.setIfInBounds_toArray, List.set_cons_zero, List.set_cons_succ]
      apply Till.take (i := 2) [2, 3, 7, 8, 9, 11]
      · simp only [List.getElem?_toArray, List.getElem?_cons_succ, List.getElem?_cons_zero]
        rfl
      · kernel_rfl
      · kernel_rfl
      · kernel_rfl
      · kernel_rfl
      · exact fun _ _ _ h => h
      · first
          | exact Or.inr ⟨by rfl, rfl⟩
          | (refine Or.inl ⟨by rfl, fun wq hwq => ?_⟩
             dsimp only at hwq
             go_simp
             first
               | done
               | rfl)
      · exact s0
      simp only [Act.put, List.setIfInBounds_toArray, List.set_cons_zero, List.set_cons_succ]
      apply Till.take (i := 3) [3, 7, 8, 9, 11]
      · simp only [List.getElem?_toArray, List.getElem?_cons_succ, List.getElem?_cons_zero]
        rfl
      · kernel_rfl
      · kernel_rfl
      · kernel_rfl
      · kernel_rfl
      · exact fun _ _ _ h => h
      · first
          | exact Or.inr ⟨by rfl, rfl⟩
          | (refine Or.inl ⟨by rfl, fun wq hwq => ?_⟩
             dsimp only at hwq
             go_simp
             first
               | done
               | rfl)
      · exact s0
      simp only [Act.put, List.setIfInBounds_toArray, List.set_cons_zero, List.set_cons_succ]
      apply Till.take (i := 4) [4, 5, 6, 7, 8, 9, 11]
      · simp only [List.getElem?_toArray, List.getElem?_cons_succ, List.getElem?_cons_zero]
        rfl
      · kernel_rfl
      · kernel_rfl
      · kernel_rfl
      · kernel_rfl
      · exact fun _ _ _ h => h
      · first
          | exact Or.inr ⟨by rfl, rfl⟩
          | (refine Or.inl ⟨by rfl, fun wq hwq => ?_⟩
             dsimp only at hwq
             go_simp
             first
               | done
               | rfl)
      · exact s0
      simp only [Act.put, List.setIfInBounds_toArray, List.set_cons_zero, List.set_cons_succ]
      apply Till.take (i := 5) [5, 6, 7, 8, 9, 11]
      · simp only [List.getElem?_toArray, List.getElem?_cons_succ, List.getElem?_cons_zero]
        rfl
      · kernel_rfl
      · kernel_rfl
      · kernel_rfl
      · kernel_rfl
      · exact fun _ _ _ h => h
      · first
          | exact Or.inr ⟨by rfl, rfl⟩
          | (refine Or.inl ⟨by rfl, fun wq hwq => ?_⟩
             dsimp only at hwq
             go_simp
             first
               | done
               | rfl)
      · exact s0
      simp only [Act.put, List.setIfInBounds_toArray, List.set_cons_zero, List.set_cons_succ]
      apply Till.one (i := 6)
      · kernel_rfl
      · simp only [List.getElem?_toArray, List.getElem?_cons_succ, List.getElem?_cons_zero]
        rfl
      intro K hK
      go_simp
      refine (spec_mky HXw.out).mono ?_
      rw [← Hm.out]
      rintro e' w7 ⟨rfl, hb⟩
      clear s0
      replace HA := Lib.hid (rstand HA.out hb)
      replace HC := Lib.hid (rstand HC.out hb)
      replace HE := Lib.hid (rstand HE.out hb)
      replace HO := Lib.hid (HO.out.next hb)
      replace HB := Lib.hid (HB.out.trans (hb.mono HB.out.size))
      clear hb
      have s0 := rcs HE.out
      refine hK.out _ _ (Or.inr s0) ?_
      clear hK K
      try simp only [Act.put, List.setIfInBounds_toArray, List.set_cons_zero, List.set_cons_succ]
      apply Till.take (i := 7) [7, 8, 9, 11]
      · simp only [List.getElem?_toArray, List.getElem?_cons_succ, List.getElem?_cons_zero]
        rfl
      · kernel_rfl
      · kernel_rfl
      · kernel_rfl
      · kernel_rfl
      · exact fun _ _ _ h => h
      · first
          | exact Or.inr ⟨by rfl, rfl⟩
          | (refine Or.inl ⟨by rfl, fun wq hwq => ?_⟩
             dsimp only at hwq
             go_simp
             first
               | done
               | rfl)
      · exact s0
      simp only [Act.put, List.setIfInBounds_toArray, List.set_cons_zero, List.set_cons_succ]
      apply Till.one (i := 8)
      · kernel_rfl
      · simp only [List.getElem?_toArray, List.getElem?_cons_succ, List.getElem?_cons_zero]
        rfl
      intro K hK
      go_simp
      have hb : Below w7.heap.size w7 (w7.alloc (.cells #[.int .i64 T, .int .i64 m] 40)) := (Below.refl _ _).alloc (Nat.le_refl _) _
      have HR1 := Lib.hid (kep_one (B := w7.heap.size) (w := w7) (Nat.le_refl _) HTw2.out Hmw.out).rd
      clear s0
      replace HA := Lib.hid (rstand HA.out hb)
      replace HC := Lib.hid (rstand HC.out hb)
      replace HE := Lib.hid (rstand HE.out hb)
      replace HO := Lib.hid (HO.out.next hb)
      replace HB := Lib.hid (HB.out.trans (hb.mono HB.out.size))
      clear hb
      have s0 : (w7.alloc (.cells #[.int .i64 T, .int .i64 m] 40)).cell? ⟨G, 0, none⟩ = some (.int .i64 x) ∧ (w7.alloc (.cells #[.int .i64 T, .int .i64 m] 40)).cell? ⟨G, 1, none⟩ = some (.int .i64 T) ∧ (w7.alloc (.cells #[.int .i64 T, .int .i64 m] 40)).cell? ⟨G, 2, none⟩ = some (.slice av nl nv) := rcs HE.out
      refine hK.out _ _ (Or.inr s0) ?_
      clear hK K
      try simp only [Act.put, List.setIfInBounds_toArray, List.set_cons_zero, List.set_cons_succ]
      obtain ⟨w8, hw8⟩ : ∃ x, x = w7.alloc (.cells #[.int .i64 T, .int .i64 m] 40) := ⟨_, rfl⟩
      rw [← hw8] at HE HA HC HO HB HR1 s0 ⊢
      clear hw8
      apply Till.one (i := 9)
      · kernel_rfl
      · simp only [List.getElem?_toArray, List.getElem?_cons_succ, List.getElem?_cons_zero]
        rfl
      intro K hK
      refine step_append_rdS _ (by rfl) _ _ 24 (by rfl) 40 i0 (.agg #[.int .i64 0, .int .i64 0]) 16 Try.underlying24 Hhi.out hz0 hz1 hz2 rfl (by omega) (by rfl) HO.out (by rfl) HR1.out (by have := HLen.out; simp only [List.length_singleton]; omega) ?_
      intro v9 w9 h9 hg
      rw [HL1.out] at h9
      have hlo := HO.out
      have hE := (hg.block _ (lt_of_block HE.out) (fun h => owns_ne_box (by decide) hlo HE.out _ h.symm rfl)).trans HE.out
      have hA := (hg.block _ (lt_of_block HA.out) (fun h => owns_ne_box (by decide) hlo HA.out _ h.symm rfl)).trans HA.out
      have hC := (hg.block _ (lt_of_block HC.out) (fun h => owns_ne_box (by decide) hlo HC.out _ h.symm rfl)).trans HC.out
      have hB := HB.out.grown hg HB.out.size (fun k hk => by have := (hlo.lt k hk).1; omega)
      obtain ⟨a9, n9, rfl, _⟩ := h9.open
      obtain ⟨nl9, hnl9⟩ : ∃ q, q = (xs ++ skp c s (j + 1)).length := ⟨_, rfl⟩
      rw [← hnl9] at h9 ⊢
      have Hnl9 := Lib.hid hnl9
      replace HE := Lib.hid hE
      replace HA := Lib.hid hA
      replace HC := Lib.hid hC
      replace HB := Lib.hid hB
      replace HO := Lib.hid h9
      clear h9 hg hE hA hC hB hlo s0 hnl9
      have s0 := rcs HE.out
      refine hK.out _ _ (Or.inr s0) ?_
      clear hK K
      try simp only [Act.put, List.setIfInBounds_toArray, List.set_cons_zero, List.set_cons_succ]
      apply Till.take (i := 10) [10, 11]
      · simp only [List.getElem?_toArray, List.getElem?_cons_succ, List.getElem?_cons_zero]
        rfl
      · kernel_rfl
      · kernel_rfl
      · kernel_rfl
      · kernel_rfl
      · exact fun _ _ _ h => h
      · first
          | exact Or.inr ⟨by rfl, rfl⟩
          | (refine Or.inl ⟨by rfl, fun wq hwq => ?_⟩
             dsimp only at hwq
             go_simp
             first
               | done
               | rfl)
      · exact s0
      simp only [Act.put, List.setIfInBounds_toArray, List.set_cons_zero, List.set_cons_succ]
      clear s0
      have HE0 := Lib.hid HE.out
      obtain ⟨e20, e21, e22⟩ := rcs HE.out
      obtain ⟨ef20, ef21, ef22⟩ := rfr HE.out
      have g3 := grown_set w9 G 2 (.slice a9 nl9 n9)
      have hE3 : (w9.setCell ⟨G, 2, none⟩ (.slice a9 nl9 n9)).heap[G]? = some (.cells #[.int .i64 x, .int .i64 T, .slice a9 nl9 n9] 26) := blk_set HE.out 2 _
      replace HA := Lib.hid ((g3.block _ (lt_of_block HA.out) (fun h => by injection h with h; have := HNa.out; omega)).trans HA.out)
      replace HC := Lib.hid ((g3.block _ (lt_of_block HC.out) (fun h => by injection h with h; have := HNc.out; omega)).trans HC.out)
      replace HO := Lib.hid (HO.out.kept g3 (Or.inr (fun hh => owns_ne_box (by decide) HO.out HE0.out _ hh rfl)))
      replace HB := Lib.hid (HB.out.grown g3 HB.out.size (fun k hk => by injection hk with hk; have := HNa.out; omega))
      replace HE := Lib.hid hE3
      clear g3 hE3 HE0
      apply Till.one (i := 11)
      · kernel_rfl
      · simp only [List.getElem?_toArray, List.getElem?_cons_succ, List.getElem?_cons_zero]
        rfl
      intro K hK
      go_simp
      skip
      refine hK.out _ _ (Or.inl (by rfl)) ?_
      clear hK K
      try simp only [Act.put, List.setIfInBounds_toArray, List.set_cons_zero, List.set_cons_succ]
      refine Till.done (by kernel_rfl) ?_ _
      clear e20 e21 e22 ef20 ef21 ef22
      obtain ⟨wc, hwc⟩ : ∃ x, x = w9.setCell ⟨G, 2, none⟩ (.slice a9 nl9 n9) := ⟨_, rfl⟩
      rw [← hwc] at HE HA HC HO HB ⊢
      clear hwc
      obtain ⟨e0, e1, e2⟩ := rcs HE.out
      go_wp2_with fail
      refine (spec_nx HXw.out).mono ?_
      rw [← Hn.out]
      rintro e wb ⟨rfl, hb⟩
      clear e0 e1 e2
      replace HA := Lib.hid (rstand HA.out hb)
      replace HC := Lib.hid (rstand HC.out hb)
      replace HE := Lib.hid (rstand HE.out hb)
      replace HO := Lib.hid (HO.out.next hb)
      replace HB := Lib.hid (HB.out.trans (hb.mono HB.out.size))
      clear hb
      have HE0 := Lib.hid HE.out
      obtain ⟨e00, e01, e02⟩ := rcs HE.out
      obtain ⟨ef00, ef01, ef02⟩ := rfr HE.out
      have g3 := grown_set wb G 0 (.int .i64 xn)
      have hE3 : (wb.setCell ⟨G, 0, none⟩ (.int .i64 xn)).heap[G]? = some (.cells #[.int .i64 xn, .int .i64 T, .slice a9 nl9 n9] 26) := blk_set HE.out 0 _
      replace HA := Lib.hid ((g3.block _ (lt_of_block HA.out) (fun h => by injection h with h; have := HNa.out; omega)).trans HA.out)
      replace HC := Lib.hid ((g3.block _ (lt_of_block HC.out) (fun h => by injection h with h; have := HNc.out; omega)).trans HC.out)
      replace HO := Lib.hid (HO.out.kept g3 (Or.inr (fun hh => owns_ne_box (by decide) HO.out HE0.out _ hh rfl)))
      replace HB := Lib.hid (HB.out.grown g3 HB.out.size (fun k hk => by injection hk with hk; have := HNa.out; omega))
      replace HE := Lib.hid hE3
      clear g3 hE3 HE0
      obtain ⟨eh0, eh1, eh2⟩ := rcs HE.out
      have HE0 := Lib.hid HE.out
      obtain ⟨e10, e11, e12⟩ := rcs HE.out
      obtain ⟨ef10, ef11, ef12⟩ := rfr HE.out
      have g3 := grown_set (wb.setCell ⟨G, 0, none⟩ (.int .i64 xn)) G 1 (.int .i64 (T + 1))
      have hE3 : ((wb.setCell ⟨G, 0, none⟩ (.int .i64 xn)).setCell ⟨G, 1, none⟩ (.int .i64 (T + 1))).heap[G]? = some (.cells #[.int .i64 xn, .int .i64 (T + 1), .slice a9 nl9 n9] 26) := blk_set HE.out 1 _
      replace HA := Lib.hid ((g3.block _ (lt_of_block HA.out) (fun h => by injection h with h; have := HNa.out; omega)).trans HA.out)
      replace HC := Lib.hid ((g3.block _ (lt_of_block HC.out) (fun h => by injection h with h; have := HNc.out; omega)).trans HC.out)
      replace HO := Lib.hid (HO.out.kept g3 (Or.inr (fun hh => owns_ne_box (by decide) HO.out HE0.out _ hh rfl)))
      replace HB := Lib.hid (HB.out.grown g3 HB.out.size (fun k hk => by injection hk with hk; have := HNa.out; omega))
      replace HE := Lib.hid hE3
      clear g3 hE3 HE0
      obtain ⟨wf, hwf⟩ : ∃ x, x = (wb.setCell ⟨G, 0, none⟩ (.int .i64 xn)).setCell ⟨G, 1, none⟩ (.int .i64 (T + 1)) := ⟨_, rfl⟩
      rw [← hwf] at HE HA HC HO HB
      have Hwf := Lib.hid hwf
      have K8 : Hid (wf.cell? ⟨G, 1, none⟩ = some (.int .i64 (T + 1))) := Lib.hid (rcs HE.out).2.1
      have HEf : Hid (wf.heap[G]? = some (.cells #[.int .i64 (chn c (j + 1)), .int .i64 (s + ((j + 1 : Nat) : Int)), .slice a9 nl9 n9] 26)) := Lib.hid (by
        rw [chn_succ, ← HX.out, ← Hn.out, show s + ((j + 1 : Nat) : Int) = T + 1 by rw [HTe.out]; push_cast; omega]
        exact HE.out)
      clear hwf
      go_wp2_with fail
      rw [← Hwf.out]
      go_roundw
      case rel => exact ⟨j + 1, _, hjn, HEf.out, HO.out, HA.out, HC.out, HB.out⟩
      case measure =>
        rw [K8.out, Hk0.out]
        have := HTe.out
        simp only [Option.getD_some, intOf]
        omega
    · have e5 : decide (T < s + (n : Int)) = false := by simp; omega
      obtain rfl : j = n := by omega
      obtain ⟨m1, hm⟩ : ∃ m, m = mky (chn c j) := ⟨_, rfl⟩
      obtain ⟨xn, hxn⟩ : ∃ q, q = nxc (chn c j) := ⟨_, rfl⟩
      rw [← hm, ← hxn] at HAh
      have HM1 : Hid (m1 = mky x) := Lib.hid (by rw [hm, HX.out])
      have HN1 : Hid (xn = nxc x) := Lib.hid (by rw [hxn, HX.out])
      clear hm hxn
      by_cases h8 : nl ≤ 8
      · have e4 : decide ((8 : Int) < (nl : Int)) = false := by simp; omega
        have HLs : Hid (lastK (xs ++ skp c s j) = xs ++ skp c s j) := Lib.hid (lastK_short (by rw [List.length_append, skp_len]; omega))
        rw [HLs.out] at HAh
        clear hT hnl
        obtain ⟨e0, e1, e2⟩ := rcs HE.out
        go_wp2_with fail
        refine (spec_mky HXw.out).mono ?_
        rw [← HM1.out]
        rintro e wa ⟨rfl, hb⟩
        clear e0 e1 e2
        replace HC := Lib.hid (rstand HC.out hb)
        replace HE := Lib.hid (rstand HE.out hb)
        replace HO := Lib.hid (HO.out.next hb)
        replace HB := Lib.hid (HB.out.trans (hb.mono HB.out.size))
        clear hb
        obtain ⟨e0, e1, e2⟩ := rcs HE.out
        go_wp2_with fail
        refine (spec_nx HXw.out).mono ?_
        rw [← HN1.out]
        rintro e wb ⟨rfl, hb⟩
        clear e0 e1 e2
        replace HC := Lib.hid (rstand HC.out hb)
        replace HE := Lib.hid (rstand HE.out hb)
        replace HO := Lib.hid (HO.out.next hb)
        replace HB := Lib.hid (HB.out.trans (hb.mono HB.out.size))
        clear hb
        have HE0 := Lib.hid HE.out
        obtain ⟨e00, e01, e02⟩ := rcs HE.out
        obtain ⟨ef00, ef01, ef02⟩ := rfr HE.out
        have g3 := grown_set wb G 0 (.int .i64 xn)
        have hE3 : (wb.setCell ⟨G, 0, none⟩ (.int .i64 xn)).heap[G]? = some (.cells #[.int .i64 xn, .int .i64 T, .slice av nl nv] 26) := blk_set HE.out 0 _
        replace HC := Lib.hid ((g3.block _ (lt_of_block HC.out) (fun h => by injection h with h; have := HNc.out; omega)).trans HC.out)
        replace HO := Lib.hid (HO.out.kept g3 (Or.inr (fun hh => owns_ne_box (by decide) HO.out HE0.out _ hh rfl)))
        replace HB := Lib.hid (HB.out.grown g3 HB.out.size (fun k hk => by injection hk with hk; have := HNa.out; omega))
        replace HE := Lib.hid hE3
        clear g3 hE3 HE0
        obtain ⟨eh0, eh1, eh2⟩ := rcs HE.out
        have HE0 := Lib.hid HE.out
        obtain ⟨e10, e11, e12⟩ := rcs HE.out
        obtain ⟨ef10, ef11, ef12⟩ := rfr HE.out
        have g3 := grown_set (wb.setCell ⟨G, 0, none⟩ (.int .i64 xn)) G 1 (.int .i64 (T + 1))
        have hE3 : ((wb.setCell ⟨G, 0, none⟩ (.int .i64 xn)).setCell ⟨G, 1, none⟩ (.int .i64 (T + 1))).heap[G]? = some (.cells #[.int .i64 xn, .int .i64 (T + 1), .slice av nl nv] 26) := blk_set HE.out 1 _
        replace HC := Lib.hid ((g3.block _ (lt_of_block HC.out) (fun h => by injection h with h; have := HNc.out; omega)).trans HC.out)
        replace HO := Lib.hid (HO.out.kept g3 (Or.inr (fun hh => owns_ne_box (by decide) HO.out HE0.out _ hh rfl)))
        replace HB := Lib.hid (HB.out.grown g3 HB.out.size (fun k hk => by injection hk with hk; have := HNa.out; omega))
        replace HE := Lib.hid hE3
        clear g3 hE3 HE0
        obtain ⟨y0, y1, y2⟩ := rcs HE.out
        obtain ⟨q0, q1, q2⟩ := rcs HC.out
        obtain ⟨f0, f1, f2⟩ := rfr HC.out
        obtain ⟨k9, g9⟩ := rst HC.out (.int .i64 xn) (.int .i64 (T + 1)) (.slice av nl nv)
        obtain ⟨r0, r1, r2⟩ := rcs k9
        have HB9 := Lib.hid (HB.out.grown g9 HB.out.size (fun k hk => by injection hk with hk; omega))
        have HO9 := Lib.hid ((HO.out.kept g9 (Or.inr (fun hh => owns_ne_box (by decide) HO.out HC.out _ hh rfl))).mono (B' := w.heap.size) (by omega))
        clear k9 g9
        go_wp2_with fail
        exact bodyPost_ret (v := .tuple #[.agg #[.int .i64 xn, .int .i64 (T + 1), .slice av nl nv], .int .i64 m1, .bool true]) (by simp [results, Try.results38, go_sem, r0, r1, r2]) rfl ⟨_, by rw [HAh.out.1, HAh.out.2.1, HAh.out.2.2.1, HAh.out.2.2.2.2, HTe.out], by rw [HAh.out.2.2.2.1]; exact HO9.out, HB9.out⟩
      · have e4 : decide ((8 : Int) < (nl : Int)) = true := by simp; omega
        obtain ⟨k, hk⟩ : ∃ k, k = nl - 8 := ⟨_, rfl⟩
        have hk8 : (nl : Int) - 8 = (k : Int) := by omega
        have hnb : nl ≤ 16 := by omega
        have hnn : (xs ++ skp c s j).length = nl := by rw [List.length_append, skp_len]; omega
        have Hnn := Lib.hid hnn
        have hkl : k ≤ (xs ++ skp c s j).length := by omega
        have HLk : Hid ((xs ++ skp c s j).drop k = lastK (xs ++ skp c s j)) := Lib.hid (by unfold lastK; rw [hnn, hk])
        have hLL : (lastK (xs ++ skp c s j)).length ≤ 8 := by rw [lastK_len]; omega
        obtain ⟨M, hM⟩ : ∃ M, M = lastK (xs ++ skp c s j) := ⟨_, rfl⟩
        rw [← hM] at HAh HLk hLL
        have HML := Lib.hid hLL
        have hb0 : Below wr.heap.size wr (wr.alloc (.cells #[] 40)) := (Below.refl _ _).alloc (Nat.le_refl _) _
        have O1 := Lib.hid (OwnS.lit (w := wr) (B := wr.heap.size) kepE 40 (Nat.le_refl _))
        have R1 := Lib.hid ((HO.out.rd).behind hb0)
        have hE1 := rstand HE.out hb0
        have hC1 := rstand HC.out hb0
        have LE := Lib.hid (lt_of_block HE.out)
        have LC := Lib.hid (lt_of_block HC.out)
        have HBs := Lib.hid HB.out.size
        have HB1 := Lib.hid (HB.out.trans (hb0.mono HB.out.size))
        have HE1 := Lib.hid hE1
        have HC1 := Lib.hid hC1
        obtain ⟨x0, x1, x2⟩ := rcs hE1
        clear hT hnl hM hLL hk hb0 hE1 hC1
        go_wp2_with (first
          | (at_builtin; refine append_rds _ rfl _ _ 24 rfl 40 i0 (.agg #[.int .i64 0, .int .i64 0]) 16 Try.underlying24 Hhi.out hz0 hz1 hz2 rfl (by omega) rfl O1.out rfl HU.out (by have := HML.out; simp only [List.length_nil]; omega) ?_)
          | (refine slice_rds_l (E := kepE) _ rfl 24 _ 40 i0 Try.underlying24 Hhi.out hz1 (by rfl) R1.out _ rfl (l := k) rfl hkl ?_; rw [HLk.out]; intro u hu; have HU := Lib.hid hu; clear hu))
        intro v8 w8 h8v hg
        replace h8v : OwnS kepE 40 wr.heap.size w8 v8 M := h8v
        have hb := O1.out.below (Nat.le_refl _) hg
        obtain ⟨a8, n8, rfl, _⟩ := h8v.open
        replace HE := Lib.hid ((hb.block _ LE.out).trans HE1.out)
        replace HC := Lib.hid ((hb.block _ LC.out).trans HC1.out)
        replace HB := Lib.hid (HB1.out.trans (hb.mono HBs.out))
        replace HO := Lib.hid (h8v.mono (B' := w.heap.size + 1 + 1) (by have := LC.out; omega))
        clear h8v hg hb O1 R1 HE1 HC1 x0 x1 x2 e0 e1 e2
        have HE0 := Lib.hid HE.out
        obtain ⟨e20, e21, e22⟩ := rcs HE.out
        obtain ⟨ef20, ef21, ef22⟩ := rfr HE.out
        have g3 := grown_set w8 G 2 (.slice a8 M.length n8)
        have hE3 : (w8.setCell ⟨G, 2, none⟩ (.slice a8 M.length n8)).heap[G]? = some (.cells #[.int .i64 x, .int .i64 T, .slice a8 M.length n8] 26) := blk_set HE.out 2 _
        replace HC := Lib.hid ((g3.block _ (lt_of_block HC.out) (fun h => by injection h with h; have := HNc.out; omega)).trans HC.out)
        replace HO := Lib.hid (HO.out.kept g3 (Or.inr (fun hh => owns_ne_box (by decide) HO.out HE0.out _ hh rfl)))
        replace HB := Lib.hid (HB.out.grown g3 HB.out.size (fun k hk => by injection hk with hk; have := HNa.out; omega))
        replace HE := Lib.hid hE3
        clear g3 hE3 HE0
        obtain ⟨we, hwe⟩ : ∃ q, q = w8.setCell ⟨G, 2, none⟩ (.slice a8 M.length n8) := ⟨_, rfl⟩
        rw [← hwe] at HE HC HO HB
        have Hwe := Lib.hid hwe
        obtain ⟨e0, e1, e2⟩ := rcs HE.out
        have e00 := e0
        have e11 := e1
        rw [Hwe.out] at e00 e11
        clear hwe
        go_wp2_with fail
        rw [← Hwe.out]
        clear e00 e11 e20 e21 e22 ef20 ef21 ef22
        refine (spec_mky HXw.out).mono ?_
        rw [← HM1.out]
        rintro e wa ⟨rfl, hb⟩
        clear e0 e1 e2
        replace HC := Lib.hid (rstand HC.out hb)
        replace HE := Lib.hid (rstand HE.out hb)
        replace HO := Lib.hid (HO.out.next hb)
        replace HB := Lib.hid (HB.out.trans (hb.mono HB.out.size))
        clear hb
        obtain ⟨e0, e1, e2⟩ := rcs HE.out
        go_wp2_with fail
        refine (spec_nx HXw.out).mono ?_
        rw [← HN1.out]
        rintro e wb ⟨rfl, hb⟩
        clear e0 e1 e2
        replace HC := Lib.hid (rstand HC.out hb)
        replace HE := Lib.hid (rstand HE.out hb)
        replace HO := Lib.hid (HO.out.next hb)
        replace HB := Lib.hid (HB.out.trans (hb.mono HB.out.size))
        clear hb
        have HE0 := Lib.hid HE.out
        obtain ⟨e00, e01, e02⟩ := rcs HE.out
        obtain ⟨ef00, ef01, ef02⟩ := rfr HE.out
        have g3 := grown_set wb G 0 (.int .i64 xn)
        have hE3 : (wb.setCell ⟨G, 0, none⟩ (.int .i64 xn)).heap[G]? = some (.cells #[.int .i64 xn, .int .i64 T, .slice a8 M.length n8] 26) := blk_set HE.out 0 _
        replace HC := Lib.hid ((g3.block _ (lt_of_block HC.out) (fun h => by injection h with h; have := HNc.out; omega)).trans HC.out)
        replace HO := Lib.hid (HO.out.kept g3 (Or.inr (fun hh => owns_ne_box (by decide) HO.out HE0.out _ hh rfl)))
        replace HB := Lib.hid (HB.out.grown g3 HB.out.size (fun k hk => by injection hk with hk; have := HNa.out; omega))
        replace HE := Lib.hid hE3
        clear g3 hE3 HE0
        obtain ⟨eh0, eh1, eh2⟩ := rcs HE.out
        have HE0 := Lib.hid HE.out
        obtain ⟨e10, e11, e12⟩ := rcs HE.out
        obtain ⟨ef10, ef11, ef12⟩ := rfr HE.out
        have g3 := grown_set (wb.setCell ⟨G, 0, none⟩ (.int .i64 xn)) G 1 (.int .i64 (T + 1))
        have hE3 : ((wb.setCell ⟨G, 0, none⟩ (.int .i64 xn)).setCell ⟨G, 1, none⟩ (.int .i64 (T + 1))).heap[G]? = some (.cells #[.int .i64 xn, .int .i64 (T + 1), .slice a8 M.length n8] 26) := blk_set HE.out 1 _
        replace HC := Lib.hid ((g3.block _ (lt_of_block HC.out) (fun h => by injection h with h; have := HNc.out; omega)).trans HC.out)
        replace HO := Lib.hid (HO.out.kept g3 (Or.inr (fun hh => owns_ne_box (by decide) HO.out HE0.out _ hh rfl)))
        replace HB := Lib.hid (HB.out.grown g3 HB.out.size (fun k hk => by injection hk with hk; have := HNa.out; omega))
        replace HE := Lib.hid hE3
        clear g3 hE3 HE0
        obtain ⟨y0, y1, y2⟩ := rcs HE.out
        obtain ⟨q0, q1, q2⟩ := rcs HC.out
        obtain ⟨f0, f1, f2⟩ := rfr HC.out
        obtain ⟨k9, g9⟩ := rst HC.out (.int .i64 xn) (.int .i64 (T + 1)) (.slice a8 M.length n8)
        obtain ⟨r0, r1, r2⟩ := rcs k9
        have HB9 := Lib.hid (HB.out.grown g9 HB.out.size (fun k hk => by injection hk with hk; omega))
        have HO9 := Lib.hid ((HO.out.kept g9 (Or.inr (fun hh => owns_ne_box (by decide) HO.out HC.out _ hh rfl))).mono (B' := w.heap.size) (by omega))
        clear k9 g9
        go_wp2_with fail
        exact bodyPost_ret (v := .tuple #[.agg #[.int .i64 xn, .int .i64 (T + 1), .slice a8 M.length n8], .int .i64 m1, .bool true]) (by simp [results, Try.results38, go_sem, r0, r1, r2]) rfl ⟨_, by rw [HAh.out.1, HAh.out.2.1, HAh.out.2.2.1, HAh.out.2.2.2.2, HTe.out], by rw [HAh.out.2.2.2.1]; exact HO9.out, HB9.out⟩


/-- spec.KeyForStep. -/
theorem spec_kf {lim : Nat} {w : World} {v : Value} {xs : Kept} {c s t : Int} (h : RdS kepE lim w v xs) (hlim : lim ≤ w.heap.size) (hcw : (Lit.int .i64 c).wf = true) (hsw : (Lit.int .i64 s).wf = true) (htw : (Lit.int .i64 t).wf = true) (hn : xs.length ≤ 1048576) :
    Calls Try.prog 38 #[.agg #[.int .i64 c, .int .i64 s, v], .int .i64 t] w fun e w' => ∃ v', e = .returned (.tuple #[.agg #[.int .i64 (kfC c s xs t), .int .i64 (kfS c s xs t), v'], .int .i64 (kfM c s xs t), .bool (kfq c s xs t)]) ∧ OwnS kepE 40 w.heap.size w' v' (kfL c s xs t) ∧ Below w.heap.size w w' := by
  by_cases h1 : okR c s xs = true ∧ t < 100000 ∧ ¬ t < s
  · exact spec_kf_hi h hlim hcw hsw htw hn h1.1 h1.2.1 h1.2.2
  · exact spec_kf_lo h hlim hcw hsw htw hn (fun a b => Decidable.byContradiction fun d => h1 ⟨a, b, d⟩)

end Go.Proofs.Ytlbijjifeaimjaa
