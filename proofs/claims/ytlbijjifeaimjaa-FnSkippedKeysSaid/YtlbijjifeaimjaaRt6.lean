/- Ratchets: KeyForStep, the program's. No conditions but numbers and lengths that a machine holds. -/
import Derived.Test.YtlbijjifeaimjaaRt5
import Derived.Test.YtlbijjifeaimjaaRtK
namespace Go.Proofs.Ytlbijjifeaimjaa
open Go Go.RowKit Go.Maps Go.Sort
set_option linter.unusedVariables false
set_option maxRecDepth 20000
attribute [local irreducible] kh kid

set_option maxHeartbeats 16000000 in
/-- impl.KeyForStep. -/
theorem impl_kf {lim : Nat} {w : World} {v : Value} {xs : Kept} {c s t : Int} (h : RdS kepE lim w v xs) (hlim : lim ≤ w.heap.size) (hcw : (Lit.int .i64 c).wf = true) (hsw : (Lit.int .i64 s).wf = true) (htw : (Lit.int .i64 t).wf = true) (hn : xs.length ≤ 1048576) :
    Calls Try.prog 6 #[.agg #[.int .i64 c, .int .i64 s, v], .int .i64 t] w fun e w' => ∃ v', e = .returned (.tuple #[.agg #[.int .i64 (kfC c s xs t), .int .i64 (kfS c s xs t), v'], .int .i64 (kfM c s xs t), .bool (kfq c s xs t)]) ∧ OwnS kepE 40 w.heap.size w' v' (kfL c s xs t) ∧ Below w.heap.size w w' := by
  obtain ⟨p, cap, rfl, h1, h2, -⟩ := h.open
  have HR0 := Lib.hid h
  have HCw := Lib.hid hcw
  have HSw := Lib.hid hsw
  have hsb := wf_i64 hsw
  clear h hcw hsw h1 h2
  obtain ⟨W, hW⟩ : ∃ W, W = ((w.alloc (.cells #[.int .i64 c, .int .i64 s, .slice p xs.length cap] 26)).alloc (.cells #[.int .i64 0, .int .i64 0, .slice none 0 0] 26)) := ⟨_, rfl⟩
  have HW := Lib.hid hW
  have hK := blocks2T w (.cells #[.int .i64 c, .int .i64 s, .slice p xs.length cap] 26) (.cells #[.int .i64 0, .int .i64 0, .slice none 0 0] 26)
  rw [← hW] at hK
  have HA := Lib.hid hK.1
  have HC := Lib.hid hK.2
  have HB : Hid (Below w.heap.size w W) := Lib.hid (by rw [hW]; exact ((Below.refl _ _).alloc (Nat.le_refl _) _).alloc (by simp) _)
  have HS2 : Hid (W.heap.size = w.heap.size + 1 + 1) := Lib.hid (by rw [hW]; simp)
  clear hK hW
  have HR := Lib.hid (HR0.out.behind (HB.out.mono hlim))
  clear HR0
  have HN := Lib.hid hn
  have HTw := Lib.hid htw
  have htb := wf_i64 htw
  have hlm := HR.out.len
  unfold maxLen at hlm
  obtain ⟨c0, c1, c2⟩ := rcs HA.out
  rw [HW.out] at c0 c1 c2
  clear hn htw
  cases hk : okR c s xs with
  | false =>
    have HK := Lib.hid hk
    have HQf := Lib.hid (kf_bad (t := t) hk)
    have HZ := Lib.hid (kf_no HQf.out)
    clear hk
    go_enter Try.func6, Try.ntmps6
    go_wp2_with fail
    rw [← HW.out]
    refine (impl_vr HR.out (Nat.le_trans hlim HB.out.size) HCw.out HSw.out).mono ?_
    rw [HK.out]
    rintro e w6 ⟨rfl, hb⟩
    clear c0 c1 c2
    replace HA := Lib.hid (rstand HA.out hb)
    replace HC := Lib.hid (rstand HC.out hb)
    replace HR := Lib.hid (HR.out.behind (hb.mono (Nat.le_trans hlim HB.out.size)))
    replace HB := Lib.hid (HB.out.trans (hb.mono HB.out.size))
    clear hb
    obtain ⟨c0, c1, c2⟩ := rcs HA.out
    go_wp2_with fail
    refine (impl_cpr HR.out (Nat.le_trans hlim HB.out.size) HCw.out HSw.out HN.out).mono ?_
    rintro e w8 ⟨v8, rfl, h8, hb⟩
    obtain ⟨a8, n8, rfl, _⟩ := h8.open
    have HLt := Lib.hid (fun r hr => (h8.lt r hr).1)
    have HBs := Lib.hid HB.out.size
    have HCl := Lib.hid (lt_of_block HC.out)
    have HO := Lib.hid (h8.mono HB.out.size)
    replace HC := Lib.hid (rstand HC.out hb)
    replace HB := Lib.hid (HB.out.trans (hb.mono HB.out.size))
    clear hb
    obtain ⟨q0, q1, q2⟩ := rcs HC.out
    obtain ⟨f0, f1, f2⟩ := rfr HC.out
    obtain ⟨k9, g9⟩ := rst HC.out (.int .i64 c) (.int .i64 s) (.slice a8 xs.length n8)
    obtain ⟨r0, r1, r2⟩ := rcs k9
    have HB9 := Lib.hid (HB.out.grown g9 HB.out.size (fun k hk => by injection hk with hk; omega))
    have HO9 := Lib.hid (HO.out.kept g9 (Or.inr (fun hh => by have := HLt.out _ hh; have := HCl.out; omega)))
    clear k9 g9 h8
    go_wp2_with fail
    exact bodyPost_ret (v := .tuple #[.agg #[.int .i64 c, .int .i64 s, .slice a8 xs.length n8], .int .i64 0, .bool false]) (by simp [results, Try.results6, go_sem, r0, r1, r2]) rfl ⟨_, by rw [HZ.out.1, HZ.out.2.1, HZ.out.2.2.2, HQf.out], by rw [HZ.out.2.2.1]; exact HO9.out, HB9.out⟩
  | true =>
  have HK := Lib.hid hk
  have hs0 := (okR_iff.1 hk).2.1
  have hx8 := (okR_iff.1 hk).2.2.1
  have HKK := Lib.hid (okR_iff.1 hk).2.2.2.1
  have HAs := Lib.hid (asc_of (okR_iff.1 hk).2.2.2.2)
  have HC0 := Lib.hid (okR_iff.1 hk).1
  obtain ⟨m0, hm0⟩ : ∃ m0, m0 = mn (s + 8) 99999 := ⟨_, rfl⟩
  cases hin : inR t 0 m0 with
  | false =>
    have HI : Hid (inR t 0 (mn (s + 8) 99999) = false) := Lib.hid (by rw [← hm0]; exact hin)
    have HQf := Lib.hid (kf_out (c := c) (xs := xs) (kRn.1 HI.out))
    have HZ := Lib.hid (kf_no HQf.out)
    clear hk hin hm0
    go_enter Try.func6, Try.ntmps6
    go_wp2_with fail
    rw [← HW.out]
    refine (impl_vr HR.out (Nat.le_trans hlim HB.out.size) HCw.out HSw.out).mono ?_
    rw [HK.out]
    rintro e w6 ⟨rfl, hb⟩
    clear c0 c1 c2
    replace HA := Lib.hid (rstand HA.out hb)
    replace HC := Lib.hid (rstand HC.out hb)
    replace HR := Lib.hid (HR.out.behind (hb.mono (Nat.le_trans hlim HB.out.size)))
    replace HB := Lib.hid (HB.out.trans (hb.mono HB.out.size))
    clear hb
    obtain ⟨c0, c1, c2⟩ := rcs HA.out
    go_wp2_with fail
    refine (impl_mn _ _ _ (wf_i64_of (by omega) (by omega)) (by decide)).mono ?_
    rintro e w7 ⟨rfl, hb⟩
    clear c0 c1 c2
    replace HA := Lib.hid (rstand HA.out hb)
    replace HC := Lib.hid (rstand HC.out hb)
    replace HR := Lib.hid (HR.out.behind (hb.mono (Nat.le_trans hlim HB.out.size)))
    replace HB := Lib.hid (HB.out.trans (hb.mono HB.out.size))
    clear hb
    obtain ⟨c0, c1, c2⟩ := rcs HA.out
    go_wp2_with fail
    refine (impl_in _ _ _ _ HTw.out).mono ?_
    rw [HI.out]
    rintro e wq ⟨rfl, hw⟩
    obtain rfl : w7 = wq := hw.symm
    go_wp2_with fail
    refine (impl_cpr HR.out (Nat.le_trans hlim HB.out.size) HCw.out HSw.out HN.out).mono ?_
    rintro e w8 ⟨v8, rfl, h8, hb⟩
    obtain ⟨a8, n8, rfl, _⟩ := h8.open
    have HLt := Lib.hid (fun r hr => (h8.lt r hr).1)
    have HBs := Lib.hid HB.out.size
    have HCl := Lib.hid (lt_of_block HC.out)
    have HO := Lib.hid (h8.mono HB.out.size)
    replace HC := Lib.hid (rstand HC.out hb)
    replace HB := Lib.hid (HB.out.trans (hb.mono HB.out.size))
    clear hb
    obtain ⟨q0, q1, q2⟩ := rcs HC.out
    obtain ⟨f0, f1, f2⟩ := rfr HC.out
    obtain ⟨k9, g9⟩ := rst HC.out (.int .i64 c) (.int .i64 s) (.slice a8 xs.length n8)
    obtain ⟨r0, r1, r2⟩ := rcs k9
    have HB9 := Lib.hid (HB.out.grown g9 HB.out.size (fun k hk => by injection hk with hk; omega))
    have HO9 := Lib.hid (HO.out.kept g9 (Or.inr (fun hh => by have := HLt.out _ hh; have := HCl.out; omega)))
    clear k9 g9 h8
    go_wp2_with fail
    exact bodyPost_ret (v := .tuple #[.agg #[.int .i64 c, .int .i64 s, .slice a8 xs.length n8], .int .i64 0, .bool false]) (by simp [results, Try.results6, go_sem, r0, r1, r2]) rfl ⟨_, by rw [HZ.out.1, HZ.out.2.1, HZ.out.2.2.2, HQf.out], by rw [HZ.out.2.2.1]; exact HO9.out, HB9.out⟩
  | true =>
  have HI : Hid (inR t 0 (mn (s + 8) 99999) = true) := Lib.hid (by rw [← hm0]; exact hin)
  obtain ⟨N, hN⟩ : ∃ N : Nat, N = (t + 1 - s).toNat := ⟨_, rfl⟩
  have HF := Lib.hid (kf_in hk (kRi.1 HI.out) hN)
  have hN9 : N ≤ 9 := by
    have := kRi.1 HI.out
    unfold mn at this
    split at this <;> omega
  have hNt : ∀ j : Nat, j < N → s + (j : Int) ≤ t := fun j hj => by omega
  have hNe : t < s + (N : Int) := by omega
  have HNt := Lib.hid hNt
  clear hk hin hm0 hN hNt
  go_enter Try.func6, Try.ntmps6
  go_wp2_with fail
  rw [← HW.out]
  refine (impl_vr HR.out (Nat.le_trans hlim HB.out.size) HCw.out HSw.out).mono ?_
  rw [HK.out]
  rintro e w6 ⟨rfl, hb⟩
  clear c0 c1 c2
  replace HA := Lib.hid (rstand HA.out hb)
  replace HC := Lib.hid (rstand HC.out hb)
  replace HR := Lib.hid (HR.out.behind (hb.mono (Nat.le_trans hlim HB.out.size)))
  replace HB := Lib.hid (HB.out.trans (hb.mono HB.out.size))
  clear hb
  obtain ⟨c0, c1, c2⟩ := rcs HA.out
  go_wp2_with fail
  refine (impl_mn _ _ _ (wf_i64_of (by omega) (by omega)) (by decide)).mono ?_
  rintro e w7 ⟨rfl, hb⟩
  clear c0 c1 c2
  replace HA := Lib.hid (rstand HA.out hb)
  replace HC := Lib.hid (rstand HC.out hb)
  replace HR := Lib.hid (HR.out.behind (hb.mono (Nat.le_trans hlim HB.out.size)))
  replace HB := Lib.hid (HB.out.trans (hb.mono HB.out.size))
  clear hb
  obtain ⟨c0, c1, c2⟩ := rcs HA.out
  go_wp2_with fail
  refine (impl_in _ _ _ _ HTw.out).mono ?_
  rw [HI.out]
  rintro e wq ⟨rfl, hw⟩
  obtain rfl : w7 = wq := hw.symm
  obtain ⟨W5, hW5⟩ : ∃ W5, W5 = w7.alloc (.cells #[.int .i64 c, .int .i64 s, .slice none 0 0] 26) := ⟨_, rfl⟩
  have HW5 := Lib.hid hW5
  obtain ⟨G, hG⟩ : ∃ G, G = w7.heap.size := ⟨_, rfl⟩
  have HGe := Lib.hid hG
  have HE : Hid (W5.heap[G]? = some (.cells #[.int .i64 c, .int .i64 s, .slice none 0 0] 26)) := Lib.hid (by rw [hW5, hG]; exact heap_alloc_new _ _)
  have hb5 : Below w7.heap.size w7 W5 := by rw [hW5]; exact (Below.refl _ _).alloc (Nat.le_refl _) _
  have HCl := Lib.hid (lt_of_block HC.out)
  have HLow : Hid (w.heap.size + 1 < G) := Lib.hid (by rw [hG]; exact lt_of_block HC.out)
  replace HA := Lib.hid (rstand HA.out hb5)
  replace HC := Lib.hid (rstand HC.out hb5)
  replace HR := Lib.hid (HR.out.behind (hb5.mono (Nat.le_trans hlim HB.out.size)))
  replace HB := Lib.hid (HB.out.trans (hb5.mono HB.out.size))
  clear hb5
  obtain ⟨d0, d1, d2⟩ := rcs HA.out
  rw [HW5.out] at d0 d1 d2
  clear hW5 hG
  go_wp2_with fail
  rw [← HW5.out, ← HGe.out]
  refine (kbs_any HR.out (Nat.le_trans hlim HB.out.size) HAs.out).mono ?_
  rintro e w8 ⟨b, D, rfl, hbs, hM, hD, hb⟩
  have HG5 := Lib.hid (lt_of_block HE.out)
  have HBG : Hid (G < b) := Lib.hid (by have := HG5.out; omega)
  have HM := Lib.hid hM
  have HD := Lib.hid hD
  clear c0 c1 c2 d0 d1 d2
  replace HA := Lib.hid (rstand HA.out hb)
  replace HC := Lib.hid (rstand HC.out hb)
  replace HR := Lib.hid (HR.out.behind (hb.mono (Nat.le_trans hlim HB.out.size)))
  replace HE := Lib.hid (rstand HE.out hb)
  replace HB := Lib.hid (HB.out.trans (hb.mono HB.out.size))
  clear hb
  clear hM hD hbs
  go_wp2_with fail
  go_loopw [9] (fun _ wr => ∃ (j : Nat) (D : DataW Unit), j ≤ N ∧ wr.heap[G]? = some (.cells #[.int .i64 (chn c j), .int .i64 (s + (j : Int)), .slice none 0 0] 26) ∧ wr.ownsMap Try.prog 3 (plainElem (H := Unit) Try.prog 3) b (xs.length + j) D ∧ MapK D (xs ++ skp c s j) ∧ wr.heap[w.heap.size]? = some (.cells #[.int .i64 c, .int .i64 s, .slice p xs.length cap] 26) ∧ wr.heap[w.heap.size + 1]? = some (.cells #[.int .i64 0, .int .i64 0, .slice none 0 0] 26) ∧ RdS kepE lim wr (.slice p xs.length cap) xs ∧ Below w.heap.size w wr) (fun _ wr => N - (intOf ((wr.cell? ⟨G, 1, none⟩).getD undef) - s).toNat)
  case atStart => exact ⟨0, D, Nat.zero_le _, by have := HE.out; simpa [chn] using this, HM.out, by have := HD.out; simpa [skp] using this, HA.out, HC.out, HR.out, HB.out⟩
  case round =>
    obtain ⟨j, D, hj, hE, hM, hD, hA, hC, hR, hB⟩ := hrel
    replace HE := Lib.hid hE
    replace HM := Lib.hid hM
    replace HD := Lib.hid hD
    replace HA := Lib.hid hA
    replace HC := Lib.hid hC
    replace HR := Lib.hid hR
    replace HB := Lib.hid hB
    have HGl := Lib.hid (lt_of_block hE)
    have HMl := Lib.hid hM.lt
    obtain ⟨e0, e1, e2⟩ := rcs hE
    have hsj : 0 ≤ s + (j : Int) ∧ s + (j : Int) ≤ 200000 := by omega
    clear hE hM hD hA hC hR hB
    by_cases hlt : j < N
    · have e9 : decide (s + (j : Int) ≤ t) = true := by have := HNt.out j hlt; simpa using this
      have HCj := Lib.hid (chn_bound HC0.out j)
      obtain ⟨x, hx⟩ : ∃ x, x = chn c j := ⟨_, rfl⟩
      obtain ⟨m, hm⟩ : ∃ m, m = mky x := ⟨_, rfl⟩
      obtain ⟨n, hn⟩ : ∃ n, n = nxc x := ⟨_, rfl⟩
      rw [← hx] at HE HCj e0
      have HX := Lib.hid hx
      have Hm := Lib.hid hm
      have Hn := Lib.hid hn
      have k0 := e1
      have Hk0 := Lib.hid k0
      clear k0 hx hm hn
      go_wp2_with fail
      refine (turn_any HE.out (wf_i64_of (by have := HCj.out; omega) (by have := HCj.out; omega)) hsj).mono ?_
      rw [← Hm.out, ← Hn.out]
      rintro e w6 ⟨rfl, hE6, hg⟩
      clear e0 e1 e2
      replace HE := Lib.hid hE6
      replace HA := Lib.hid ((hg.block _ (lt_of_block HA.out) (fun h => by injection h with h; have := HLow.out; omega)).trans HA.out)
      replace HC := Lib.hid ((hg.block _ (lt_of_block HC.out) (fun h => by injection h with h; have := HLow.out; omega)).trans HC.out)
      replace HR := Lib.hid (HR.out.behind ((Below.refl lim _).grown hg (Nat.le_trans hlim HB.out.size) (fun k hk => by injection hk with hk; have := HLow.out; omega)))
      replace HB := Lib.hid (HB.out.grown hg HB.out.size (fun k hk => by injection hk with hk; have := HLow.out; omega))
      replace HM := Lib.hid (HM.out.kept hg (by intro h; injection h with h; have := HBG.out; omega))
      clear hE6 hg
      have HKe : Hid (keyOf Try.prog 3 (.int .i64 (s + (j : Int))) = some (.int .i64 (s + (j : Int)))) := Lib.hid (keyOf_int_mk Try.underlying3 (wf_i64_of (by omega) (by omega)))
      have HP : Hid (plainElem (H := Unit) Try.prog 3 (.int .i64 m) = some (.lit (.int .i64 m), [])) := Lib.hid (plainElem_int Try.underlying3 (by rw [Hm.out]; exact mky_wf _))
      have HS : Hid (MapK (D.put (.int .i64 (s + (j : Int))) (.lit (.int .i64 m))) (xs ++ skp c s (j + 1))) := Lib.hid (by
        rw [skp_snoc, ← List.append_assoc, ← HX.out, ← Hm.out]
        exact HD.out.put (hasK_no (ks_lt HKK.out j)))
      go_wp2_with (first
        | (at_mapUpdate; refine wpList_mapUpdate_own _ rfl _ _ _ 45 rfl 3 3 lawInt Try.underlying45 (plainElem (H := Unit) Try.prog 3) b (xs.length + j) _ rfl HM.out (by unfold maxLen; omega) _ _ _ rfl rfl HKe.out _ [] HP.out ?_; intro w8 hown8 hg; go_frame))
      replace HA := Lib.hid ((hg.block _ (lt_of_block HA.out) (fun h => by injection h with h; have := HLow.out; have := HBG.out; omega)).trans HA.out)
      replace HC := Lib.hid ((hg.block _ (lt_of_block HC.out) (fun h => by injection h with h; have := HLow.out; have := HBG.out; omega)).trans HC.out)
      replace HR := Lib.hid (HR.out.behind ((Below.refl lim _).grown hg (Nat.le_trans hlim HB.out.size) (fun k hk => by injection hk with hk; have := HLow.out; have := HBG.out; omega)))
      replace HE := Lib.hid ((hg.block _ (lt_of_block HE.out) (fun h => by injection h with h; have := HBG.out; omega)).trans HE.out)
      replace HB := Lib.hid (HB.out.grown hg HB.out.size (fun k hk => by injection hk with hk; have := HLow.out; have := HBG.out; omega))
      have H8 := Lib.hid hown8
      have K8 : Hid (w8.cell? ⟨G, 1, none⟩ = some (.int .i64 (s + (j : Int) + 1))) := Lib.hid (rcs HE.out).2.1
      have HEf : Hid (w8.heap[G]? = some (.cells #[.int .i64 (chn c (j + 1)), .int .i64 (s + ((j + 1 : Nat) : Int)), .slice none 0 0] 26)) := Lib.hid (by
        rw [chn_succ, ← HX.out, ← Hn.out, show s + ((j + 1 : Nat) : Int) = s + (j : Int) + 1 by push_cast; omega]
        exact HE.out)
      clear hown8 hg
      go_wp2_with fail
      go_roundw
      case rel => exact ⟨j + 1, _, hlt, HEf.out, H8.out, HS.out, HA.out, HC.out, HR.out, HB.out⟩
      case measure =>
        rw [K8.out, Hk0.out]
        simp only [Option.getD_some, intOf]
        omega
    · obtain rfl : j = N := by omega
      have e9 : decide (s + (j : Int) ≤ t) = false := by simp; omega
      obtain ⟨c0, c1, c2⟩ := rcs HA.out
      have HKe : Hid (keyOf Try.prog 3 (.int .i64 t) = some (.int .i64 t)) := Lib.hid (keyOf_int_mk Try.underlying3 HTw.out)
      cases hq : kfq c s xs t with
      | false =>
        have HQf := Lib.hid hq
        have HZ := Lib.hid (kf_no hq)
        have HH : Hid (Maps.has D (.int .i64 t) = false) := Lib.hid (by rw [HD.out.2.1, HF.out.1]; exact hq)
        clear hq
        go_wp2_with (first
          | (at_lookup; refine wpList_lookup_own_ok_int _ rfl _ _ 45 rfl 3 3 .i64 lawInt Try.underlying45 Try.underlying3 (kzero _) b _ _ rfl HM.out _ _ rfl HKe.out ?_; intro cc hat hwc; rw [HH.out]; clear hat hwc))
        go_wp2_with fail
        refine (impl_cpr HR.out (Nat.le_trans hlim HB.out.size) HCw.out HSw.out HN.out).mono ?_
        rintro e w8 ⟨v8, rfl, h8, hb⟩
        obtain ⟨a8, n8, rfl, _⟩ := h8.open
        have HLt := Lib.hid (fun r hr => (h8.lt r hr).1)
        have HBs := Lib.hid HB.out.size
        have HCl := Lib.hid (lt_of_block HC.out)
        have HO := Lib.hid (h8.mono HB.out.size)
        replace HC := Lib.hid (rstand HC.out hb)
        replace HB := Lib.hid (HB.out.trans (hb.mono HB.out.size))
        clear hb
        obtain ⟨q0, q1, q2⟩ := rcs HC.out
        obtain ⟨f0, f1, f2⟩ := rfr HC.out
        obtain ⟨k9, g9⟩ := rst HC.out (.int .i64 c) (.int .i64 s) (.slice a8 xs.length n8)
        obtain ⟨r0, r1, r2⟩ := rcs k9
        have HB9 := Lib.hid (HB.out.grown g9 HB.out.size (fun k hk => by injection hk with hk; omega))
        have HO9 := Lib.hid (HO.out.kept g9 (Or.inr (fun hh => by have := HLt.out _ hh; have := HCl.out; omega)))
        clear k9 g9 h8
        go_wp2_with fail
        exact bodyPost_ret (v := .tuple #[.agg #[.int .i64 c, .int .i64 s, .slice a8 xs.length n8], .int .i64 0, .bool false]) (by simp [results, Try.results6, go_sem, r0, r1, r2]) rfl ⟨_, by rw [HZ.out.1, HZ.out.2.1, HZ.out.2.2.2, HQf.out], by rw [HZ.out.2.2.1]; exact HO9.out, HB9.out⟩
      | true =>
        have HQt := Lib.hid hq
        obtain ⟨hg1, hg2, hg3, hg4⟩ := HF.out.2 hq
        have hhk : hasK (xs ++ skp c s j) t = true := HF.out.1.trans hq
        have HH : Hid (Maps.has D (.int .i64 t) = true) := Lib.hid (by rw [HD.out.2.1]; exact hhk)
        have HAt : Hid (∀ cc : Int, D.atKey (.int .i64 t) (.lit (.int .i64 0)) = .lit (.int .i64 cc) → cc = kfM c s xs t) := Lib.hid (fun cc hat => by
          rw [HD.out.2.2.1 t hhk, hg1] at hat
          injection hat with hat
          injection hat with _ hat
          exact hat.symm)
        have HL := Lib.hid hg2
        have HDd := Lib.hid (HD.out.del t)
        have HAd := Lib.hid ((ks_asc (c := c) HKK.out HAs.out j).del t)
        have HWd : Hid (∀ x ∈ delK (xs ++ skp c s j) t, (Lit.int .i64 x.1).wf = true ∧ (Lit.int .i64 x.2).wf = true) := Lib.hid (fun x hx => by
          have := ks_wf (c := c) hs0.2 HKK.out hN9 x (List.mem_filter.1 hx).1
          exact ⟨wf_i64_of (by omega) (by omega), wf_i64_of (by omega) (by omega)⟩)
        have HDl : Hid ((delK (xs ++ skp c s j) t).length ≤ 1000) := Lib.hid (by
          have h1 := delK_len (xs ++ skp c s j) t
          rw [List.length_append, skp_len] at h1
          omega)
        obtain ⟨C, hC⟩ : ∃ C, C = chn c j := ⟨_, rfl⟩
        have HCC : Hid (C = kfC c s xs t) := Lib.hid (hC.trans hg3)
        obtain ⟨T, hT⟩ : ∃ T, T = s + (j : Int) := ⟨_, rfl⟩
        have HTT : Hid (T = kfS c s xs t) := Lib.hid (hT.trans hg4)
        rw [← hC, ← hT] at HE
        rw [← hC] at e0
        rw [← hT] at e1 e9 hsj
        obtain ⟨M, hM⟩ : ∃ M, M = kfL c s xs t := ⟨_, rfl⟩
        rw [← hM] at HL
        have HMe := Lib.hid hM
        clear hq hg1 hg2 hg3 hg4 hhk hC hT hM hsj hNe
        go_wp2_with (first
          | (at_lookup; refine wpList_lookup_own_ok_int _ rfl _ _ 45 rfl 3 3 .i64 lawInt Try.underlying45 Try.underlying3 (kzero _) b _ _ rfl HM.out _ _ rfl HKe.out ?_; intro cc hat hwc; rw [HH.out]; have HCc := Lib.hid (HAt.out cc hat); clear hat hwc)
          | (at_delete; refine wpList_delete_own _ rfl _ _ 45 3 rfl 3 lawInt Try.underlying45 _ b _ _ rfl HM.out _ _ rfl HKe.out ?_; intro w9 hown9 hturn9; have HM9 := Lib.hid hown9; have HG9 := Lib.hid hturn9.grown; clear hown9 hturn9))
        have hg := HG9.out
        clear c0 c1 c2 e0 e1 e2
        replace HA := Lib.hid ((hg.block _ (lt_of_block HA.out) (fun h => by injection h with h; have := HLow.out; have := HBG.out; omega)).trans HA.out)
        replace HC := Lib.hid ((hg.block _ (lt_of_block HC.out) (fun h => by injection h with h; have := HLow.out; have := HBG.out; omega)).trans HC.out)
        replace HR := Lib.hid (HR.out.behind ((Below.refl lim _).grown hg (Nat.le_trans hlim HB.out.size) (fun k hk => by injection hk with hk; have := HLow.out; have := HBG.out; omega)))
        replace HE := Lib.hid ((hg.block _ (lt_of_block HE.out) (fun h => by injection h with h; have := HBG.out; omega)).trans HE.out)
        replace HB := Lib.hid (HB.out.grown hg HB.out.size (fun k hk => by injection hk with hk; have := HLow.out; have := HBG.out; omega))
        clear hg HG9
        refine (lks_any HM9.out HDd.out HAd.out (by omega) HDl.out HWd.out).mono ?_
        rw [HL.out]
        rintro e w10 ⟨v10, rfl, h10, hb⟩
        obtain ⟨a10, n10, rfl, _⟩ := h10.open
        have HLt := Lib.hid (fun r hr => (h10.lt r hr).1)
        have HO := Lib.hid (h10.mono HB.out.size)
        have HGl9 := Lib.hid (lt_of_block HE.out)
        have HCl9 := Lib.hid (lt_of_block HC.out)
        replace HE := Lib.hid (rstand HE.out hb)
        replace HC := Lib.hid (rstand HC.out hb)
        replace HB := Lib.hid (HB.out.trans (hb.mono HB.out.size))
        clear hb
        obtain ⟨e0, e1, e2⟩ := rcs HE.out
        obtain ⟨ef0, ef1, ef2⟩ := rfr HE.out
        have g11 := grown_set w10 G 2 (.slice a10 M.length n10)
        have hE11 : (w10.setCell ⟨G, 2, none⟩ (.slice a10 M.length n10)).heap[G]? = some (.cells #[.int .i64 C, .int .i64 T, .slice a10 M.length n10] 26) := blk_set HE.out 2 _
        have hC11 := (g11.block _ (lt_of_block HC.out) (fun h => by injection h with h; have := HLow.out; omega)).trans HC.out
        obtain ⟨y0, y1, y2⟩ := rcs hE11
        obtain ⟨q0, q1, q2⟩ := rcs hC11
        obtain ⟨f0, f1, f2⟩ := rfr hC11
        obtain ⟨k9, g9⟩ := rst hC11 (.int .i64 C) (.int .i64 T) (.slice a10 M.length n10)
        obtain ⟨r0, r1, r2⟩ := rcs k9
        have hB11 := HB.out.grown g11 HB.out.size (fun k hk => by injection hk with hk; have := HLow.out; omega)
        have HB9 := Lib.hid (hB11.grown g9 hB11.size (fun k hk => by injection hk with hk; omega))
        have HO9 := Lib.hid ((HO.out.kept g11 (Or.inr (fun hh => by have := HLt.out _ hh; have := HGl9.out; omega))).kept g9 (Or.inr (fun hh => by have := HLt.out _ hh; have := HCl9.out; omega)))
        clear k9 g9 g11 hE11 hC11 hB11 h10
        go_wp2_with fail
        exact bodyPost_ret (v := .tuple #[.agg #[.int .i64 C, .int .i64 T, .slice a10 M.length n10], .int .i64 cc, .bool true]) (by simp [results, Try.results6, go_sem, r0, r1, r2]) rfl ⟨_, by rw [← HCC.out, ← HTT.out, ← HCc.out, HQt.out], by rw [← HMe.out]; exact HO9.out, HB9.out⟩

end Go.Proofs.Ytlbijjifeaimjaa
