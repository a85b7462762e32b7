/- Ratchets: KeyForStep, the document's. No conditions but numbers and lengths that a machine holds. -/
import Derived.Test.YtlbijjifeaimjaaRt4
import Derived.Test.YtlbijjifeaimjaaRtS
import Derived.Test.YtlbijjifeaimjaaRtA
import Derived.Test.YtlbijjifeaimjaaRtK
namespace Go.Proofs.Ytlbijjifeaimjaa
open Go Go.RowKit
set_option linter.unusedVariables false
set_option maxRecDepth 20000
attribute [local irreducible] kh kid

theorem kf_step {c s t : Int} {xs : Kept} (h : ¬ t < 100000) : kfq c s xs t = false := by
  unfold kfq kfo kfn; rw [decide_eq_false h]; simp
theorem kf_miss {c s t : Int} {xs : Kept} (h : t < s) (hh : hasK xs t = false) : kfq c s xs t = false := by
  unfold kfq kfo kfn; rw [hh, decide_eq_false (show ¬ s ≤ t by omega)]; simp
theorem kf_far {c s t : Int} {xs : Kept} (h : ¬ t < s) (hh : ¬ t - s ≤ 8) : kfq c s xs t = false := by
  unfold kfq kfo kfn; rw [decide_eq_false h, decide_eq_false hh]; simp
theorem kf_hit {c s t : Int} {xs : Kept} (hok : okR c s xs = true) (h1 : t < 100000) (h2 : t < s) {j : Nat} {x : Int × Int} (hx : xs[j]? = some x) (hn : ∀ k y, k < j → xs[k]? = some y → y.1 ≠ t) (e : x.1 = t) :
    kfq c s xs t = true ∧ kfC c s xs t = c ∧ kfS c s xs t = s ∧ kfL c s xs t = xs.take j ++ xs.drop (j + 1) ∧ kfM c s xs t = x.2 := by
  obtain ⟨_, _, _, _, h5⟩ := okR_iff.1 hok
  obtain ⟨g1, g2⟩ := (asc_of h5).get hx
  rw [e] at g1 g2
  have ho : kfo c s xs t = true := by unfold kfo; rw [hok, decide_eq_true h1, decide_eq_true h2, g1]; rfl
  obtain ⟨b1, b2, b3, b4, b5⟩ := kf_old ho
  refine ⟨b1, b2, b3, ?_, b5.trans g2⟩
  rw [b4, ← e]
  exact delK_at (asc_of h5) hx
theorem kf_ahead {c s : Int} {xs : Kept} (hok : okR c s xs = true) {n : Nat} (h1 : s + (n : Int) < 100000) (h2 : n ≤ 8) :
    kfq c s xs (s + (n : Int)) = true ∧ kfC c s xs (s + (n : Int)) = nxc (chn c n) ∧ kfS c s xs (s + (n : Int)) = s + (n : Int) + 1 ∧ kfL c s xs (s + (n : Int)) = lastK (xs ++ skp c s n) ∧ kfM c s xs (s + (n : Int)) = mky (chn c n) := by
  have hk : kfn c s xs (s + (n : Int)) = true := by
    unfold kfn
    rw [hok, decide_eq_true h1, decide_eq_true (show s ≤ s + (n : Int) by omega), decide_eq_true (show s + (n : Int) - s ≤ 8 by omega)]
    rfl
  obtain ⟨b1, b2, b3, b4, b5⟩ := kf_new hk
  have en : (s + (n : Int) - s).toNat = n := by omega
  rw [en] at b2 b4 b5
  exact ⟨b1, b2.trans (chn_succ _ _), b3, b4, b5⟩
theorem hasK_none {xs : Kept} {t : Int} (h : ∀ (k : Nat) (x : Int × Int), k < xs.length → xs[k]? = some x → x.1 ≠ t) : hasK xs t = false := by
  cases hh : hasK xs t with
  | false => rfl
  | true =>
    obtain ⟨x, hx, e⟩ := hasK_iff.1 hh
    obtain ⟨i, hi⟩ := List.mem_iff_getElem?.1 hx
    exact absurd e (h i x (List.getElem?_eq_some_iff.1 hi).1 hi)

set_option maxHeartbeats 32000000 in
/-- spec.KeyForStep, a step behind or none at all. -/
theorem spec_kf_lo {lim : Nat} {w : World} {v : Value} {xs : Kept} {c s t : Int} (h : RdS kepE lim w v xs) (hlim : lim ≤ w.heap.size) (hcw : (Lit.int .i64 c).wf = true) (hsw : (Lit.int .i64 s).wf = true) (htw : (Lit.int .i64 t).wf = true) (hn : xs.length ≤ 1048576) (hcase : okR c s xs = true → t < 100000 → t < s) :
    Calls Try.prog 38 #[.agg #[.int .i64 c, .int .i64 s, v], .int .i64 t] w fun e w' => ∃ v', e = .returned (.tuple #[.agg #[.int .i64 (kfC c s xs t), .int .i64 (kfS c s xs t), v'], .int .i64 (kfM c s xs t), .bool (kfq c s xs t)]) ∧ OwnS kepE 40 w.heap.size w' v' (kfL c s xs t) ∧ Below w.heap.size w w' := by
  obtain ⟨p, cap, rfl, h1, h2, -⟩ := h.open
  have HR0 := Lib.hid h
  have HCw := Lib.hid hcw
  have HSw := Lib.hid hsw
  have hsb := wf_i64 hsw
  clear h hcw hsw h1 h2
  obtain ⟨W, hW⟩ : ∃ W, W = ((w.alloc (.cells #[.int .i64 c, .int .i64 s, .slice p xs.length cap] 26)).alloc (.cells #[.int .i64 0, .int .i64 0, .slice none 0 0] 26)) := ⟨_, rfl⟩
  have HW := Lib.hid hW
  have hK := blocks2T w (.cells #[.int .i64 c, .int .i64 s, .slice p xs.length cap] 26) (.cells #[.int .i64 0, .int .i64 0, .slice none 0 0] 26)
  rw [← hW] at hK
  have HA := Lib.hid hK.1
  have HC := Lib.hid hK.2
  have HB : Hid (Below w.heap.size w W) := Lib.hid (by rw [hW]; exact ((Below.refl _ _).alloc (Nat.le_refl _) _).alloc (by simp) _)
  have HS2 : Hid (W.heap.size = w.heap.size + 1 + 1) := Lib.hid (by rw [hW]; simp)
  clear hK hW
  have HR := Lib.hid (HR0.out.behind (HB.out.mono hlim))
  clear HR0
  have HN := Lib.hid hn
  have HCase := Lib.hid hcase
  clear hcase
  have HTw := Lib.hid htw
  have htb := wf_i64 htw
  obtain ⟨i0, hi, hz0, hz1, hz2⟩ := info_parts infoSkippedKey
  have Hhi := Lib.hid hi
  have c0 := (rcs HA.out).1
  have c1 := (rcs HA.out).2.1
  have c2 := (rcs HA.out).2.2
  rw [HW.out] at c0 c1 c2
  clear hn htw hi
  go_enter Try.func38, Try.ntmps38
  go_wp2_with fail
  rw [← HW.out]
  refine (spec_cpr HR.out (Nat.le_trans hlim HB.out.size) HCw.out HSw.out HN.out).mono ?_
  rintro e w4 ⟨v4, rfl, h4, hb⟩
  obtain ⟨a4, n4, rfl, _⟩ := h4.open
  replace HA := Lib.hid (rstand HA.out hb)
  replace HC := Lib.hid (rstand HC.out hb)
  replace HR := Lib.hid (HR.out.behind (hb.mono (Nat.le_trans hlim HB.out.size)))
  replace HB := Lib.hid (HB.out.trans (hb.mono HB.out.size))
  obtain ⟨W5, hW5⟩ : ∃ W5, W5 = w4.alloc (.cells #[.int .i64 c, .int .i64 s, .slice a4 xs.length n4] 26) := ⟨_, rfl⟩
  have HW5 := Lib.hid hW5
  obtain ⟨G, hG⟩ : ∃ G, G = w4.heap.size := ⟨_, rfl⟩
  have HE : Hid (W5.heap[G]? = some (.cells #[.int .i64 c, .int .i64 s, .slice a4 xs.length n4] 26)) := Lib.hid (by rw [hW5, hG]; exact heap_alloc_new _ _)
  have hb5 : Below w4.heap.size w4 W5 := by rw [hW5]; exact (Below.refl _ _).alloc (Nat.le_refl _) _
  have HLow : Hid (w.heap.size + 1 + 1 ≤ G) := Lib.hid (by have := HS2.out; have := hb.size; omega)
  have HO := Lib.hid ((h4.mono (B' := w.heap.size + 1 + 1) (by have := HS2.out; omega)).next hb5)
  replace HA := Lib.hid (rstand HA.out hb5)
  replace HC := Lib.hid (rstand HC.out hb5)
  replace HR := Lib.hid (HR.out.behind (hb5.mono (Nat.le_trans hlim HB.out.size)))
  replace HB := Lib.hid (HB.out.trans (hb5.mono HB.out.size))
  clear hb5
  have HGe := Lib.hid hG
  clear h4 hW5 hG c0 c1 c2 hb
  obtain ⟨c0, c1, c2⟩ := rcs HA.out
  rw [HW5.out] at c0 c1 c2
  go_wp2_with fail
  rw [← HW5.out, ← HGe.out]
  have HNa : Hid (w.heap.size < G) := Lib.hid (by have := HLow.out; omega)
  have HNc : Hid (w.heap.size + 1 < G) := Lib.hid (by have := HLow.out; omega)
  cases hk : okR c s xs with
  | false =>
    have HK := Lib.hid hk
    clear hk
    refine (spec_vr HR.out (Nat.le_trans hlim HB.out.size) HCw.out HSw.out).mono ?_
    rw [HK.out]
    rintro e w6 ⟨rfl, hb⟩
    clear c0 c1 c2
    replace HA := Lib.hid (rstand HA.out hb)
    replace HC := Lib.hid (rstand HC.out hb)
    replace HE := Lib.hid (rstand HE.out hb)
    replace HO := Lib.hid (HO.out.next hb)
    replace HR := Lib.hid (HR.out.behind (hb.mono (Nat.le_trans hlim HB.out.size)))
    replace HB := Lib.hid (HB.out.trans (hb.mono HB.out.size))
    clear hb
    obtain ⟨c0, c1, c2⟩ := rcs HA.out
    have HQf := Lib.hid (kf_bad (t := t) HK.out)
    have HZ := Lib.hid (kf_no HQf.out)
    obtain ⟨k9, g9⟩ := rst HC.out (.int .i64 c) (.int .i64 s) (.slice a4 xs.length n4)
    obtain ⟨r0, r1, r2⟩ := rcs k9
    have HB9 := Lib.hid (HB.out.grown g9 HB.out.size (fun k hk => by injection hk with hk; omega))
    have HO9 := Lib.hid ((HO.out.kept g9 (Or.inr (fun hh => owns_ne_box (by decide) HO.out HC.out _ hh rfl))).mono (B' := w.heap.size) (by omega))
    obtain ⟨e0, e1, e2⟩ := rcs HE.out
    obtain ⟨q0, q1, q2⟩ := rcs HC.out
    obtain ⟨f0, f1, f2⟩ := rfr HC.out
    clear k9 g9
    go_wp2_with fail
    exact bodyPost_ret (v := .tuple #[.agg #[.int .i64 c, .int .i64 s, .slice a4 xs.length n4], .int .i64 0, .bool false]) (by simp [results, Try.results38, go_sem, r0, r1, r2]) rfl ⟨_, by rw [HZ.out.1, HZ.out.2.1, HZ.out.2.2.2, HQf.out], by rw [HZ.out.2.2.1]; exact HO9.out, HB9.out⟩
  | true =>
  have HK := Lib.hid hk
  have hs0 := (okR_iff.1 hk).2.1
  have hx8 := (okR_iff.1 hk).2.2.1
  have HC0 := Lib.hid (okR_iff.1 hk).1
  have HKK := Lib.hid (okR_iff.1 hk).2.2.2.1
  clear hk
  by_cases ht1 : t < 100000
  case neg =>
    have e9 : decide (100000 ≤ t) = true := by simp; omega
    refine (spec_vr HR.out (Nat.le_trans hlim HB.out.size) HCw.out HSw.out).mono ?_
    rw [HK.out]
    rintro e w6 ⟨rfl, hb⟩
    clear c0 c1 c2
    replace HA := Lib.hid (rstand HA.out hb)
    replace HC := Lib.hid (rstand HC.out hb)
    replace HE := Lib.hid (rstand HE.out hb)
    replace HO := Lib.hid (HO.out.next hb)
    replace HR := Lib.hid (HR.out.behind (hb.mono (Nat.le_trans hlim HB.out.size)))
    replace HB := Lib.hid (HB.out.trans (hb.mono HB.out.size))
    clear hb
    obtain ⟨c0, c1, c2⟩ := rcs HA.out
    have HQf := Lib.hid (kf_step (c := c) (s := s) (xs := xs) ht1)
    have HZ := Lib.hid (kf_no HQf.out)
    obtain ⟨k9, g9⟩ := rst HC.out (.int .i64 c) (.int .i64 s) (.slice a4 xs.length n4)
    obtain ⟨r0, r1, r2⟩ := rcs k9
    have HB9 := Lib.hid (HB.out.grown g9 HB.out.size (fun k hk => by injection hk with hk; omega))
    have HO9 := Lib.hid ((HO.out.kept g9 (Or.inr (fun hh => owns_ne_box (by decide) HO.out HC.out _ hh rfl))).mono (B' := w.heap.size) (by omega))
    obtain ⟨e0, e1, e2⟩ := rcs HE.out
    obtain ⟨q0, q1, q2⟩ := rcs HC.out
    obtain ⟨f0, f1, f2⟩ := rfr HC.out
    clear k9 g9
    go_wp2_with fail
    exact bodyPost_ret (v := .tuple #[.agg #[.int .i64 c, .int .i64 s, .slice a4 xs.length n4], .int .i64 0, .bool false]) (by simp [results, Try.results38, go_sem, r0, r1, r2]) rfl ⟨_, by rw [HZ.out.1, HZ.out.2.1, HZ.out.2.2.2, HQf.out], by rw [HZ.out.2.2.1]; exact HO9.out, HB9.out⟩
  have e9 : decide (100000 ≤ t) = false := by simp; omega
  by_cases hlt : t < s
  · have e8 : decide (t < s) = true := by simp; omega
    refine (spec_vr HR.out (Nat.le_trans hlim HB.out.size) HCw.out HSw.out).mono ?_
    rw [HK.out]
    rintro e w6 ⟨rfl, hb⟩
    clear c0 c1 c2
    replace HA := Lib.hid (rstand HA.out hb)
    replace HC := Lib.hid (rstand HC.out hb)
    replace HE := Lib.hid (rstand HE.out hb)
    replace HO := Lib.hid (HO.out.next hb)
    replace HR := Lib.hid (HR.out.behind (hb.mono (Nat.le_trans hlim HB.out.size)))
    replace HB := Lib.hid (HB.out.trans (hb.mono HB.out.size))
    clear hb
    obtain ⟨c0, c1, c2⟩ := rcs HA.out
    go_wp2_with fail
    obtain ⟨W6, hW6⟩ : ∃ W6, W6 = w6 := ⟨_, rfl⟩
    rw [← hW6] at HA HC HE HO HR HB c0 c1 c2 ⊢
    clear hW6
    obtain ⟨_, _, hpe, _, _, hcp⟩ := HR.out.open
    injection hpe with p1 p2 p3
    subst p1
    subst p3
    have Hcp := Lib.hid hcp
    have hcap := HR.out
    clear hcp hcap
    go_loopw [8] (fun i wr => ∃ j : Nat, i = .int .i64 j ∧ j ≤ xs.length ∧ (∀ (k : Nat) (x : Int × Int), k < j → xs[k]? = some x → x.1 ≠ t) ∧ wr = W6) (fun i _ => xs.length - (intOf i).toNat)
    case atStart => exact ⟨0, rfl, Nat.zero_le _, fun k x hk => by omega, rfl⟩
    case round =>
      obtain ⟨j, rfl, hj, hall, rfl⟩ := hrel
      have HAll := Lib.hid hall
      clear hall
      by_cases hjl : j < xs.length
      · have e7 : decide ((j : Int) < (xs.length : Int)) = true := by simp; omega
        have hji : (j : Int) < (xs.length : Int) := by omega
        obtain ⟨b, o, rfl, hbl, hcell⟩ := Hcp.out (by omega)
        obtain ⟨x, hx⟩ : ∃ x, xs[j]? = some x := ⟨_, List.getElem?_eq_getElem hjl⟩
        have HX := Lib.hid hx
        have hd0 : ∀ w', Below lim wr w' → w'.cell? ⟨b, o + j * 2, none⟩ = some (.int .i64 x.1) ∧ w'.cell? ⟨b, o + j * 2 + 1, none⟩ = some (.int .i64 x.2) := fun w' hb => ⟨hcell w' hb j x hx 0 _ rfl, hcell w' hb j x hx 1 _ rfl⟩
        have HD := Lib.hid hd0
        obtain ⟨d0, d1⟩ := hd0 wr (Below.refl _ _)
        clear hcell hx hd0
        obtain ⟨y, z⟩ := x
        by_cases hy : y = t
        case neg =>
          have e6 : (y == t) = false := by simpa using hy
          go_wp2_with fail
          go_roundw
          case rel => exact ⟨j + 1, by simp, hjl, fun k x hk hx => by
            by_cases hkj : k = j
            · subst hkj
              rw [HX.out] at hx
              injection hx with hx
              rw [← hx]
              exact hy
            · exact HAll.out k x (by omega) hx, by first | rfl | trivial⟩
          case measure => simp [intOf]; omega
        subst hy
        have e6 : (y == y) = true := by simp
        have HH := Lib.hid (kf_hit HK.out ht1 hlt HX.out (fun k x hk hx => HAll.out k x hk hx) rfl)
        obtain ⟨u1, hu1⟩ : ∃ u1, Go.sliced (some ⟨b, o, none⟩) 0 j cap 2 = u1 := ⟨_, rfl⟩
        obtain ⟨u2, hu2⟩ : ∃ u2, Go.sliced (some ⟨b, o, none⟩) (j + 1) xs.length cap 2 = u2 := ⟨_, rfl⟩
        have HU1 : Hid (RdS kepE lim wr u1 (xs.take j)) := Lib.hid (by rw [← hu1]; exact HR.out.headN (by omega))
        have HU2 : Hid (RdS kepE lim wr u2 (xs.drop (j + 1))) := Lib.hid (by rw [← hu2]; exact HR.out.tail (by omega))
        have hjc : j ≤ cap := by
          obtain ⟨_, _, _, hq, hq1, _⟩ := HR.out
          injection hq with _ _ hq
          omega
        have hj1 : IntKind.i64.wrap ((j : Int) + 1) = ((j + 1 : Nat) : Int) := by rw [IntKind.wrap_i64]; have := HN.out; omega
        have HN2 := HN.out
        go_wp2_with fail
        refine region_till (fun u => u.cell? ⟨w.heap.size, 2, none⟩ = some (.slice (some ⟨b, o, none⟩) xs.length cap)) 13 (by kernel_rfl) ?_
        obtain ⟨wd, hwd⟩ : ∃ x, x = wr.drew := ⟨_, rfl⟩
        have hb : Below wr.heap.size wr wd := by rw [hwd]; exact (Below.refl _ _).drew
        have hl2 := Nat.le_trans hlim HB.out.size
        replace HU1 := Lib.hid (HU1.out.behind (hb.mono hl2))
        replace HU2 := Lib.hid (HU2.out.behind (hb.mono hl2))
        have HQ : Hid (Below lim wr wd) := Lib.hid (hb.mono hl2)
        replace HA := Lib.hid (rstand HA.out hb)
        replace HC := Lib.hid (rstand HC.out hb)
        replace HE := Lib.hid (rstand HE.out hb)
        replace HO := Lib.hid (HO.out.next hb)
        replace HR := Lib.hid (HR.out.behind (hb.mono (Nat.le_trans hlim HB.out.size)))
        replace HB := Lib.hid (HB.out.trans (hb.mono HB.out.size))
        rw [← hwd]
        clear hwd hb c0 c1 c2 d0 d1
        have s0 : wd.cell? ⟨w.heap.size, 2, none⟩ = some (.slice (some ⟨b, o, none⟩) xs.length cap) := (rcs HA.out).2.2
        apply Till.take (i := 1) [1, 2, 4, 5, 11, 13]
        · simp only [List.getElem?_toArray, List.getElem?_cons_succ, List.getElem?_cons_zero]
          rfl
        · kernel_rfl
        · kernel_rfl
        · kernel_rfl
        · kernel_rfl
        · exact fun _ _ _ h => h
        · first
            | exact Or.inr ⟨by rfl, rfl⟩
            | (refine Or.inl ⟨by rfl, fun wq hwq => ?_⟩
               dsimp only at hwq
               go_simp
               first
                 | done
                 | rfl)
        · exact s0
        simp only [Act.put, List.setIfInBounds_toArray, List.set_cons_zero, List.set_cons_succ]
        apply Till.take (i := 2) [2, 4, 5, 11, 13]
        · simp only [List.getElem?_toArray, List.getElem?_cons_succ, List.getElem?_cons_zero]
          rfl
        · kernel_rfl
        · kernel_rfl
        · kernel_rfl
        · kernel_rfl
        · exact fun _ _ _ h => h
        · first
            | exact Or.inr ⟨by rfl, rfl⟩
            | (refine Or.inl ⟨by rfl, fun wq hwq => ?_⟩
               dsimp only at hwq
               go_simp
               first
                 | done
                 | rfl)
        · exact s0
        simp only [Act.put, List.setIfInBounds_toArray, List.set_cons_zero, List.set_cons_succ]
        apply Till.take (i := 3) [3, 4, 5, 11, 13]
        · simp only [List.getElem?_toArray, List.getElem?_cons_succ, List.getElem?_cons_zero]
          rfl
        · kernel_rfl
        · kernel_rfl
        · kernel_rfl
        · kernel_rfl
        · exact fun _ _ _ h => h
        · first
            | exact Or.inr ⟨by rfl, rfl⟩
            | (refine Or.inl ⟨by rfl, fun wq hwq => ?_⟩
               dsimp only at hwq
               go_simp
               first
                 | done
                 | rfl)
        · exact s0
        simp only [Act.put, List.setIfInBounds_toArray, List.set_cons_zero, List.set_cons_succ]
        apply Till.take (i := 4) (v := Go.sliced (some ⟨b, o, none⟩) 0 j cap 2) [4, 5, 11, 13]
        · simp only [List.getElem?_toArray, List.getElem?_cons_succ, List.getElem?_cons_zero]
          rfl
        · kernel_rfl
        · kernel_rfl
        · kernel_rfl
        · kernel_rfl
        · exact fun _ _ _ h => h
        · refine Or.inl ⟨by rfl, fun _ _ => ?_⟩
          exact run_slice_op_hs (E := kepE) 24 _ 40 i0 Try.underlying24 Hhi.out hz1 (n := j) _ rfl rfl rfl hjc
        · exact s0
        simp only [Act.put, List.setIfInBounds_toArray, List.set_cons_zero, List.set_cons_succ]
        rw [hu1]
        apply Till.take (i := 6) [6, 7, 10, 11, 13]
        · simp only [List.getElem?_toArray, List.getElem?_cons_succ, List.getElem?_cons_zero]
          rfl
        · kernel_rfl
        · kernel_rfl
        · kernel_rfl
        · kernel_rfl
        · exact fun _ _ _ h => h
        · first
            | exact Or.inr ⟨by rfl, rfl⟩
            | (refine Or.inl ⟨by rfl, fun wq hwq => ?_⟩
               dsimp only at hwq
               go_simp
               first
                 | done
                 | rfl)
        · exact s0
        simp only [Act.put, List.setIfInBounds_toArray, List.set_cons_zero, List.set_cons_succ]
        apply Till.take (i := 7) [7, 10, 11, 13]
        · simp only [List.getElem?_toArray, List.getElem?_cons_succ, List.getElem?_cons_zero]
          rfl
        · kernel_rfl
        · kernel_rfl
        · kernel_rfl
        · kernel_rfl
        · exact fun _ _ _ h => h
        · first
            | exact Or.inr ⟨by rfl, rfl⟩
            | (refine Or.inl ⟨by rfl, fun wq hwq => ?_⟩
               dsimp only at hwq
               go_simp
               first
                 | done
                 | rfl)
        · exact s0
        simp only [Act.put, List.setIfInBounds_toArray, List.set_cons_zero, List.set_cons_succ]
        apply Till.take (i := 8) [8, 9, 10, 11, 13]
        · simp only [List.getElem?_toArray, List.getElem?_cons_succ, List.getElem?_cons_zero]
          rfl
        · kernel_rfl
        · kernel_rfl
        · kernel_rfl
        · kernel_rfl
        · exact fun _ _ _ h => h
        · first
            | exact Or.inr ⟨by rfl, rfl⟩
            | (refine Or.inl ⟨by rfl, fun wq hwq => ?_⟩
               dsimp only at hwq
               go_simp
               first
                 | done
                 | rfl)
        · exact s0
        simp only [Act.put, List.setIfInBounds_toArray, List.set_cons_zero, List.set_cons_succ]
        apply Till.take (i := 9) (v := .int .i64 ((j + 1 : Nat) : Int)) [9, 10, 11, 13]
        · simp only [List.getElem?_toArray, List.getElem?_cons_succ, List.getElem?_cons_zero]
          rfl
        · kernel_rfl
        · kernel_rfl
        · kernel_rfl
        · kernel_rfl
        · exact fun _ _ _ h => h
        · refine Or.inl ⟨by rfl, fun _ _ => ?_⟩
          go_simp
          first
            | done
            | (rw [hj1]; done)
            | (rw [hj1]; rfl)
            | (simp only [hj1]; done)
        · exact s0
        simp only [Act.put, List.setIfInBounds_toArray, List.set_cons_zero, List.set_cons_succ]
        apply Till.take (i := 10) (v := Go.sliced (some ⟨b, o, none⟩) (j + 1) xs.length cap 2) [10, 11, 13]
        · simp only [List.getElem?_toArray, List.getElem?_cons_succ, List.getElem?_cons_zero]
          rfl
        · kernel_rfl
        · kernel_rfl
        · kernel_rfl
        · kernel_rfl
        · exact fun _ _ _ h => h
        · refine Or.inl ⟨by rfl, fun _ _ => ?_⟩
          exact run_slice_op_ls (E := kepE) 24 _ 40 i0 Try.underlying24 Hhi.out hz1 (n := j + 1) _ rfl rfl rfl hjl
        · exact s0
        simp only [Act.put, List.setIfInBounds_toArray, List.set_cons_zero, List.set_cons_succ]
        rw [hu2]
        have LA := Lib.hid (lt_of_block HA.out)
        have LC := Lib.hid (lt_of_block HC.out)
        have LE := Lib.hid (lt_of_block HE.out)
        apply Till.one (i := 0)
        · kernel_rfl
        · simp only [List.getElem?_toArray, List.getElem?_cons_zero]
          rfl
        intro K hK
        go_simp
        have hb : Below wd.heap.size wd (wd.alloc (.cells #[] 40)) := (Below.refl _ _).alloc (Nat.le_refl _) _
        have O1 := Lib.hid (OwnS.lit (w := wd) (B := wd.heap.size) kepE 40 (Nat.le_refl _))
        have hl3 := Nat.le_trans hlim HB.out.size
        replace HU1 := Lib.hid (HU1.out.behind (hb.mono hl3))
        replace HU2 := Lib.hid (HU2.out.behind (hb.mono hl3))
        have HL8 := Lib.hid HB.out.size
        replace HQ := Lib.hid (HQ.out.trans (hb.mono hl3))
        replace HA := Lib.hid (rstand HA.out hb)
        replace HC := Lib.hid (rstand HC.out hb)
        replace HE := Lib.hid (rstand HE.out hb)
        replace HO := Lib.hid (HO.out.next hb)
        replace HR := Lib.hid (HR.out.behind (hb.mono (Nat.le_trans hlim HB.out.size)))
        replace HB := Lib.hid (HB.out.trans (hb.mono HB.out.size))
        clear hb
        clear s0
        have s0 : (wd.alloc (.cells #[] 40)).cell? ⟨w.heap.size, 2, none⟩ = some (.slice (some ⟨b, o, none⟩) xs.length cap) := (rcs HA.out).2.2
        refine hK.out _ _ (Or.inr s0) ?_
        clear hK K
        try simp only [Act.put, List.setIfInBounds_toArray, List.set_cons_zero, List.set_cons_succ]
        obtain ⟨w7, hw7⟩ : ∃ x, x = wd.alloc (.cells #[] 40) := ⟨_, rfl⟩
        rw [← hw7] at HA HC HE HO HR HB HU1 HU2 O1 HQ s0 ⊢
        clear hw7
        apply Till.one (i := 5)
        · kernel_rfl
        · simp only [List.getElem?_toArray, List.getElem?_cons_succ, List.getElem?_cons_zero]
          rfl
        intro K hK
        refine step_append_rdS _ (by rfl) _ _ 24 (by rfl) 40 i0 (.agg #[.int .i64 0, .int .i64 0]) 16 Try.underlying24 Hhi.out hz0 hz1 hz2 rfl (by omega) (by rfl) O1.out (by rfl) HU1.out (by simp only [List.length_nil, List.length_take]; omega) ?_
        intro v8 w8 h8 hg
        replace h8 : OwnS kepE 40 wd.heap.size w8 v8 (xs.take j) := h8
        have hb := O1.out.below (Nat.le_refl _) hg
        have hlw := Nat.le_trans hlim HL8.out
        replace HA := Lib.hid ((hb.block _ LA.out).trans HA.out)
        replace HC := Lib.hid ((hb.block _ LC.out).trans HC.out)
        replace HE := Lib.hid ((hb.block _ LE.out).trans HE.out)
        replace HU2 := Lib.hid (HU2.out.behind (hb.mono hlw))
        replace HB := Lib.hid (HB.out.trans (hb.mono HL8.out))
        replace HQ := Lib.hid (HQ.out.trans (hb.mono hlw))
        have O8 := Lib.hid h8
        clear h8 hg hb s0
        have s0 : w8.cell? ⟨w.heap.size, 2, none⟩ = some (.slice (some ⟨b, o, none⟩) xs.length cap) := (rcs HA.out).2.2
        refine hK.out _ _ (Or.inr s0) ?_
        clear hK K
        try simp only [Act.put, List.setIfInBounds_toArray, List.set_cons_zero, List.set_cons_succ]
        apply Till.one (i := 11)
        · kernel_rfl
        · simp only [List.getElem?_toArray, List.getElem?_cons_succ, List.getElem?_cons_zero]
          rfl
        intro K hK
        refine step_append_rdS _ (by rfl) _ _ 24 (by rfl) 40 i0 (.agg #[.int .i64 0, .int .i64 0]) 16 Try.underlying24 Hhi.out hz0 hz1 hz2 rfl (by omega) (by rfl) O8.out (by rfl) HU2.out (by simp only [List.length_take, List.length_drop]; omega) ?_
        intro v9 w9 h9 hg
        have hb := O8.out.below (Nat.le_refl _) hg
        replace HA := Lib.hid ((hb.block _ LA.out).trans HA.out)
        replace HC := Lib.hid ((hb.block _ LC.out).trans HC.out)
        replace HE := Lib.hid ((hb.block _ LE.out).trans HE.out)
        replace HB := Lib.hid (HB.out.trans (hb.mono HL8.out))
        replace HQ := Lib.hid (HQ.out.trans (hb.mono hlw))
        obtain ⟨M, hM⟩ : ∃ M, M = xs.take j ++ xs.drop (j + 1) := ⟨_, rfl⟩
        rw [← hM] at h9
        obtain ⟨a9, n9, rfl, _⟩ := h9.open
        have HMM := Lib.hid hM
        have O9 := Lib.hid h9
        clear h9 hg hb s0 hM
        have s0 : w9.cell? ⟨w.heap.size, 2, none⟩ = some (.slice (some ⟨b, o, none⟩) xs.length cap) := (rcs HA.out).2.2
        refine hK.out _ _ (Or.inr s0) ?_
        clear hK K
        try simp only [Act.put, List.setIfInBounds_toArray, List.set_cons_zero, List.set_cons_succ]
        apply Till.take (i := 12) [12, 13]
        · simp only [List.getElem?_toArray, List.getElem?_cons_succ, List.getElem?_cons_zero]
          rfl
        · kernel_rfl
        · kernel_rfl
        · kernel_rfl
        · kernel_rfl
        · exact fun _ _ _ h => h
        · first
            | exact Or.inr ⟨by rfl, rfl⟩
            | (refine Or.inl ⟨by rfl, fun wq hwq => ?_⟩
               dsimp only at hwq
               go_simp
               first
                 | done
                 | rfl)
        · exact s0
        simp only [Act.put, List.setIfInBounds_toArray, List.set_cons_zero, List.set_cons_succ]
        clear s0
        obtain ⟨ec0, ec1, ec2⟩ := rcs HE.out
        obtain ⟨ef0, ef1, ef2⟩ := rfr HE.out
        apply Till.one (i := 13)
        · kernel_rfl
        · simp only [List.getElem?_toArray, List.getElem?_cons_succ, List.getElem?_cons_zero]
          rfl
        intro K hK
        go_simp
        skip
        refine hK.out _ _ (Or.inl (by rfl)) ?_
        clear hK K
        try simp only [Act.put, List.setIfInBounds_toArray, List.set_cons_zero, List.set_cons_succ]
        refine Till.done (by kernel_rfl) ?_ _
        have g10 := grown_set w9 G 2 (.slice a9 M.length n9)
        have hE10 : (w9.setCell ⟨G, 2, none⟩ (.slice a9 M.length n9)).heap[G]? = some (.cells #[.int .i64 c, .int .i64 s, .slice a9 M.length n9] 26) := blk_set HE.out 2 _
        have HE0 := Lib.hid HE.out
        replace HQ := Lib.hid (HQ.out.trans ((Below.refl lim _).grown g10 (Nat.le_trans hlim HB.out.size) (fun k hk => by injection hk with hk; have := HNa.out; omega)))
        replace O9 := Lib.hid (O9.out.kept g10 (Or.inr (fun hh => owns_ne_box (by decide) O9.out HE0.out _ hh rfl)))
        replace HA := Lib.hid ((g10.block _ (lt_of_block HA.out) (fun h => by injection h with h; have := HNa.out; omega)).trans HA.out)
        replace HC := Lib.hid ((g10.block _ (lt_of_block HC.out) (fun h => by injection h with h; have := HNc.out; omega)).trans HC.out)
        replace HB := Lib.hid (HB.out.grown g10 HB.out.size (fun k hk => by injection hk with hk; have := HNa.out; omega))
        replace HE := Lib.hid hE10
        clear ec0 ec1 ec2 ef0 ef1 ef2 hE10 g10 HE0
        obtain ⟨W10, hW10⟩ : ∃ x, x = w9.setCell ⟨G, 2, none⟩ (.slice a9 M.length n9) := ⟨_, rfl⟩
        rw [← hW10] at HE HA HC HB HQ O9 ⊢
        clear hW10
        go_wp2_with fail
        refine region_till (fun u => u.cell? ⟨w.heap.size, 2, none⟩ = some (.slice (some ⟨b, o, none⟩) xs.length cap) ∧ u.cell? ⟨b, o + j * 2 + 1, none⟩ = some (.int .i64 z) ∧ u.cell? ⟨G, 0, none⟩ = some (.int .i64 c) ∧ u.cell? ⟨G, 1, none⟩ = some (.int .i64 s) ∧ u.cell? ⟨G, 2, none⟩ = some (.slice a9 M.length n9)) 9 (by kernel_rfl) ?_
        obtain ⟨wq, hwq'⟩ : ∃ x, x = W10.drew := ⟨_, rfl⟩
        have hl10 := Nat.le_trans hlim HB.out.size
        have hD : Below W10.heap.size W10 wq := by rw [hwq']; exact (Below.refl _ _).drew
        rw [← hwq']
        replace HA := Lib.hid (rstand HA.out hD)
        replace HC := Lib.hid (rstand HC.out hD)
        replace HE := Lib.hid (rstand HE.out hD)
        replace HB := Lib.hid (HB.out.trans (hD.mono HB.out.size))
        replace O9 := Lib.hid (O9.out.next hD)
        replace HQ := Lib.hid (HQ.out.trans (hD.mono hl10))
        obtain ⟨c0, c1, c2⟩ := rcs HA.out
        obtain ⟨d0, d1⟩ := HD.out _ HQ.out
        obtain ⟨e0, e1, e2⟩ := rcs HE.out
        obtain ⟨q0, q1, q2⟩ := rcs HC.out
        obtain ⟨f0, f1, f2⟩ := rfr HC.out
        have s0 := And.intro c2 (And.intro d1 (And.intro e0 (And.intro e1 e2)))
        clear hD hwq'
        apply Till.take (i := 0) [0, 7, 8, 9]
        · simp only [List.getElem?_toArray, List.getElem?_cons_zero]
          rfl
        · kernel_rfl
        · kernel_rfl
        · kernel_rfl
        · kernel_rfl
        · exact fun _ _ _ h => h
        · first
            | exact Or.inr ⟨by rfl, rfl⟩
            | (refine Or.inl ⟨by rfl, fun wq hwq => ?_⟩
               dsimp only at hwq
               go_simp
               first
                 | done
                 | rfl)
        · exact s0
        simp only [Act.put, List.setIfInBounds_toArray, List.set_cons_zero, List.set_cons_succ]
        apply Till.take (i := 1) [1, 2, 4, 5, 6, 8, 9]
        · simp only [List.getElem?_toArray, List.getElem?_cons_succ, List.getElem?_cons_zero]
          rfl
        · kernel_rfl
        · kernel_rfl
        · kernel_rfl
        · kernel_rfl
        · exact fun _ _ _ h => h
        · first
            | exact Or.inr ⟨by rfl, rfl⟩
            | (refine Or.inl ⟨by rfl, fun wq hwq => ?_⟩
               dsimp only at hwq
               go_simp
               first
                 | done
                 | rfl)
        · exact s0
        simp only [Act.put, List.setIfInBounds_toArray, List.set_cons_zero, List.set_cons_succ]
        apply Till.take (i := 2) [2, 4, 5, 6, 8, 9]
        · simp only [List.getElem?_toArray, List.getElem?_cons_succ, List.getElem?_cons_zero]
          rfl
        · kernel_rfl
        · kernel_rfl
        · kernel_rfl
        · kernel_rfl
        · exact fun _ _ _ h => h
        · first
            | exact Or.inr ⟨by rfl, rfl⟩
            | (refine Or.inl ⟨by rfl, fun wq hwq => ?_⟩
               dsimp only at hwq
               go_simp
               first
                 | done
                 | rfl)
        · exact s0
        simp only [Act.put, List.setIfInBounds_toArray, List.set_cons_zero, List.set_cons_succ]
        apply Till.take (i := 3) [3, 4, 5, 6, 8, 9]
        · simp only [List.getElem?_toArray, List.getElem?_cons_succ, List.getElem?_cons_zero]
          rfl
        · kernel_rfl
        · kernel_rfl
        · kernel_rfl
        · kernel_rfl
        · exact fun _ _ _ h => h
        · first
            | exact Or.inr ⟨by rfl, rfl⟩
            | (refine Or.inl ⟨by rfl, fun wq hwq => ?_⟩
               dsimp only at hwq
               go_simp
               first
                 | done
                 | rfl)
        · exact s0
        simp only [Act.put, List.setIfInBounds_toArray, List.set_cons_zero, List.set_cons_succ]
        apply Till.take (i := 4) [4, 5, 6, 8, 9]
        · simp only [List.getElem?_toArray, List.getElem?_cons_succ, List.getElem?_cons_zero]
          rfl
        · kernel_rfl
        · kernel_rfl
        · kernel_rfl
        · kernel_rfl
        · exact fun _ _ _ h => h
        · first
            | exact Or.inr ⟨by rfl, rfl⟩
            | (refine Or.inl ⟨by rfl, fun wq hwq => ?_⟩
               dsimp only at hwq
               go_simp
               first
                 | done
                 | rfl)
        · exact s0
        simp only [Act.put, List.setIfInBounds_toArray, List.set_cons_zero, List.set_cons_succ]
        apply Till.take (i := 5) [5, 6, 8, 9]
        · simp only [List.getElem?_toArray, List.getElem?_cons_succ, List.getElem?_cons_zero]
          rfl
        · kernel_rfl
        · kernel_rfl
        · kernel_rfl
        · kernel_rfl
        · exact fun _ _ _ h => h
        · first
            | exact Or.inr ⟨by rfl, rfl⟩
            | (refine Or.inl ⟨by rfl, fun wq hwq => ?_⟩
               dsimp only at hwq
               go_simp
               first
                 | done
                 | rfl)
        · exact s0
        simp only [Act.put, List.setIfInBounds_toArray, List.set_cons_zero, List.set_cons_succ]
        apply Till.take (i := 6) [6, 8, 9]
        · simp only [List.getElem?_toArray, List.getElem?_cons_succ, List.getElem?_cons_zero]
          rfl
        · kernel_rfl
        · kernel_rfl
        · kernel_rfl
        · kernel_rfl
        · exact fun _ _ _ h => h
        · first
            | exact Or.inr ⟨by rfl, rfl⟩
            | (refine Or.inl ⟨by rfl, fun wq hwq => ?_⟩
               dsimp only at hwq
               go_simp
               first
                 | done
                 | rfl)
        · exact s0
        simp only [Act.put, List.setIfInBounds_toArray, List.set_cons_zero, List.set_cons_succ]
        obtain ⟨k9, g9⟩ := rst HC.out (.int .i64 c) (.int .i64 s) (.slice a9 M.length n9)
        have hA9 := (g9.block _ (lt_of_block HA.out) (fun h => by injection h with h; omega)).trans HA.out
        have hE9 := (g9.block _ (lt_of_block HE.out) (fun h => by injection h with h; have := HNc.out; omega)).trans HE.out
        have hQ9 := HQ.out.trans ((Below.refl lim _).grown g9 (Nat.le_trans hlim HB.out.size) (fun k hk => by injection hk with hk; omega))
        have s9 := And.intro (rcs hA9).2.2 (And.intro (HD.out _ hQ9).2 (And.intro (rcs hE9).1 (And.intro (rcs hE9).2.1 (rcs hE9).2.2)))
        clear hA9 hE9 hQ9
        apply Till.one (i := 7)
        · kernel_rfl
        · simp only [List.getElem?_toArray, List.getElem?_cons_succ, List.getElem?_cons_zero]
          rfl
        intro K hK
        go_simp
        skip
        refine hK.out _ _ (Or.inr s9) ?_
        clear hK K
        try simp only [Act.put, List.setIfInBounds_toArray, List.set_cons_zero, List.set_cons_succ]
        apply Till.one (i := 8)
        · kernel_rfl
        · simp only [List.getElem?_toArray, List.getElem?_cons_succ, List.getElem?_cons_zero]
          rfl
        intro K hK
        go_simp
        skip
        refine hK.out _ _ (Or.inr s9) ?_
        clear hK K
        try simp only [Act.put, List.setIfInBounds_toArray, List.set_cons_zero, List.set_cons_succ]
        apply Till.one (i := 9)
        · kernel_rfl
        · simp only [List.getElem?_toArray, List.getElem?_cons_succ, List.getElem?_cons_zero]
          rfl
        intro K hK
        go_simp
        skip
        refine hK.out _ _ (Or.inl (by rfl)) ?_
        clear hK K
        try simp only [Act.put, List.setIfInBounds_toArray, List.set_cons_zero, List.set_cons_succ]
        refine Till.done (by kernel_rfl) ?_ _
        clear s9
        obtain ⟨r0, r1, r2⟩ := rcs k9
        have HB9 := Lib.hid (HB.out.grown g9 HB.out.size (fun k hk => by injection hk with hk; omega))
        have HO9 := Lib.hid ((O9.out.kept g9 (Or.inr (fun hh => owns_ne_box (by decide) O9.out HC.out _ hh rfl))).mono (B' := w.heap.size) HL8.out)
        clear k9 g9
        go_wp2_with fail
        exact bodyPost_ret (v := .tuple #[.agg #[.int .i64 c, .int .i64 s, .slice a9 M.length n9], .int .i64 z, .bool true]) (by simp [results, Try.results38, go_sem, r0, r1, r2]) rfl ⟨_, by rw [HH.out.1, HH.out.2.1, HH.out.2.2.1, HH.out.2.2.2.2], by rw [HH.out.2.2.2.1, ← HMM.out]; exact HO9.out, HB9.out⟩
      · have e7 : decide ((j : Int) < (xs.length : Int)) = false := by simp; omega
        have HMi := Lib.hid (hasK_none (xs := xs) (t := t) (fun k x hk hx => HAll.out k x (by omega) hx))
        have HQf := Lib.hid (kf_miss (c := c) hlt HMi.out)
        have HZ := Lib.hid (kf_no HQf.out)
        obtain ⟨k9, g9⟩ := rst HC.out (.int .i64 c) (.int .i64 s) (.slice a4 xs.length n4)
        obtain ⟨r0, r1, r2⟩ := rcs k9
        have HB9 := Lib.hid (HB.out.grown g9 HB.out.size (fun k hk => by injection hk with hk; omega))
        have HO9 := Lib.hid ((HO.out.kept g9 (Or.inr (fun hh => owns_ne_box (by decide) HO.out HC.out _ hh rfl))).mono (B' := w.heap.size) (by omega))
        obtain ⟨e0, e1, e2⟩ := rcs HE.out
        obtain ⟨q0, q1, q2⟩ := rcs HC.out
        obtain ⟨f0, f1, f2⟩ := rfr HC.out
        clear k9 g9
        go_wp2_with fail
        exact bodyPost_ret (v := .tuple #[.agg #[.int .i64 c, .int .i64 s, .slice a4 xs.length n4], .int .i64 0, .bool false]) (by simp [results, Try.results38, go_sem, r0, r1, r2]) rfl ⟨_, by rw [HZ.out.1, HZ.out.2.1, HZ.out.2.2.2, HQf.out], by rw [HZ.out.2.2.1]; exact HO9.out, HB9.out⟩
  · exact absurd (HCase.out HK.out ht1) hlt

end Go.Proofs.Ytlbijjifeaimjaa
