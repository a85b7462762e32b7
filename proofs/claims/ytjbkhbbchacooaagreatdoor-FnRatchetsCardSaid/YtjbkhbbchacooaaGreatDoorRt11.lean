/- Ratchets: OpenStep, the program's and the document's. No conditions but numbers and lengths that a machine holds. -/
import Derived.Test.YtjbkhbbchacooaaGreatDoorRt6
import Derived.Test.YtjbkhbbchacooaaGreatDoorRt8
import Derived.Test.YtjbkhbbchacooaaGreatDoorRtA
import Derived.Test.YtjbkhbbchacooaaGreatDoorBdO
import Derived.Test.YtjbkhbbchacooaaGreatDoorCl6
import Derived.Test.YtjbkhbbchacooaaGreatDoorHeldL
namespace Go.Proofs.YtjbkhbbchacooaaGreatDoor
open Go Go.RowKit
set_option linter.unusedVariables false
set_option maxRecDepth 20000
attribute [local irreducible] kh kid

theorem os_ok (c s : Int) (xs : Kept) (t : Int) (z : List Int) : (ook (kfM c s xs t) t z && (ocK (kfM c s xs t) t z == 1)) = osq c s xs t z := by
  unfold osq
  cases hq : kfq c s xs t with
  | true => rfl
  | false =>
    rw [(kf_no hq).2.2.2]
    rfl
theorem os_is {c s : Int} {xs : Kept} {t : Int} {z : List Int} (h : osq c s xs t z = true) : kfC c s xs t = osC c s xs t z ∧ kfS c s xs t = osS c s xs t z ∧ kfL c s xs t = osL c s xs t z ∧ ocB (kfM c s xs t) t z = osB c s xs t z ∧ kfq c s xs t = true := by
  have hq : kfq c s xs t = true := by
    unfold osq at h
    rw [Bool.and_eq_true] at h
    exact h.1
  obtain ⟨b1, b2, b3, b4⟩ := os_yes h
  rw [b1, b2, b3, b4]
  exact ⟨rfl, rfl, rfl, rfl, hq⟩
theorem kfM_wf (c s : Int) (xs : Kept) (t : Int) : (Lit.int .i64 (kfM c s xs t)).wf = true ∨ kfq c s xs t = true := by
  cases hq : kfq c s xs t with
  | true => exact .inr rfl
  | false => left; rw [(kf_no hq).2.2.2]; decide
theorem kfM_wf' {c s : Int} {xs : Kept} {t : Int} : (Lit.int .i64 (kfM c s xs t)).wf = true := by
  cases hn : kfn c s xs t with
  | true => rw [(kf_new hn).2.2.2.2]; exact mky_wf _
  | false =>
    cases ho : kfo c s xs t with
    | false => rw [(kf_no (by unfold kfq; rw [hn, ho]; rfl)).2.2.2]; decide
    | true =>
      rw [(kf_old ho).2.2.2.2]
      have h := ho
      unfold kfo at h
      simp only [Bool.and_eq_true, decide_eq_true_eq] at h
      obtain ⟨i, x, h1, h2, h3, h4⟩ := getK_in h.2.2.2
      have := keyK_lt (okR_iff.1 h.1).2.2.2.1 x (List.mem_of_getElem? h1)
      rw [h4]
      exact wf_i64_of (by omega) (by omega)

set_option maxHeartbeats 16000000 in
/-- impl.OpenStep. -/
theorem impl_os {lim lb : Nat} {w : World} {v u : Value} {zs : List Int} {xs : Kept} {c s t : Int} (h : RdS kepE lim w v xs) (hlim : lim ≤ w.heap.size) (hcw : (Lit.int .i64 c).wf = true) (hsw : (Lit.int .i64 s).wf = true) (htw : (Lit.int .i64 t).wf = true) (hu : Rd lb .u8 w u zs) (hlb : lb ≤ w.heap.size) (hn : xs.length ≤ 1048576) (hg : GV w) :
    Calls Tryz.prog 9 #[.agg #[.int .i64 c, .int .i64 s, v], .int .i64 t, u] w fun e w' => ∃ v' u', e = .returned (.tuple #[.agg #[.int .i64 (osC c s xs t zs), .int .i64 (osS c s xs t zs), v'], u', .bool (osq c s xs t zs)]) ∧ OwnS kepE 61 w.heap.size w' v' (osL c s xs t zs) ∧ Own 5 .u8 w.heap.size w' u' (osB c s xs t zs) ∧ Below w.heap.size w w' := by
  obtain ⟨p, cap, rfl, h1, h2, -⟩ := h.open
  have HR0 := Lib.hid h
  have HCw := Lib.hid hcw
  have HSw := Lib.hid hsw
  have hsb := wf_i64 hsw
  clear h hcw hsw h1 h2
  have HL := Lib.hid hg
  clear hg
  have HTw := Lib.hid htw
  clear htw
  obtain ⟨au, cu, rfl, _⟩ := hu.open
  have HV0 := Lib.hid hu
  clear hu
  obtain ⟨W, hW⟩ : ∃ W, W = ((w.alloc (.cells #[.int .i64 c, .int .i64 s, .slice p xs.length cap] 26)).alloc (.cells #[.int .i64 0, .int .i64 0, .slice none 0 0] 26)) := ⟨_, rfl⟩
  have HW := Lib.hid hW
  have hK := blocks2T w (.cells #[.int .i64 c, .int .i64 s, .slice p xs.length cap] 26) (.cells #[.int .i64 0, .int .i64 0, .slice none 0 0] 26)
  rw [← hW] at hK
  have HA := Lib.hid hK.1
  have HC := Lib.hid hK.2
  have HB : Hid (Below w.heap.size w W) := Lib.hid (by rw [hW]; exact ((Below.refl _ _).alloc (Nat.le_refl _) _).alloc (by simp) _)
  have HS2 : Hid (W.heap.size = w.heap.size + 1 + 1) := Lib.hid (by rw [hW]; simp)
  clear hK hW
  have HR := Lib.hid (HR0.out.behind (HB.out.mono hlim))
  clear HR0
  have HV := Lib.hid (HV0.out.behind (HB.out.mono hlb))
  clear HV0
  have HN := Lib.hid hn
  obtain ⟨q, hq⟩ : ∃ q, q = osq c s xs t zs := ⟨_, rfl⟩
  have HQ := Lib.hid hq
  obtain ⟨C, hC⟩ : ∃ C, C = kfC c s xs t := ⟨_, rfl⟩
  obtain ⟨T, hT⟩ : ∃ T, T = kfS c s xs t := ⟨_, rfl⟩
  obtain ⟨M, hM⟩ : ∃ M, M = kfL c s xs t := ⟨_, rfl⟩
  obtain ⟨m, hm⟩ : ∃ m, m = kfM c s xs t := ⟨_, rfl⟩
  obtain ⟨okk, hok⟩ : ∃ ok, ok = kfq c s xs t := ⟨_, rfl⟩
  have HCe := Lib.hid hC
  have HTe := Lib.hid hT
  have HMe := Lib.hid hM
  have Hme := Lib.hid hm
  have HOk := Lib.hid hok
  have HMw : Hid ((Lit.int .i64 m).wf = true) := Lib.hid (by rw [hm]; exact kfM_wf')
  obtain ⟨K, hK⟩ : ∃ K, K = ocK m t zs := ⟨_, rfl⟩
  obtain ⟨ok, hok2⟩ : ∃ ok, ok = ook m t zs := ⟨_, rfl⟩
  obtain ⟨z, hz⟩ : ∃ z, z = ocB m t zs := ⟨_, rfl⟩
  have HSk : Hid ((ok && (K == 1)) = q) := Lib.hid (by rw [hok2, hK, hm, hq]; exact os_ok _ _ _ _ _)
  have HKe := Lib.hid hK
  have HO2 := Lib.hid hok2
  have HZe := Lib.hid hz
  have c0 := (rcs HA.out).1
  have c1 := (rcs HA.out).2.1
  have c2 := (rcs HA.out).2.2
  rw [HW.out] at c0 c1 c2
  clear hn hq hC hT hM hm hok hok2 hK hz
  go_enter Tryz.func9, Tryz.ntmps9
  go_wp2_with fail
  rw [← HW.out]
  refine (impl_kf HR.out (Nat.le_trans hlim HB.out.size) HCw.out HSw.out HTw.out HN.out).mono ?_
  rw [← HCe.out, ← HTe.out, ← HMe.out, ← Hme.out, ← HOk.out]
  rintro e w1 ⟨v1, rfl, h1, hb⟩
  obtain ⟨a1, n1, rfl, _⟩ := h1.open
  obtain ⟨l1, hl1⟩ : ∃ l1, l1 = M.length := ⟨_, rfl⟩
  rw [← hl1] at h1 ⊢
  clear hl1
  have HO := Lib.hid (h1.mono (B' := w.heap.size) (by have := HS2.out; omega))
  replace HV := Lib.hid (HV.out.behind (hb.mono (Nat.le_trans hlb HB.out.size)))
  replace HA := Lib.hid (rstand HA.out hb)
  replace HC := Lib.hid (rstand HC.out hb)
  replace HR := Lib.hid (HR.out.behind (hb.mono (Nat.le_trans hlim HB.out.size)))
  replace HB := Lib.hid (HB.out.trans (hb.mono HB.out.size))
  clear hb
  obtain ⟨W5, hW5⟩ : ∃ W5, W5 = w1.alloc (.cells #[.int .i64 C, .int .i64 T, .slice a1 l1 n1] 26) := ⟨_, rfl⟩
  have HW5 := Lib.hid hW5
  obtain ⟨G, hG⟩ : ∃ G, G = w1.heap.size := ⟨_, rfl⟩
  have HGe := Lib.hid hG
  have HE : Hid (W5.heap[G]? = some (.cells #[.int .i64 C, .int .i64 T, .slice a1 l1 n1] 26)) := Lib.hid (by rw [hW5, hG]; exact heap_alloc_new _ _)
  have hb5 : Below w1.heap.size w1 W5 := by rw [hW5]; exact (Below.refl _ _).alloc (Nat.le_refl _) _
  have HNc : Hid (w.heap.size + 1 < G) := Lib.hid (by rw [hG]; exact lt_of_block HC.out)
  replace HO := Lib.hid (HO.out.next hb5)
  replace HV := Lib.hid (HV.out.behind (hb5.mono (Nat.le_trans hlb HB.out.size)))
  replace HA := Lib.hid (rstand HA.out hb5)
  replace HC := Lib.hid (rstand HC.out hb5)
  replace HR := Lib.hid (HR.out.behind (hb5.mono (Nat.le_trans hlim HB.out.size)))
  replace HB := Lib.hid (HB.out.trans (hb5.mono HB.out.size))
  clear hb5
  clear h1 hW5 hG c0 c1 c2
  obtain ⟨c0, c1, c2⟩ := rcs HA.out
  rw [HW5.out] at c0 c1 c2
  go_wp2_with fail
  rw [← HW5.out, ← HGe.out]
  refine (impl_oc HV.out (Nat.le_trans hlb HB.out.size) HMw.out HTw.out (HL.out.next HB.out)).mono ?_
  rw [← HKe.out, ← HO2.out, ← HZe.out]
  rintro e w6 ⟨u6, rfl, h6, hb⟩
  obtain ⟨a6, n6, rfl, _⟩ := h6.open
  obtain ⟨l6, hl6⟩ : ∃ l6, l6 = z.length := ⟨_, rfl⟩
  rw [← hl6] at h6 ⊢
  clear hl6
  have HU := Lib.hid (h6.mono HB.out.size)
  clear c0 c1 c2 h6
  replace HV := Lib.hid (HV.out.behind (hb.mono (Nat.le_trans hlb HB.out.size)))
  replace HA := Lib.hid (rstand HA.out hb)
  replace HC := Lib.hid (rstand HC.out hb)
  replace HE := Lib.hid (rstand HE.out hb)
  replace HO := Lib.hid (HO.out.next hb)
  replace HR := Lib.hid (HR.out.behind (hb.mono (Nat.le_trans hlim HB.out.size)))
  replace HB := Lib.hid (HB.out.trans (hb.mono HB.out.size))
  clear hb
  obtain ⟨W7, hW7⟩ : ∃ W7, W7 = w6.alloc (.cells #[.int .i64 K, .slice a6 l6 n6] 55) := ⟨_, rfl⟩
  have HW7 := Lib.hid hW7
  obtain ⟨H, hH⟩ : ∃ H, H = w6.heap.size := ⟨_, rfl⟩
  have HHe := Lib.hid hH
  have HP : Hid (W7.heap[H]? = some (.cells #[.int .i64 K, .slice a6 l6 n6] 55)) := Lib.hid (by rw [hW7, hH]; exact heap_alloc_new _ _)
  have hb7 : Below w6.heap.size w6 W7 := by rw [hW7]; exact (Below.refl _ _).alloc (Nat.le_refl _) _
  have HNh : Hid (w.heap.size + 1 < H) := Lib.hid (by rw [hH]; exact lt_of_block HC.out)
  replace HU := Lib.hid (HU.out.next hb7)
  replace HV := Lib.hid (HV.out.behind (hb7.mono (Nat.le_trans hlb HB.out.size)))
  replace HA := Lib.hid (rstand HA.out hb7)
  replace HC := Lib.hid (rstand HC.out hb7)
  replace HE := Lib.hid (rstand HE.out hb7)
  replace HO := Lib.hid (HO.out.next hb7)
  replace HR := Lib.hid (HR.out.behind (hb7.mono (Nat.le_trans hlim HB.out.size)))
  replace HB := Lib.hid (HB.out.trans (hb7.mono HB.out.size))
  clear hb7
  clear hW7 hH
  obtain ⟨c0, c1, c2⟩ := rcs HA.out
  obtain ⟨p0, p1⟩ := kcs HP.out
  rw [HW7.out] at c0 c1 c2 p0 p1
  rw [HHe.out] at p0 p1
  have x0 := c0
  have x1 := c1
  have x2 := c2
  cases q with
  | false =>
    have HZ := Lib.hid (os_no HQ.out.symm)
    cases ok with
    | false =>
      go_wp2_with fail
      rw [← HW7.out]
      refine (impl_cpr HR.out (Nat.le_trans hlim HB.out.size) HCw.out HSw.out HN.out).mono ?_
      rintro e w8 ⟨v8, rfl, h8, hb⟩
      obtain ⟨a8, n8, rfl, _⟩ := h8.open
      have HO8 := Lib.hid (h8.mono HB.out.size)
      clear c0 c1 c2 p0 p1 x0 x1 x2
      replace HC := Lib.hid (rstand HC.out hb)
      replace HB := Lib.hid (HB.out.trans (hb.mono HB.out.size))
      clear hb
      have hb : Below w8.heap.size w8 (w8.alloc (.cells #[] 5)) := (Below.refl _ _).alloc (Nat.le_refl _) _
      have HU8 := Lib.hid (Own.lit (w := w8) (B := w.heap.size) 5 .u8 HB.out.size)
      replace HO8 := Lib.hid (HO8.out.next hb)
      replace HC := Lib.hid (rstand HC.out hb)
      replace HB := Lib.hid (HB.out.trans (hb.mono HB.out.size))
      clear hb
      obtain ⟨q0, q1, q2⟩ := rcs HC.out
      obtain ⟨f0, f1, f2⟩ := rfr HC.out
      obtain ⟨k9, g9⟩ := rst HC.out (.int .i64 c) (.int .i64 s) (.slice a8 xs.length n8)
      obtain ⟨r0, r1, r2⟩ := rcs k9
      have HB9 := Lib.hid (HB.out.grown g9 HB.out.size (fun k hk => by injection hk with hk; omega))
      have HO9 := Lib.hid (HO8.out.kept g9 (Or.inr (fun hh => owns_ne_box (by decide) HO8.out HC.out _ hh rfl)))
      have HU9 := Lib.hid (HU8.out.kept g9 (Or.inr (fun hh => own_ne_boxR (by decide) HU8.out HC.out _ hh rfl)))
      clear k9 g9 h8
      go_wp2_with fail
      exact bodyPost_ret (v := .tuple #[.agg #[.int .i64 c, .int .i64 s, .slice a8 xs.length n8], .slice (some ⟨w8.heap.size, 0, none⟩) 0 0, .bool false]) (by simp [results, Tryz.results9, go_sem, r0, r1, r2]) rfl ⟨_, _, by rw [HZ.out.1, HZ.out.2.1, ← HQ.out], by rw [HZ.out.2.2.1]; exact HO9.out, by rw [HZ.out.2.2.2]; exact HU9.out, HB9.out⟩
    | true =>
      have e9 : (K != 1) = true := by
        have := HSk.out
        rw [Bool.true_and] at this
        show (!(K == 1)) = true
        rw [this]; rfl
      go_wp2_with fail
      rw [← HW7.out]
      refine (impl_cpr HR.out (Nat.le_trans hlim HB.out.size) HCw.out HSw.out HN.out).mono ?_
      rintro e w8 ⟨v8, rfl, h8, hb⟩
      obtain ⟨a8, n8, rfl, _⟩ := h8.open
      have HO8 := Lib.hid (h8.mono HB.out.size)
      clear c0 c1 c2 p0 p1 x0 x1 x2
      replace HC := Lib.hid (rstand HC.out hb)
      replace HB := Lib.hid (HB.out.trans (hb.mono HB.out.size))
      clear hb
      have hb : Below w8.heap.size w8 (w8.alloc (.cells #[] 5)) := (Below.refl _ _).alloc (Nat.le_refl _) _
      have HU8 := Lib.hid (Own.lit (w := w8) (B := w.heap.size) 5 .u8 HB.out.size)
      replace HO8 := Lib.hid (HO8.out.next hb)
      replace HC := Lib.hid (rstand HC.out hb)
      replace HB := Lib.hid (HB.out.trans (hb.mono HB.out.size))
      clear hb
      obtain ⟨q0, q1, q2⟩ := rcs HC.out
      obtain ⟨f0, f1, f2⟩ := rfr HC.out
      obtain ⟨k9, g9⟩ := rst HC.out (.int .i64 c) (.int .i64 s) (.slice a8 xs.length n8)
      obtain ⟨r0, r1, r2⟩ := rcs k9
      have HB9 := Lib.hid (HB.out.grown g9 HB.out.size (fun k hk => by injection hk with hk; omega))
      have HO9 := Lib.hid (HO8.out.kept g9 (Or.inr (fun hh => owns_ne_box (by decide) HO8.out HC.out _ hh rfl)))
      have HU9 := Lib.hid (HU8.out.kept g9 (Or.inr (fun hh => own_ne_boxR (by decide) HU8.out HC.out _ hh rfl)))
      clear k9 g9 h8
      go_wp2_with fail
      exact bodyPost_ret (v := .tuple #[.agg #[.int .i64 c, .int .i64 s, .slice a8 xs.length n8], .slice (some ⟨w8.heap.size, 0, none⟩) 0 0, .bool false]) (by simp [results, Tryz.results9, go_sem, r0, r1, r2]) rfl ⟨_, _, by rw [HZ.out.1, HZ.out.2.1, ← HQ.out], by rw [HZ.out.2.2.1]; exact HO9.out, by rw [HZ.out.2.2.2]; exact HU9.out, HB9.out⟩
  | true =>
    have HZ := Lib.hid (os_is HQ.out.symm)
    have hokt : okk = true := by rw [HOk.out]; exact HZ.out.2.2.2.2
    have hok1 : ok = true := by have := HSk.out; cases ok; cases this; rfl
    have hk1 : K = 1 := by have := HSk.out; rw [hok1, Bool.true_and] at this; simpa using this
    subst hokt
    subst hok1
    subst hk1
    go_wp2_with fail
    rw [← HW7.out, ← HHe.out]
    refine region_till (fun x => x.cell? ⟨H, 1, none⟩ = some (.slice a6 l6 n6) ∧ x.cell? ⟨G, 0, none⟩ = some (.int .i64 C) ∧ x.cell? ⟨G, 1, none⟩ = some (.int .i64 T) ∧ x.cell? ⟨G, 2, none⟩ = some (.slice a1 l1 n1)) 5 (by kernel_rfl) ?_
    obtain ⟨wq, hwq'⟩ : ∃ x, x = W7.drew := ⟨_, rfl⟩
    have hD : Below W7.heap.size W7 wq := by rw [hwq']; exact (Below.refl _ _).drew
    rw [← hwq']
    replace HU := Lib.hid (HU.out.next hD)
    replace HA := Lib.hid (rstand HA.out hD)
    replace HC := Lib.hid (rstand HC.out hD)
    replace HE := Lib.hid (rstand HE.out hD)
    replace HO := Lib.hid (HO.out.next hD)
    replace HP := Lib.hid (rstand HP.out hD)
    replace HB := Lib.hid (HB.out.trans (hD.mono HB.out.size))
    clear hD
    clear c0 c1 c2 p0 p1 x0 x1 x2 hwq'
    obtain ⟨p0, p1⟩ := kcs HP.out
    obtain ⟨e0, e1, e2⟩ := rcs HE.out
    obtain ⟨q0, q1, q2⟩ := rcs HC.out
    obtain ⟨f0, f1, f2⟩ := rfr HC.out
    have s0 := And.intro p1 (And.intro e0 (And.intro e1 e2))
    apply Till.take (i := 0) [0, 3, 4, 5]
    · simp only [List.getElem?_toArray, List.getElem?_cons_zero]
      rfl
    · kernel_rfl
    · kernel_rfl
    · kernel_rfl
    · kernel_rfl
    · exact fun _ _ _ h => h
    · first
        | exact Or.inr ⟨by rfl, rfl⟩
        | (refine Or.inl ⟨by rfl, fun wq hwq => ?_⟩
           dsimp only at hwq
           go_simp
           first
             | done
             | rfl)
    · exact s0
    simp only [Act.put, List.setIfInBounds_toArray, List.set_cons_zero, List.set_cons_succ]
    apply Till.take (i := 1) [1, 2, 4, 5]
    · simp only [List.getElem?_toArray, List.getElem?_cons_succ, List.getElem?_cons_zero]
      rfl
    · kernel_rfl
    · kernel_rfl
    · kernel_rfl
    · kernel_rfl
    · exact fun _ _ _ h => h
    · first
        | exact Or.inr ⟨by rfl, rfl⟩
        | (refine Or.inl ⟨by rfl, fun wq hwq => ?_⟩
           dsimp only at hwq
           go_simp
           first
             | done
             | rfl)
    · exact s0
    simp only [Act.put, List.setIfInBounds_toArray, List.set_cons_zero, List.set_cons_succ]
    apply Till.take (i := 2) [2, 4, 5]
    · simp only [List.getElem?_toArray, List.getElem?_cons_succ, List.getElem?_cons_zero]
      rfl
    · kernel_rfl
    · kernel_rfl
    · kernel_rfl
    · kernel_rfl
    · exact fun _ _ _ h => h
    · first
        | exact Or.inr ⟨by rfl, rfl⟩
        | (refine Or.inl ⟨by rfl, fun wq hwq => ?_⟩
           dsimp only at hwq
           go_simp
           first
             | done
             | rfl)
    · exact s0
    simp only [Act.put, List.setIfInBounds_toArray, List.set_cons_zero, List.set_cons_succ]
    obtain ⟨k9, g9⟩ := rst HC.out (.int .i64 C) (.int .i64 T) (.slice a1 l1 n1)
    have hP9 := (g9.block _ (lt_of_block HP.out) (fun h => by injection h with h; have := HNh.out; omega)).trans HP.out
    have hE9 := (g9.block _ (lt_of_block HE.out) (fun h => by injection h with h; have := HNc.out; omega)).trans HE.out
    have s9 := And.intro (kcs hP9).2 (And.intro (rcs hE9).1 (And.intro (rcs hE9).2.1 (rcs hE9).2.2))
    clear hP9 hE9
    apply Till.one (i := 3)
    · kernel_rfl
    · simp only [List.getElem?_toArray, List.getElem?_cons_succ, List.getElem?_cons_zero]
      rfl
    intro K hK
    go_simp
    skip
    refine hK.out _ _ (Or.inr s9) ?_
    clear hK K
    try simp only [Act.put, List.setIfInBounds_toArray, List.set_cons_zero, List.set_cons_succ]
    apply Till.one (i := 4)
    · kernel_rfl
    · simp only [List.getElem?_toArray, List.getElem?_cons_succ, List.getElem?_cons_zero]
      rfl
    intro K hK
    go_simp
    skip
    refine hK.out _ _ (Or.inr s9) ?_
    clear hK K
    try simp only [Act.put, List.setIfInBounds_toArray, List.set_cons_zero, List.set_cons_succ]
    apply Till.one (i := 5)
    · kernel_rfl
    · simp only [List.getElem?_toArray, List.getElem?_cons_succ, List.getElem?_cons_zero]
      rfl
    intro K hK
    go_simp
    skip
    refine hK.out _ _ (Or.inl (by rfl)) ?_
    clear hK K
    try simp only [Act.put, List.setIfInBounds_toArray, List.set_cons_zero, List.set_cons_succ]
    refine Till.done (by kernel_rfl) ?_ _
    clear s9
    obtain ⟨r0, r1, r2⟩ := rcs k9
    have HB9 := Lib.hid (HB.out.grown g9 HB.out.size (fun k hk => by injection hk with hk; omega))
    have HO9 := Lib.hid (HO.out.kept g9 (Or.inr (fun hh => owns_ne_box (by decide) HO.out HC.out _ hh rfl)))
    have HU9 := Lib.hid (HU.out.kept g9 (Or.inr (fun hh => own_ne_boxR (by decide) HU.out HC.out _ hh rfl)))
    clear k9 g9
    go_wp2_with fail
    exact bodyPost_ret (v := .tuple #[.agg #[.int .i64 C, .int .i64 T, .slice a1 l1 n1], .slice a6 l6 n6, .bool true]) (by simp [results, Tryz.results9, go_sem, r0, r1, r2]) rfl ⟨_, _, by rw [← HZ.out.1, ← HZ.out.2.1, HCe.out, HTe.out, ← HQ.out], by rw [← HZ.out.2.2.1, ← HMe.out]; exact HO9.out, by rw [← HZ.out.2.2.2.1, ← Hme.out, ← HZe.out]; exact HU9.out, HB9.out⟩

set_option maxHeartbeats 16000000 in
/-- spec.OpenStep. -/
theorem spec_os {lim lb : Nat} {w : World} {v u : Value} {zs : List Int} {xs : Kept} {c s t : Int} (h : RdS kepE lim w v xs) (hlim : lim ≤ w.heap.size) (hcw : (Lit.int .i64 c).wf = true) (hsw : (Lit.int .i64 s).wf = true) (htw : (Lit.int .i64 t).wf = true) (hu : Rd lb .u8 w u zs) (hlb : lb ≤ w.heap.size) (hn : xs.length ≤ 1048576) :
    Calls Tryz.prog 18 #[.agg #[.int .i64 c, .int .i64 s, v], .int .i64 t, u] w fun e w' => ∃ v' u', e = .returned (.tuple #[.agg #[.int .i64 (osC c s xs t zs), .int .i64 (osS c s xs t zs), v'], u', .bool (osq c s xs t zs)]) ∧ OwnS kepE 61 w.heap.size w' v' (osL c s xs t zs) ∧ Own 5 .u8 w.heap.size w' u' (osB c s xs t zs) ∧ Below w.heap.size w w' := by
  obtain ⟨p, cap, rfl, h1, h2, -⟩ := h.open
  have HR0 := Lib.hid h
  have HCw := Lib.hid hcw
  have HSw := Lib.hid hsw
  have hsb := wf_i64 hsw
  clear h hcw hsw h1 h2
  have HTw := Lib.hid htw
  clear htw
  obtain ⟨au, cu, rfl, _⟩ := hu.open
  have HV0 := Lib.hid hu
  clear hu
  obtain ⟨W, hW⟩ : ∃ W, W = ((w.alloc (.cells #[.int .i64 c, .int .i64 s, .slice p xs.length cap] 26)).alloc (.cells #[.int .i64 0, .int .i64 0, .slice none 0 0] 26)) := ⟨_, rfl⟩
  have HW := Lib.hid hW
  have hK := blocks2T w (.cells #[.int .i64 c, .int .i64 s, .slice p xs.length cap] 26) (.cells #[.int .i64 0, .int .i64 0, .slice none 0 0] 26)
  rw [← hW] at hK
  have HA := Lib.hid hK.1
  have HC := Lib.hid hK.2
  have HB : Hid (Below w.heap.size w W) := Lib.hid (by rw [hW]; exact ((Below.refl _ _).alloc (Nat.le_refl _) _).alloc (by simp) _)
  have HS2 : Hid (W.heap.size = w.heap.size + 1 + 1) := Lib.hid (by rw [hW]; simp)
  clear hK hW
  have HR := Lib.hid (HR0.out.behind (HB.out.mono hlim))
  clear HR0
  have HV := Lib.hid (HV0.out.behind (HB.out.mono hlb))
  clear HV0
  have HN := Lib.hid hn
  obtain ⟨q, hq⟩ : ∃ q, q = osq c s xs t zs := ⟨_, rfl⟩
  have HQ := Lib.hid hq
  obtain ⟨C, hC⟩ : ∃ C, C = kfC c s xs t := ⟨_, rfl⟩
  obtain ⟨T, hT⟩ : ∃ T, T = kfS c s xs t := ⟨_, rfl⟩
  obtain ⟨M, hM⟩ : ∃ M, M = kfL c s xs t := ⟨_, rfl⟩
  obtain ⟨m, hm⟩ : ∃ m, m = kfM c s xs t := ⟨_, rfl⟩
  obtain ⟨okk, hok⟩ : ∃ ok, ok = kfq c s xs t := ⟨_, rfl⟩
  have HCe := Lib.hid hC
  have HTe := Lib.hid hT
  have HMe := Lib.hid hM
  have Hme := Lib.hid hm
  have HOk := Lib.hid hok
  have HMw : Hid ((Lit.int .i64 m).wf = true) := Lib.hid (by rw [hm]; exact kfM_wf')
  obtain ⟨K, hK⟩ : ∃ K, K = ocK m t zs := ⟨_, rfl⟩
  obtain ⟨ok, hok2⟩ : ∃ ok, ok = ook m t zs := ⟨_, rfl⟩
  obtain ⟨z, hz⟩ : ∃ z, z = ocB m t zs := ⟨_, rfl⟩
  have HSk : Hid ((ok && (K == 1)) = q) := Lib.hid (by rw [hok2, hK, hm, hq]; exact os_ok _ _ _ _ _)
  have HKe := Lib.hid hK
  have HO2 := Lib.hid hok2
  have HZe := Lib.hid hz
  have c0 := (rcs HA.out).1
  have c1 := (rcs HA.out).2.1
  have c2 := (rcs HA.out).2.2
  rw [HW.out] at c0 c1 c2
  clear hn hq hC hT hM hm hok hok2 hK hz
  go_enter Tryz.func18, Tryz.ntmps18
  go_wp2_with fail
  rw [← HW.out]
  refine (spec_kf HR.out (Nat.le_trans hlim HB.out.size) HCw.out HSw.out HTw.out HN.out).mono ?_
  rw [← HCe.out, ← HTe.out, ← HMe.out, ← Hme.out, ← HOk.out]
  rintro e w1 ⟨v1, rfl, h1, hb⟩
  obtain ⟨a1, n1, rfl, _⟩ := h1.open
  obtain ⟨l1, hl1⟩ : ∃ l1, l1 = M.length := ⟨_, rfl⟩
  rw [← hl1] at h1 ⊢
  clear hl1
  have HO := Lib.hid (h1.mono (B' := w.heap.size) (by have := HS2.out; omega))
  replace HV := Lib.hid (HV.out.behind (hb.mono (Nat.le_trans hlb HB.out.size)))
  replace HA := Lib.hid (rstand HA.out hb)
  replace HC := Lib.hid (rstand HC.out hb)
  replace HR := Lib.hid (HR.out.behind (hb.mono (Nat.le_trans hlim HB.out.size)))
  replace HB := Lib.hid (HB.out.trans (hb.mono HB.out.size))
  clear hb
  obtain ⟨W5, hW5⟩ : ∃ W5, W5 = w1.alloc (.cells #[.int .i64 C, .int .i64 T, .slice a1 l1 n1] 26) := ⟨_, rfl⟩
  have HW5 := Lib.hid hW5
  obtain ⟨G, hG⟩ : ∃ G, G = w1.heap.size := ⟨_, rfl⟩
  have HGe := Lib.hid hG
  have HE : Hid (W5.heap[G]? = some (.cells #[.int .i64 C, .int .i64 T, .slice a1 l1 n1] 26)) := Lib.hid (by rw [hW5, hG]; exact heap_alloc_new _ _)
  have hb5 : Below w1.heap.size w1 W5 := by rw [hW5]; exact (Below.refl _ _).alloc (Nat.le_refl _) _
  have HNc : Hid (w.heap.size + 1 < G) := Lib.hid (by rw [hG]; exact lt_of_block HC.out)
  replace HO := Lib.hid (HO.out.next hb5)
  replace HV := Lib.hid (HV.out.behind (hb5.mono (Nat.le_trans hlb HB.out.size)))
  replace HA := Lib.hid (rstand HA.out hb5)
  replace HC := Lib.hid (rstand HC.out hb5)
  replace HR := Lib.hid (HR.out.behind (hb5.mono (Nat.le_trans hlim HB.out.size)))
  replace HB := Lib.hid (HB.out.trans (hb5.mono HB.out.size))
  clear hb5
  clear h1 hW5 hG c0 c1 c2
  obtain ⟨c0, c1, c2⟩ := rcs HA.out
  rw [HW5.out] at c0 c1 c2
  go_wp2_with fail
  rw [← HW5.out, ← HGe.out]
  refine (spec_oc HV.out (Nat.le_trans hlb HB.out.size) HMw.out HTw.out).mono ?_
  rw [← HKe.out, ← HO2.out, ← HZe.out]
  rintro e w6 ⟨u6, rfl, h6, hb⟩
  obtain ⟨a6, n6, rfl, _⟩ := h6.open
  obtain ⟨l6, hl6⟩ : ∃ l6, l6 = z.length := ⟨_, rfl⟩
  rw [← hl6] at h6 ⊢
  clear hl6
  have HU := Lib.hid (h6.mono HB.out.size)
  clear c0 c1 c2 h6
  replace HV := Lib.hid (HV.out.behind (hb.mono (Nat.le_trans hlb HB.out.size)))
  replace HA := Lib.hid (rstand HA.out hb)
  replace HC := Lib.hid (rstand HC.out hb)
  replace HE := Lib.hid (rstand HE.out hb)
  replace HO := Lib.hid (HO.out.next hb)
  replace HR := Lib.hid (HR.out.behind (hb.mono (Nat.le_trans hlim HB.out.size)))
  replace HB := Lib.hid (HB.out.trans (hb.mono HB.out.size))
  clear hb
  obtain ⟨W7, hW7⟩ : ∃ W7, W7 = w6.alloc (.cells #[.int .i64 K, .slice a6 l6 n6] 55) := ⟨_, rfl⟩
  have HW7 := Lib.hid hW7
  obtain ⟨H, hH⟩ : ∃ H, H = w6.heap.size := ⟨_, rfl⟩
  have HHe := Lib.hid hH
  have HP : Hid (W7.heap[H]? = some (.cells #[.int .i64 K, .slice a6 l6 n6] 55)) := Lib.hid (by rw [hW7, hH]; exact heap_alloc_new _ _)
  have hb7 : Below w6.heap.size w6 W7 := by rw [hW7]; exact (Below.refl _ _).alloc (Nat.le_refl _) _
  have HNh : Hid (w.heap.size + 1 < H) := Lib.hid (by rw [hH]; exact lt_of_block HC.out)
  replace HU := Lib.hid (HU.out.next hb7)
  replace HV := Lib.hid (HV.out.behind (hb7.mono (Nat.le_trans hlb HB.out.size)))
  replace HA := Lib.hid (rstand HA.out hb7)
  replace HC := Lib.hid (rstand HC.out hb7)
  replace HE := Lib.hid (rstand HE.out hb7)
  replace HO := Lib.hid (HO.out.next hb7)
  replace HR := Lib.hid (HR.out.behind (hb7.mono (Nat.le_trans hlim HB.out.size)))
  replace HB := Lib.hid (HB.out.trans (hb7.mono HB.out.size))
  clear hb7
  clear hW7 hH
  obtain ⟨c0, c1, c2⟩ := rcs HA.out
  obtain ⟨p0, p1⟩ := kcs HP.out
  rw [HW7.out] at c0 c1 c2 p0 p1
  rw [HHe.out] at p0 p1
  have x0 := c0
  have x1 := c1
  have x2 := c2
  cases q with
  | false =>
    have HZ := Lib.hid (os_no HQ.out.symm)
    cases okk with
    | false =>
      go_wp2_with fail
      rw [← HW7.out]
      refine (spec_cpr HR.out (Nat.le_trans hlim HB.out.size) HCw.out HSw.out HN.out).mono ?_
      rintro e w8 ⟨v8, rfl, h8, hb⟩
      obtain ⟨a8, n8, rfl, _⟩ := h8.open
      have HO8 := Lib.hid (h8.mono HB.out.size)
      clear c0 c1 c2 p0 p1 x0 x1 x2
      replace HC := Lib.hid (rstand HC.out hb)
      replace HB := Lib.hid (HB.out.trans (hb.mono HB.out.size))
      clear hb
      have hb : Below w8.heap.size w8 (w8.alloc (.cells #[] 5)) := (Below.refl _ _).alloc (Nat.le_refl _) _
      have HU8 := Lib.hid (Own.lit (w := w8) (B := w.heap.size) 5 .u8 HB.out.size)
      replace HO8 := Lib.hid (HO8.out.next hb)
      replace HC := Lib.hid (rstand HC.out hb)
      replace HB := Lib.hid (HB.out.trans (hb.mono HB.out.size))
      clear hb
      obtain ⟨q0, q1, q2⟩ := rcs HC.out
      obtain ⟨f0, f1, f2⟩ := rfr HC.out
      obtain ⟨k9, g9⟩ := rst HC.out (.int .i64 c) (.int .i64 s) (.slice a8 xs.length n8)
      obtain ⟨r0, r1, r2⟩ := rcs k9
      have HB9 := Lib.hid (HB.out.grown g9 HB.out.size (fun k hk => by injection hk with hk; omega))
      have HO9 := Lib.hid (HO8.out.kept g9 (Or.inr (fun hh => owns_ne_box (by decide) HO8.out HC.out _ hh rfl)))
      have HU9 := Lib.hid (HU8.out.kept g9 (Or.inr (fun hh => own_ne_boxR (by decide) HU8.out HC.out _ hh rfl)))
      clear k9 g9 h8
      go_wp2_with fail
      exact bodyPost_ret (v := .tuple #[.agg #[.int .i64 c, .int .i64 s, .slice a8 xs.length n8], .slice (some ⟨w8.heap.size, 0, none⟩) 0 0, .bool false]) (by simp [results, Tryz.results18, go_sem, r0, r1, r2]) rfl ⟨_, _, by rw [HZ.out.1, HZ.out.2.1, ← HQ.out], by rw [HZ.out.2.2.1]; exact HO9.out, by rw [HZ.out.2.2.2]; exact HU9.out, HB9.out⟩
    | true =>
      cases ok with
      | false =>
        go_wp2_with fail
        rw [← HW7.out]
        refine (spec_cpr HR.out (Nat.le_trans hlim HB.out.size) HCw.out HSw.out HN.out).mono ?_
        rintro e w8 ⟨v8, rfl, h8, hb⟩
        obtain ⟨a8, n8, rfl, _⟩ := h8.open
        have HO8 := Lib.hid (h8.mono HB.out.size)
        clear c0 c1 c2 p0 p1 x0 x1 x2
        replace HC := Lib.hid (rstand HC.out hb)
        replace HB := Lib.hid (HB.out.trans (hb.mono HB.out.size))
        clear hb
        have hb : Below w8.heap.size w8 (w8.alloc (.cells #[] 5)) := (Below.refl _ _).alloc (Nat.le_refl _) _
        have HU8 := Lib.hid (Own.lit (w := w8) (B := w.heap.size) 5 .u8 HB.out.size)
        replace HO8 := Lib.hid (HO8.out.next hb)
        replace HC := Lib.hid (rstand HC.out hb)
        replace HB := Lib.hid (HB.out.trans (hb.mono HB.out.size))
        clear hb
        obtain ⟨q0, q1, q2⟩ := rcs HC.out
        obtain ⟨f0, f1, f2⟩ := rfr HC.out
        obtain ⟨k9, g9⟩ := rst HC.out (.int .i64 c) (.int .i64 s) (.slice a8 xs.length n8)
        obtain ⟨r0, r1, r2⟩ := rcs k9
        have HB9 := Lib.hid (HB.out.grown g9 HB.out.size (fun k hk => by injection hk with hk; omega))
        have HO9 := Lib.hid (HO8.out.kept g9 (Or.inr (fun hh => owns_ne_box (by decide) HO8.out HC.out _ hh rfl)))
        have HU9 := Lib.hid (HU8.out.kept g9 (Or.inr (fun hh => own_ne_boxR (by decide) HU8.out HC.out _ hh rfl)))
        clear k9 g9 h8
        go_wp2_with fail
        exact bodyPost_ret (v := .tuple #[.agg #[.int .i64 c, .int .i64 s, .slice a8 xs.length n8], .slice (some ⟨w8.heap.size, 0, none⟩) 0 0, .bool false]) (by simp [results, Tryz.results18, go_sem, r0, r1, r2]) rfl ⟨_, _, by rw [HZ.out.1, HZ.out.2.1, ← HQ.out], by rw [HZ.out.2.2.1]; exact HO9.out, by rw [HZ.out.2.2.2]; exact HU9.out, HB9.out⟩
      | true =>
        have e9 : (K != 1) = true := by
          have := HSk.out
          rw [Bool.true_and] at this
          show (!(K == 1)) = true
          rw [this]; rfl
        go_wp2_with fail
        rw [← HW7.out]
        refine (spec_cpr HR.out (Nat.le_trans hlim HB.out.size) HCw.out HSw.out HN.out).mono ?_
        rintro e w8 ⟨v8, rfl, h8, hb⟩
        obtain ⟨a8, n8, rfl, _⟩ := h8.open
        have HO8 := Lib.hid (h8.mono HB.out.size)
        clear c0 c1 c2 p0 p1 x0 x1 x2
        replace HC := Lib.hid (rstand HC.out hb)
        replace HB := Lib.hid (HB.out.trans (hb.mono HB.out.size))
        clear hb
        have hb : Below w8.heap.size w8 (w8.alloc (.cells #[] 5)) := (Below.refl _ _).alloc (Nat.le_refl _) _
        have HU8 := Lib.hid (Own.lit (w := w8) (B := w.heap.size) 5 .u8 HB.out.size)
        replace HO8 := Lib.hid (HO8.out.next hb)
        replace HC := Lib.hid (rstand HC.out hb)
        replace HB := Lib.hid (HB.out.trans (hb.mono HB.out.size))
        clear hb
        obtain ⟨q0, q1, q2⟩ := rcs HC.out
        obtain ⟨f0, f1, f2⟩ := rfr HC.out
        obtain ⟨k9, g9⟩ := rst HC.out (.int .i64 c) (.int .i64 s) (.slice a8 xs.length n8)
        obtain ⟨r0, r1, r2⟩ := rcs k9
        have HB9 := Lib.hid (HB.out.grown g9 HB.out.size (fun k hk => by injection hk with hk; omega))
        have HO9 := Lib.hid (HO8.out.kept g9 (Or.inr (fun hh => owns_ne_box (by decide) HO8.out HC.out _ hh rfl)))
        have HU9 := Lib.hid (HU8.out.kept g9 (Or.inr (fun hh => own_ne_boxR (by decide) HU8.out HC.out _ hh rfl)))
        clear k9 g9 h8
        go_wp2_with fail
        exact bodyPost_ret (v := .tuple #[.agg #[.int .i64 c, .int .i64 s, .slice a8 xs.length n8], .slice (some ⟨w8.heap.size, 0, none⟩) 0 0, .bool false]) (by simp [results, Tryz.results18, go_sem, r0, r1, r2]) rfl ⟨_, _, by rw [HZ.out.1, HZ.out.2.1, ← HQ.out], by rw [HZ.out.2.2.1]; exact HO9.out, by rw [HZ.out.2.2.2]; exact HU9.out, HB9.out⟩
  | true =>
    have HZ := Lib.hid (os_is HQ.out.symm)
    have hokt : okk = true := by rw [HOk.out]; exact HZ.out.2.2.2.2
    have hok1 : ok = true := by have := HSk.out; cases ok; cases this; rfl
    have hk1 : K = 1 := by have := HSk.out; rw [hok1, Bool.true_and] at this; simpa using this
    subst hokt
    subst hok1
    subst hk1
    go_wp2_with fail
    rw [← HW7.out, ← HHe.out]
    refine region_till (fun x => x.cell? ⟨H, 1, none⟩ = some (.slice a6 l6 n6) ∧ x.cell? ⟨G, 0, none⟩ = some (.int .i64 C) ∧ x.cell? ⟨G, 1, none⟩ = some (.int .i64 T) ∧ x.cell? ⟨G, 2, none⟩ = some (.slice a1 l1 n1)) 5 (by kernel_rfl) ?_
    obtain ⟨wq, hwq'⟩ : ∃ x, x = W7.drew := ⟨_, rfl⟩
    have hD : Below W7.heap.size W7 wq := by rw [hwq']; exact (Below.refl _ _).drew
    rw [← hwq']
    replace HU := Lib.hid (HU.out.next hD)
    replace HA := Lib.hid (rstand HA.out hD)
    replace HC := Lib.hid (rstand HC.out hD)
    replace HE := Lib.hid (rstand HE.out hD)
    replace HO := Lib.hid (HO.out.next hD)
    replace HP := Lib.hid (rstand HP.out hD)
    replace HB := Lib.hid (HB.out.trans (hD.mono HB.out.size))
    clear hD
    clear c0 c1 c2 p0 p1 x0 x1 x2 hwq'
    obtain ⟨p0, p1⟩ := kcs HP.out
    obtain ⟨e0, e1, e2⟩ := rcs HE.out
    obtain ⟨q0, q1, q2⟩ := rcs HC.out
    obtain ⟨f0, f1, f2⟩ := rfr HC.out
    have s0 := And.intro p1 (And.intro e0 (And.intro e1 e2))
    apply Till.take (i := 0) [0, 3, 4, 5]
    · simp only [List.getElem?_toArray, List.getElem?_cons_zero]
      rfl
    · kernel_rfl
    · kernel_rfl
    · kernel_rfl
    · kernel_rfl
    · exact fun _ _ _ h => h
    · first
        | exact Or.inr ⟨by rfl, rfl⟩
        | (refine Or.inl ⟨by rfl, fun wq hwq => ?_⟩
           dsimp only at hwq
           go_simp
           first
             | done
             | rfl)
    · exact s0
    simp only [Act.put, List.setIfInBounds_toArray, List.set_cons_zero, List.set_cons_succ]
    apply Till.take (i := 1) [1, 2, 4, 5]
    · simp only [List.getElem?_toArray, List.getElem?_cons_succ, List.getElem?_cons_zero]
      rfl
    · kernel_rfl
    · kernel_rfl
    · kernel_rfl
    · kernel_rfl
    · exact fun _ _ _ h => h
    · first
        | exact Or.inr ⟨by rfl, rfl⟩
        | (refine Or.inl ⟨by rfl, fun wq hwq => ?_⟩
           dsimp only at hwq
           go_simp
           first
             | done
             | rfl)
    · exact s0
    simp only [Act.put, List.setIfInBounds_toArray, List.set_cons_zero, List.set_cons_succ]
    apply Till.take (i := 2) [2, 4, 5]
    · simp only [List.getElem?_toArray, List.getElem?_cons_succ, List.getElem?_cons_zero]
      rfl
    · kernel_rfl
    · kernel_rfl
    · kernel_rfl
    · kernel_rfl
    · exact fun _ _ _ h => h
    · first
        | exact Or.inr ⟨by rfl, rfl⟩
        | (refine Or.inl ⟨by rfl, fun wq hwq => ?_⟩
           dsimp only at hwq
           go_simp
           first
             | done
             | rfl)
    · exact s0
    simp only [Act.put, List.setIfInBounds_toArray, List.set_cons_zero, List.set_cons_succ]
    obtain ⟨k9, g9⟩ := rst HC.out (.int .i64 C) (.int .i64 T) (.slice a1 l1 n1)
    have hP9 := (g9.block _ (lt_of_block HP.out) (fun h => by injection h with h; have := HNh.out; omega)).trans HP.out
    have hE9 := (g9.block _ (lt_of_block HE.out) (fun h => by injection h with h; have := HNc.out; omega)).trans HE.out
    have s9 := And.intro (kcs hP9).2 (And.intro (rcs hE9).1 (And.intro (rcs hE9).2.1 (rcs hE9).2.2))
    clear hP9 hE9
    apply Till.one (i := 3)
    · kernel_rfl
    · simp only [List.getElem?_toArray, List.getElem?_cons_succ, List.getElem?_cons_zero]
      rfl
    intro K hK
    go_simp
    skip
    refine hK.out _ _ (Or.inr s9) ?_
    clear hK K
    try simp only [Act.put, List.setIfInBounds_toArray, List.set_cons_zero, List.set_cons_succ]
    apply Till.one (i := 4)
    · kernel_rfl
    · simp only [List.getElem?_toArray, List.getElem?_cons_succ, List.getElem?_cons_zero]
      rfl
    intro K hK
    go_simp
    skip
    refine hK.out _ _ (Or.inr s9) ?_
    clear hK K
    try simp only [Act.put, List.setIfInBounds_toArray, List.set_cons_zero, List.set_cons_succ]
    apply Till.one (i := 5)
    · kernel_rfl
    · simp only [List.getElem?_toArray, List.getElem?_cons_succ, List.getElem?_cons_zero]
      rfl
    intro K hK
    go_simp
    skip
    refine hK.out _ _ (Or.inl (by rfl)) ?_
    clear hK K
    try simp only [Act.put, List.setIfInBounds_toArray, List.set_cons_zero, List.set_cons_succ]
    refine Till.done (by kernel_rfl) ?_ _
    clear s9
    obtain ⟨r0, r1, r2⟩ := rcs k9
    have HB9 := Lib.hid (HB.out.grown g9 HB.out.size (fun k hk => by injection hk with hk; omega))
    have HO9 := Lib.hid (HO.out.kept g9 (Or.inr (fun hh => owns_ne_box (by decide) HO.out HC.out _ hh rfl)))
    have HU9 := Lib.hid (HU.out.kept g9 (Or.inr (fun hh => own_ne_boxR (by decide) HU.out HC.out _ hh rfl)))
    clear k9 g9
    go_wp2_with fail
    exact bodyPost_ret (v := .tuple #[.agg #[.int .i64 C, .int .i64 T, .slice a1 l1 n1], .slice a6 l6 n6, .bool true]) (by simp [results, Tryz.results18, go_sem, r0, r1, r2]) rfl ⟨_, _, by rw [← HZ.out.1, ← HZ.out.2.1, HCe.out, HTe.out, ← HQ.out], by rw [← HZ.out.2.2.1, ← HMe.out]; exact HO9.out, by rw [← HZ.out.2.2.2.1, ← Hme.out, ← HZe.out]; exact HU9.out, HB9.out⟩

end Go.Proofs.YtjbkhbbchacooaaGreatDoor
