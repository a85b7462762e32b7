/- Ratchets: SealStep, the program's and the document's. No conditions but numbers and lengths that a machine holds. -/
import Derived.Test.YtjbkhbbchacooaaGreatDoorRt4
import Derived.Test.YtjbkhbbchacooaaGreatDoorRtA
import Derived.Test.YtjbkhbbchacooaaGreatDoorBdS
import Derived.Test.YtjbkhbbchacooaaGreatDoorHeldL
namespace Go.Proofs.YtjbkhbbchacooaaGreatDoor
open Go Go.RowKit
set_option linter.unusedVariables false
set_option maxRecDepth 20000
attribute [local irreducible] kh kid

theorem ss_ok (c s : Int) (xs : Kept) (b : List Int) : sok (adM c s xs) s 1 b = ssq c s xs b := by
  unfold ssq adM
  cases hq : adq c s xs with
  | true => rw [if_pos rfl]; rfl
  | false =>
    rw [if_neg (by decide)]
    rfl
theorem ss_seal {c s : Int} {xs : Kept} {b : List Int} (h : ssq c s xs b = true) : adC c s xs = ssC c s xs b ∧ adS c s xs = ssS c s xs b ∧ s = ssN c s xs b ∧ sealL (adM c s xs) s 1 b = ssB c s xs b ∧ adq c s xs = true := by
  have hq : adq c s xs = true := by
    unfold ssq at h
    rw [Bool.and_eq_true] at h
    exact h.1
  obtain ⟨a1, a2, a3⟩ := rad_yes hq
  obtain ⟨b1, b2, b3, b4⟩ := ss_yes h
  rw [a1, a2, a3, b1, b2, b3, b4]
  exact ⟨rfl, rfl, rfl, rfl, hq⟩
theorem adM_wf (c s : Int) (xs : Kept) : (Lit.int .i64 (adM c s xs)).wf = true := by
  unfold adM
  split
  · exact mky_wf _
  · decide

set_option maxHeartbeats 16000000 in
/-- impl.SealStep. -/
theorem impl_ss {lim lb : Nat} {w : World} {v u : Value} {zs : List Int} {xs : Kept} {c s : Int} (h : RdS kepE lim w v xs) (hlim : lim ≤ w.heap.size) (hcw : (Lit.int .i64 c).wf = true) (hsw : (Lit.int .i64 s).wf = true) (hu : Rd lb .u8 w u zs) (hlb : lb ≤ w.heap.size) (hn : xs.length ≤ 1048576) :
    Calls Tryz.prog 8 #[.agg #[.int .i64 c, .int .i64 s, v], u] w fun e w' => ∃ v' u', e = .returned (.tuple #[.agg #[.int .i64 (ssC c s xs zs), .int .i64 (ssS c s xs zs), v'], .int .i64 (ssN c s xs zs), u', .bool (ssq c s xs zs)]) ∧ OwnS kepE 61 w.heap.size w' v' xs ∧ Own 5 .u8 w.heap.size w' u' (ssB c s xs zs) ∧ Below w.heap.size w w' := by
  obtain ⟨p, cap, rfl, h1, h2, -⟩ := h.open
  have HR0 := Lib.hid h
  have HCw := Lib.hid hcw
  have HSw := Lib.hid hsw
  have hsb := wf_i64 hsw
  clear h hcw hsw h1 h2
  obtain ⟨au, cu, rfl, _⟩ := hu.open
  have HV0 := Lib.hid hu
  clear hu
  obtain ⟨W, hW⟩ : ∃ W, W = ((w.alloc (.cells #[.int .i64 c, .int .i64 s, .slice p xs.length cap] 26)).alloc (.cells #[.int .i64 0, .int .i64 0, .slice none 0 0] 26)) := ⟨_, rfl⟩
  have HW := Lib.hid hW
  have hK := blocks2T w (.cells #[.int .i64 c, .int .i64 s, .slice p xs.length cap] 26) (.cells #[.int .i64 0, .int .i64 0, .slice none 0 0] 26)
  rw [← hW] at hK
  have HA := Lib.hid hK.1
  have HC := Lib.hid hK.2
  have HB : Hid (Below w.heap.size w W) := Lib.hid (by rw [hW]; exact ((Below.refl _ _).alloc (Nat.le_refl _) _).alloc (by simp) _)
  have HS2 : Hid (W.heap.size = w.heap.size + 1 + 1) := Lib.hid (by rw [hW]; simp)
  clear hK hW
  have HR := Lib.hid (HR0.out.behind (HB.out.mono hlim))
  clear HR0
  have HV := Lib.hid (HV0.out.behind (HB.out.mono hlb))
  clear HV0
  have HN := Lib.hid hn
  obtain ⟨q, hq⟩ : ∃ q, q = ssq c s xs zs := ⟨_, rfl⟩
  have HQ := Lib.hid hq
  obtain ⟨C, hC⟩ : ∃ C, C = adC c s xs := ⟨_, rfl⟩
  obtain ⟨T, hT⟩ : ∃ T, T = adS c s xs := ⟨_, rfl⟩
  obtain ⟨m, hm⟩ : ∃ m, m = adM c s xs := ⟨_, rfl⟩
  obtain ⟨ok, hok⟩ : ∃ ok, ok = adq c s xs := ⟨_, rfl⟩
  have HCe := Lib.hid hC
  have HTe := Lib.hid hT
  have HMe := Lib.hid hm
  have HOk := Lib.hid hok
  have HMw : Hid ((Lit.int .i64 m).wf = true) := Lib.hid (by rw [hm]; exact adM_wf _ _ _)
  have HSk : Hid (sok m s 1 zs = q) := Lib.hid (by rw [hm, hq]; exact ss_ok _ _ _ _)
  obtain ⟨z, hz⟩ : ∃ z, z = sealL m s 1 zs := ⟨_, rfl⟩
  have HZe := Lib.hid hz
  have c0 := (rcs HA.out).1
  have c1 := (rcs HA.out).2.1
  have c2 := (rcs HA.out).2.2
  rw [HW.out] at c0 c1 c2
  clear hn hq hC hT hm hok hz
  go_enter Tryz.func8, Tryz.ntmps8
  go_wp2_with fail
  rw [← HW.out]
  refine (impl_ad HR.out (Nat.le_trans hlim HB.out.size) HCw.out HSw.out HN.out).mono ?_
  rw [← HCe.out, ← HTe.out, ← HMe.out, ← HOk.out]
  rintro e w1 ⟨v1, rfl, h1, hb⟩
  obtain ⟨a1, n1, rfl, _⟩ := h1.open
  have HO := Lib.hid (h1.mono (B' := w.heap.size) (by have := HS2.out; omega))
  have HLt1 := Lib.hid (fun r hr => (h1.lt r hr).1)
  have hb9 := hb
  replace HV := Lib.hid (HV.out.behind (hb.mono (Nat.le_trans hlb HB.out.size)))
  replace HA := Lib.hid (rstand HA.out hb)
  replace HC := Lib.hid (rstand HC.out hb)
  replace HR := Lib.hid (HR.out.behind (hb.mono (Nat.le_trans hlim HB.out.size)))
  replace HB := Lib.hid (HB.out.trans (hb.mono HB.out.size))
  clear hb
  obtain ⟨W5, hW5⟩ : ∃ W5, W5 = w1.alloc (.cells #[.int .i64 C, .int .i64 T, .slice a1 xs.length n1] 26) := ⟨_, rfl⟩
  have HW5 := Lib.hid hW5
  obtain ⟨G, hG⟩ : ∃ G, G = w1.heap.size := ⟨_, rfl⟩
  have HGe := Lib.hid hG
  have HE : Hid (W5.heap[G]? = some (.cells #[.int .i64 C, .int .i64 T, .slice a1 xs.length n1] 26)) := Lib.hid (by rw [hW5, hG]; exact heap_alloc_new _ _)
  have hb5 : Below w1.heap.size w1 W5 := by rw [hW5]; exact (Below.refl _ _).alloc (Nat.le_refl _) _
  have HNc : Hid (w.heap.size + 1 < G) := Lib.hid (by rw [hG]; exact lt_of_block HC.out)
  replace HO := Lib.hid (HO.out.next hb5)
  replace HV := Lib.hid (HV.out.behind (hb5.mono (Nat.le_trans hlb HB.out.size)))
  replace HA := Lib.hid (rstand HA.out hb5)
  replace HC := Lib.hid (rstand HC.out hb5)
  replace HR := Lib.hid (HR.out.behind (hb5.mono (Nat.le_trans hlim HB.out.size)))
  replace HB := Lib.hid (HB.out.trans (hb5.mono HB.out.size))
  clear hb5
  clear h1 hW5 hG c0 c1 c2 hb9
  obtain ⟨c0, c1, c2⟩ := rcs HA.out
  rw [HW5.out] at c0 c1 c2
  go_wp2_with fail
  rw [← HW5.out, ← HGe.out]
  refine (impl_se HV.out (Nat.le_trans hlb HB.out.size) HMw.out HSw.out (by decide)).mono ?_
  rw [HSk.out, ← HZe.out]
  rintro e w6 ⟨u6, rfl, h6, hb⟩
  have HU := Lib.hid (h6.mono HB.out.size)
  have HLu := Lib.hid (fun r hr => (h6.lt r hr).1)
  have HG5 := Lib.hid (lt_of_block HE.out)
  clear c0 c1 c2 h6
  replace HV := Lib.hid (HV.out.behind (hb.mono (Nat.le_trans hlb HB.out.size)))
  replace HA := Lib.hid (rstand HA.out hb)
  replace HC := Lib.hid (rstand HC.out hb)
  replace HE := Lib.hid (rstand HE.out hb)
  replace HO := Lib.hid (HO.out.next hb)
  replace HR := Lib.hid (HR.out.behind (hb.mono (Nat.le_trans hlim HB.out.size)))
  replace HB := Lib.hid (HB.out.trans (hb.mono HB.out.size))
  clear hb
  obtain ⟨c0, c1, c2⟩ := rcs HA.out
  cases q with
  | false =>
    have HZ := Lib.hid (ss_no HQ.out.symm)
    go_wp2_with fail
    refine (impl_cpr HR.out (Nat.le_trans hlim HB.out.size) HCw.out HSw.out HN.out).mono ?_
    rintro e w8 ⟨v8, rfl, h8, hb⟩
    obtain ⟨a8, n8, rfl, _⟩ := h8.open
    have HLt := Lib.hid (fun r hr => h8.lt r hr)
    have HBs := Lib.hid HB.out.size
    have HCl := Lib.hid (lt_of_block HC.out)
    have HO8 := Lib.hid (h8.mono HB.out.size)
    replace HC := Lib.hid (rstand HC.out hb)
    replace HB := Lib.hid (HB.out.trans (hb.mono HB.out.size))
    clear hb
    have hb : Below w8.heap.size w8 (w8.alloc (.cells #[] 5)) := (Below.refl _ _).alloc (Nat.le_refl _) _
    have HU8 := Lib.hid (Own.lit (w := w8) (B := w.heap.size) 5 .u8 HB.out.size)
    replace HO8 := Lib.hid (HO8.out.next hb)
    replace HC := Lib.hid (rstand HC.out hb)
    replace HB := Lib.hid (HB.out.trans (hb.mono HB.out.size))
    clear hb
    obtain ⟨q0, q1, q2⟩ := rcs HC.out
    obtain ⟨f0, f1, f2⟩ := rfr HC.out
    obtain ⟨k9, g9⟩ := rst HC.out (.int .i64 c) (.int .i64 s) (.slice a8 xs.length n8)
    obtain ⟨r0, r1, r2⟩ := rcs k9
    have HB9 := Lib.hid (HB.out.grown g9 HB.out.size (fun k hk => by injection hk with hk; omega))
    have HO9 := Lib.hid (HO8.out.kept g9 (Or.inr (fun hh => owns_ne_box (by decide) HO8.out HC.out _ hh rfl)))
    have HU9 := Lib.hid (HU8.out.kept g9 (Or.inr (fun hh => own_ne_boxR (by decide) HU8.out HC.out _ hh rfl)))
    clear k9 g9 h8
    go_wp2_with fail
    exact bodyPost_ret (v := .tuple #[.agg #[.int .i64 c, .int .i64 s, .slice a8 xs.length n8], .int .i64 0, .slice (some ⟨w8.heap.size, 0, none⟩) 0 0, .bool false]) (by simp [results, Tryz.results8, go_sem, r0, r1, r2]) rfl ⟨_, _, by rw [HZ.out.1, HZ.out.2.1, HZ.out.2.2.1, ← HQ.out], HO9.out, by rw [HZ.out.2.2.2]; exact HU9.out, HB9.out⟩
  | true =>
    have HZ := Lib.hid (ss_seal HQ.out.symm)
    have hokt : ok = true := by rw [HOk.out]; exact HZ.out.2.2.2.2
    subst hokt
    obtain ⟨aw, cw, hu6, _⟩ := HU.out.open
    obtain ⟨zl, hzl⟩ : ∃ zl, zl = z.length := ⟨_, rfl⟩
    rw [← hzl] at hu6
    subst hu6
    clear hzl
    go_wp2_with fail
    refine region_till (fun x => x.cell? ⟨w.heap.size, 1, none⟩ = some (.int .i64 s) ∧ x.cell? ⟨G, 0, none⟩ = some (.int .i64 C) ∧ x.cell? ⟨G, 1, none⟩ = some (.int .i64 T) ∧ x.cell? ⟨G, 2, none⟩ = some (.slice a1 xs.length n1)) 7 (by kernel_rfl) ?_
    obtain ⟨wq, hwq'⟩ : ∃ x, x = w6.drew := ⟨_, rfl⟩
    have hD : Below w6.heap.size w6 wq := by rw [hwq']; exact (Below.refl _ _).drew
    rw [← hwq']
    replace HU := Lib.hid (HU.out.next hD)
    replace HA := Lib.hid (rstand HA.out hD)
    replace HC := Lib.hid (rstand HC.out hD)
    replace HE := Lib.hid (rstand HE.out hD)
    replace HO := Lib.hid (HO.out.next hD)
    replace HB := Lib.hid (HB.out.trans (hD.mono HB.out.size))
    clear hD
    clear c0 c1 c2 hwq'
    obtain ⟨c0, c1, c2⟩ := rcs HA.out
    obtain ⟨e0, e1, e2⟩ := rcs HE.out
    obtain ⟨q0, q1, q2⟩ := rcs HC.out
    obtain ⟨f0, f1, f2⟩ := rfr HC.out
    have s0 := And.intro c1 (And.intro e0 (And.intro e1 e2))
    apply Till.take (i := 0) [0, 4, 5, 6, 7]
    · simp only [List.getElem?_toArray, List.getElem?_cons_zero]
      rfl
    · kernel_rfl
    · kernel_rfl
    · kernel_rfl
    · kernel_rfl
    · exact fun _ _ _ h => h
    · first
        | exact Or.inr ⟨by rfl, rfl⟩
        | (refine Or.inl ⟨by rfl, fun wq hwq => ?_⟩
           dsimp only at hwq
           go_simp
           first
             | done
             | rfl)
    · exact s0
    simp only [Act.put, List.setIfInBounds_toArray, List.set_cons_zero, List.set_cons_succ]
    apply Till.take (i := 1) [1, 2, 5, 6, 7]
    · simp only [List.getElem?_toArray, List.getElem?_cons_succ, List.getElem?_cons_zero]
      rfl
    · kernel_rfl
    · kernel_rfl
    · kernel_rfl
    · kernel_rfl
    · exact fun _ _ _ h => h
    · first
        | exact Or.inr ⟨by rfl, rfl⟩
        | (refine Or.inl ⟨by rfl, fun wq hwq => ?_⟩
           dsimp only at hwq
           go_simp
           first
             | done
             | rfl)
    · exact s0
    simp only [Act.put, List.setIfInBounds_toArray, List.set_cons_zero, List.set_cons_succ]
    apply Till.take (i := 2) [2, 5, 6, 7]
    · simp only [List.getElem?_toArray, List.getElem?_cons_succ, List.getElem?_cons_zero]
      rfl
    · kernel_rfl
    · kernel_rfl
    · kernel_rfl
    · kernel_rfl
    · exact fun _ _ _ h => h
    · first
        | exact Or.inr ⟨by rfl, rfl⟩
        | (refine Or.inl ⟨by rfl, fun wq hwq => ?_⟩
           dsimp only at hwq
           go_simp
           first
             | done
             | rfl)
    · exact s0
    simp only [Act.put, List.setIfInBounds_toArray, List.set_cons_zero, List.set_cons_succ]
    apply Till.take (i := 3) [3, 6, 7]
    · simp only [List.getElem?_toArray, List.getElem?_cons_succ, List.getElem?_cons_zero]
      rfl
    · kernel_rfl
    · kernel_rfl
    · kernel_rfl
    · kernel_rfl
    · exact fun _ _ _ h => h
    · first
        | exact Or.inr ⟨by rfl, rfl⟩
        | (refine Or.inl ⟨by rfl, fun wq hwq => ?_⟩
           dsimp only at hwq
           go_simp
           first
             | done
             | rfl)
    · exact s0
    simp only [Act.put, List.setIfInBounds_toArray, List.set_cons_zero, List.set_cons_succ]
    obtain ⟨k9, g9⟩ := rst HC.out (.int .i64 C) (.int .i64 T) (.slice a1 xs.length n1)
    have hA9 := (g9.block _ (lt_of_block HA.out) (fun h => by injection h with h; omega)).trans HA.out
    have hE9 := (g9.block _ (lt_of_block HE.out) (fun h => by injection h with h; have := HNc.out; omega)).trans HE.out
    have s9 := And.intro (rcs hA9).2.1 (And.intro (rcs hE9).1 (And.intro (rcs hE9).2.1 (rcs hE9).2.2))
    clear hA9 hE9
    apply Till.one (i := 4)
    · kernel_rfl
    · simp only [List.getElem?_toArray, List.getElem?_cons_succ, List.getElem?_cons_zero]
      rfl
    intro K hK
    go_simp
    skip
    refine hK.out _ _ (Or.inr s9) ?_
    clear hK K
    try simp only [Act.put, List.setIfInBounds_toArray, List.set_cons_zero, List.set_cons_succ]
    apply Till.one (i := 5)
    · kernel_rfl
    · simp only [List.getElem?_toArray, List.getElem?_cons_succ, List.getElem?_cons_zero]
      rfl
    intro K hK
    go_simp
    skip
    refine hK.out _ _ (Or.inr s9) ?_
    clear hK K
    try simp only [Act.put, List.setIfInBounds_toArray, List.set_cons_zero, List.set_cons_succ]
    apply Till.one (i := 6)
    · kernel_rfl
    · simp only [List.getElem?_toArray, List.getElem?_cons_succ, List.getElem?_cons_zero]
      rfl
    intro K hK
    go_simp
    skip
    refine hK.out _ _ (Or.inr s9) ?_
    clear hK K
    try simp only [Act.put, List.setIfInBounds_toArray, List.set_cons_zero, List.set_cons_succ]
    apply Till.one (i := 7)
    · kernel_rfl
    · simp only [List.getElem?_toArray, List.getElem?_cons_succ, List.getElem?_cons_zero]
      rfl
    intro K hK
    go_simp
    skip
    refine hK.out _ _ (Or.inl (by rfl)) ?_
    clear hK K
    try simp only [Act.put, List.setIfInBounds_toArray, List.set_cons_zero, List.set_cons_succ]
    refine Till.done (by kernel_rfl) ?_ _
    clear s9
    obtain ⟨r0, r1, r2⟩ := rcs k9
    have HB9 := Lib.hid (HB.out.grown g9 HB.out.size (fun k hk => by injection hk with hk; omega))
    have HO9 := Lib.hid (HO.out.kept g9 (Or.inr (fun hh => owns_ne_box (by decide) HO.out HC.out _ hh rfl)))
    have HU9 := Lib.hid (HU.out.kept g9 (Or.inr (fun hh => own_ne_boxR (by decide) HU.out HC.out _ hh rfl)))
    clear k9 g9
    go_wp2_with fail
    exact bodyPost_ret (v := .tuple #[.agg #[.int .i64 C, .int .i64 T, .slice a1 xs.length n1], .int .i64 s, .slice aw zl cw, .bool true]) (by simp [results, Tryz.results8, go_sem, r0, r1, r2]) rfl ⟨_, _, by rw [← HZ.out.1, ← HZ.out.2.1, ← HZ.out.2.2.1, HCe.out, HTe.out, ← HQ.out], HO9.out, by rw [← HZ.out.2.2.2.1, ← HMe.out, ← HZe.out]; exact HU9.out, HB9.out⟩

end Go.Proofs.YtjbkhbbchacooaaGreatDoor
