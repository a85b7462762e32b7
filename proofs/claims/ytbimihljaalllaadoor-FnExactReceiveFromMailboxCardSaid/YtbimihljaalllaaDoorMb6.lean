/- Mailboxes: what the program receives. Condition: the package variable errors.errorType holds the handle of the type 'error'. -/
import Derived.Test.YtbimihljaalllaaDoorMb1
import Derived.Test.YtbimihljaalllaaDoorCl5
import Derived.Test.YtbimihljaalllaaDoorHeldL
import Derived.BigQuiet
import Derived.Deep.RegionHeld3
import Derived.Deep.DeepCutAuto
namespace Go.Proofs.YtbimihljaalllaaDoor
open Go Go.RowKit
set_option linter.unusedVariables false
attribute [local irreducible] kh kid

theorem rvR_no {k s r d : Int} {c : List Int} (h : rvok k s r d c = false) : rvR k s r d c = r := if_neg (by rw [h]; decide)
theorem rvL_no {k s r d : Int} {c : List Int} (h : rvok k s r d c = false) : rvL k s r d c = [] := if_neg (by rw [h]; decide)
theorem rvR_yes {k s r d : Int} {c : List Int} (h : rvok k s r d c = true) : rvR k s r d c = r + 1 := if_pos h
theorem rvL_yes {k s r d : Int} {c : List Int} (h : rvok k s r d c = true) : rvL k s r d c = ocB (dkey k d) r c := if_pos h

set_option maxHeartbeats 8000000 in
set_option maxRecDepth 20000 in
/-- The program's open. -/
theorem open_any {lim : Nat} {w : World} {v : Value} {c : List Int} {k s r d : Int} (h : Rd lim .u8 w v c) (hlim : lim ≤ w.heap.size) (hk : (Lit.int .i64 k).wf = true) (hs : (Lit.int .i64 s).wf = true) (hr : (Lit.int .i64 r).wf = true) (hd : (Lit.int .i64 d).wf = true) (hg : GV w) :
    Calls Tryd.prog 60 #[.agg #[.int .i64 k, .int .i64 s, .int .i64 r], .int .i64 d, v] w fun e w' => ∃ v', e = .returned (.tuple #[v', .bool (ook (dkey k d) r c && (ocK (dkey k d) r c == 1))]) ∧ Own 5 .u8 w.heap.size w' v' (ocB (dkey k d) r c) ∧ Below w.heap.size w w' := by
  have HG := Lib.hid hg
  have HK := Lib.hid hk
  have HS := Lib.hid hs
  have HRr := Lib.hid hr
  have HD := Lib.hid hd
  have HQW := Lib.hid (dkey_wf k d)
  obtain ⟨q, hq⟩ : ∃ q, q = dkey k d := ⟨_, rfl⟩
  rw [← hq] at HQW
  have HQ := Lib.hid hq
  obtain ⟨t, ht⟩ : ∃ t, t = ook q r c := ⟨_, rfl⟩
  have HT := Lib.hid ht
  obtain ⟨kd, hkd⟩ : ∃ x, x = ocK q r c := ⟨_, rfl⟩
  have HKd := Lib.hid hkd
  obtain ⟨L, hL⟩ : ∃ x, x = (ocB q r c).length := ⟨_, rfl⟩
  have HL := Lib.hid hL
  obtain ⟨z, hz⟩ : ∃ z, z = (kd == 1) := ⟨_, rfl⟩
  have HZz := Lib.hid hz

  have HRes : Hid ((ook (dkey k d) r c && (ocK (dkey k d) r c == 1)) = (t && z)) := Lib.hid (by rw [hz, hkd, ht, hq])
  have HOB : Hid (ocB q r c = ocB (dkey k d) r c) := Lib.hid (by rw [hq])
  obtain ⟨W0, hW⟩ : ∃ W, W = w.alloc (.cells #[.int .i64 k, .int .i64 s, .int .i64 r] 44) := ⟨_, rfl⟩
  have HB0 : Hid (Below w.heap.size w W0) := Lib.hid (by rw [hW]; exact (Below.refl w.heap.size w).alloc (Nat.le_refl _) _)
  have HC0 : Hid (W0.heap[w.heap.size]? = some (.cells #[.int .i64 k, .int .i64 s, .int .i64 r] 44)) := Lib.hid (by rw [hW]; exact heap_alloc_new w _)
  have HR0 := Lib.hid (h.behind (HB0.out.mono hlim))
  have HW := Lib.hid hW
  clear h hW hq ht hkd hL hz hk hs hr hd hg
  go_enter Tryd.func60, Tryd.ntmps60
  go_wp2_with fail
  rw [← HW.out]
  go_cut [8, 9] (fun p b wx => ∃ (E : Nat) (a4 : Option Addr) (c4 : Nat) (wd : World), p = .pointer (some ⟨E, 0, none⟩) ∧ b = .bool t ∧ wd.heap.size ≤ E ∧ wx.heap[E]? = some (.cells #[.int .i64 kd, .slice a4 L c4] 25) ∧ Own 5 .u8 wd.heap.size wx (.slice a4 L c4) (ocB q r c) ∧ Below W0.heap.size W0 wd ∧ Below wd.heap.size wd wx ∧ W0.heap.size ≤ wd.heap.size)
  case first =>
    refine region_till (fun w' => w'.cell? ⟨w.heap.size, 0, none⟩ = some (.int .i64 k) ∧ w'.cell? ⟨w.heap.size, 2, none⟩ = some (.int .i64 r)) 13 (by kernel_rfl) ?_
    obtain ⟨wd, hwd⟩ : ∃ x, x = W0.drew := ⟨_, rfl⟩
    have HZd : Hid (W0.heap.size = wd.heap.size) := Lib.hid (by rw [hwd]; rfl)
    have HBd : Hid (Below w.heap.size w wd) := Lib.hid (by rw [hwd]; exact HB0.out.drew)
    have HBw : Hid (Below W0.heap.size W0 wd) := Lib.hid (by rw [hwd]; exact (Below.refl _ _).drew)
    have HCd : Hid (wd.heap[w.heap.size]? = some (.cells #[.int .i64 k, .int .i64 s, .int .i64 r] 44)) := Lib.hid (by rw [hwd]; exact HC0.out)
    have HSd : Hid (∀ w', Below wd.heap.size wd w' → w'.cell? ⟨w.heap.size, 0, none⟩ = some (.int .i64 k) ∧ w'.cell? ⟨w.heap.size, 2, none⟩ = some (.int .i64 r)) := Lib.hid (fun w' hb => by have h9 := (hb.block _ (lt_of_block HCd.out)).trans HCd.out; obtain ⟨h0, _, h2, _⟩ := ptc h9; exact ⟨h0, h2⟩)
    have HRd : Hid (Rd lim .u8 wd v c) := Lib.hid (HR0.out.behind (HBw.out.mono (Nat.le_trans hlim HB0.out.size)))
    have HLd : Hid (lim ≤ wd.heap.size) := Lib.hid (Nat.le_trans hlim HBd.out.size)
    have d0 := HSd.out _ (Below.refl _ _)
    rw [← hwd]
    clear hwd
    have HGd := Lib.hid (HG.out.next HBd.out)
    apply Till.take (i := 0) [0, 1, 3, 7, 8, 10, 13]
    · simp only [List.getElem?_toArray, List.getElem?_cons_zero]
      rfl
    · kernel_rfl
    · kernel_rfl
    · kernel_rfl
    · kernel_rfl
    · exact fun _ _ _ h => h
    · first
        | exact Or.inr ⟨by rfl, rfl⟩
        | (refine Or.inl ⟨by rfl, fun wq hwq => ?_⟩
           dsimp only at hwq
           go_simp
           first
             | done
             | rfl)
    · exact d0
    simp only [Act.put, List.setIfInBounds_toArray, List.set_cons_zero, List.set_cons_succ]
    apply Till.take (i := 1) [1, 3, 7, 8, 10, 13]
    · simp only [List.getElem?_toArray, List.getElem?_cons_succ, List.getElem?_cons_zero]
      rfl
    · kernel_rfl
    · kernel_rfl
    · kernel_rfl
    · kernel_rfl
    · exact fun _ _ _ h => h
    · first
        | exact Or.inr ⟨by rfl, rfl⟩
        | (refine Or.inl ⟨by rfl, fun wq hwq => ?_⟩
           dsimp only at hwq
           go_simp
           first
             | done
             | rfl)
    · exact d0
    simp only [Act.put, List.setIfInBounds_toArray, List.set_cons_zero, List.set_cons_succ]
    apply Till.take (i := 2) [2, 3, 7, 8, 10, 13]
    · simp only [List.getElem?_toArray, List.getElem?_cons_succ, List.getElem?_cons_zero]
      rfl
    · kernel_rfl
    · kernel_rfl
    · kernel_rfl
    · kernel_rfl
    · exact fun _ _ _ h => h
    · first
        | exact Or.inr ⟨by rfl, rfl⟩
        | (refine Or.inl ⟨by rfl, fun wq hwq => ?_⟩
           dsimp only at hwq
           go_simp
           first
             | done
             | rfl)
    · exact d0
    simp only [Act.put, List.setIfInBounds_toArray, List.set_cons_zero, List.set_cons_succ]
    apply Till.take (i := 4) [4, 5, 7, 8, 10, 13]
    · simp only [List.getElem?_toArray, List.getElem?_cons_succ, List.getElem?_cons_zero]
      rfl
    · kernel_rfl
    · kernel_rfl
    · kernel_rfl
    · kernel_rfl
    · exact fun _ _ _ h => h
    · first
        | exact Or.inr ⟨by rfl, rfl⟩
        | (refine Or.inl ⟨by rfl, fun wq hwq => ?_⟩
           dsimp only at hwq
           go_simp
           first
             | done
             | rfl)
    · exact d0
    simp only [Act.put, List.setIfInBounds_toArray, List.set_cons_zero, List.set_cons_succ]
    apply Till.take (i := 5) [5, 7, 8, 10, 13]
    · simp only [List.getElem?_toArray, List.getElem?_cons_succ, List.getElem?_cons_zero]
      rfl
    · kernel_rfl
    · kernel_rfl
    · kernel_rfl
    · kernel_rfl
    · exact fun _ _ _ h => h
    · first
        | exact Or.inr ⟨by rfl, rfl⟩
        | (refine Or.inl ⟨by rfl, fun wq hwq => ?_⟩
           dsimp only at hwq
           go_simp
           first
             | done
             | rfl)
    · exact d0
    simp only [Act.put, List.setIfInBounds_toArray, List.set_cons_zero, List.set_cons_succ]
    apply Till.take (i := 6) [6, 7, 8, 10, 13]
    · simp only [List.getElem?_toArray, List.getElem?_cons_succ, List.getElem?_cons_zero]
      rfl
    · kernel_rfl
    · kernel_rfl
    · kernel_rfl
    · kernel_rfl
    · exact fun _ _ _ h => h
    · first
        | exact Or.inr ⟨by rfl, rfl⟩
        | (refine Or.inl ⟨by rfl, fun wq hwq => ?_⟩
           dsimp only at hwq
           go_simp
           first
             | done
             | rfl)
    · exact d0
    simp only [Act.put, List.setIfInBounds_toArray, List.set_cons_zero, List.set_cons_succ]
    apply Till.two (i := 3) (j := 11)
    · kernel_rfl
    · simp only [List.getElem?_toArray, List.getElem?_cons_succ, List.getElem?_cons_zero]
      rfl
    · simp only [List.getElem?_toArray, List.getElem?_cons_succ, List.getElem?_cons_zero]
      rfl
    · intro K hK
      go_simp
      refine (impl_dk HK.out HD.out).mono ?_
      rintro e' w3 ⟨he, hb3⟩
      rw [← HQ.out] at he
      subst he
      have HB3 := Lib.hid hb3
      have d3 := HSd.out w3 hb3
      clear hb3
      refine hK.out _ _ (Or.inr d3) ?_
      clear hK K
      try simp only [Act.put, List.setIfInBounds_toArray, List.set_cons_zero, List.set_cons_succ]
      apply Till.two (i := 7) (j := 11)
      · kernel_rfl
      · simp only [List.getElem?_toArray, List.getElem?_cons_succ, List.getElem?_cons_zero]
        rfl
      · simp only [List.getElem?_toArray, List.getElem?_cons_succ, List.getElem?_cons_zero]
        rfl
      · intro K hK
        go_simp
        refine (impl_oc (HRd.out.behind (HB3.out.mono HLd.out)) (Nat.le_trans HLd.out HB3.out.size) HQW.out HRr.out (HGd.out.next HB3.out)).mono ?_
        rw [← HT.out, ← HKd.out]
        rintro e' w4 ⟨v4, he, h4, hb4⟩
        subst he
        obtain ⟨a4, c4, hv4, _⟩ := h4.open
        rw [← HL.out] at hv4
        subst hv4
        have HB4 := Lib.hid (HB3.out.trans (hb4.mono HB3.out.size))
        have d4 := HSd.out w4 HB4.out
        have HO4 := Lib.hid (h4.mono HB3.out.size)
        have HNb : Hid (∀ x, (Value.slice a4 L c4).ownBlock = some x → x < w4.heap.size) := Lib.hid (fun x hx => (h4.lt _ hx).2)
        clear h4 hb4
        refine hK.out _ _ (Or.inr d4) ?_
        clear hK K
        try simp only [Act.put, List.setIfInBounds_toArray, List.set_cons_zero, List.set_cons_succ]
        apply Till.take (i := 8) [8, 10, 13]
        · simp only [List.getElem?_toArray, List.getElem?_cons_succ, List.getElem?_cons_zero]
          rfl
        · kernel_rfl
        · kernel_rfl
        · kernel_rfl
        · kernel_rfl
        · exact fun _ _ _ h => h
        · first
            | exact Or.inr ⟨by rfl, rfl⟩
            | (refine Or.inl ⟨by rfl, fun wq hwq => ?_⟩
               dsimp only at hwq
               go_simp
               first
                 | done
                 | rfl)
        · exact d4
        simp only [Act.put, List.setIfInBounds_toArray, List.set_cons_zero, List.set_cons_succ]
        apply Till.take (i := 9) [9, 12, 13]
        · simp only [List.getElem?_toArray, List.getElem?_cons_succ, List.getElem?_cons_zero]
          rfl
        · kernel_rfl
        · kernel_rfl
        · kernel_rfl
        · kernel_rfl
        · exact fun _ _ _ h => h
        · first
            | exact Or.inr ⟨by rfl, rfl⟩
            | (refine Or.inl ⟨by rfl, fun wq hwq => ?_⟩
               dsimp only at hwq
               go_simp
               first
                 | done
                 | rfl)
        · exact d4
        simp only [Act.put, List.setIfInBounds_toArray, List.set_cons_zero, List.set_cons_succ]
        apply Till.take (i := 10) [10, 13]
        · simp only [List.getElem?_toArray, List.getElem?_cons_succ, List.getElem?_cons_zero]
          rfl
        · kernel_rfl
        · kernel_rfl
        · kernel_rfl
        · kernel_rfl
        · exact fun _ _ _ h => h
        · first
            | exact Or.inr ⟨by rfl, rfl⟩
            | (refine Or.inl ⟨by rfl, fun wq hwq => ?_⟩
               dsimp only at hwq
               go_simp
               first
                 | done
                 | rfl)
        · exact d4
        simp only [Act.put, List.setIfInBounds_toArray, List.set_cons_zero, List.set_cons_succ]
        have HB5 : Hid (Below wd.heap.size wd (w4.alloc (.cells #[.int .i64 0, .slice none 0 0] 25))) := Lib.hid (HB4.out.alloc HB4.out.size (.cells #[.int .i64 0, .slice none 0 0] 25))
        have d5 := HSd.out _ HB5.out
        apply Till.one (i := 11)
        · kernel_rfl
        · simp only [List.getElem?_toArray, List.getElem?_cons_succ, List.getElem?_cons_zero]
          rfl
        intro K hK
        go_simp
        skip
        refine hK.out _ _ (Or.inr d5) ?_
        clear hK K
        try simp only [Act.put, List.setIfInBounds_toArray, List.set_cons_zero, List.set_cons_succ]
        have HE0 := heap_alloc_new w4 (.cells #[.int .i64 0, .slice none 0 0] 25)
        have HO0 := HO4.out.alloc (.cells #[.int .i64 0, .slice none 0 0] 25)
        obtain ⟨wz, hwz⟩ : ∃ x, x = w4.alloc (.cells #[.int .i64 0, .slice none 0 0] 25) := ⟨_, rfl⟩
        obtain ⟨E, hE⟩ : ∃ x, x = w4.heap.size := ⟨_, rfl⟩
        rw [← hwz] at HE0 HO0 HB5 ⊢
        rw [← hE] at HE0 HNb ⊢
        have HE := Lib.hid HE0
        have HO3 := Lib.hid HO0
        have HBz := HB5
        have HEb : Hid (wd.heap.size ≤ E) := Lib.hid (by rw [hE]; exact HB4.out.size)
        have HNe : Hid (∀ x, (Value.slice a4 L c4).ownBlock = some x → x ≠ E) := Lib.hid (fun x hx => by have := HNb.out x hx; omega)
        clear hwz hE HE0 HO0 HNb d4 d5 HO4 HB4
        obtain ⟨q0, q1, f0, f1⟩ := pcs HE.out
        obtain ⟨t1, t3⟩ := pst HE.out (.int .i64 kd) (.slice a4 L c4)
        have hB9 := HBz.out.grown t3 HBz.out.size (fun k hk => by injection hk with hk; have := HEb.out; omega)
        have d9 := HSd.out _ hB9
        have O9 := Lib.hid (HO3.out.kept t3 (Or.inr (fun hk => HNe.out _ hk rfl)))
        have T1 := Lib.hid t1
        have B9 := Lib.hid hB9
        clear t1 t3 hB9
        apply Till.one (i := 12)
        · kernel_rfl
        · simp only [List.getElem?_toArray, List.getElem?_cons_succ, List.getElem?_cons_zero]
          rfl
        intro K hK
        go_simp
        skip
        refine hK.out _ _ (Or.inr d9) ?_
        clear hK K
        try simp only [Act.put, List.setIfInBounds_toArray, List.set_cons_zero, List.set_cons_succ]
        apply Till.one (i := 13)
        · kernel_rfl
        · simp only [List.getElem?_toArray, List.getElem?_cons_succ, List.getElem?_cons_zero]
          rfl
        intro K hK
        go_simp
        skip
        refine hK.out _ _ (Or.inl (by rfl)) ?_
        clear hK K
        try simp only [Act.put, List.setIfInBounds_toArray, List.set_cons_zero, List.set_cons_succ]
        refine Till.done (by kernel_rfl) ?_ _
        clear q0 q1 f0 f1 d9
        obtain ⟨wy, hwy⟩ : ∃ x, x = (wz.setCell ⟨E, 0, none⟩ (.int .i64 kd)).setCell ⟨E, 1, none⟩ (.slice a4 L c4) := ⟨_, rfl⟩
        rw [← hwy] at T1 O9 B9 ⊢
        clear hwy
        go_wp2_with fail
        go_meet
        case rel => exact ⟨E, a4, c4, wd, rfl, rfl, HEb.out, T1.out, O9.out, HBw.out, B9.out, by rw [HZd.out]; exact Nat.le_refl _⟩
      · intro K hK
        go_simp
        have HB5 : Hid (Below wd.heap.size wd (w3.alloc (.cells #[.int .i64 0, .slice none 0 0] 25))) := Lib.hid (HB3.out.alloc HB3.out.size (.cells #[.int .i64 0, .slice none 0 0] 25))
        have d5 := HSd.out _ HB5.out
        refine hK.out _ _ (Or.inr d5) ?_
        clear hK K
        try simp only [Act.put, List.setIfInBounds_toArray, List.set_cons_zero, List.set_cons_succ]
        have HE0 := heap_alloc_new w3 (.cells #[.int .i64 0, .slice none 0 0] 25)
        obtain ⟨wq, hwq⟩ : ∃ x, x = w3.alloc (.cells #[.int .i64 0, .slice none 0 0] 25) := ⟨_, rfl⟩
        obtain ⟨E, hE⟩ : ∃ x, x = w3.heap.size := ⟨_, rfl⟩
        rw [← hwq] at HE0 HB5 d5 ⊢
        rw [← hE] at HE0 ⊢
        have HE1 := Lib.hid HE0
        have HEb : Hid (wd.heap.size ≤ E) := Lib.hid (by rw [hE]; exact HB3.out.size)
        clear hwq hE HE0
        apply Till.one (i := 7)
        · kernel_rfl
        · simp only [List.getElem?_toArray, List.getElem?_cons_succ, List.getElem?_cons_zero]
          rfl
        intro K hK
        go_simp
        refine (impl_oc (HRd.out.behind (HB5.out.mono HLd.out)) (Nat.le_trans HLd.out HB5.out.size) HQW.out HRr.out (HGd.out.next HB5.out)).mono ?_
        rw [← HT.out, ← HKd.out]
        rintro e' w4 ⟨v4, he, h4, hb4⟩
        subst he
        obtain ⟨a4, c4, hv4, _⟩ := h4.open
        rw [← HL.out] at hv4
        subst hv4
        have HB4 := Lib.hid (HB5.out.trans (hb4.mono HB5.out.size))
        have d4 := HSd.out w4 HB4.out
        have HO3 := Lib.hid (h4.mono HB5.out.size)
        have HE := Lib.hid ((hb4.block _ (lt_of_block HE1.out)).trans HE1.out)
        have HNe : Hid (∀ x, (Value.slice a4 L c4).ownBlock = some x → x ≠ E) := Lib.hid (fun x hx => by have h1 := (h4.lt _ hx).1; have h2 := lt_of_block HE1.out; omega)
        have HBz := HB4
        clear h4 hb4
        refine hK.out _ _ (Or.inr d4) ?_
        clear hK K
        try simp only [Act.put, List.setIfInBounds_toArray, List.set_cons_zero, List.set_cons_succ]
        apply Till.take (i := 8) [8, 10, 13]
        · simp only [List.getElem?_toArray, List.getElem?_cons_succ, List.getElem?_cons_zero]
          rfl
        · kernel_rfl
        · kernel_rfl
        · kernel_rfl
        · kernel_rfl
        · exact fun _ _ _ h => h
        · first
            | exact Or.inr ⟨by rfl, rfl⟩
            | (refine Or.inl ⟨by rfl, fun wq hwq => ?_⟩
               dsimp only at hwq
               go_simp
               first
                 | done
                 | rfl)
        · exact d4
        simp only [Act.put, List.setIfInBounds_toArray, List.set_cons_zero, List.set_cons_succ]
        apply Till.take (i := 9) [9, 12, 13]
        · simp only [List.getElem?_toArray, List.getElem?_cons_succ, List.getElem?_cons_zero]
          rfl
        · kernel_rfl
        · kernel_rfl
        · kernel_rfl
        · kernel_rfl
        · exact fun _ _ _ h => h
        · first
            | exact Or.inr ⟨by rfl, rfl⟩
            | (refine Or.inl ⟨by rfl, fun wq hwq => ?_⟩
               dsimp only at hwq
               go_simp
               first
                 | done
                 | rfl)
        · exact d4
        simp only [Act.put, List.setIfInBounds_toArray, List.set_cons_zero, List.set_cons_succ]
        apply Till.take (i := 10) [10, 13]
        · simp only [List.getElem?_toArray, List.getElem?_cons_succ, List.getElem?_cons_zero]
          rfl
        · kernel_rfl
        · kernel_rfl
        · kernel_rfl
        · kernel_rfl
        · exact fun _ _ _ h => h
        · first
            | exact Or.inr ⟨by rfl, rfl⟩
            | (refine Or.inl ⟨by rfl, fun wq hwq => ?_⟩
               dsimp only at hwq
               go_simp
               first
                 | done
                 | rfl)
        · exact d4
        simp only [Act.put, List.setIfInBounds_toArray, List.set_cons_zero, List.set_cons_succ]
        obtain ⟨wz, hwz⟩ : ∃ x, x = w4 := ⟨_, rfl⟩
        rw [← hwz] at HE HO3 HBz ⊢
        clear hwz HB4 d4
        obtain ⟨q0, q1, f0, f1⟩ := pcs HE.out
        obtain ⟨t1, t3⟩ := pst HE.out (.int .i64 kd) (.slice a4 L c4)
        have hB9 := HBz.out.grown t3 HBz.out.size (fun k hk => by injection hk with hk; have := HEb.out; omega)
        have d9 := HSd.out _ hB9
        have O9 := Lib.hid (HO3.out.kept t3 (Or.inr (fun hk => HNe.out _ hk rfl)))
        have T1 := Lib.hid t1
        have B9 := Lib.hid hB9
        clear t1 t3 hB9
        apply Till.one (i := 12)
        · kernel_rfl
        · simp only [List.getElem?_toArray, List.getElem?_cons_succ, List.getElem?_cons_zero]
          rfl
        intro K hK
        go_simp
        skip
        refine hK.out _ _ (Or.inr d9) ?_
        clear hK K
        try simp only [Act.put, List.setIfInBounds_toArray, List.set_cons_zero, List.set_cons_succ]
        apply Till.one (i := 13)
        · kernel_rfl
        · simp only [List.getElem?_toArray, List.getElem?_cons_succ, List.getElem?_cons_zero]
          rfl
        intro K hK
        go_simp
        skip
        refine hK.out _ _ (Or.inl (by rfl)) ?_
        clear hK K
        try simp only [Act.put, List.setIfInBounds_toArray, List.set_cons_zero, List.set_cons_succ]
        refine Till.done (by kernel_rfl) ?_ _
        clear q0 q1 f0 f1 d9
        obtain ⟨wy, hwy⟩ : ∃ x, x = (wz.setCell ⟨E, 0, none⟩ (.int .i64 kd)).setCell ⟨E, 1, none⟩ (.slice a4 L c4) := ⟨_, rfl⟩
        rw [← hwy] at T1 O9 B9 ⊢
        clear hwy
        go_wp2_with fail
        go_meet
        case rel => exact ⟨E, a4, c4, wd, rfl, rfl, HEb.out, T1.out, O9.out, HBw.out, B9.out, by rw [HZd.out]; exact Nat.le_refl _⟩
    · intro K hK
      go_simp
      have HB5 : Hid (Below wd.heap.size wd (wd.alloc (.cells #[.int .i64 0, .slice none 0 0] 25))) := Lib.hid ((Below.refl wd.heap.size wd).alloc (Below.refl wd.heap.size wd).size (.cells #[.int .i64 0, .slice none 0 0] 25))
      have d5 := HSd.out _ HB5.out
      refine hK.out _ _ (Or.inr d5) ?_
      clear hK K
      try simp only [Act.put, List.setIfInBounds_toArray, List.set_cons_zero, List.set_cons_succ]
      have HE0 := heap_alloc_new wd (.cells #[.int .i64 0, .slice none 0 0] 25)
      obtain ⟨wq, hwq⟩ : ∃ x, x = wd.alloc (.cells #[.int .i64 0, .slice none 0 0] 25) := ⟨_, rfl⟩
      obtain ⟨E, hE⟩ : ∃ x, x = wd.heap.size := ⟨_, rfl⟩
      rw [← hwq] at HE0 HB5 d5 ⊢
      rw [← hE] at HE0 ⊢
      have HE1 := Lib.hid HE0
      have HEb : Hid (wd.heap.size ≤ E) := Lib.hid (by rw [hE]; exact (Below.refl wd.heap.size wd).size)
      clear hwq hE HE0
      apply Till.one (i := 3)
      · kernel_rfl
      · simp only [List.getElem?_toArray, List.getElem?_cons_succ, List.getElem?_cons_zero]
        rfl
      intro K hK
      go_simp
      refine (impl_dk HK.out HD.out).mono ?_
      rintro e' w3 ⟨he, hb3⟩
      rw [← HQ.out] at he
      subst he
      have HB6 := Lib.hid (HB5.out.trans (hb3.mono HB5.out.size))
      have HE2 := Lib.hid ((hb3.block _ (lt_of_block HE1.out)).trans HE1.out)
      have d6 := HSd.out w3 HB6.out
      clear hb3
      refine hK.out _ _ (Or.inr d6) ?_
      clear hK K
      try simp only [Act.put, List.setIfInBounds_toArray, List.set_cons_zero, List.set_cons_succ]
      apply Till.one (i := 7)
      · kernel_rfl
      · simp only [List.getElem?_toArray, List.getElem?_cons_succ, List.getElem?_cons_zero]
        rfl
      intro K hK
      go_simp
      refine (impl_oc (HRd.out.behind (HB6.out.mono HLd.out)) (Nat.le_trans HLd.out HB6.out.size) HQW.out HRr.out (HGd.out.next HB6.out)).mono ?_
      rw [← HT.out, ← HKd.out]
      rintro e' w4 ⟨v4, he, h4, hb4⟩
      subst he
      obtain ⟨a4, c4, hv4, _⟩ := h4.open
      rw [← HL.out] at hv4
      subst hv4
      have HB4 := Lib.hid (HB6.out.trans (hb4.mono HB6.out.size))
      have d4 := HSd.out w4 HB4.out
      have HO3 := Lib.hid (h4.mono HB6.out.size)
      have HE := Lib.hid ((hb4.block _ (lt_of_block HE2.out)).trans HE2.out)
      have HNe : Hid (∀ x, (Value.slice a4 L c4).ownBlock = some x → x ≠ E) := Lib.hid (fun x hx => by have h1 := (h4.lt _ hx).1; have h2 := lt_of_block HE2.out; omega)
      have HBz := HB4
      clear h4 hb4
      refine hK.out _ _ (Or.inr d4) ?_
      clear hK K
      try simp only [Act.put, List.setIfInBounds_toArray, List.set_cons_zero, List.set_cons_succ]
      apply Till.take (i := 8) [8, 10, 13]
      · simp only [List.getElem?_toArray, List.getElem?_cons_succ, List.getElem?_cons_zero]
        rfl
      · kernel_rfl
      · kernel_rfl
      · kernel_rfl
      · kernel_rfl
      · exact fun _ _ _ h => h
      · first
          | exact Or.inr ⟨by rfl, rfl⟩
          | (refine Or.inl ⟨by rfl, fun wq hwq => ?_⟩
             dsimp only at hwq
             go_simp
             first
               | done
               | rfl)
      · exact d4
      simp only [Act.put, List.setIfInBounds_toArray, List.set_cons_zero, List.set_cons_succ]
      apply Till.take (i := 9) [9, 12, 13]
      · simp only [List.getElem?_toArray, List.getElem?_cons_succ, List.getElem?_cons_zero]
        rfl
      · kernel_rfl
      · kernel_rfl
      · kernel_rfl
      · kernel_rfl
      · exact fun _ _ _ h => h
      · first
          | exact Or.inr ⟨by rfl, rfl⟩
          | (refine Or.inl ⟨by rfl, fun wq hwq => ?_⟩
             dsimp only at hwq
             go_simp
             first
               | done
               | rfl)
      · exact d4
      simp only [Act.put, List.setIfInBounds_toArray, List.set_cons_zero, List.set_cons_succ]
      apply Till.take (i := 10) [10, 13]
      · simp only [List.getElem?_toArray, List.getElem?_cons_succ, List.getElem?_cons_zero]
        rfl
      · kernel_rfl
      · kernel_rfl
      · kernel_rfl
      · kernel_rfl
      · exact fun _ _ _ h => h
      · first
          | exact Or.inr ⟨by rfl, rfl⟩
          | (refine Or.inl ⟨by rfl, fun wq hwq => ?_⟩
             dsimp only at hwq
             go_simp
             first
               | done
               | rfl)
      · exact d4
      simp only [Act.put, List.setIfInBounds_toArray, List.set_cons_zero, List.set_cons_succ]
      obtain ⟨wz, hwz⟩ : ∃ x, x = w4 := ⟨_, rfl⟩
      rw [← hwz] at HE HO3 HBz ⊢
      clear hwz HB4 d4
      obtain ⟨q0, q1, f0, f1⟩ := pcs HE.out
      obtain ⟨t1, t3⟩ := pst HE.out (.int .i64 kd) (.slice a4 L c4)
      have hB9 := HBz.out.grown t3 HBz.out.size (fun k hk => by injection hk with hk; have := HEb.out; omega)
      have d9 := HSd.out _ hB9
      have O9 := Lib.hid (HO3.out.kept t3 (Or.inr (fun hk => HNe.out _ hk rfl)))
      have T1 := Lib.hid t1
      have B9 := Lib.hid hB9
      clear t1 t3 hB9
      apply Till.one (i := 12)
      · kernel_rfl
      · simp only [List.getElem?_toArray, List.getElem?_cons_succ, List.getElem?_cons_zero]
        rfl
      intro K hK
      go_simp
      skip
      refine hK.out _ _ (Or.inr d9) ?_
      clear hK K
      try simp only [Act.put, List.setIfInBounds_toArray, List.set_cons_zero, List.set_cons_succ]
      apply Till.one (i := 13)
      · kernel_rfl
      · simp only [List.getElem?_toArray, List.getElem?_cons_succ, List.getElem?_cons_zero]
        rfl
      intro K hK
      go_simp
      skip
      refine hK.out _ _ (Or.inl (by rfl)) ?_
      clear hK K
      try simp only [Act.put, List.setIfInBounds_toArray, List.set_cons_zero, List.set_cons_succ]
      refine Till.done (by kernel_rfl) ?_ _
      clear q0 q1 f0 f1 d9
      obtain ⟨wy, hwy⟩ : ∃ x, x = (wz.setCell ⟨E, 0, none⟩ (.int .i64 kd)).setCell ⟨E, 1, none⟩ (.slice a4 L c4) := ⟨_, rfl⟩
      rw [← hwy] at T1 O9 B9 ⊢
      clear hwy
      go_wp2_with fail
      go_meet
      case rel => exact ⟨E, a4, c4, wd, rfl, rfl, HEb.out, T1.out, O9.out, HBw.out, B9.out, by rw [HZd.out]; exact Nat.le_refl _⟩
  case rest =>
    obtain ⟨E, a4, c4, wd, rfl, rfl, hE, hP, hO, hb1, hb2, hsz⟩ := hcut
    have HP := Lib.hid hP
    have HO := Lib.hid (hO.mono (Nat.le_trans HB0.out.size hsz))
    have HB := Lib.hid (HB0.out.trans (hb1.mono HB0.out.size))
    replace HB := Lib.hid (HB.out.trans (hb2.mono HB.out.size))
    obtain ⟨p0, p1, _⟩ := pcs hP
    have hzz : (kd == 1) = z := HZz.out.symm
    clear hE hP hO hb1 hb2 hsz
    cases t with
    | false =>
      go_wp2_with fail
      go_quiet (fail)
      go_wp2_with fail
      go_ret2
      exact ⟨_, by rw [HRes.out]; rfl, by rw [← HOB.out]; exact HO.out.next (below_drewN ⟨_, rfl⟩), HB.out.trans (below_drewN ⟨_, rfl⟩)⟩
    | true =>
      go_wp2_with fail
      go_quiet (fail)
      go_wp2_with fail
      go_ret2
      exact ⟨_, by rw [HRes.out]; rfl, by rw [← HOB.out]; exact HO.out.next (below_drewN ⟨_, rfl⟩), HB.out.trans (below_drewN ⟨_, rfl⟩)⟩

/-- Two blocks, in the world behind both. -/
theorem two_newr (w : World) (o1 o2 : Obj) : ((w.alloc o1).alloc o2).heap[w.heap.size]? = some o1 ∧ ((w.alloc o1).alloc o2).heap[w.heap.size + 1]? = some o2 ∧ Below w.heap.size w ((w.alloc o1).alloc o2) := by
  have h1 := heap_alloc_new w o1
  have h2 := heap_alloc_new (w.alloc o1) o2
  rw [World.size_alloc] at h2
  exact ⟨(heap_alloc_old (w.alloc o1) o2 (lt_of_block h1)).trans h1, h2, ((Below.refl _ _).alloc (Nat.le_refl _) _).alloc (by simp) _⟩

set_option maxHeartbeats 4000000 in
/-- impl.ReceiveFromMailbox. -/
theorem impl_rv {lim : Nat} {w : World} {v : Value} {c : List Int} {k s r d : Int} (h : Rd lim .u8 w v c) (hlim : lim ≤ w.heap.size) (hk : (Lit.int .i64 k).wf = true) (hs : (Lit.int .i64 s).wf = true) (hr : (Lit.int .i64 r).wf = true) (hd : (Lit.int .i64 d).wf = true) (hg : GV w) :
    Calls Tryd.prog 28 #[.agg #[.int .i64 k, .int .i64 s, .int .i64 r], .int .i64 d, v] w fun e w' => ∃ v', e = .returned (.tuple #[.agg #[.int .i64 k, .int .i64 s, .int .i64 (rvR k s r d c)], v', .bool (rvok k s r d c)]) ∧ Own 5 .u8 w.heap.size w' v' (rvL k s r d c) ∧ Below w.heap.size w w' := by
  have HK := Lib.hid hk
  have HS := Lib.hid hs
  have HRr := Lib.hid hr
  have HD := Lib.hid hd
  have HG := Lib.hid hg
  obtain ⟨c1, z1, b1⟩ := two_newr w (.cells #[.int .i64 k, .int .i64 s, .int .i64 r] 44) (.cells #[.int .i64 0, .int .i64 0, .int .i64 0] 44)
  obtain ⟨W, hW⟩ : ∃ W, W = (w.alloc (.cells #[.int .i64 k, .int .i64 s, .int .i64 r] 44)).alloc (.cells #[.int .i64 0, .int .i64 0, .int .i64 0] 44) := ⟨_, rfl⟩
  rw [← hW] at b1 c1 z1
  have HW := Lib.hid hW
  have HB := Lib.hid b1
  have HC := Lib.hid c1
  have HZ := Lib.hid z1
  have HR := Lib.hid (h.behind (b1.mono hlim))
  clear h b1 c1 z1 hW hk hs hr hd hg
  cases h1 : okM k s r with
  | false =>
    have H1 := Lib.hid h1
    have HF : Hid (rvok k s r d c = false) := Lib.hid (by unfold rvok; rw [h1]; rfl)
    clear h1
    obtain ⟨k0, k1, k2, _⟩ := ptc HC.out
    go_enter Tryd.func28, Tryd.ntmps28
    go_wp2_with fail
    rw [← HW.out]
    clear k0 k1 k2
    refine (impl_isv HK.out HS.out HRr.out).mono ?_
    rw [H1.out]
    rintro e w2 ⟨rfl, hb⟩
    replace HC := Lib.hid ((hb.block _ (lt_of_block HC.out)).trans HC.out)
    replace HZ := Lib.hid ((hb.block _ (lt_of_block HZ.out)).trans HZ.out)
    replace HR := Lib.hid (HR.out.behind (hb.mono (Nat.le_trans hlim HB.out.size)))
    replace HB := Lib.hid (HB.out.trans (hb.mono HB.out.size))
    clear hb
    have b9 := HB.out.alloc HB.out.size (.cells #[] 5)
    have z9 := (heap_alloc_old w2 (.cells #[] 5) (lt_of_block HZ.out)).trans HZ.out
    have x9 := (heap_alloc_old w2 (.cells #[] 5) (lt_of_block HC.out)).trans HC.out
    obtain ⟨r9, rg⟩ := pst3 z9 (.int .i64 k) (.int .i64 s) (.int .i64 r)
    obtain ⟨k0, k1, k2, _⟩ := ptc HC.out
    obtain ⟨_, _, _, f0, f1, f2⟩ := ptc z9
    obtain ⟨r0, r1, r2, _⟩ := ptc r9
    have o9 : Own 5 .u8 w.heap.size (w2.alloc (.cells #[] 5)) (.slice (some ⟨w2.heap.size, 0, none⟩) 0 0) [] := Own.lit (B := w.heap.size) (w := w2) 5 .u8 HB.out.size
    have O9 := Lib.hid (o9.kept rg (Or.inr (fun hk => by have h1 : w2.heap.size = w.heap.size + 1 := Option.some.inj hk; have := lt_of_block HZ.out; omega)))
    have B9 := Lib.hid (b9.grown rg b9.size (fun k hk => by injection hk with hk; omega))
    clear b9 z9 x9 r9 rg o9
    go_wp2_with fail
    exact bodyPost_ret (v := .tuple #[.agg #[.int .i64 k, .int .i64 s, .int .i64 r], .slice (some ⟨w2.heap.size, 0, none⟩) 0 0, .bool false]) (by simp [results, Tryd.results28, go_sem, r0, r1, r2]) rfl ⟨_, by rw [rvR_no HF.out, HF.out], by rw [rvL_no HF.out]; exact O9.out, B9.out⟩
  | true =>
    have H1 := Lib.hid h1
    have hsb := (okM_iff.1 h1).2.2
    by_cases hm : r = 1000000000000
    · have em : (r == 1000000000000) = true := beq_iff_eq.2 hm
      have HF : Hid (rvok k s r d c = false) := Lib.hid (by unfold rvok; rw [h1, em]; rfl)
      clear h1 hm
      obtain ⟨k0, k1, k2, _⟩ := ptc HC.out
      go_enter Tryd.func28, Tryd.ntmps28
      go_wp2_with fail
      rw [← HW.out]
      clear k0 k1 k2
      refine (impl_isv HK.out HS.out HRr.out).mono ?_
      rw [H1.out]
      rintro e w2 ⟨rfl, hb⟩
      replace HC := Lib.hid ((hb.block _ (lt_of_block HC.out)).trans HC.out)
      replace HZ := Lib.hid ((hb.block _ (lt_of_block HZ.out)).trans HZ.out)
      replace HR := Lib.hid (HR.out.behind (hb.mono (Nat.le_trans hlim HB.out.size)))
      replace HB := Lib.hid (HB.out.trans (hb.mono HB.out.size))
      clear hb
      have b9 := HB.out.alloc HB.out.size (.cells #[] 5)
      have z9 := (heap_alloc_old w2 (.cells #[] 5) (lt_of_block HZ.out)).trans HZ.out
      have x9 := (heap_alloc_old w2 (.cells #[] 5) (lt_of_block HC.out)).trans HC.out
      obtain ⟨r9, rg⟩ := pst3 z9 (.int .i64 k) (.int .i64 s) (.int .i64 r)
      obtain ⟨k0, k1, k2, _⟩ := ptc HC.out
      obtain ⟨_, _, _, f0, f1, f2⟩ := ptc z9
      obtain ⟨r0, r1, r2, _⟩ := ptc r9
      have o9 : Own 5 .u8 w.heap.size (w2.alloc (.cells #[] 5)) (.slice (some ⟨w2.heap.size, 0, none⟩) 0 0) [] := Own.lit (B := w.heap.size) (w := w2) 5 .u8 HB.out.size
      have O9 := Lib.hid (o9.kept rg (Or.inr (fun hk => by have h1 : w2.heap.size = w.heap.size + 1 := Option.some.inj hk; have := lt_of_block HZ.out; omega)))
      have B9 := Lib.hid (b9.grown rg b9.size (fun k hk => by injection hk with hk; omega))
      clear b9 z9 x9 r9 rg o9
      go_wp2_with fail
      exact bodyPost_ret (v := .tuple #[.agg #[.int .i64 k, .int .i64 s, .int .i64 r], .slice (some ⟨w2.heap.size, 0, none⟩) 0 0, .bool false]) (by simp [results, Tryd.results28, go_sem, r0, r1, r2]) rfl ⟨_, by rw [rvR_no HF.out, HF.out], by rw [rvL_no HF.out]; exact O9.out, B9.out⟩
    · have em : (r == 1000000000000) = false := beq_eq_false_iff_ne.2 hm
      obtain ⟨t, ht⟩ : ∃ t, t = (ook (dkey k d) r c && (ocK (dkey k d) r c == 1)) := ⟨_, rfl⟩
      have HT := Lib.hid ht
      have HF0 : Hid (rvok k s r d c = t) := Lib.hid (by unfold rvok; rw [h1, em, ht]; rfl)
      have hs1 : r < 1000000000000 := by omega
      clear h1 hm ht
      obtain ⟨k0, k1, k2, _⟩ := ptc HC.out
      go_enter Tryd.func28, Tryd.ntmps28
      go_wp2_with fail
      rw [← HW.out]
      clear k0 k1 k2
      refine (impl_isv HK.out HS.out HRr.out).mono ?_
      rw [H1.out]
      rintro e w2 ⟨rfl, hb⟩
      replace HC := Lib.hid ((hb.block _ (lt_of_block HC.out)).trans HC.out)
      replace HZ := Lib.hid ((hb.block _ (lt_of_block HZ.out)).trans HZ.out)
      replace HR := Lib.hid (HR.out.behind (hb.mono (Nat.le_trans hlim HB.out.size)))
      replace HB := Lib.hid (HB.out.trans (hb.mono HB.out.size))
      clear hb
      obtain ⟨k0, k1, k2, _⟩ := ptc HC.out
      go_wp2_with fail
      clear k0 k1 k2
      refine (open_any HR.out (Nat.le_trans hlim HB.out.size) HK.out HS.out HRr.out HD.out (HG.out.next HB.out)).mono ?_
      rw [← HT.out]
      rintro e w3 ⟨v3, rfl, h3, hb⟩
      have HO := Lib.hid (h3.mono HB.out.size)
      have HNe : Hid (∀ x, v3.ownBlock = some x → w.heap.size + 1 < x) := Lib.hid (fun x hx => by have h9 := h3.lt _ hx; have := lt_of_block HZ.out; omega)
      replace HC := Lib.hid ((hb.block _ (lt_of_block HC.out)).trans HC.out)
      replace HZ := Lib.hid ((hb.block _ (lt_of_block HZ.out)).trans HZ.out)
      replace HB := Lib.hid (HB.out.trans (hb.mono HB.out.size))
      clear hb h3 HR
      cases t with
      | false =>
        have HF : Hid (rvok k s r d c = false) := HF0
        have b9 := HB.out.alloc HB.out.size (.cells #[] 5)
        have z9 := (heap_alloc_old w3 (.cells #[] 5) (lt_of_block HZ.out)).trans HZ.out
        have x9 := (heap_alloc_old w3 (.cells #[] 5) (lt_of_block HC.out)).trans HC.out
        obtain ⟨r9, rg⟩ := pst3 z9 (.int .i64 k) (.int .i64 s) (.int .i64 r)
        obtain ⟨k0, k1, k2, _⟩ := ptc HC.out
        obtain ⟨_, _, _, f0, f1, f2⟩ := ptc z9
        obtain ⟨r0, r1, r2, _⟩ := ptc r9
        have o9 : Own 5 .u8 w.heap.size (w3.alloc (.cells #[] 5)) (.slice (some ⟨w3.heap.size, 0, none⟩) 0 0) [] := Own.lit (B := w.heap.size) (w := w3) 5 .u8 HB.out.size
        have O9 := Lib.hid (o9.kept rg (Or.inr (fun hk => by have h1 : w3.heap.size = w.heap.size + 1 := Option.some.inj hk; have := lt_of_block HZ.out; omega)))
        have B9 := Lib.hid (b9.grown rg b9.size (fun k hk => by injection hk with hk; omega))
        clear b9 z9 x9 r9 rg o9
        go_wp2_with fail
        exact bodyPost_ret (v := .tuple #[.agg #[.int .i64 k, .int .i64 s, .int .i64 r], .slice (some ⟨w3.heap.size, 0, none⟩) 0 0, .bool false]) (by simp [results, Tryd.results28, go_sem, r0, r1, r2]) rfl ⟨_, by rw [rvR_no HF.out, HF.out], by rw [rvL_no HF.out]; exact O9.out, B9.out⟩
      | true =>
        have HF : Hid (rvok k s r d c = true) := HF0
        have hc := HC.out
        obtain ⟨k0, k1, k2, g0, g1, g2⟩ := ptc hc
        have c2 : (w3.setCell ⟨w.heap.size, 2, none⟩ (.int .i64 (r + 1))).heap[w.heap.size]? = some (.cells #[.int .i64 k, .int .i64 s, .int .i64 (r + 1)] 44 (0, 0)) := blk_set hc 2 _
        have cg := grown_set w3 w.heap.size 2 (.int .i64 (r + 1))
        have z2 := (cg.block _ (lt_of_block HZ.out) (by intro hk; have := Option.some.inj hk; omega)).trans HZ.out
        have o2 := HO.out.kept cg (Or.inr (fun hk => by have := HNe.out _ hk; omega))
        have b2 := HB.out.grown cg HB.out.size (fun k hk => by injection hk with hk; omega)
        obtain ⟨m0, m1, m2, _⟩ := ptc c2
        obtain ⟨_, _, _, f0, f1, f2⟩ := ptc z2
        obtain ⟨r9, rg⟩ := pst3 z2 (.int .i64 k) (.int .i64 s) (.int .i64 (r + 1))
        obtain ⟨r0, r1, r2, _⟩ := ptc r9
        have O9 := Lib.hid (o2.kept rg (Or.inr (fun hk => by have := HNe.out _ hk; omega)))
        have B9 := Lib.hid (b2.grown rg b2.size (fun k hk => by injection hk with hk; omega))
        clear hc c2 cg z2 o2 b2 r9 rg HO HB HC HZ
        go_wp2_with fail
        exact bodyPost_ret (v := .tuple #[.agg #[.int .i64 k, .int .i64 s, .int .i64 (r + 1)], v3, .bool true]) (by simp [results, Tryd.results28, go_sem, r0, r1, r2]) rfl ⟨_, by rw [rvR_yes HF.out, HF.out], by rw [rvL_yes HF.out]; exact O9.out, B9.out⟩

end Go.Proofs.YtbimihljaalllaaDoor
