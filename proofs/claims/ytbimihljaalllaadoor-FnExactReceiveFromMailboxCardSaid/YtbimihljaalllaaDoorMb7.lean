/- Mailboxes: what the document receives. No conditions but numbers that a machine holds. -/
import Derived.Test.YtbimihljaalllaaDoorMb6
import Derived.Test.YtbimihljaalllaaDoorCl6
import Derived.StillTailTactics
namespace Go.Proofs.YtbimihljaalllaaDoor
open Go Go.RowKit
set_option linter.unusedVariables false
attribute [local irreducible] kh kid

set_option maxHeartbeats 8000000 in
set_option maxRecDepth 20000 in
/-- spec.ReceiveFromMailbox. -/
theorem spec_rv {lim : Nat} {w : World} {v : Value} {c : List Int} {k s r d : Int} (h : Rd lim .u8 w v c) (hlim : lim ≤ w.heap.size) (hk : (Lit.int .i64 k).wf = true) (hs : (Lit.int .i64 s).wf = true) (hr : (Lit.int .i64 r).wf = true) (hd : (Lit.int .i64 d).wf = true) :
    Calls Tryd.prog 34 #[.agg #[.int .i64 k, .int .i64 s, .int .i64 r], .int .i64 d, v] w fun e w' => ∃ v', e = .returned (.tuple #[.agg #[.int .i64 k, .int .i64 s, .int .i64 (rvR k s r d c)], v', .bool (rvok k s r d c)]) ∧ Own 5 .u8 w.heap.size w' v' (rvL k s r d c) ∧ Below w.heap.size w w' := by
  have HK := Lib.hid hk
  have HS := Lib.hid hs
  have HRr := Lib.hid hr
  have HD := Lib.hid hd
  have HQW := Lib.hid (dkey_wf k d)
  obtain ⟨q, hq⟩ : ∃ q, q = dkey k d := ⟨_, rfl⟩
  rw [← hq] at HQW
  have HQ := Lib.hid hq
  obtain ⟨t, ht⟩ : ∃ t, t = ook q r c := ⟨_, rfl⟩
  have HT := Lib.hid ht
  obtain ⟨kd, hkd⟩ : ∃ x, x = ocK q r c := ⟨_, rfl⟩
  have HKd := Lib.hid hkd
  obtain ⟨L, hL⟩ : ∃ x, x = (ocB q r c).length := ⟨_, rfl⟩
  have HL := Lib.hid hL
  obtain ⟨z, hz⟩ : ∃ z, z = (kd == 1) := ⟨_, rfl⟩
  have HZz := Lib.hid hz

  have HF0 : Hid (rvok k s r d c = (okM k s r && (!(r == 1000000000000) && (t && z)))) := Lib.hid (by rw [hz, hkd, ht, hq]; rfl)
  have HY : Hid (rvok k s r d c = true → rvL k s r d c = ocB q r c) := Lib.hid (fun h => by rw [rvL_yes h, hq])
  obtain ⟨c1, z1, b1⟩ := two_newr w (.cells #[.int .i64 k, .int .i64 s, .int .i64 r] 44) (.cells #[.int .i64 0, .int .i64 0, .int .i64 0] 44)
  obtain ⟨W0, hW⟩ : ∃ W, W = (w.alloc (.cells #[.int .i64 k, .int .i64 s, .int .i64 r] 44)).alloc (.cells #[.int .i64 0, .int .i64 0, .int .i64 0] 44) := ⟨_, rfl⟩
  rw [← hW] at b1 c1 z1
  have HB0 := Lib.hid b1
  have HC0 := Lib.hid c1
  have HZ0 := Lib.hid z1
  have HR0 := Lib.hid (h.behind (b1.mono hlim))
  have HW := Lib.hid hW
  clear h hW hq ht hkd hL hz hk hs hr hd b1 c1 z1
  go_enter Tryd.func34, Tryd.ntmps34
  go_wp2_with fail
  rw [← HW.out]
  go_cut [9, 10] (fun p b wx => ∃ (E : Nat) (a4 : Option Addr) (c4 : Nat) (wd : World), p = .pointer (some ⟨E, 0, none⟩) ∧ b = .bool t ∧ wd.heap.size ≤ E ∧ wx.heap[E]? = some (.cells #[.int .i64 kd, .slice a4 L c4] 25) ∧ Own 5 .u8 wd.heap.size wx (.slice a4 L c4) (ocB q r c) ∧ Below W0.heap.size W0 wd ∧ Below wd.heap.size wd wx ∧ W0.heap.size ≤ wd.heap.size)
  case first =>
    refine region_till (fun w' => w'.cell? ⟨w.heap.size, 0, none⟩ = some (.int .i64 k) ∧ w'.cell? ⟨w.heap.size, 2, none⟩ = some (.int .i64 r)) 13 (by kernel_rfl) ?_
    obtain ⟨wd, hwd⟩ : ∃ x, x = W0.drew := ⟨_, rfl⟩
    have HZd : Hid (W0.heap.size = wd.heap.size) := Lib.hid (by rw [hwd]; rfl)
    have HBd : Hid (Below w.heap.size w wd) := Lib.hid (by rw [hwd]; exact HB0.out.drew)
    have HBw : Hid (Below W0.heap.size W0 wd) := Lib.hid (by rw [hwd]; exact (Below.refl _ _).drew)
    have HCd : Hid (wd.heap[w.heap.size]? = some (.cells #[.int .i64 k, .int .i64 s, .int .i64 r] 44)) := Lib.hid (by rw [hwd]; exact HC0.out)
    have HSd : Hid (∀ w', Below wd.heap.size wd w' → w'.cell? ⟨w.heap.size, 0, none⟩ = some (.int .i64 k) ∧ w'.cell? ⟨w.heap.size, 2, none⟩ = some (.int .i64 r)) := Lib.hid (fun w' hb => by have h9 := (hb.block _ (lt_of_block HCd.out)).trans HCd.out; obtain ⟨h0, _, h2, _⟩ := ptc h9; exact ⟨h0, h2⟩)
    have HRd : Hid (Rd lim .u8 wd v c) := Lib.hid (HR0.out.behind (HBw.out.mono (Nat.le_trans hlim HB0.out.size)))
    have HLd : Hid (lim ≤ wd.heap.size) := Lib.hid (Nat.le_trans hlim HBd.out.size)
    have d0 := HSd.out _ (Below.refl _ _)
    rw [← hwd]
    clear hwd
    apply Till.take (i := 0) [0, 1, 3, 7, 8, 10, 13]
    · simp only [List.getElem?_toArray, List.getElem?_cons_zero]
      rfl
    · kernel_rfl
    · kernel_rfl
    · kernel_rfl
    · kernel_rfl
    · exact fun _ _ _ h => h
    · first
        | exact Or.inr ⟨by rfl, rfl⟩
        | (refine Or.inl ⟨by rfl, fun wq hwq => ?_⟩
           dsimp only at hwq
           go_simp
           first
             | done
             | rfl)
    · exact d0
    simp only [Act.put, List.setIfInBounds_toArray, List.set_cons_zero, List.set_cons_succ]
    apply Till.take (i := 1) [1, 3, 7, 8, 10, 13]
    · simp only [List.getElem?_toArray, List.getElem?_cons_succ, List.getElem?_cons_zero]
      rfl
    · kernel_rfl
    · kernel_rfl
    · kernel_rfl
    · kernel_rfl
    · exact fun _ _ _ h => h
    · first
        | exact Or.inr ⟨by rfl, rfl⟩
        | (refine Or.inl ⟨by rfl, fun wq hwq => ?_⟩
           dsimp only at hwq
           go_simp
           first
             | done
             | rfl)
    · exact d0
    simp only [Act.put, List.setIfInBounds_toArray, List.set_cons_zero, List.set_cons_succ]
    apply Till.take (i := 2) [2, 3, 7, 8, 10, 13]
    · simp only [List.getElem?_toArray, List.getElem?_cons_succ, List.getElem?_cons_zero]
      rfl
    · kernel_rfl
    · kernel_rfl
    · kernel_rfl
    · kernel_rfl
    · exact fun _ _ _ h => h
    · first
        | exact Or.inr ⟨by rfl, rfl⟩
        | (refine Or.inl ⟨by rfl, fun wq hwq => ?_⟩
           dsimp only at hwq
           go_simp
           first
             | done
             | rfl)
    · exact d0
    simp only [Act.put, List.setIfInBounds_toArray, List.set_cons_zero, List.set_cons_succ]
    apply Till.take (i := 4) [4, 5, 7, 8, 10, 13]
    · simp only [List.getElem?_toArray, List.getElem?_cons_succ, List.getElem?_cons_zero]
      rfl
    · kernel_rfl
    · kernel_rfl
    · kernel_rfl
    · kernel_rfl
    · exact fun _ _ _ h => h
    · first
        | exact Or.inr ⟨by rfl, rfl⟩
        | (refine Or.inl ⟨by rfl, fun wq hwq => ?_⟩
           dsimp only at hwq
           go_simp
           first
             | done
             | rfl)
    · exact d0
    simp only [Act.put, List.setIfInBounds_toArray, List.set_cons_zero, List.set_cons_succ]
    apply Till.take (i := 5) [5, 7, 8, 10, 13]
    · simp only [List.getElem?_toArray, List.getElem?_cons_succ, List.getElem?_cons_zero]
      rfl
    · kernel_rfl
    · kernel_rfl
    · kernel_rfl
    · kernel_rfl
    · exact fun _ _ _ h => h
    · first
        | exact Or.inr ⟨by rfl, rfl⟩
        | (refine Or.inl ⟨by rfl, fun wq hwq => ?_⟩
           dsimp only at hwq
           go_simp
           first
             | done
             | rfl)
    · exact d0
    simp only [Act.put, List.setIfInBounds_toArray, List.set_cons_zero, List.set_cons_succ]
    apply Till.take (i := 6) [6, 7, 8, 10, 13]
    · simp only [List.getElem?_toArray, List.getElem?_cons_succ, List.getElem?_cons_zero]
      rfl
    · kernel_rfl
    · kernel_rfl
    · kernel_rfl
    · kernel_rfl
    · exact fun _ _ _ h => h
    · first
        | exact Or.inr ⟨by rfl, rfl⟩
        | (refine Or.inl ⟨by rfl, fun wq hwq => ?_⟩
           dsimp only at hwq
           go_simp
           first
             | done
             | rfl)
    · exact d0
    simp only [Act.put, List.setIfInBounds_toArray, List.set_cons_zero, List.set_cons_succ]
    apply Till.two (i := 3) (j := 11)
    · kernel_rfl
    · simp only [List.getElem?_toArray, List.getElem?_cons_succ, List.getElem?_cons_zero]
      rfl
    · simp only [List.getElem?_toArray, List.getElem?_cons_succ, List.getElem?_cons_zero]
      rfl
    · intro K hK
      go_simp
      refine (spec_dk HK.out HD.out).mono ?_
      rintro e' w3 ⟨he, hb3⟩
      rw [← HQ.out] at he
      subst he
      have HB3 := Lib.hid hb3
      have d3 := HSd.out w3 hb3
      clear hb3
      refine hK.out _ _ (Or.inr d3) ?_
      clear hK K
      try simp only [Act.put, List.setIfInBounds_toArray, List.set_cons_zero, List.set_cons_succ]
      apply Till.two (i := 7) (j := 11)
      · kernel_rfl
      · simp only [List.getElem?_toArray, List.getElem?_cons_succ, List.getElem?_cons_zero]
        rfl
      · simp only [List.getElem?_toArray, List.getElem?_cons_succ, List.getElem?_cons_zero]
        rfl
      · intro K hK
        go_simp
        refine (spec_oc (HRd.out.behind (HB3.out.mono HLd.out)) (Nat.le_trans HLd.out HB3.out.size) HQW.out HRr.out).mono ?_
        rw [← HT.out, ← HKd.out]
        rintro e' w4 ⟨v4, he, h4, hb4⟩
        subst he
        obtain ⟨a4, c4, hv4, _⟩ := h4.open
        rw [← HL.out] at hv4
        subst hv4
        have HB4 := Lib.hid (HB3.out.trans (hb4.mono HB3.out.size))
        have d4 := HSd.out w4 HB4.out
        have HO4 := Lib.hid (h4.mono HB3.out.size)
        have HNb : Hid (∀ x, (Value.slice a4 L c4).ownBlock = some x → x < w4.heap.size) := Lib.hid (fun x hx => (h4.lt _ hx).2)
        clear h4 hb4
        refine hK.out _ _ (Or.inr d4) ?_
        clear hK K
        try simp only [Act.put, List.setIfInBounds_toArray, List.set_cons_zero, List.set_cons_succ]
        apply Till.take (i := 8) [8, 10, 13]
        · simp only [List.getElem?_toArray, List.getElem?_cons_succ, List.getElem?_cons_zero]
          rfl
        · kernel_rfl
        · kernel_rfl
        · kernel_rfl
        · kernel_rfl
        · exact fun _ _ _ h => h
        · first
            | exact Or.inr ⟨by rfl, rfl⟩
            | (refine Or.inl ⟨by rfl, fun wq hwq => ?_⟩
               dsimp only at hwq
               go_simp
               first
                 | done
                 | rfl)
        · exact d4
        simp only [Act.put, List.setIfInBounds_toArray, List.set_cons_zero, List.set_cons_succ]
        apply Till.take (i := 9) [9, 12, 13]
        · simp only [List.getElem?_toArray, List.getElem?_cons_succ, List.getElem?_cons_zero]
          rfl
        · kernel_rfl
        · kernel_rfl
        · kernel_rfl
        · kernel_rfl
        · exact fun _ _ _ h => h
        · first
            | exact Or.inr ⟨by rfl, rfl⟩
            | (refine Or.inl ⟨by rfl, fun wq hwq => ?_⟩
               dsimp only at hwq
               go_simp
               first
                 | done
                 | rfl)
        · exact d4
        simp only [Act.put, List.setIfInBounds_toArray, List.set_cons_zero, List.set_cons_succ]
        apply Till.take (i := 10) [10, 13]
        · simp only [List.getElem?_toArray, List.getElem?_cons_succ, List.getElem?_cons_zero]
          rfl
        · kernel_rfl
        · kernel_rfl
        · kernel_rfl
        · kernel_rfl
        · exact fun _ _ _ h => h
        · first
            | exact Or.inr ⟨by rfl, rfl⟩
            | (refine Or.inl ⟨by rfl, fun wq hwq => ?_⟩
               dsimp only at hwq
               go_simp
               first
                 | done
                 | rfl)
        · exact d4
        simp only [Act.put, List.setIfInBounds_toArray, List.set_cons_zero, List.set_cons_succ]
        have HB5 : Hid (Below wd.heap.size wd (w4.alloc (.cells #[.int .i64 0, .slice none 0 0] 25))) := Lib.hid (HB4.out.alloc HB4.out.size (.cells #[.int .i64 0, .slice none 0 0] 25))
        have d5 := HSd.out _ HB5.out
        apply Till.one (i := 11)
        · kernel_rfl
        · simp only [List.getElem?_toArray, List.getElem?_cons_succ, List.getElem?_cons_zero]
          rfl
        intro K hK
        go_simp
        skip
        refine hK.out _ _ (Or.inr d5) ?_
        clear hK K
        try simp only [Act.put, List.setIfInBounds_toArray, List.set_cons_zero, List.set_cons_succ]
        have HE0 := heap_alloc_new w4 (.cells #[.int .i64 0, .slice none 0 0] 25)
        have HO0 := HO4.out.alloc (.cells #[.int .i64 0, .slice none 0 0] 25)
        obtain ⟨wz, hwz⟩ : ∃ x, x = w4.alloc (.cells #[.int .i64 0, .slice none 0 0] 25) := ⟨_, rfl⟩
        obtain ⟨E, hE⟩ : ∃ x, x = w4.heap.size := ⟨_, rfl⟩
        rw [← hwz] at HE0 HO0 HB5 ⊢
        rw [← hE] at HE0 HNb ⊢
        have HE := Lib.hid HE0
        have HO3 := Lib.hid HO0
        have HBz := HB5
        have HEb : Hid (wd.heap.size ≤ E) := Lib.hid (by rw [hE]; exact HB4.out.size)
        have HNe : Hid (∀ x, (Value.slice a4 L c4).ownBlock = some x → x ≠ E) := Lib.hid (fun x hx => by have := HNb.out x hx; omega)
        clear hwz hE HE0 HO0 HNb d4 d5 HO4 HB4
        obtain ⟨q0, q1, f0, f1⟩ := pcs HE.out
        obtain ⟨t1, t3⟩ := pst HE.out (.int .i64 kd) (.slice a4 L c4)
        have hB9 := HBz.out.grown t3 HBz.out.size (fun k hk => by injection hk with hk; have := HEb.out; omega)
        have d9 := HSd.out _ hB9
        have O9 := Lib.hid (HO3.out.kept t3 (Or.inr (fun hk => HNe.out _ hk rfl)))
        have T1 := Lib.hid t1
        have B9 := Lib.hid hB9
        clear t1 t3 hB9
        apply Till.one (i := 12)
        · kernel_rfl
        · simp only [List.getElem?_toArray, List.getElem?_cons_succ, List.getElem?_cons_zero]
          rfl
        intro K hK
        go_simp
        skip
        refine hK.out _ _ (Or.inr d9) ?_
        clear hK K
        try simp only [Act.put, List.setIfInBounds_toArray, List.set_cons_zero, List.set_cons_succ]
        apply Till.one (i := 13)
        · kernel_rfl
        · simp only [List.getElem?_toArray, List.getElem?_cons_succ, List.getElem?_cons_zero]
          rfl
        intro K hK
        go_simp
        skip
        refine hK.out _ _ (Or.inl (by rfl)) ?_
        clear hK K
        try simp only [Act.put, List.setIfInBounds_toArray, List.set_cons_zero, List.set_cons_succ]
        refine Till.done (by kernel_rfl) ?_ _
        clear q0 q1 f0 f1 d9
        obtain ⟨wy, hwy⟩ : ∃ x, x = (wz.setCell ⟨E, 0, none⟩ (.int .i64 kd)).setCell ⟨E, 1, none⟩ (.slice a4 L c4) := ⟨_, rfl⟩
        rw [← hwy] at T1 O9 B9 ⊢
        clear hwy
        go_wp2_with fail
        go_meet
        case rel => exact ⟨E, a4, c4, wd, rfl, rfl, HEb.out, T1.out, O9.out, HBw.out, B9.out, by rw [HZd.out]; exact Nat.le_refl _⟩
      · intro K hK
        go_simp
        have HB5 : Hid (Below wd.heap.size wd (w3.alloc (.cells #[.int .i64 0, .slice none 0 0] 25))) := Lib.hid (HB3.out.alloc HB3.out.size (.cells #[.int .i64 0, .slice none 0 0] 25))
        have d5 := HSd.out _ HB5.out
        refine hK.out _ _ (Or.inr d5) ?_
        clear hK K
        try simp only [Act.put, List.setIfInBounds_toArray, List.set_cons_zero, List.set_cons_succ]
        have HE0 := heap_alloc_new w3 (.cells #[.int .i64 0, .slice none 0 0] 25)
        obtain ⟨wq, hwq⟩ : ∃ x, x = w3.alloc (.cells #[.int .i64 0, .slice none 0 0] 25) := ⟨_, rfl⟩
        obtain ⟨E, hE⟩ : ∃ x, x = w3.heap.size := ⟨_, rfl⟩
        rw [← hwq] at HE0 HB5 d5 ⊢
        rw [← hE] at HE0 ⊢
        have HE1 := Lib.hid HE0
        have HEb : Hid (wd.heap.size ≤ E) := Lib.hid (by rw [hE]; exact HB3.out.size)
        clear hwq hE HE0
        apply Till.one (i := 7)
        · kernel_rfl
        · simp only [List.getElem?_toArray, List.getElem?_cons_succ, List.getElem?_cons_zero]
          rfl
        intro K hK
        go_simp
        refine (spec_oc (HRd.out.behind (HB5.out.mono HLd.out)) (Nat.le_trans HLd.out HB5.out.size) HQW.out HRr.out).mono ?_
        rw [← HT.out, ← HKd.out]
        rintro e' w4 ⟨v4, he, h4, hb4⟩
        subst he
        obtain ⟨a4, c4, hv4, _⟩ := h4.open
        rw [← HL.out] at hv4
        subst hv4
        have HB4 := Lib.hid (HB5.out.trans (hb4.mono HB5.out.size))
        have d4 := HSd.out w4 HB4.out
        have HO3 := Lib.hid (h4.mono HB5.out.size)
        have HE := Lib.hid ((hb4.block _ (lt_of_block HE1.out)).trans HE1.out)
        have HNe : Hid (∀ x, (Value.slice a4 L c4).ownBlock = some x → x ≠ E) := Lib.hid (fun x hx => by have h1 := (h4.lt _ hx).1; have h2 := lt_of_block HE1.out; omega)
        have HBz := HB4
        clear h4 hb4
        refine hK.out _ _ (Or.inr d4) ?_
        clear hK K
        try simp only [Act.put, List.setIfInBounds_toArray, List.set_cons_zero, List.set_cons_succ]
        apply Till.take (i := 8) [8, 10, 13]
        · simp only [List.getElem?_toArray, List.getElem?_cons_succ, List.getElem?_cons_zero]
          rfl
        · kernel_rfl
        · kernel_rfl
        · kernel_rfl
        · kernel_rfl
        · exact fun _ _ _ h => h
        · first
            | exact Or.inr ⟨by rfl, rfl⟩
            | (refine Or.inl ⟨by rfl, fun wq hwq => ?_⟩
               dsimp only at hwq
               go_simp
               first
                 | done
                 | rfl)
        · exact d4
        simp only [Act.put, List.setIfInBounds_toArray, List.set_cons_zero, List.set_cons_succ]
        apply Till.take (i := 9) [9, 12, 13]
        · simp only [List.getElem?_toArray, List.getElem?_cons_succ, List.getElem?_cons_zero]
          rfl
        · kernel_rfl
        · kernel_rfl
        · kernel_rfl
        · kernel_rfl
        · exact fun _ _ _ h => h
        · first
            | exact Or.inr ⟨by rfl, rfl⟩
            | (refine Or.inl ⟨by rfl, fun wq hwq => ?_⟩
               dsimp only at hwq
               go_simp
               first
                 | done
                 | rfl)
        · exact d4
        simp only [Act.put, List.setIfInBounds_toArray, List.set_cons_zero, List.set_cons_succ]
        apply Till.take (i := 10) [10, 13]
        · simp only [List.getElem?_toArray, List.getElem?_cons_succ, List.getElem?_cons_zero]
          rfl
        · kernel_rfl
        · kernel_rfl
        · kernel_rfl
        · kernel_rfl
        · exact fun _ _ _ h => h
        · first
            | exact Or.inr ⟨by rfl, rfl⟩
            | (refine Or.inl ⟨by rfl, fun wq hwq => ?_⟩
               dsimp only at hwq
               go_simp
               first
                 | done
                 | rfl)
        · exact d4
        simp only [Act.put, List.setIfInBounds_toArray, List.set_cons_zero, List.set_cons_succ]
        obtain ⟨wz, hwz⟩ : ∃ x, x = w4 := ⟨_, rfl⟩
        rw [← hwz] at HE HO3 HBz ⊢
        clear hwz HB4 d4
        obtain ⟨q0, q1, f0, f1⟩ := pcs HE.out
        obtain ⟨t1, t3⟩ := pst HE.out (.int .i64 kd) (.slice a4 L c4)
        have hB9 := HBz.out.grown t3 HBz.out.size (fun k hk => by injection hk with hk; have := HEb.out; omega)
        have d9 := HSd.out _ hB9
        have O9 := Lib.hid (HO3.out.kept t3 (Or.inr (fun hk => HNe.out _ hk rfl)))
        have T1 := Lib.hid t1
        have B9 := Lib.hid hB9
        clear t1 t3 hB9
        apply Till.one (i := 12)
        · kernel_rfl
        · simp only [List.getElem?_toArray, List.getElem?_cons_succ, List.getElem?_cons_zero]
          rfl
        intro K hK
        go_simp
        skip
        refine hK.out _ _ (Or.inr d9) ?_
        clear hK K
        try simp only [Act.put, List.setIfInBounds_toArray, List.set_cons_zero, List.set_cons_succ]
        apply Till.one (i := 13)
        · kernel_rfl
        · simp only [List.getElem?_toArray, List.getElem?_cons_succ, List.getElem?_cons_zero]
          rfl
        intro K hK
        go_simp
        skip
        refine hK.out _ _ (Or.inl (by rfl)) ?_
        clear hK K
        try simp only [Act.put, List.setIfInBounds_toArray, List.set_cons_zero, List.set_cons_succ]
        refine Till.done (by kernel_rfl) ?_ _
        clear q0 q1 f0 f1 d9
        obtain ⟨wy, hwy⟩ : ∃ x, x = (wz.setCell ⟨E, 0, none⟩ (.int .i64 kd)).setCell ⟨E, 1, none⟩ (.slice a4 L c4) := ⟨_, rfl⟩
        rw [← hwy] at T1 O9 B9 ⊢
        clear hwy
        go_wp2_with fail
        go_meet
        case rel => exact ⟨E, a4, c4, wd, rfl, rfl, HEb.out, T1.out, O9.out, HBw.out, B9.out, by rw [HZd.out]; exact Nat.le_refl _⟩
    · intro K hK
      go_simp
      have HB5 : Hid (Below wd.heap.size wd (wd.alloc (.cells #[.int .i64 0, .slice none 0 0] 25))) := Lib.hid ((Below.refl wd.heap.size wd).alloc (Below.refl wd.heap.size wd).size (.cells #[.int .i64 0, .slice none 0 0] 25))
      have d5 := HSd.out _ HB5.out
      refine hK.out _ _ (Or.inr d5) ?_
      clear hK K
      try simp only [Act.put, List.setIfInBounds_toArray, List.set_cons_zero, List.set_cons_succ]
      have HE0 := heap_alloc_new wd (.cells #[.int .i64 0, .slice none 0 0] 25)
      obtain ⟨wq, hwq⟩ : ∃ x, x = wd.alloc (.cells #[.int .i64 0, .slice none 0 0] 25) := ⟨_, rfl⟩
      obtain ⟨E, hE⟩ : ∃ x, x = wd.heap.size := ⟨_, rfl⟩
      rw [← hwq] at HE0 HB5 d5 ⊢
      rw [← hE] at HE0 ⊢
      have HE1 := Lib.hid HE0
      have HEb : Hid (wd.heap.size ≤ E) := Lib.hid (by rw [hE]; exact (Below.refl wd.heap.size wd).size)
      clear hwq hE HE0
      apply Till.one (i := 3)
      · kernel_rfl
      · simp only [List.getElem?_toArray, List.getElem?_cons_succ, List.getElem?_cons_zero]
        rfl
      intro K hK
      go_simp
      refine (spec_dk HK.out HD.out).mono ?_
      rintro e' w3 ⟨he, hb3⟩
      rw [← HQ.out] at he
      subst he
      have HB6 := Lib.hid (HB5.out.trans (hb3.mono HB5.out.size))
      have HE2 := Lib.hid ((hb3.block _ (lt_of_block HE1.out)).trans HE1.out)
      have d6 := HSd.out w3 HB6.out
      clear hb3
      refine hK.out _ _ (Or.inr d6) ?_
      clear hK K
      try simp only [Act.put, List.setIfInBounds_toArray, List.set_cons_zero, List.set_cons_succ]
      apply Till.one (i := 7)
      · kernel_rfl
      · simp only [List.getElem?_toArray, List.getElem?_cons_succ, List.getElem?_cons_zero]
        rfl
      intro K hK
      go_simp
      refine (spec_oc (HRd.out.behind (HB6.out.mono HLd.out)) (Nat.le_trans HLd.out HB6.out.size) HQW.out HRr.out).mono ?_
      rw [← HT.out, ← HKd.out]
      rintro e' w4 ⟨v4, he, h4, hb4⟩
      subst he
      obtain ⟨a4, c4, hv4, _⟩ := h4.open
      rw [← HL.out] at hv4
      subst hv4
      have HB4 := Lib.hid (HB6.out.trans (hb4.mono HB6.out.size))
      have d4 := HSd.out w4 HB4.out
      have HO3 := Lib.hid (h4.mono HB6.out.size)
      have HE := Lib.hid ((hb4.block _ (lt_of_block HE2.out)).trans HE2.out)
      have HNe : Hid (∀ x, (Value.slice a4 L c4).ownBlock = some x → x ≠ E) := Lib.hid (fun x hx => by have h1 := (h4.lt _ hx).1; have h2 := lt_of_block HE2.out; omega)
      have HBz := HB4
      clear h4 hb4
      refine hK.out _ _ (Or.inr d4) ?_
      clear hK K
      try simp only [Act.put, List.setIfInBounds_toArray, List.set_cons_zero, List.set_cons_succ]
      apply Till.take (i := 8) [8, 10, 13]
      · simp only [List.getElem?_toArray, List.getElem?_cons_succ, List.getElem?_cons_zero]
        rfl
      · kernel_rfl
      · kernel_rfl
      · kernel_rfl
      · kernel_rfl
      · exact fun _ _ _ h => h
      · first
          | exact Or.inr ⟨by rfl, rfl⟩
          | (refine Or.inl ⟨by rfl, fun wq hwq => ?_⟩
             dsimp only at hwq
             go_simp
             first
               | done
               | rfl)
      · exact d4
      simp only [Act.put, List.setIfInBounds_toArray, List.set_cons_zero, List.set_cons_succ]
      apply Till.take (i := 9) [9, 12, 13]
      · simp only [List.getElem?_toArray, List.getElem?_cons_succ, List.getElem?_cons_zero]
        rfl
      · kernel_rfl
      · kernel_rfl
      · kernel_rfl
      · kernel_rfl
      · exact fun _ _ _ h => h
      · first
          | exact Or.inr ⟨by rfl, rfl⟩
          | (refine Or.inl ⟨by rfl, fun wq hwq => ?_⟩
             dsimp only at hwq
             go_simp
             first
               | done
               | rfl)
      · exact d4
      simp only [Act.put, List.setIfInBounds_toArray, List.set_cons_zero, List.set_cons_succ]
      apply Till.take (i := 10) [10, 13]
      · simp only [List.getElem?_toArray, List.getElem?_cons_succ, List.getElem?_cons_zero]
        rfl
      · kernel_rfl
      · kernel_rfl
      · kernel_rfl
      · kernel_rfl
      · exact fun _ _ _ h => h
      · first
          | exact Or.inr ⟨by rfl, rfl⟩
          | (refine Or.inl ⟨by rfl, fun wq hwq => ?_⟩
             dsimp only at hwq
             go_simp
             first
               | done
               | rfl)
      · exact d4
      simp only [Act.put, List.setIfInBounds_toArray, List.set_cons_zero, List.set_cons_succ]
      obtain ⟨wz, hwz⟩ : ∃ x, x = w4 := ⟨_, rfl⟩
      rw [← hwz] at HE HO3 HBz ⊢
      clear hwz HB4 d4
      obtain ⟨q0, q1, f0, f1⟩ := pcs HE.out
      obtain ⟨t1, t3⟩ := pst HE.out (.int .i64 kd) (.slice a4 L c4)
      have hB9 := HBz.out.grown t3 HBz.out.size (fun k hk => by injection hk with hk; have := HEb.out; omega)
      have d9 := HSd.out _ hB9
      have O9 := Lib.hid (HO3.out.kept t3 (Or.inr (fun hk => HNe.out _ hk rfl)))
      have T1 := Lib.hid t1
      have B9 := Lib.hid hB9
      clear t1 t3 hB9
      apply Till.one (i := 12)
      · kernel_rfl
      · simp only [List.getElem?_toArray, List.getElem?_cons_succ, List.getElem?_cons_zero]
        rfl
      intro K hK
      go_simp
      skip
      refine hK.out _ _ (Or.inr d9) ?_
      clear hK K
      try simp only [Act.put, List.setIfInBounds_toArray, List.set_cons_zero, List.set_cons_succ]
      apply Till.one (i := 13)
      · kernel_rfl
      · simp only [List.getElem?_toArray, List.getElem?_cons_succ, List.getElem?_cons_zero]
        rfl
      intro K hK
      go_simp
      skip
      refine hK.out _ _ (Or.inl (by rfl)) ?_
      clear hK K
      try simp only [Act.put, List.setIfInBounds_toArray, List.set_cons_zero, List.set_cons_succ]
      refine Till.done (by kernel_rfl) ?_ _
      clear q0 q1 f0 f1 d9
      obtain ⟨wy, hwy⟩ : ∃ x, x = (wz.setCell ⟨E, 0, none⟩ (.int .i64 kd)).setCell ⟨E, 1, none⟩ (.slice a4 L c4) := ⟨_, rfl⟩
      rw [← hwy] at T1 O9 B9 ⊢
      clear hwy
      go_wp2_with fail
      go_meet
      case rel => exact ⟨E, a4, c4, wd, rfl, rfl, HEb.out, T1.out, O9.out, HBw.out, B9.out, by rw [HZd.out]; exact Nat.le_refl _⟩
  case rest =>
    obtain ⟨E, a4, c4, wd, rfl, rfl, hE, hP, hO, hb1, hb2, hsz⟩ := hcut
    have HP := Lib.hid hP
    have HSz := Lib.hid (show w.heap.size + 1 < wd.heap.size from Nat.lt_of_lt_of_le (lt_of_block HZ0.out) hsz)
    have HNe : Hid (∀ x, (Value.slice a4 L c4).ownBlock = some x → w.heap.size + 1 < x) := Lib.hid (fun x hx => by have := (hO.lt _ hx).1; have := HSz.out; omega)
    have HO := Lib.hid (hO.mono (Nat.le_trans HB0.out.size hsz))
    have HEn0 : Hid (E ≠ w.heap.size + 1) := Lib.hid (by have := HSz.out; omega)
    have hbb := hb1.trans (hb2.mono hsz)
    have HC := Lib.hid ((hbb.block _ (lt_of_block HC0.out)).trans HC0.out)
    have HZ := Lib.hid ((hbb.block _ (lt_of_block HZ0.out)).trans HZ0.out)
    have HB := Lib.hid (HB0.out.trans (hbb.mono HB0.out.size))
    clear hE hP hO hb1 hb2 hsz hbb HC0 HZ0 HB0 HR0
    cases h1 : okM k s r with
    | false =>
      have H1 := Lib.hid h1
      have HF : Hid (rvok k s r d c = false) := Lib.hid (by rw [HF0.out, h1]; rfl)
      clear h1
      obtain ⟨k0, k1, k2, _⟩ := ptc HC.out
      obtain ⟨p0, p1, _⟩ := pcs HP.out
      go_wp2_with fail
      clear k0 k1 k2 p0 p1
      refine (spec_vm HK.out HS.out HRr.out).mono ?_
      rw [H1.out]
      rintro e w2 ⟨rfl, hb⟩
      replace HC := Lib.hid ((hb.block _ (lt_of_block HC.out)).trans HC.out)
      replace HZ := Lib.hid ((hb.block _ (lt_of_block HZ.out)).trans HZ.out)
      replace HP := Lib.hid ((hb.block _ (lt_of_block HP.out)).trans HP.out)
      replace HO := Lib.hid (HO.out.next hb)
      replace HB := Lib.hid (HB.out.trans (hb.mono HB.out.size))
      clear hb
      obtain ⟨p0, p1, _⟩ := pcs (show (w2.alloc (.cells #[] 5)).heap[E]? = some (.cells #[.int .i64 kd, .slice a4 L c4] 25) from (heap_alloc_old w2 _ (lt_of_block HP.out)).trans HP.out)
      obtain ⟨p0', p1', _⟩ := pcs HP.out
      have b9 := HB.out.alloc HB.out.size (.cells #[] 5)
      have z9 := (heap_alloc_old w2 (.cells #[] 5) (lt_of_block HZ.out)).trans HZ.out
      have x9 := (heap_alloc_old w2 (.cells #[] 5) (lt_of_block HC.out)).trans HC.out
      obtain ⟨r9, rg⟩ := pst3 z9 (.int .i64 k) (.int .i64 s) (.int .i64 r)
      obtain ⟨k0, k1, k2, _⟩ := ptc HC.out
      obtain ⟨_, _, _, f0, f1, f2⟩ := ptc z9
      obtain ⟨r0, r1, r2, _⟩ := ptc r9
      have o9 : Own 5 .u8 w.heap.size (w2.alloc (.cells #[] 5)) (.slice (some ⟨w2.heap.size, 0, none⟩) 0 0) [] := Own.lit (B := w.heap.size) (w := w2) 5 .u8 HB.out.size
      have O9 := Lib.hid (o9.kept rg (Or.inr (fun hk => by have h1 : w2.heap.size = w.heap.size + 1 := Option.some.inj hk; have := lt_of_block HZ.out; omega)))
      have B9 := Lib.hid (b9.grown rg b9.size (fun k hk => by injection hk with hk; omega))
      clear b9 z9 x9 r9 rg o9
      go_wp2_with fail
      exact bodyPost_ret (v := .tuple #[.agg #[.int .i64 k, .int .i64 s, .int .i64 r], .slice (some ⟨w2.heap.size, 0, none⟩) 0 0, .bool false]) (by simp [results, Tryd.results34, go_sem, r0, r1, r2]) rfl ⟨_, by rw [rvR_no HF.out, HF.out], by rw [rvL_no HF.out]; exact O9.out, B9.out⟩
    | true =>
      have H1 := Lib.hid h1
      have hsb := (okM_iff.1 h1).2.2
      by_cases hm : r = 1000000000000
      · have em : (r == 1000000000000) = true := beq_iff_eq.2 hm
        have HF : Hid (rvok k s r d c = false) := Lib.hid (by rw [HF0.out, h1, em]; rfl)
        clear h1 hm
        obtain ⟨k0, k1, k2, _⟩ := ptc HC.out
        obtain ⟨p0, p1, _⟩ := pcs HP.out
        go_wp2_with fail
        clear k0 k1 k2 p0 p1
        refine (spec_vm HK.out HS.out HRr.out).mono ?_
        rw [H1.out]
        rintro e w2 ⟨rfl, hb⟩
        replace HC := Lib.hid ((hb.block _ (lt_of_block HC.out)).trans HC.out)
        replace HZ := Lib.hid ((hb.block _ (lt_of_block HZ.out)).trans HZ.out)
        replace HP := Lib.hid ((hb.block _ (lt_of_block HP.out)).trans HP.out)
        replace HO := Lib.hid (HO.out.next hb)
        replace HB := Lib.hid (HB.out.trans (hb.mono HB.out.size))
        clear hb
        obtain ⟨p0, p1, _⟩ := pcs (show (w2.alloc (.cells #[] 5)).heap[E]? = some (.cells #[.int .i64 kd, .slice a4 L c4] 25) from (heap_alloc_old w2 _ (lt_of_block HP.out)).trans HP.out)
        obtain ⟨p0', p1', _⟩ := pcs HP.out
        have b9 := HB.out.alloc HB.out.size (.cells #[] 5)
        have z9 := (heap_alloc_old w2 (.cells #[] 5) (lt_of_block HZ.out)).trans HZ.out
        have x9 := (heap_alloc_old w2 (.cells #[] 5) (lt_of_block HC.out)).trans HC.out
        obtain ⟨r9, rg⟩ := pst3 z9 (.int .i64 k) (.int .i64 s) (.int .i64 r)
        obtain ⟨k0, k1, k2, _⟩ := ptc HC.out
        obtain ⟨_, _, _, f0, f1, f2⟩ := ptc z9
        obtain ⟨r0, r1, r2, _⟩ := ptc r9
        have o9 : Own 5 .u8 w.heap.size (w2.alloc (.cells #[] 5)) (.slice (some ⟨w2.heap.size, 0, none⟩) 0 0) [] := Own.lit (B := w.heap.size) (w := w2) 5 .u8 HB.out.size
        have O9 := Lib.hid (o9.kept rg (Or.inr (fun hk => by have h1 : w2.heap.size = w.heap.size + 1 := Option.some.inj hk; have := lt_of_block HZ.out; omega)))
        have B9 := Lib.hid (b9.grown rg b9.size (fun k hk => by injection hk with hk; omega))
        clear b9 z9 x9 r9 rg o9
        go_wp2_with fail
        exact bodyPost_ret (v := .tuple #[.agg #[.int .i64 k, .int .i64 s, .int .i64 r], .slice (some ⟨w2.heap.size, 0, none⟩) 0 0, .bool false]) (by simp [results, Tryd.results34, go_sem, r0, r1, r2]) rfl ⟨_, by rw [rvR_no HF.out, HF.out], by rw [rvL_no HF.out]; exact O9.out, B9.out⟩
      · have em : (r == 1000000000000) = false := beq_eq_false_iff_ne.2 hm
        have hs1 : r < 1000000000000 := by omega
        cases t with
        | false =>
          have HF : Hid (rvok k s r d c = false) := Lib.hid (by rw [HF0.out, h1, em]; rfl)
          clear h1 hm
          obtain ⟨k0, k1, k2, _⟩ := ptc HC.out
          obtain ⟨p0, p1, _⟩ := pcs HP.out
          go_wp2_with fail
          clear k0 k1 k2 p0 p1
          refine (spec_vm HK.out HS.out HRr.out).mono ?_
          rw [H1.out]
          rintro e w2 ⟨rfl, hb⟩
          replace HC := Lib.hid ((hb.block _ (lt_of_block HC.out)).trans HC.out)
          replace HZ := Lib.hid ((hb.block _ (lt_of_block HZ.out)).trans HZ.out)
          replace HP := Lib.hid ((hb.block _ (lt_of_block HP.out)).trans HP.out)
          replace HO := Lib.hid (HO.out.next hb)
          replace HB := Lib.hid (HB.out.trans (hb.mono HB.out.size))
          clear hb
          obtain ⟨p0, p1, _⟩ := pcs (show (w2.alloc (.cells #[] 5)).heap[E]? = some (.cells #[.int .i64 kd, .slice a4 L c4] 25) from (heap_alloc_old w2 _ (lt_of_block HP.out)).trans HP.out)
          obtain ⟨p0', p1', _⟩ := pcs HP.out
          have b9 := HB.out.alloc HB.out.size (.cells #[] 5)
          have z9 := (heap_alloc_old w2 (.cells #[] 5) (lt_of_block HZ.out)).trans HZ.out
          have x9 := (heap_alloc_old w2 (.cells #[] 5) (lt_of_block HC.out)).trans HC.out
          obtain ⟨r9, rg⟩ := pst3 z9 (.int .i64 k) (.int .i64 s) (.int .i64 r)
          obtain ⟨k0, k1, k2, _⟩ := ptc HC.out
          obtain ⟨_, _, _, f0, f1, f2⟩ := ptc z9
          obtain ⟨r0, r1, r2, _⟩ := ptc r9
          have o9 : Own 5 .u8 w.heap.size (w2.alloc (.cells #[] 5)) (.slice (some ⟨w2.heap.size, 0, none⟩) 0 0) [] := Own.lit (B := w.heap.size) (w := w2) 5 .u8 HB.out.size
          have O9 := Lib.hid (o9.kept rg (Or.inr (fun hk => by have h1 : w2.heap.size = w.heap.size + 1 := Option.some.inj hk; have := lt_of_block HZ.out; omega)))
          have B9 := Lib.hid (b9.grown rg b9.size (fun k hk => by injection hk with hk; omega))
          clear b9 z9 x9 r9 rg o9
          go_wp2_with fail
          exact bodyPost_ret (v := .tuple #[.agg #[.int .i64 k, .int .i64 s, .int .i64 r], .slice (some ⟨w2.heap.size, 0, none⟩) 0 0, .bool false]) (by simp [results, Tryd.results34, go_sem, r0, r1, r2]) rfl ⟨_, by rw [rvR_no HF.out, HF.out], by rw [rvL_no HF.out]; exact O9.out, B9.out⟩
        | true =>
          cases z with
          | false =>
            have HF : Hid (rvok k s r d c = false) := Lib.hid (by rw [HF0.out, h1, em]; rfl)
            have hzz : (kd != 1) = true := by have := HZz.out; unfold bne; rw [← this]; rfl
            clear h1 hm
            obtain ⟨k0, k1, k2, _⟩ := ptc HC.out
            obtain ⟨p0, p1, _⟩ := pcs HP.out
            go_wp2_with fail
            clear k0 k1 k2 p0 p1
            refine (spec_vm HK.out HS.out HRr.out).mono ?_
            rw [H1.out]
            rintro e w2 ⟨rfl, hb⟩
            replace HC := Lib.hid ((hb.block _ (lt_of_block HC.out)).trans HC.out)
            replace HZ := Lib.hid ((hb.block _ (lt_of_block HZ.out)).trans HZ.out)
            replace HP := Lib.hid ((hb.block _ (lt_of_block HP.out)).trans HP.out)
            replace HO := Lib.hid (HO.out.next hb)
            replace HB := Lib.hid (HB.out.trans (hb.mono HB.out.size))
            clear hb
            obtain ⟨p0, p1, _⟩ := pcs (show (w2.alloc (.cells #[] 5)).heap[E]? = some (.cells #[.int .i64 kd, .slice a4 L c4] 25) from (heap_alloc_old w2 _ (lt_of_block HP.out)).trans HP.out)
            obtain ⟨p0', p1', _⟩ := pcs HP.out
            have b9 := HB.out.alloc HB.out.size (.cells #[] 5)
            have z9 := (heap_alloc_old w2 (.cells #[] 5) (lt_of_block HZ.out)).trans HZ.out
            have x9 := (heap_alloc_old w2 (.cells #[] 5) (lt_of_block HC.out)).trans HC.out
            obtain ⟨r9, rg⟩ := pst3 z9 (.int .i64 k) (.int .i64 s) (.int .i64 r)
            obtain ⟨k0, k1, k2, _⟩ := ptc HC.out
            obtain ⟨_, _, _, f0, f1, f2⟩ := ptc z9
            obtain ⟨r0, r1, r2, _⟩ := ptc r9
            have o9 : Own 5 .u8 w.heap.size (w2.alloc (.cells #[] 5)) (.slice (some ⟨w2.heap.size, 0, none⟩) 0 0) [] := Own.lit (B := w.heap.size) (w := w2) 5 .u8 HB.out.size
            have O9 := Lib.hid (o9.kept rg (Or.inr (fun hk => by have h1 : w2.heap.size = w.heap.size + 1 := Option.some.inj hk; have := lt_of_block HZ.out; omega)))
            have B9 := Lib.hid (b9.grown rg b9.size (fun k hk => by injection hk with hk; omega))
            clear b9 z9 x9 r9 rg o9
            go_wp2_with fail
            exact bodyPost_ret (v := .tuple #[.agg #[.int .i64 k, .int .i64 s, .int .i64 r], .slice (some ⟨w2.heap.size, 0, none⟩) 0 0, .bool false]) (by simp [results, Tryd.results34, go_sem, r0, r1, r2]) rfl ⟨_, by rw [rvR_no HF.out, HF.out], by rw [rvL_no HF.out]; exact O9.out, B9.out⟩
          | true =>
            have HF : Hid (rvok k s r d c = true) := Lib.hid (by rw [HF0.out, h1, em]; rfl)
            have hzz : (kd != 1) = false := by have := HZz.out; unfold bne; rw [← this]; rfl
            clear h1 hm
            obtain ⟨k0, k1, k2, _⟩ := ptc HC.out
            obtain ⟨p0, p1, _⟩ := pcs HP.out
            go_wp2_with fail
            clear k0 k1 k2 p0 p1
            refine (spec_vm HK.out HS.out HRr.out).mono ?_
            rw [H1.out]
            rintro e w2 ⟨rfl, hb⟩
            replace HC := Lib.hid ((hb.block _ (lt_of_block HC.out)).trans HC.out)
            replace HZ := Lib.hid ((hb.block _ (lt_of_block HZ.out)).trans HZ.out)
            replace HP := Lib.hid ((hb.block _ (lt_of_block HP.out)).trans HP.out)
            replace HO := Lib.hid (HO.out.next hb)
            replace HB := Lib.hid (HB.out.trans (hb.mono HB.out.size))
            clear hb
            obtain ⟨k0, k1, k2, _⟩ := ptc HC.out
            obtain ⟨p0, p1, _⟩ := pcs HP.out
            have x4 := (heap_alloc_old w2 (.cells #[.int .i64 k, .int .i64 s, .int .i64 r] 44) (lt_of_block HC.out)).trans HC.out
            have b5 := HB.out.alloc HB.out.size (.cells #[.int .i64 k, .int .i64 s, .int .i64 (r + 1)] 44)
            have c5 := heap_alloc_new w2 (.cells #[.int .i64 k, .int .i64 s, .int .i64 (r + 1)] 44)
            have z5 := (heap_alloc_old w2 (.cells #[.int .i64 k, .int .i64 s, .int .i64 (r + 1)] 44) (lt_of_block HZ.out)).trans HZ.out
            have y5 := (heap_alloc_old w2 (.cells #[.int .i64 k, .int .i64 s, .int .i64 (r + 1)] 44) (lt_of_block HP.out)).trans HP.out
            have o5 := HO.out.alloc (.cells #[.int .i64 k, .int .i64 s, .int .i64 (r + 1)] 44)
            obtain ⟨W5, hW5⟩ : ∃ W, W = w2.alloc (.cells #[.int .i64 k, .int .i64 s, .int .i64 (r + 1)] 44) := ⟨_, rfl⟩
            rw [← hW5] at b5 c5 z5 y5 o5
            have HW5 := Lib.hid hW5
            obtain ⟨n0, n1, n2, _⟩ := ptc x4
            have C5 : Hid (W5.heap[w2.heap.size]? = some (.cells #[.int .i64 k, .int .i64 s, .int .i64 (r + 1)] 44)) := Lib.hid c5
            have Z5 : Hid (W5.heap[w.heap.size + 1]? = some (.cells #[.int .i64 0, .int .i64 0, .int .i64 0] 44)) := Lib.hid z5
            have Y5 : Hid (W5.heap[E]? = some (.cells #[.int .i64 kd, .slice a4 L c4] 25)) := Lib.hid y5
            have O5 := Lib.hid o5
            have B5 := Lib.hid b5
            clear hW5 b5 c5 z5 y5 o5 x4
            go_wp2_with fail
            rw [← HW5.out]
            obtain ⟨m0, m1, m2, _⟩ := ptc (show W5.drew.heap[w2.heap.size]? = _ from C5.out)
            obtain ⟨q0, q1, _⟩ := pcs (show W5.drew.heap[E]? = _ from Y5.out)
            obtain ⟨z0, z1, z2, f0, f1, f2⟩ := ptc (show W5.drew.heap[w.heap.size + 1]? = _ from Z5.out)
            obtain ⟨m0', m1', m2', _⟩ := ptc C5.out
            obtain ⟨q0', q1', _⟩ := pcs Y5.out
            obtain ⟨z0', z1', z2', f0', f1', f2'⟩ := ptc Z5.out
            have HEn : Hid (E ≠ w.heap.size + 1) := HEn0
            have hEn : (E == w.heap.size + 1) = false := beq_eq_false_iff_ne.2 HEn.out
            obtain ⟨r9, rg⟩ := pst3 Z5.out (.int .i64 k) (.int .i64 s) (.int .i64 (r + 1))
            have Y6 := (rg.block _ (lt_of_block Y5.out) (by intro hk; have := Option.some.inj hk; exact HEn.out this)).trans Y5.out
            have HR9 := Lib.hid r9
            have O9 := Lib.hid (O5.out.kept rg (Or.inr (fun hk => by have := HNe.out _ hk; omega)))
            have B9 := Lib.hid (B5.out.grown rg B5.out.size (fun k hk => by injection hk with hk; omega))
            obtain ⟨y0, y1, _⟩ := pcs Y6
            obtain ⟨y0', y1', _⟩ := pcs (show ((((W5.setCell ⟨w.heap.size + 1, 0, none⟩ (.int .i64 k)).setCell ⟨w.heap.size + 1, 1, none⟩ (.int .i64 s)).setCell ⟨w.heap.size + 1, 2, none⟩ (.int .i64 (r + 1))).drew).heap[E]? = _ from Y6)
            clear r9 rg Y6
            go_region_with (fail)
            all_goals (
              obtain ⟨r0, r1, r2, _⟩ := ptc (show ((((W5.setCell ⟨w.heap.size + 1, 0, none⟩ (.int .i64 k)).setCell ⟨w.heap.size + 1, 1, none⟩ (.int .i64 s)).setCell ⟨w.heap.size + 1, 2, none⟩ (.int .i64 (r + 1))).drew).heap[w.heap.size + 1]? = _ from HR9.out)
              go_wp2_with fail
              exact bodyPost_ret (v := .tuple #[.agg #[.int .i64 k, .int .i64 s, .int .i64 (r + 1)], .slice a4 L c4, .bool true]) (by simp [results, Tryd.results34, go_sem, r0, r1, r2]) rfl ⟨_, by rw [rvR_yes HF.out, HF.out], by rw [HY.out HF.out]; exact O9.out.next (Below.refl _ _).drew, B9.out.trans (Below.refl _ _).drew⟩)

end Go.Proofs.YtbimihljaalllaaDoor
