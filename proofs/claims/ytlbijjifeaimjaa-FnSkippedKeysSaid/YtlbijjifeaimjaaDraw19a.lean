/- Chapter 19's draws: a ratchet, what KeyForStep takes. A valid ratchet stays valid through KeyForStep. No conditions but sizes that a machine holds. -/
import Derived.Test.YtlbijjifeaimjaaRt8
import Derived.Test.YtlbijjifeaimjaaDrawB
import Derived.Test.YtlbijjifeaimjaaBaD
import Derived.Test.YtlbijjifeaimjaaDraw13
namespace Go.Proofs.Ytlbijjifeaimjaa
open Go Go.RowKit
set_option linter.unusedVariables false
set_option maxRecDepth 20000
attribute [local irreducible] kh kid

theorem keyK_of {s : Int} {l : Kept} (h : ∀ x ∈ l, (1 ≤ x.2 ∧ x.2 ≤ 2147483646) ∧ 0 ≤ x.1 ∧ x.1 ≤ s - 1) : keyK s l = true := by
  unfold keyK inR
  rw [List.all_eq_true]
  intro x hx
  have := h x hx
  simp only [Bool.and_eq_true, decide_eq_true_eq]
  omega
/-- A valid ratchet stays valid. -/
theorem kf_okR {c s t : Int} {l : Kept} (h : okR c s l = true) : okR (kfC c s l t) (kfS c s l t) (kfL c s l t) = true := by
  obtain ⟨hc, hs, hl, hk, ha⟩ := okR_iff.1 h
  have hA := asc_of ha
  cases hn : kfn c s l t with
  | true =>
    obtain ⟨_, e1, e2, e3, _⟩ := kf_new hn
    rw [e1, e2, e3]
    unfold kfn at hn
    simp only [Bool.and_eq_true, decide_eq_true_eq] at hn
    obtain ⟨n, hn'⟩ : ∃ n : Nat, (t - s).toNat = n := ⟨_, rfl⟩
    rw [hn']
    have hts : t = s + (n : Int) := by omega
    refine okR_iff.2 ⟨chn_bound hc _, by omega, by rw [lastK_len]; omega, keyK_of (fun x hx => ?_), of_asc ((ks_asc hk hA n).drop _)⟩
    have hx' : x ∈ l ++ skp c s n := List.mem_of_mem_drop hx
    rcases List.mem_append.1 hx' with h1 | h1
    · have := keyK_lt hk x h1; omega
    · have := skp_lt c s n x h1; omega
  | false =>
    cases ho : kfo c s l t with
    | true =>
      obtain ⟨_, e1, e2, e3, _⟩ := kf_old ho
      rw [e1, e2, e3]
      refine okR_iff.2 ⟨hc, hs, Nat.le_trans (delK_len _ _) hl, keyK_of (fun x hx => ?_), of_asc (hA.del t)⟩
      have := keyK_lt hk x (List.mem_filter.1 hx).1
      omega
    | false =>
      obtain ⟨e1, e2, e3, _⟩ := kf_no (c := c) (s := s) (l := l) (t := t) (by unfold kfq; rw [hn, ho]; rfl)
      rw [e1, e2, e3]; exact h
theorem nr_okR {k : Int} (h : 1 ≤ k ∧ k ≤ 2147483646) : nrC k = k ∧ okR k 0 [] = true := by
  have h1 : inR k 1 2147483646 = true := by unfold inR; simp only [Bool.and_eq_true, decide_eq_true_eq]; omega
  constructor
  · unfold nrC; rw [if_pos h1]
  · exact okR_iff.2 ⟨h, by omega, by simp, rfl, rfl⟩
theorem w19 {x : Int} (h1 : -9223372036854775808 ≤ x) (h2 : x ≤ 9223372036854775807) : (Lit.int .i64 x).wf = true := wf_i64_of h1 h2
theorem wrap_in19 {x : Int} (h1 : -9223372036854775808 ≤ x) (h2 : x ≤ 9223372036854775807) : IntKind.i64.wrap x = x := by rw [IntKind.wrap_i64]; omega
theorem mx_zero (t : Int) : 0 ≤ mx 0 t ∧ (mx 0 t = 0 ∨ mx 0 t = t) := by unfold mx; split <;> omega

set_option maxHeartbeats 16000000 in
/-- spec.l19Ratchet -/
theorem ratchet19 (B b : Nat) (w : World) (h : Cur B b w) :
    Calls Try.prog 25 #[.pointer (some ⟨b, 0, none⟩)] w fun e w' => ∃ (c s : Int) (v : Value) (xs : Kept), e = .returned (.agg #[.int .i64 c, .int .i64 s, v]) ∧ okR c s xs = true ∧ OwnS kepE 40 w.heap.size w' v xs ∧ Cur B b w' ∧ w.grownBy w' (some b) := by
  have hk := heap_alloc_new w (.cells #[.int .i64 0, .int .i64 0, .slice none 0 0] 26)
  have hg0 := World.grownBy_alloc w (.cells #[.int .i64 0, .int .i64 0, .slice none 0 0] 26) none
  have hc0 := h.alloc (.cells #[.int .i64 0, .int .i64 0, .slice none 0 0] 26)
  obtain ⟨W0, hW0⟩ : ∃ W, W = w.alloc (.cells #[.int .i64 0, .int .i64 0, .slice none 0 0] 26) := ⟨_, rfl⟩
  have HW : Hid (W0.heap.size = w.heap.size + 1) := Lib.hid (by rw [hW0, World.size_alloc])
  have HL0 : Hid (w.heap.size < W0.heap.size) := Lib.hid (by have := HW.out; omega)
  rw [← hW0] at hk hg0 hc0
  have HW0 := Lib.hid hW0
  have HLt := Lib.hid h.lt
  have HZ := Lib.hid hk
  have HG0 := Lib.hid hg0
  have HC := Lib.hid hc0
  clear hk hg0 hc0 hW0 h
  go_enter Try.func25, Try.ntmps25
  go_wp2_with fail
  rw [← HW0.out]
  refine (below_any B b 99 _ HC.out (by omega) (by omega)).mono ?_
  rintro e w1 ⟨y, y0, y1, rfl, hc, hg⟩
  have HC1 := Lib.hid hc
  have HG1 := Lib.hid hg
  clear HC hc hg
  obtain ⟨c, hcn⟩ : ∃ c, c = 1 + y := ⟨_, rfl⟩
  obtain ⟨hn1, hn2⟩ := nr_okR (k := c) (by omega)
  have hcw : (Lit.int .i64 c).wf = true := w19 (by omega) (by omega)
  have HOk := Lib.hid hn2
  have HN1 := Lib.hid hn1
  have HCw := Lib.hid hcw
  have hc2 : 1 + y = c := hcn.symm
  clear hn1 hn2 hcw hcn
  go_wp2_with fail
  refine (spec_nr HCw.out).mono ?_
  rw [HN1.out]
  rintro e w2 ⟨rfl, hb⟩
  have hC := HC1.out.kept (grown_of_below hb) (by simp) (fun r hr => by cases hr)
  have hG := grown_trans HG1.out (grown_none (grown_of_below hb))
  have hE := heap_alloc_new w2 (.cells #[.int .i64 c, .int .i64 0, .slice none 0 0] 26)
  have hC2 := hC.alloc (.cells #[.int .i64 c, .int .i64 0, .slice none 0 0] 26)
  have hG2 := grown_trans hG (grown_none (World.grownBy_alloc w2 (.cells #[.int .i64 c, .int .i64 0, .slice none 0 0] 26) none))
  obtain ⟨W1, hW1⟩ : ∃ W, W = w2.alloc (.cells #[.int .i64 c, .int .i64 0, .slice none 0 0] 26) := ⟨_, rfl⟩
  obtain ⟨G, hGn⟩ : ∃ G, G = w2.heap.size := ⟨_, rfl⟩
  have HGl : Hid (W0.heap.size ≤ G) := Lib.hid (by rw [hGn]; exact hG.size)
  rw [← hW1, ← hGn] at hE
  rw [← hW1] at hC2 hG2
  have HW1 := Lib.hid hW1
  have HGn := Lib.hid hGn
  have HE := Lib.hid hE
  have HO : Hid (OwnS kepE 40 W0.heap.size W1 (.slice none 0 0) []) := Lib.hid (OwnS.nil _ _ hG2.size)
  have HC := Lib.hid hC2
  have HG := Lib.hid hG2
  clear hb hC hG hE hC2 hG2 hW1 hGn HC1 HG1 y0 y1 hc2 HN1
  go_wp2_with (rw [← HW1.out, ← HGn.out])
  refine (below_any B b 7 _ HC.out (by omega) (by omega)).mono ?_
  rintro e w3 ⟨y, y0, y1, rfl, hc, hg⟩
  have hE := (hg.block _ (lt_of_block HE.out) (fun h => by injection h with h; have := HGl.out; have := HLt.out; have := HW.out; omega)).trans HE.out
  have hO := HO.out.kept hg (Or.inr (fun hh => by have := (HO.out.lt _ hh).1; have := HLt.out; have := HW.out; omega))
  replace HE := Lib.hid hE
  replace HO := Lib.hid hO
  replace HC := Lib.hid hc
  replace HG := Lib.hid (grown_trans HG.out hg)
  clear hc hg hE hO
  obtain ⟨n, rfl⟩ : ∃ n : Nat, y = (n : Int) := ⟨y.toNat, by omega⟩
  have hn6 : n ≤ 6 := by omega
  clear y0 y1
  go_wp2_with fail
  go_loopw [4] (fun i wr => ∃ (j : Nat) (c s : Int) (vo : Value) (xs : Kept), i = .int .i64 j ∧ j ≤ 6 ∧ okR c s xs = true ∧ wr.heap[G]? = some (.cells #[.int .i64 c, .int .i64 s, vo] 26 (0, 0)) ∧ OwnS kepE 40 W0.heap.size wr vo xs ∧ Cur B b wr ∧ W0.grownBy wr (some b)) (fun i _ => (intOf i).toNat)
  case atStart => exact ⟨n, c, 0, _, [], rfl, hn6, HOk.out, HE.out, HO.out, HC.out, HG.out⟩
  case round =>
    obtain ⟨j, c, s, vo, xs, rfl, hj, hok, hE, hO, hC, hG⟩ := hrel
    clear HE HO HC HG hn6 HCw HOk
    obtain ⟨a, cp, hv, _⟩ := hO.open
    subst hv
    obtain ⟨nl, hnl⟩ : ∃ x, x = xs.length := ⟨_, rfl⟩
    rw [← hnl] at hE hO
    have HNl := Lib.hid hnl
    have HE := Lib.hid hE
    have HO := Lib.hid hO
    have HC := Lib.hid hC
    have HG := Lib.hid hG
    have HOk := Lib.hid hok
    have HXl : Hid (xs.length ≤ 8) := Lib.hid (okR_iff.1 hok).2.2.1
    have HSb : Hid (0 ≤ s ∧ s ≤ 100000) := Lib.hid (okR_iff.1 hok).2.1
    have HCw : Hid ((Lit.int .i64 c).wf = true) := Lib.hid (w19 (by have := (okR_iff.1 hok).1; omega) (by have := (okR_iff.1 hok).1; omega))
    have HSw : Hid ((Lit.int .i64 s).wf = true) := Lib.hid (w19 (by have := HSb.out; omega) (by have := HSb.out; omega))
    clear hE hO hC hG hok hnl
    by_cases hlt : 0 < j
    · have e1 : decide ((0 : Int) < (j : Int)) = true := decide_eq_true (by omega)
      obtain ⟨s3, hs3⟩ : ∃ x, x = s - 3 := ⟨_, rfl⟩
      have hs3w : IntKind.i64.wrap (s - 3) = s3 := by rw [hs3]; exact wrap_in19 (by have := HSb.out; omega) (by have := HSb.out; omega)
      have HS3 := Lib.hid hs3
      clear hs3
      go_wp2_with fail
      refine region_till (fun u => u.cell? ⟨G, 0, none⟩ = some (.int .i64 c) ∧ u.cell? ⟨G, 1, none⟩ = some (.int .i64 s) ∧ u.cell? ⟨G, 2, none⟩ = some (.slice a nl cp)) 16 (by kernel_rfl) ?_
      obtain ⟨wd, hwd⟩ : ∃ x, x = wr.drew := ⟨_, rfl⟩
      have hb : Below wr.heap.size wr wd := by rw [hwd]; exact (Below.refl _ _).drew
      rw [← hwd]
      clear hwd
      replace HE := Lib.hid (rstand HE.out hb)
      replace HO := Lib.hid (HO.out.next hb)
      replace HC := Lib.hid (HC.out.kept (grown_of_below hb) (by simp) (fun r hr => by cases hr))
      replace HG := Lib.hid (grown_trans HG.out (grown_none (grown_of_below hb)))
      clear hb
      have s0 := rcs HE.out
      apply Till.take (i := 0) [0, 8, 9, 12, 16]
      · simp only [List.getElem?_toArray, List.getElem?_cons_zero]
        rfl
      · kernel_rfl
      · kernel_rfl
      · kernel_rfl
      · kernel_rfl
      · exact fun _ _ _ h => h
      · first
          | exact Or.inr ⟨by rfl, rfl⟩
          | (refine Or.inl ⟨by rfl, fun wq hwq => ?_⟩
             dsimp only at hwq
             go_simp
             first
               | done
               | rfl)
      · exact s0
      simp only [Act.put, List.setIfInBounds_toArray, List.set_cons_zero, List.set_cons_succ]
      apply Till.take (i := 1) [1, 2, 3, 6, 7, 8, 9, 12, 16]
      · simp only [List.getElem?_toArray, List.getElem?_cons_succ, List.getElem?_cons_zero]
        rfl
      · kernel_rfl
      · kernel_rfl
      · kernel_rfl
      · kernel_rfl
      · exact fun _ _ _ h => h
      · first
          | exact Or.inr ⟨by rfl, rfl⟩
          | (refine Or.inl ⟨by rfl, fun wq hwq => ?_⟩
             dsimp only at hwq
             go_simp
             first
               | done
               | rfl)
      · exact s0
      simp only [Act.put, List.setIfInBounds_toArray, List.set_cons_zero, List.set_cons_succ]
      apply Till.take (i := 2) [2, 3, 6, 7, 8, 9, 12, 16]
      · simp only [List.getElem?_toArray, List.getElem?_cons_succ, List.getElem?_cons_zero]
        rfl
      · kernel_rfl
      · kernel_rfl
      · kernel_rfl
      · kernel_rfl
      · exact fun _ _ _ h => h
      · first
          | exact Or.inr ⟨by rfl, rfl⟩
          | (refine Or.inl ⟨by rfl, fun wq hwq => ?_⟩
             dsimp only at hwq
             go_simp
             first
               | done
               | rfl)
      · exact s0
      simp only [Act.put, List.setIfInBounds_toArray, List.set_cons_zero, List.set_cons_succ]
      apply Till.take (i := 3) [3, 6, 7, 8, 9, 12, 16]
      · simp only [List.getElem?_toArray, List.getElem?_cons_succ, List.getElem?_cons_zero]
        rfl
      · kernel_rfl
      · kernel_rfl
      · kernel_rfl
      · kernel_rfl
      · exact fun _ _ _ h => h
      · first
          | exact Or.inr ⟨by rfl, rfl⟩
          | (refine Or.inl ⟨by rfl, fun wq hwq => ?_⟩
             dsimp only at hwq
             go_simp
             first
               | done
               | rfl)
      · exact s0
      simp only [Act.put, List.setIfInBounds_toArray, List.set_cons_zero, List.set_cons_succ]
      apply Till.take (i := 4) [4, 5, 6, 7, 8, 9, 12, 16]
      · simp only [List.getElem?_toArray, List.getElem?_cons_succ, List.getElem?_cons_zero]
        rfl
      · kernel_rfl
      · kernel_rfl
      · kernel_rfl
      · kernel_rfl
      · exact fun _ _ _ h => h
      · first
          | exact Or.inr ⟨by rfl, rfl⟩
          | (refine Or.inl ⟨by rfl, fun wq hwq => ?_⟩
             dsimp only at hwq
             go_simp
             first
               | done
               | rfl)
      · exact s0
      simp only [Act.put, List.setIfInBounds_toArray, List.set_cons_zero, List.set_cons_succ]
      apply Till.two (i := 5) (j := 13)
      · kernel_rfl
      · simp only [List.getElem?_toArray, List.getElem?_cons_succ, List.getElem?_cons_zero]
        rfl
      · simp only [List.getElem?_toArray, List.getElem?_cons_succ, List.getElem?_cons_zero]
        rfl
      · intro K0 hK
        go_simp
        refine (below_any B b 9 _ HC.out (by omega) (by omega)).mono ?_
        rintro e' u0 ⟨y, y0, y1, he, hc, hg⟩
        subst he
        clear s0
        have hE := (hg.block _ (lt_of_block HE.out) (fun h => by injection h with h; have := HGl.out; have := HLt.out; have := HW.out; omega)).trans HE.out
        have hO := HO.out.kept hg (Or.inr (fun hh => by have := (HO.out.lt _ hh).1; have := HLt.out; have := HW.out; omega))
        replace HE := Lib.hid hE
        replace HO := Lib.hid hO
        replace HC := Lib.hid hc
        replace HG := Lib.hid (grown_trans HG.out hg)
        clear hc hg hE hO
        obtain ⟨t1, ht1⟩ : ∃ x, x = s3 + y := ⟨_, rfl⟩
        have ht1w : IntKind.i64.wrap (s3 + y) = t1 := by rw [ht1]; exact wrap_in19 (by have := HSb.out; have := HS3.out; omega) (by have := HSb.out; have := HS3.out; omega)
        have HT1 : Hid (-3 ≤ t1 ∧ t1 ≤ 100010) := Lib.hid (by have := HSb.out; have := HS3.out; omega)
        clear ht1 y0 y1
        have s0 := rcs HE.out
        refine hK.out _ _ (Or.inr s0) ?_
        clear hK K0
        try simp only [Act.put, List.setIfInBounds_toArray, List.set_cons_zero, List.set_cons_succ]
        apply Till.take (i := 6) [6, 7, 8, 9, 12, 16]
        · simp only [List.getElem?_toArray, List.getElem?_cons_succ, List.getElem?_cons_zero]
          rfl
        · kernel_rfl
        · kernel_rfl
        · kernel_rfl
        · kernel_rfl
        · exact fun _ _ _ h => h
        · first
            | exact Or.inr ⟨by rfl, rfl⟩
            | (refine Or.inl ⟨by rfl, fun wq hwq => ?_⟩
               dsimp only at hwq
               go_simp
               first
                 | done
                 | rfl)
        · exact s0
        simp only [Act.put, List.setIfInBounds_toArray, List.set_cons_zero, List.set_cons_succ]
        apply Till.two (i := 7) (j := 13)
        · kernel_rfl
        · simp only [List.getElem?_toArray, List.getElem?_cons_succ, List.getElem?_cons_zero]
          rfl
        · simp only [List.getElem?_toArray, List.getElem?_cons_succ, List.getElem?_cons_zero]
          rfl
        · intro K0 hK
          go_simp
          refine (spec_max 0 t1 _).mono ?_
          rintro e' u1 ⟨he, hw⟩
          subst he
          obtain rfl : u0 = u1 := hw.symm
          clear hw
          obtain ⟨m, hm⟩ : ∃ m, m = mx 0 t1 := ⟨_, rfl⟩
          have HMb : Hid (0 ≤ m ∧ m ≤ 100010) := Lib.hid (by have := mx_zero t1; have := HT1.out; omega)
          rw [← hm]
          clear hm ht1w
          refine hK.out _ _ (Or.inr s0) ?_
          clear hK K0
          try simp only [Act.put, List.setIfInBounds_toArray, List.set_cons_zero, List.set_cons_succ]
          apply Till.two (i := 8) (j := 13)
          · kernel_rfl
          · simp only [List.getElem?_toArray, List.getElem?_cons_succ, List.getElem?_cons_zero]
            rfl
          · simp only [List.getElem?_toArray, List.getElem?_cons_succ, List.getElem?_cons_zero]
            rfl
          · intro K0 hK
            go_simp
            refine (spec_kf HO.out.rd (Nat.le_refl _) HCw.out HSw.out (w19 (x := m) (by have := HMb.out; omega) (by have := HMb.out; omega)) (by have := HXl.out; omega)).mono ?_
            have hOk' := kf_okR (t := m) HOk.out
            obtain ⟨C, hC⟩ : ∃ C, C = kfC c s xs m := ⟨_, rfl⟩
            obtain ⟨S, hS⟩ : ∃ S, S = kfS c s xs m := ⟨_, rfl⟩
            obtain ⟨ys, hys⟩ : ∃ L, L = kfL c s xs m := ⟨_, rfl⟩
            obtain ⟨kM, hkM⟩ : ∃ L, L = kfM c s xs m := ⟨_, rfl⟩
            obtain ⟨kq, hkq⟩ : ∃ L, L = kfq c s xs m := ⟨_, rfl⟩
            rw [← hC, ← hS, ← hys, ← hkM, ← hkq]
            rw [← hC, ← hS, ← hys] at hOk'
            clear hC hS hys hkM hkq
            rintro e' u2 ⟨vN, he, hN, hb⟩
            subst he
            obtain ⟨aN, nN, hvN, _⟩ := hN.open
            obtain ⟨lN, hlN⟩ : ∃ l, l = ys.length := ⟨_, rfl⟩
            rw [← hlN] at hvN
            subst hvN
            clear hlN s0
            have HOk' := Lib.hid hOk'
            have HON := Lib.hid (hN.mono (B' := W0.heap.size) HG.out.size)
            clear hN hOk'
            replace HE := Lib.hid (rstand HE.out hb)
            replace HO := Lib.hid (HO.out.next hb)
            replace HC := Lib.hid (HC.out.kept (grown_of_below hb) (by simp) (fun r hr => by cases hr))
            replace HG := Lib.hid (grown_trans HG.out (grown_none (grown_of_below hb)))
            clear hb
            have s0 := rcs HE.out
            refine hK.out _ _ (Or.inr s0) ?_
            clear hK K0
            try simp only [Act.put, List.setIfInBounds_toArray, List.set_cons_zero, List.set_cons_succ]
            apply Till.take (i := 9) [9, 12, 16]
            · simp only [List.getElem?_toArray, List.getElem?_cons_succ, List.getElem?_cons_zero]
              rfl
            · kernel_rfl
            · kernel_rfl
            · kernel_rfl
            · kernel_rfl
            · exact fun _ _ _ h => h
            · first
                | exact Or.inr ⟨by rfl, rfl⟩
                | (refine Or.inl ⟨by rfl, fun wq hwq => ?_⟩
                   dsimp only at hwq
                   go_simp
                   first
                     | done
                     | rfl)
            · exact s0
            simp only [Act.put, List.setIfInBounds_toArray, List.set_cons_zero, List.set_cons_succ]
            apply Till.take (i := 10) [10, 14, 15, 16]
            · simp only [List.getElem?_toArray, List.getElem?_cons_succ, List.getElem?_cons_zero]
              rfl
            · kernel_rfl
            · kernel_rfl
            · kernel_rfl
            · kernel_rfl
            · exact fun _ _ _ h => h
            · first
                | exact Or.inr ⟨by rfl, rfl⟩
                | (refine Or.inl ⟨by rfl, fun wq hwq => ?_⟩
                   dsimp only at hwq
                   go_simp
                   first
                     | done
                     | rfl)
            · exact s0
            simp only [Act.put, List.setIfInBounds_toArray, List.set_cons_zero, List.set_cons_succ]
            apply Till.take (i := 11) [11, 15, 16]
            · simp only [List.getElem?_toArray, List.getElem?_cons_succ, List.getElem?_cons_zero]
              rfl
            · kernel_rfl
            · kernel_rfl
            · kernel_rfl
            · kernel_rfl
            · exact fun _ _ _ h => h
            · first
                | exact Or.inr ⟨by rfl, rfl⟩
                | (refine Or.inl ⟨by rfl, fun wq hwq => ?_⟩
                   dsimp only at hwq
                   go_simp
                   first
                     | done
                     | rfl)
            · exact s0
            simp only [Act.put, List.setIfInBounds_toArray, List.set_cons_zero, List.set_cons_succ]
            apply Till.take (i := 12) [12, 16]
            · simp only [List.getElem?_toArray, List.getElem?_cons_succ, List.getElem?_cons_zero]
              rfl
            · kernel_rfl
            · kernel_rfl
            · kernel_rfl
            · kernel_rfl
            · exact fun _ _ _ h => h
            · first
                | exact Or.inr ⟨by rfl, rfl⟩
                | (refine Or.inl ⟨by rfl, fun wq hwq => ?_⟩
                   dsimp only at hwq
                   go_simp
                   first
                     | done
                     | rfl)
            · exact s0
            simp only [Act.put, List.setIfInBounds_toArray, List.set_cons_zero, List.set_cons_succ]
            apply Till.one (i := 13)
            · kernel_rfl
            · simp only [List.getElem?_toArray, List.getElem?_cons_succ, List.getElem?_cons_zero]
              rfl
            intro K hK
            go_simp
            have hb : Below u2.heap.size u2 (u2.alloc (.cells #[.int .i64 0, .int .i64 0, .slice none 0 0] 26)) := (Below.refl _ _).alloc (Nat.le_refl _) _
            have HX := Lib.hid (heap_alloc_new u2 (.cells #[.int .i64 0, .int .i64 0, .slice none 0 0] 26))
            have HElt := Lib.hid (lt_of_block HE.out)
            clear s0
            replace HE := Lib.hid (rstand HE.out hb)
            replace HO := Lib.hid (HO.out.next hb)
            replace HC := Lib.hid (HC.out.kept (grown_of_below hb) (by simp) (fun r hr => by cases hr))
            replace HG := Lib.hid (grown_trans HG.out (grown_none (grown_of_below hb)))
            replace HON := Lib.hid (HON.out.next hb)
            clear hb
            have s0 : (u2.alloc (.cells #[.int .i64 0, .int .i64 0, .slice none 0 0] 26)).cell? ⟨G, 0, none⟩ = some (.int .i64 c) ∧ (u2.alloc (.cells #[.int .i64 0, .int .i64 0, .slice none 0 0] 26)).cell? ⟨G, 1, none⟩ = some (.int .i64 s) ∧ (u2.alloc (.cells #[.int .i64 0, .int .i64 0, .slice none 0 0] 26)).cell? ⟨G, 2, none⟩ = some (.slice a nl cp) := rcs HE.out
            refine hK.out _ _ (Or.inr s0) ?_
            clear hK K
            try simp only [Act.put, List.setIfInBounds_toArray, List.set_cons_zero, List.set_cons_succ]
            obtain ⟨u3, hwa⟩ : ∃ x, x = u2.alloc (.cells #[.int .i64 0, .int .i64 0, .slice none 0 0] 26) := ⟨_, rfl⟩
            obtain ⟨E, hE⟩ : ∃ x, x = u2.heap.size := ⟨_, rfl⟩
            rw [← hwa] at HX HE HO HC HG HON s0 ⊢
            rw [← hE] at HX HElt ⊢
            clear hwa hE
            obtain ⟨wz, hwz⟩ : ∃ x, x = u3 := ⟨_, rfl⟩
            rw [← hwz] at HE HX HO HC HG HON s0 ⊢
            clear hwz
            obtain ⟨q0, q1, q2⟩ := rcs HX.out
            obtain ⟨f0, f1, f2⟩ := rfr HX.out
            obtain ⟨k9, g9⟩ := rst HX.out (.int .i64 C) (.int .i64 S) (.slice aN lN nN)
            have hE := (g9.block _ (lt_of_block HE.out) (fun h => by injection h with h; have := HElt.out; omega)).trans HE.out
            have hO := HO.out.kept g9 (Or.inr (fun hh => owns_ne_box (by decide) HO.out HX.out _ hh rfl))
            have hN := HON.out.kept g9 (Or.inr (fun hh => owns_ne_box (by decide) HON.out HX.out _ hh rfl))
            have hC := HC.out.kept g9 (fun h => by injection h with h; have := HElt.out; have := HGl.out; have := HLt.out; have := HW.out; omega) (fun r hr => by injection hr with hr; have := HElt.out; have := HGl.out; have := HLt.out; have := HW.out; omega)
            have hG := grown_own HG.out g9 (fun r hr => by injection hr with hr; have := HElt.out; have := HGl.out; have := HLt.out; have := HW.out; omega)
            replace HX := Lib.hid k9
            replace HE := Lib.hid hE
            replace HO := Lib.hid hO
            replace HON := Lib.hid hN
            replace HC := Lib.hid hC
            replace HG := Lib.hid hG
            clear k9 g9 hE hO hN hC hG s0
            have s9 := rcs HE.out
            apply Till.one (i := 14)
            · kernel_rfl
            · simp only [List.getElem?_toArray, List.getElem?_cons_succ, List.getElem?_cons_zero]
              rfl
            intro K hK
            go_simp
            skip
            refine hK.out _ _ (Or.inr s9) ?_
            clear hK K
            try simp only [Act.put, List.setIfInBounds_toArray, List.set_cons_zero, List.set_cons_succ]
            apply Till.one (i := 15)
            · kernel_rfl
            · simp only [List.getElem?_toArray, List.getElem?_cons_succ, List.getElem?_cons_zero]
              rfl
            intro K hK
            go_simp
            skip
            refine hK.out _ _ (Or.inr s9) ?_
            clear hK K
            try simp only [Act.put, List.setIfInBounds_toArray, List.set_cons_zero, List.set_cons_succ]
            apply Till.one (i := 16)
            · kernel_rfl
            · simp only [List.getElem?_toArray, List.getElem?_cons_succ, List.getElem?_cons_zero]
              rfl
            intro K hK
            go_simp
            skip
            refine hK.out _ _ (Or.inl (by rfl)) ?_
            clear hK K
            try simp only [Act.put, List.setIfInBounds_toArray, List.set_cons_zero, List.set_cons_succ]
            refine Till.done (by kernel_rfl) ?_ _
            clear q0 q1 q2 f0 f1 f2 s9
            obtain ⟨wy, hwy⟩ : ∃ zz, zz = ((wz.setCell ⟨E, 0, none⟩ (.int .i64 C)).setCell ⟨E, 1, none⟩ (.int .i64 S)).setCell ⟨E, 2, none⟩ (.slice aN lN nN) := ⟨_, rfl⟩
            rw [← hwy] at HE HX HO HC HG HON ⊢
            clear hwy
            obtain ⟨x0, x1, x2⟩ := rcs HX.out
            obtain ⟨q0, q1, q2⟩ := rcs HE.out
            obtain ⟨f0, f1, f2⟩ := rfr HE.out
            obtain ⟨k9, g9⟩ := rst HE.out (.int .i64 C) (.int .i64 S) (.slice aN lN nN)
            have hN := HON.out.kept g9 (Or.inr (fun hh => owns_ne_box (by decide) HON.out HE.out _ hh rfl))
            have hC := HC.out.kept g9 (fun h => by injection h with h; have := HGl.out; have := HLt.out; have := HW.out; omega) (fun r hr => by injection hr with hr; have := HGl.out; have := HLt.out; have := HW.out; omega)
            have hG := grown_own HG.out g9 (fun r hr => by injection hr with hr; have := HGl.out; omega)
            have HE9 := Lib.hid k9
            have HN9 := Lib.hid hN
            have HC9 := Lib.hid hC
            have HG9 := Lib.hid hG
            clear k9 g9 hN hC hG
            go_wp2_with fail
            go_roundw
            case rel => exact ⟨j - 1, C, S, _, ys, by simp; omega, by omega, HOk'.out, HE9.out, HN9.out, HC9.out, HG9.out⟩
            case measure => simp [intOf]; omega
          · intro K0 hK
            go_simp
            have hb : Below u0.heap.size u0 (u0.alloc (.cells #[.int .i64 0, .int .i64 0, .slice none 0 0] 26)) := (Below.refl _ _).alloc (Nat.le_refl _) _
            have HX := Lib.hid (heap_alloc_new u0 (.cells #[.int .i64 0, .int .i64 0, .slice none 0 0] 26))
            have HElt := Lib.hid (lt_of_block HE.out)
            clear s0
            replace HE := Lib.hid (rstand HE.out hb)
            replace HO := Lib.hid (HO.out.next hb)
            replace HC := Lib.hid (HC.out.kept (grown_of_below hb) (by simp) (fun r hr => by cases hr))
            replace HG := Lib.hid (grown_trans HG.out (grown_none (grown_of_below hb)))
            clear hb
            have s0 : (u0.alloc (.cells #[.int .i64 0, .int .i64 0, .slice none 0 0] 26)).cell? ⟨G, 0, none⟩ = some (.int .i64 c) ∧ (u0.alloc (.cells #[.int .i64 0, .int .i64 0, .slice none 0 0] 26)).cell? ⟨G, 1, none⟩ = some (.int .i64 s) ∧ (u0.alloc (.cells #[.int .i64 0, .int .i64 0, .slice none 0 0] 26)).cell? ⟨G, 2, none⟩ = some (.slice a nl cp) := rcs HE.out
            refine hK.out _ _ (Or.inr s0) ?_
            clear hK K0
            try simp only [Act.put, List.setIfInBounds_toArray, List.set_cons_zero, List.set_cons_succ]
            obtain ⟨u4, hwa⟩ : ∃ x, x = u0.alloc (.cells #[.int .i64 0, .int .i64 0, .slice none 0 0] 26) := ⟨_, rfl⟩
            obtain ⟨E, hE⟩ : ∃ x, x = u0.heap.size := ⟨_, rfl⟩
            rw [← hwa] at HX HE HO HC HG s0 ⊢
            rw [← hE] at HX HElt ⊢
            clear hwa hE
            apply Till.one (i := 8)
            · kernel_rfl
            · simp only [List.getElem?_toArray, List.getElem?_cons_succ, List.getElem?_cons_zero]
              rfl
            intro K hK
            go_simp
            refine (spec_kf HO.out.rd (Nat.le_refl _) HCw.out HSw.out (w19 (x := m) (by have := HMb.out; omega) (by have := HMb.out; omega)) (by have := HXl.out; omega)).mono ?_
            have hOk' := kf_okR (t := m) HOk.out
            obtain ⟨C, hC⟩ : ∃ C, C = kfC c s xs m := ⟨_, rfl⟩
            obtain ⟨S, hS⟩ : ∃ S, S = kfS c s xs m := ⟨_, rfl⟩
            obtain ⟨ys, hys⟩ : ∃ L, L = kfL c s xs m := ⟨_, rfl⟩
            obtain ⟨kM, hkM⟩ : ∃ L, L = kfM c s xs m := ⟨_, rfl⟩
            obtain ⟨kq, hkq⟩ : ∃ L, L = kfq c s xs m := ⟨_, rfl⟩
            rw [← hC, ← hS, ← hys, ← hkM, ← hkq]
            rw [← hC, ← hS, ← hys] at hOk'
            clear hC hS hys hkM hkq
            rintro e' u5 ⟨vN, he, hN, hb⟩
            subst he
            obtain ⟨aN, nN, hvN, _⟩ := hN.open
            obtain ⟨lN, hlN⟩ : ∃ l, l = ys.length := ⟨_, rfl⟩
            rw [← hlN] at hvN
            subst hvN
            clear hlN s0
            have HOk' := Lib.hid hOk'
            have HON := Lib.hid (hN.mono (B' := W0.heap.size) HG.out.size)
            clear hN hOk'
            replace HE := Lib.hid (rstand HE.out hb)
            replace HO := Lib.hid (HO.out.next hb)
            replace HC := Lib.hid (HC.out.kept (grown_of_below hb) (by simp) (fun r hr => by cases hr))
            replace HG := Lib.hid (grown_trans HG.out (grown_none (grown_of_below hb)))
            replace HX := Lib.hid (rstand HX.out hb)
            clear hb
            have s0 := rcs HE.out
            refine hK.out _ _ (Or.inr s0) ?_
            clear hK K
            try simp only [Act.put, List.setIfInBounds_toArray, List.set_cons_zero, List.set_cons_succ]
            apply Till.take (i := 9) [9, 12, 16]
            · simp only [List.getElem?_toArray, List.getElem?_cons_succ, List.getElem?_cons_zero]
              rfl
            · kernel_rfl
            · kernel_rfl
            · kernel_rfl
            · kernel_rfl
            · exact fun _ _ _ h => h
            · first
                | exact Or.inr ⟨by rfl, rfl⟩
                | (refine Or.inl ⟨by rfl, fun wq hwq => ?_⟩
                   dsimp only at hwq
                   go_simp
                   first
                     | done
                     | rfl)
            · exact s0
            simp only [Act.put, List.setIfInBounds_toArray, List.set_cons_zero, List.set_cons_succ]
            apply Till.take (i := 10) [10, 14, 15, 16]
            · simp only [List.getElem?_toArray, List.getElem?_cons_succ, List.getElem?_cons_zero]
              rfl
            · kernel_rfl
            · kernel_rfl
            · kernel_rfl
            · kernel_rfl
            · exact fun _ _ _ h => h
            · first
                | exact Or.inr ⟨by rfl, rfl⟩
                | (refine Or.inl ⟨by rfl, fun wq hwq => ?_⟩
                   dsimp only at hwq
                   go_simp
                   first
                     | done
                     | rfl)
            · exact s0
            simp only [Act.put, List.setIfInBounds_toArray, List.set_cons_zero, List.set_cons_succ]
            apply Till.take (i := 11) [11, 15, 16]
            · simp only [List.getElem?_toArray, List.getElem?_cons_succ, List.getElem?_cons_zero]
              rfl
            · kernel_rfl
            · kernel_rfl
            · kernel_rfl
            · kernel_rfl
            · exact fun _ _ _ h => h
            · first
                | exact Or.inr ⟨by rfl, rfl⟩
                | (refine Or.inl ⟨by rfl, fun wq hwq => ?_⟩
                   dsimp only at hwq
                   go_simp
                   first
                     | done
                     | rfl)
            · exact s0
            simp only [Act.put, List.setIfInBounds_toArray, List.set_cons_zero, List.set_cons_succ]
            apply Till.take (i := 12) [12, 16]
            · simp only [List.getElem?_toArray, List.getElem?_cons_succ, List.getElem?_cons_zero]
              rfl
            · kernel_rfl
            · kernel_rfl
            · kernel_rfl
            · kernel_rfl
            · exact fun _ _ _ h => h
            · first
                | exact Or.inr ⟨by rfl, rfl⟩
                | (refine Or.inl ⟨by rfl, fun wq hwq => ?_⟩
                   dsimp only at hwq
                   go_simp
                   first
                     | done
                     | rfl)
            · exact s0
            simp only [Act.put, List.setIfInBounds_toArray, List.set_cons_zero, List.set_cons_succ]
            obtain ⟨wz, hwz⟩ : ∃ x, x = u5 := ⟨_, rfl⟩
            rw [← hwz] at HE HX HO HC HG HON s0 ⊢
            clear hwz
            obtain ⟨q0, q1, q2⟩ := rcs HX.out
            obtain ⟨f0, f1, f2⟩ := rfr HX.out
            obtain ⟨k9, g9⟩ := rst HX.out (.int .i64 C) (.int .i64 S) (.slice aN lN nN)
            have hE := (g9.block _ (lt_of_block HE.out) (fun h => by injection h with h; have := HElt.out; omega)).trans HE.out
            have hO := HO.out.kept g9 (Or.inr (fun hh => owns_ne_box (by decide) HO.out HX.out _ hh rfl))
            have hN := HON.out.kept g9 (Or.inr (fun hh => owns_ne_box (by decide) HON.out HX.out _ hh rfl))
            have hC := HC.out.kept g9 (fun h => by injection h with h; have := HElt.out; have := HGl.out; have := HLt.out; have := HW.out; omega) (fun r hr => by injection hr with hr; have := HElt.out; have := HGl.out; have := HLt.out; have := HW.out; omega)
            have hG := grown_own HG.out g9 (fun r hr => by injection hr with hr; have := HElt.out; have := HGl.out; have := HLt.out; have := HW.out; omega)
            replace HX := Lib.hid k9
            replace HE := Lib.hid hE
            replace HO := Lib.hid hO
            replace HON := Lib.hid hN
            replace HC := Lib.hid hC
            replace HG := Lib.hid hG
            clear k9 g9 hE hO hN hC hG s0
            have s9 := rcs HE.out
            apply Till.one (i := 14)
            · kernel_rfl
            · simp only [List.getElem?_toArray, List.getElem?_cons_succ, List.getElem?_cons_zero]
              rfl
            intro K hK
            go_simp
            skip
            refine hK.out _ _ (Or.inr s9) ?_
            clear hK K
            try simp only [Act.put, List.setIfInBounds_toArray, List.set_cons_zero, List.set_cons_succ]
            apply Till.one (i := 15)
            · kernel_rfl
            · simp only [List.getElem?_toArray, List.getElem?_cons_succ, List.getElem?_cons_zero]
              rfl
            intro K hK
            go_simp
            skip
            refine hK.out _ _ (Or.inr s9) ?_
            clear hK K
            try simp only [Act.put, List.setIfInBounds_toArray, List.set_cons_zero, List.set_cons_succ]
            apply Till.one (i := 16)
            · kernel_rfl
            · simp only [List.getElem?_toArray, List.getElem?_cons_succ, List.getElem?_cons_zero]
              rfl
            intro K hK
            go_simp
            skip
            refine hK.out _ _ (Or.inl (by rfl)) ?_
            clear hK K
            try simp only [Act.put, List.setIfInBounds_toArray, List.set_cons_zero, List.set_cons_succ]
            refine Till.done (by kernel_rfl) ?_ _
            clear q0 q1 q2 f0 f1 f2 s9
            obtain ⟨wy, hwy⟩ : ∃ zz, zz = ((wz.setCell ⟨E, 0, none⟩ (.int .i64 C)).setCell ⟨E, 1, none⟩ (.int .i64 S)).setCell ⟨E, 2, none⟩ (.slice aN lN nN) := ⟨_, rfl⟩
            rw [← hwy] at HE HX HO HC HG HON ⊢
            clear hwy
            obtain ⟨x0, x1, x2⟩ := rcs HX.out
            obtain ⟨q0, q1, q2⟩ := rcs HE.out
            obtain ⟨f0, f1, f2⟩ := rfr HE.out
            obtain ⟨k9, g9⟩ := rst HE.out (.int .i64 C) (.int .i64 S) (.slice aN lN nN)
            have hN := HON.out.kept g9 (Or.inr (fun hh => owns_ne_box (by decide) HON.out HE.out _ hh rfl))
            have hC := HC.out.kept g9 (fun h => by injection h with h; have := HGl.out; have := HLt.out; have := HW.out; omega) (fun r hr => by injection hr with hr; have := HGl.out; have := HLt.out; have := HW.out; omega)
            have hG := grown_own HG.out g9 (fun r hr => by injection hr with hr; have := HGl.out; omega)
            have HE9 := Lib.hid k9
            have HN9 := Lib.hid hN
            have HC9 := Lib.hid hC
            have HG9 := Lib.hid hG
            clear k9 g9 hN hC hG
            go_wp2_with fail
            go_roundw
            case rel => exact ⟨j - 1, C, S, _, ys, by simp; omega, by omega, HOk'.out, HE9.out, HN9.out, HC9.out, HG9.out⟩
            case measure => simp [intOf]; omega
        · intro K0 hK
          go_simp
          have hb : Below u0.heap.size u0 (u0.alloc (.cells #[.int .i64 0, .int .i64 0, .slice none 0 0] 26)) := (Below.refl _ _).alloc (Nat.le_refl _) _
          have HX := Lib.hid (heap_alloc_new u0 (.cells #[.int .i64 0, .int .i64 0, .slice none 0 0] 26))
          have HElt := Lib.hid (lt_of_block HE.out)
          clear s0
          replace HE := Lib.hid (rstand HE.out hb)
          replace HO := Lib.hid (HO.out.next hb)
          replace HC := Lib.hid (HC.out.kept (grown_of_below hb) (by simp) (fun r hr => by cases hr))
          replace HG := Lib.hid (grown_trans HG.out (grown_none (grown_of_below hb)))
          clear hb
          have s0 : (u0.alloc (.cells #[.int .i64 0, .int .i64 0, .slice none 0 0] 26)).cell? ⟨G, 0, none⟩ = some (.int .i64 c) ∧ (u0.alloc (.cells #[.int .i64 0, .int .i64 0, .slice none 0 0] 26)).cell? ⟨G, 1, none⟩ = some (.int .i64 s) ∧ (u0.alloc (.cells #[.int .i64 0, .int .i64 0, .slice none 0 0] 26)).cell? ⟨G, 2, none⟩ = some (.slice a nl cp) := rcs HE.out
          refine hK.out _ _ (Or.inr s0) ?_
          clear hK K0
          try simp only [Act.put, List.setIfInBounds_toArray, List.set_cons_zero, List.set_cons_succ]
          obtain ⟨u6, hwa⟩ : ∃ x, x = u0.alloc (.cells #[.int .i64 0, .int .i64 0, .slice none 0 0] 26) := ⟨_, rfl⟩
          obtain ⟨E, hE⟩ : ∃ x, x = u0.heap.size := ⟨_, rfl⟩
          rw [← hwa] at HX HE HO HC HG s0 ⊢
          rw [← hE] at HX HElt ⊢
          clear hwa hE
          apply Till.one (i := 7)
          · kernel_rfl
          · simp only [List.getElem?_toArray, List.getElem?_cons_succ, List.getElem?_cons_zero]
            rfl
          intro K hK
          go_simp
          refine (spec_max 0 t1 _).mono ?_
          rintro e' u7 ⟨he, hw⟩
          subst he
          obtain rfl : u6 = u7 := hw.symm
          clear hw
          obtain ⟨m, hm⟩ : ∃ m, m = mx 0 t1 := ⟨_, rfl⟩
          have HMb : Hid (0 ≤ m ∧ m ≤ 100010) := Lib.hid (by have := mx_zero t1; have := HT1.out; omega)
          rw [← hm]
          clear hm ht1w
          refine hK.out _ _ (Or.inr s0) ?_
          clear hK K
          try simp only [Act.put, List.setIfInBounds_toArray, List.set_cons_zero, List.set_cons_succ]
          apply Till.one (i := 8)
          · kernel_rfl
          · simp only [List.getElem?_toArray, List.getElem?_cons_succ, List.getElem?_cons_zero]
            rfl
          intro K hK
          go_simp
          refine (spec_kf HO.out.rd (Nat.le_refl _) HCw.out HSw.out (w19 (x := m) (by have := HMb.out; omega) (by have := HMb.out; omega)) (by have := HXl.out; omega)).mono ?_
          have hOk' := kf_okR (t := m) HOk.out
          obtain ⟨C, hC⟩ : ∃ C, C = kfC c s xs m := ⟨_, rfl⟩
          obtain ⟨S, hS⟩ : ∃ S, S = kfS c s xs m := ⟨_, rfl⟩
          obtain ⟨ys, hys⟩ : ∃ L, L = kfL c s xs m := ⟨_, rfl⟩
          obtain ⟨kM, hkM⟩ : ∃ L, L = kfM c s xs m := ⟨_, rfl⟩
          obtain ⟨kq, hkq⟩ : ∃ L, L = kfq c s xs m := ⟨_, rfl⟩
          rw [← hC, ← hS, ← hys, ← hkM, ← hkq]
          rw [← hC, ← hS, ← hys] at hOk'
          clear hC hS hys hkM hkq
          rintro e' u8 ⟨vN, he, hN, hb⟩
          subst he
          obtain ⟨aN, nN, hvN, _⟩ := hN.open
          obtain ⟨lN, hlN⟩ : ∃ l, l = ys.length := ⟨_, rfl⟩
          rw [← hlN] at hvN
          subst hvN
          clear hlN s0
          have HOk' := Lib.hid hOk'
          have HON := Lib.hid (hN.mono (B' := W0.heap.size) HG.out.size)
          clear hN hOk'
          replace HE := Lib.hid (rstand HE.out hb)
          replace HO := Lib.hid (HO.out.next hb)
          replace HC := Lib.hid (HC.out.kept (grown_of_below hb) (by simp) (fun r hr => by cases hr))
          replace HG := Lib.hid (grown_trans HG.out (grown_none (grown_of_below hb)))
          replace HX := Lib.hid (rstand HX.out hb)
          clear hb
          have s0 := rcs HE.out
          refine hK.out _ _ (Or.inr s0) ?_
          clear hK K
          try simp only [Act.put, List.setIfInBounds_toArray, List.set_cons_zero, List.set_cons_succ]
          apply Till.take (i := 9) [9, 12, 16]
          · simp only [List.getElem?_toArray, List.getElem?_cons_succ, List.getElem?_cons_zero]
            rfl
          · kernel_rfl
          · kernel_rfl
          · kernel_rfl
          · kernel_rfl
          · exact fun _ _ _ h => h
          · first
              | exact Or.inr ⟨by rfl, rfl⟩
              | (refine Or.inl ⟨by rfl, fun wq hwq => ?_⟩
                 dsimp only at hwq
                 go_simp
                 first
                   | done
                   | rfl)
          · exact s0
          simp only [Act.put, List.setIfInBounds_toArray, List.set_cons_zero, List.set_cons_succ]
          apply Till.take (i := 10) [10, 14, 15, 16]
          · simp only [List.getElem?_toArray, List.getElem?_cons_succ, List.getElem?_cons_zero]
            rfl
          · kernel_rfl
          · kernel_rfl
          · kernel_rfl
          · kernel_rfl
          · exact fun _ _ _ h => h
          · first
              | exact Or.inr ⟨by rfl, rfl⟩
              | (refine Or.inl ⟨by rfl, fun wq hwq => ?_⟩
                 dsimp only at hwq
                 go_simp
                 first
                   | done
                   | rfl)
          · exact s0
          simp only [Act.put, List.setIfInBounds_toArray, List.set_cons_zero, List.set_cons_succ]
          apply Till.take (i := 11) [11, 15, 16]
          · simp only [List.getElem?_toArray, List.getElem?_cons_succ, List.getElem?_cons_zero]
            rfl
          · kernel_rfl
          · kernel_rfl
          · kernel_rfl
          · kernel_rfl
          · exact fun _ _ _ h => h
          · first
              | exact Or.inr ⟨by rfl, rfl⟩
              | (refine Or.inl ⟨by rfl, fun wq hwq => ?_⟩
                 dsimp only at hwq
                 go_simp
                 first
                   | done
                   | rfl)
          · exact s0
          simp only [Act.put, List.setIfInBounds_toArray, List.set_cons_zero, List.set_cons_succ]
          apply Till.take (i := 12) [12, 16]
          · simp only [List.getElem?_toArray, List.getElem?_cons_succ, List.getElem?_cons_zero]
            rfl
          · kernel_rfl
          · kernel_rfl
          · kernel_rfl
          · kernel_rfl
          · exact fun _ _ _ h => h
          · first
              | exact Or.inr ⟨by rfl, rfl⟩
              | (refine Or.inl ⟨by rfl, fun wq hwq => ?_⟩
                 dsimp only at hwq
                 go_simp
                 first
                   | done
                   | rfl)
          · exact s0
          simp only [Act.put, List.setIfInBounds_toArray, List.set_cons_zero, List.set_cons_succ]
          obtain ⟨wz, hwz⟩ : ∃ x, x = u8 := ⟨_, rfl⟩
          rw [← hwz] at HE HX HO HC HG HON s0 ⊢
          clear hwz
          obtain ⟨q0, q1, q2⟩ := rcs HX.out
          obtain ⟨f0, f1, f2⟩ := rfr HX.out
          obtain ⟨k9, g9⟩ := rst HX.out (.int .i64 C) (.int .i64 S) (.slice aN lN nN)
          have hE := (g9.block _ (lt_of_block HE.out) (fun h => by injection h with h; have := HElt.out; omega)).trans HE.out
          have hO := HO.out.kept g9 (Or.inr (fun hh => owns_ne_box (by decide) HO.out HX.out _ hh rfl))
          have hN := HON.out.kept g9 (Or.inr (fun hh => owns_ne_box (by decide) HON.out HX.out _ hh rfl))
          have hC := HC.out.kept g9 (fun h => by injection h with h; have := HElt.out; have := HGl.out; have := HLt.out; have := HW.out; omega) (fun r hr => by injection hr with hr; have := HElt.out; have := HGl.out; have := HLt.out; have := HW.out; omega)
          have hG := grown_own HG.out g9 (fun r hr => by injection hr with hr; have := HElt.out; have := HGl.out; have := HLt.out; have := HW.out; omega)
          replace HX := Lib.hid k9
          replace HE := Lib.hid hE
          replace HO := Lib.hid hO
          replace HON := Lib.hid hN
          replace HC := Lib.hid hC
          replace HG := Lib.hid hG
          clear k9 g9 hE hO hN hC hG s0
          have s9 := rcs HE.out
          apply Till.one (i := 14)
          · kernel_rfl
          · simp only [List.getElem?_toArray, List.getElem?_cons_succ, List.getElem?_cons_zero]
            rfl
          intro K hK
          go_simp
          skip
          refine hK.out _ _ (Or.inr s9) ?_
          clear hK K
          try simp only [Act.put, List.setIfInBounds_toArray, List.set_cons_zero, List.set_cons_succ]
          apply Till.one (i := 15)
          · kernel_rfl
          · simp only [List.getElem?_toArray, List.getElem?_cons_succ, List.getElem?_cons_zero]
            rfl
          intro K hK
          go_simp
          skip
          refine hK.out _ _ (Or.inr s9) ?_
          clear hK K
          try simp only [Act.put, List.setIfInBounds_toArray, List.set_cons_zero, List.set_cons_succ]
          apply Till.one (i := 16)
          · kernel_rfl
          · simp only [List.getElem?_toArray, List.getElem?_cons_succ, List.getElem?_cons_zero]
            rfl
          intro K hK
          go_simp
          skip
          refine hK.out _ _ (Or.inl (by rfl)) ?_
          clear hK K
          try simp only [Act.put, List.setIfInBounds_toArray, List.set_cons_zero, List.set_cons_succ]
          refine Till.done (by kernel_rfl) ?_ _
          clear q0 q1 q2 f0 f1 f2 s9
          obtain ⟨wy, hwy⟩ : ∃ zz, zz = ((wz.setCell ⟨E, 0, none⟩ (.int .i64 C)).setCell ⟨E, 1, none⟩ (.int .i64 S)).setCell ⟨E, 2, none⟩ (.slice aN lN nN) := ⟨_, rfl⟩
          rw [← hwy] at HE HX HO HC HG HON ⊢
          clear hwy
          obtain ⟨x0, x1, x2⟩ := rcs HX.out
          obtain ⟨q0, q1, q2⟩ := rcs HE.out
          obtain ⟨f0, f1, f2⟩ := rfr HE.out
          obtain ⟨k9, g9⟩ := rst HE.out (.int .i64 C) (.int .i64 S) (.slice aN lN nN)
          have hN := HON.out.kept g9 (Or.inr (fun hh => owns_ne_box (by decide) HON.out HE.out _ hh rfl))
          have hC := HC.out.kept g9 (fun h => by injection h with h; have := HGl.out; have := HLt.out; have := HW.out; omega) (fun r hr => by injection hr with hr; have := HGl.out; have := HLt.out; have := HW.out; omega)
          have hG := grown_own HG.out g9 (fun r hr => by injection hr with hr; have := HGl.out; omega)
          have HE9 := Lib.hid k9
          have HN9 := Lib.hid hN
          have HC9 := Lib.hid hC
          have HG9 := Lib.hid hG
          clear k9 g9 hN hC hG
          go_wp2_with fail
          go_roundw
          case rel => exact ⟨j - 1, C, S, _, ys, by simp; omega, by omega, HOk'.out, HE9.out, HN9.out, HC9.out, HG9.out⟩
          case measure => simp [intOf]; omega
      · intro K0 hK
        go_simp
        have hb : Below wd.heap.size wd (wd.alloc (.cells #[.int .i64 0, .int .i64 0, .slice none 0 0] 26)) := (Below.refl _ _).alloc (Nat.le_refl _) _
        have HX := Lib.hid (heap_alloc_new wd (.cells #[.int .i64 0, .int .i64 0, .slice none 0 0] 26))
        have HElt := Lib.hid (lt_of_block HE.out)
        clear s0
        replace HE := Lib.hid (rstand HE.out hb)
        replace HO := Lib.hid (HO.out.next hb)
        replace HC := Lib.hid (HC.out.kept (grown_of_below hb) (by simp) (fun r hr => by cases hr))
        replace HG := Lib.hid (grown_trans HG.out (grown_none (grown_of_below hb)))
        clear hb
        have s0 : (wd.alloc (.cells #[.int .i64 0, .int .i64 0, .slice none 0 0] 26)).cell? ⟨G, 0, none⟩ = some (.int .i64 c) ∧ (wd.alloc (.cells #[.int .i64 0, .int .i64 0, .slice none 0 0] 26)).cell? ⟨G, 1, none⟩ = some (.int .i64 s) ∧ (wd.alloc (.cells #[.int .i64 0, .int .i64 0, .slice none 0 0] 26)).cell? ⟨G, 2, none⟩ = some (.slice a nl cp) := rcs HE.out
        refine hK.out _ _ (Or.inr s0) ?_
        clear hK K0
        try simp only [Act.put, List.setIfInBounds_toArray, List.set_cons_zero, List.set_cons_succ]
        obtain ⟨u9, hwa⟩ : ∃ x, x = wd.alloc (.cells #[.int .i64 0, .int .i64 0, .slice none 0 0] 26) := ⟨_, rfl⟩
        obtain ⟨E, hE⟩ : ∃ x, x = wd.heap.size := ⟨_, rfl⟩
        rw [← hwa] at HX HE HO HC HG s0 ⊢
        rw [← hE] at HX HElt ⊢
        clear hwa hE
        apply Till.one (i := 5)
        · kernel_rfl
        · simp only [List.getElem?_toArray, List.getElem?_cons_succ, List.getElem?_cons_zero]
          rfl
        intro K hK
        go_simp
        refine (below_any B b 9 _ HC.out (by omega) (by omega)).mono ?_
        rintro e' u10 ⟨y, y0, y1, he, hc, hg⟩
        subst he
        clear s0
        have hE := (hg.block _ (lt_of_block HE.out) (fun h => by injection h with h; have := HGl.out; have := HLt.out; have := HW.out; omega)).trans HE.out
        have hO := HO.out.kept hg (Or.inr (fun hh => by have := (HO.out.lt _ hh).1; have := HLt.out; have := HW.out; omega))
        replace HE := Lib.hid hE
        replace HO := Lib.hid hO
        replace HC := Lib.hid hc
        replace HG := Lib.hid (grown_trans HG.out hg)
        have hX := (hg.block _ (lt_of_block HX.out) (fun h => by injection h with h; have := HElt.out; have := HGl.out; have := HLt.out; have := HW.out; omega)).trans HX.out
        replace HX := Lib.hid hX
        clear hX
        clear hc hg hE hO
        obtain ⟨t1, ht1⟩ : ∃ x, x = s3 + y := ⟨_, rfl⟩
        have ht1w : IntKind.i64.wrap (s3 + y) = t1 := by rw [ht1]; exact wrap_in19 (by have := HSb.out; have := HS3.out; omega) (by have := HSb.out; have := HS3.out; omega)
        have HT1 : Hid (-3 ≤ t1 ∧ t1 ≤ 100010) := Lib.hid (by have := HSb.out; have := HS3.out; omega)
        clear ht1 y0 y1
        have s0 := rcs HE.out
        refine hK.out _ _ (Or.inr s0) ?_
        clear hK K
        try simp only [Act.put, List.setIfInBounds_toArray, List.set_cons_zero, List.set_cons_succ]
        apply Till.take (i := 6) [6, 7, 8, 9, 12, 16]
        · simp only [List.getElem?_toArray, List.getElem?_cons_succ, List.getElem?_cons_zero]
          rfl
        · kernel_rfl
        · kernel_rfl
        · kernel_rfl
        · kernel_rfl
        · exact fun _ _ _ h => h
        · first
            | exact Or.inr ⟨by rfl, rfl⟩
            | (refine Or.inl ⟨by rfl, fun wq hwq => ?_⟩
               dsimp only at hwq
               go_simp
               first
                 | done
                 | rfl)
        · exact s0
        simp only [Act.put, List.setIfInBounds_toArray, List.set_cons_zero, List.set_cons_succ]
        apply Till.one (i := 7)
        · kernel_rfl
        · simp only [List.getElem?_toArray, List.getElem?_cons_succ, List.getElem?_cons_zero]
          rfl
        intro K hK
        go_simp
        refine (spec_max 0 t1 _).mono ?_
        rintro e' u11 ⟨he, hw⟩
        subst he
        obtain rfl : u10 = u11 := hw.symm
        clear hw
        obtain ⟨m, hm⟩ : ∃ m, m = mx 0 t1 := ⟨_, rfl⟩
        have HMb : Hid (0 ≤ m ∧ m ≤ 100010) := Lib.hid (by have := mx_zero t1; have := HT1.out; omega)
        rw [← hm]
        clear hm ht1w
        refine hK.out _ _ (Or.inr s0) ?_
        clear hK K
        try simp only [Act.put, List.setIfInBounds_toArray, List.set_cons_zero, List.set_cons_succ]
        apply Till.one (i := 8)
        · kernel_rfl
        · simp only [List.getElem?_toArray, List.getElem?_cons_succ, List.getElem?_cons_zero]
          rfl
        intro K hK
        go_simp
        refine (spec_kf HO.out.rd (Nat.le_refl _) HCw.out HSw.out (w19 (x := m) (by have := HMb.out; omega) (by have := HMb.out; omega)) (by have := HXl.out; omega)).mono ?_
        have hOk' := kf_okR (t := m) HOk.out
        obtain ⟨C, hC⟩ : ∃ C, C = kfC c s xs m := ⟨_, rfl⟩
        obtain ⟨S, hS⟩ : ∃ S, S = kfS c s xs m := ⟨_, rfl⟩
        obtain ⟨ys, hys⟩ : ∃ L, L = kfL c s xs m := ⟨_, rfl⟩
        obtain ⟨kM, hkM⟩ : ∃ L, L = kfM c s xs m := ⟨_, rfl⟩
        obtain ⟨kq, hkq⟩ : ∃ L, L = kfq c s xs m := ⟨_, rfl⟩
        rw [← hC, ← hS, ← hys, ← hkM, ← hkq]
        rw [← hC, ← hS, ← hys] at hOk'
        clear hC hS hys hkM hkq
        rintro e' u12 ⟨vN, he, hN, hb⟩
        subst he
        obtain ⟨aN, nN, hvN, _⟩ := hN.open
        obtain ⟨lN, hlN⟩ : ∃ l, l = ys.length := ⟨_, rfl⟩
        rw [← hlN] at hvN
        subst hvN
        clear hlN s0
        have HOk' := Lib.hid hOk'
        have HON := Lib.hid (hN.mono (B' := W0.heap.size) HG.out.size)
        clear hN hOk'
        replace HE := Lib.hid (rstand HE.out hb)
        replace HO := Lib.hid (HO.out.next hb)
        replace HC := Lib.hid (HC.out.kept (grown_of_below hb) (by simp) (fun r hr => by cases hr))
        replace HG := Lib.hid (grown_trans HG.out (grown_none (grown_of_below hb)))
        replace HX := Lib.hid (rstand HX.out hb)
        clear hb
        have s0 := rcs HE.out
        refine hK.out _ _ (Or.inr s0) ?_
        clear hK K
        try simp only [Act.put, List.setIfInBounds_toArray, List.set_cons_zero, List.set_cons_succ]
        apply Till.take (i := 9) [9, 12, 16]
        · simp only [List.getElem?_toArray, List.getElem?_cons_succ, List.getElem?_cons_zero]
          rfl
        · kernel_rfl
        · kernel_rfl
        · kernel_rfl
        · kernel_rfl
        · exact fun _ _ _ h => h
        · first
            | exact Or.inr ⟨by rfl, rfl⟩
            | (refine Or.inl ⟨by rfl, fun wq hwq => ?_⟩
               dsimp only at hwq
               go_simp
               first
                 | done
                 | rfl)
        · exact s0
        simp only [Act.put, List.setIfInBounds_toArray, List.set_cons_zero, List.set_cons_succ]
        apply Till.take (i := 10) [10, 14, 15, 16]
        · simp only [List.getElem?_toArray, List.getElem?_cons_succ, List.getElem?_cons_zero]
          rfl
        · kernel_rfl
        · kernel_rfl
        · kernel_rfl
        · kernel_rfl
        · exact fun _ _ _ h => h
        · first
            | exact Or.inr ⟨by rfl, rfl⟩
            | (refine Or.inl ⟨by rfl, fun wq hwq => ?_⟩
               dsimp only at hwq
               go_simp
               first
                 | done
                 | rfl)
        · exact s0
        simp only [Act.put, List.setIfInBounds_toArray, List.set_cons_zero, List.set_cons_succ]
        apply Till.take (i := 11) [11, 15, 16]
        · simp only [List.getElem?_toArray, List.getElem?_cons_succ, List.getElem?_cons_zero]
          rfl
        · kernel_rfl
        · kernel_rfl
        · kernel_rfl
        · kernel_rfl
        · exact fun _ _ _ h => h
        · first
            | exact Or.inr ⟨by rfl, rfl⟩
            | (refine Or.inl ⟨by rfl, fun wq hwq => ?_⟩
               dsimp only at hwq
               go_simp
               first
                 | done
                 | rfl)
        · exact s0
        simp only [Act.put, List.setIfInBounds_toArray, List.set_cons_zero, List.set_cons_succ]
        apply Till.take (i := 12) [12, 16]
        · simp only [List.getElem?_toArray, List.getElem?_cons_succ, List.getElem?_cons_zero]
          rfl
        · kernel_rfl
        · kernel_rfl
        · kernel_rfl
        · kernel_rfl
        · exact fun _ _ _ h => h
        · first
            | exact Or.inr ⟨by rfl, rfl⟩
            | (refine Or.inl ⟨by rfl, fun wq hwq => ?_⟩
               dsimp only at hwq
               go_simp
               first
                 | done
                 | rfl)
        · exact s0
        simp only [Act.put, List.setIfInBounds_toArray, List.set_cons_zero, List.set_cons_succ]
        obtain ⟨wz, hwz⟩ : ∃ x, x = u12 := ⟨_, rfl⟩
        rw [← hwz] at HE HX HO HC HG HON s0 ⊢
        clear hwz
        obtain ⟨q0, q1, q2⟩ := rcs HX.out
        obtain ⟨f0, f1, f2⟩ := rfr HX.out
        obtain ⟨k9, g9⟩ := rst HX.out (.int .i64 C) (.int .i64 S) (.slice aN lN nN)
        have hE := (g9.block _ (lt_of_block HE.out) (fun h => by injection h with h; have := HElt.out; omega)).trans HE.out
        have hO := HO.out.kept g9 (Or.inr (fun hh => owns_ne_box (by decide) HO.out HX.out _ hh rfl))
        have hN := HON.out.kept g9 (Or.inr (fun hh => owns_ne_box (by decide) HON.out HX.out _ hh rfl))
        have hC := HC.out.kept g9 (fun h => by injection h with h; have := HElt.out; have := HGl.out; have := HLt.out; have := HW.out; omega) (fun r hr => by injection hr with hr; have := HElt.out; have := HGl.out; have := HLt.out; have := HW.out; omega)
        have hG := grown_own HG.out g9 (fun r hr => by injection hr with hr; have := HElt.out; have := HGl.out; have := HLt.out; have := HW.out; omega)
        replace HX := Lib.hid k9
        replace HE := Lib.hid hE
        replace HO := Lib.hid hO
        replace HON := Lib.hid hN
        replace HC := Lib.hid hC
        replace HG := Lib.hid hG
        clear k9 g9 hE hO hN hC hG s0
        have s9 := rcs HE.out
        apply Till.one (i := 14)
        · kernel_rfl
        · simp only [List.getElem?_toArray, List.getElem?_cons_succ, List.getElem?_cons_zero]
          rfl
        intro K hK
        go_simp
        skip
        refine hK.out _ _ (Or.inr s9) ?_
        clear hK K
        try simp only [Act.put, List.setIfInBounds_toArray, List.set_cons_zero, List.set_cons_succ]
        apply Till.one (i := 15)
        · kernel_rfl
        · simp only [List.getElem?_toArray, List.getElem?_cons_succ, List.getElem?_cons_zero]
          rfl
        intro K hK
        go_simp
        skip
        refine hK.out _ _ (Or.inr s9) ?_
        clear hK K
        try simp only [Act.put, List.setIfInBounds_toArray, List.set_cons_zero, List.set_cons_succ]
        apply Till.one (i := 16)
        · kernel_rfl
        · simp only [List.getElem?_toArray, List.getElem?_cons_succ, List.getElem?_cons_zero]
          rfl
        intro K hK
        go_simp
        skip
        refine hK.out _ _ (Or.inl (by rfl)) ?_
        clear hK K
        try simp only [Act.put, List.setIfInBounds_toArray, List.set_cons_zero, List.set_cons_succ]
        refine Till.done (by kernel_rfl) ?_ _
        clear q0 q1 q2 f0 f1 f2 s9
        obtain ⟨wy, hwy⟩ : ∃ zz, zz = ((wz.setCell ⟨E, 0, none⟩ (.int .i64 C)).setCell ⟨E, 1, none⟩ (.int .i64 S)).setCell ⟨E, 2, none⟩ (.slice aN lN nN) := ⟨_, rfl⟩
        rw [← hwy] at HE HX HO HC HG HON ⊢
        clear hwy
        obtain ⟨x0, x1, x2⟩ := rcs HX.out
        obtain ⟨q0, q1, q2⟩ := rcs HE.out
        obtain ⟨f0, f1, f2⟩ := rfr HE.out
        obtain ⟨k9, g9⟩ := rst HE.out (.int .i64 C) (.int .i64 S) (.slice aN lN nN)
        have hN := HON.out.kept g9 (Or.inr (fun hh => owns_ne_box (by decide) HON.out HE.out _ hh rfl))
        have hC := HC.out.kept g9 (fun h => by injection h with h; have := HGl.out; have := HLt.out; have := HW.out; omega) (fun r hr => by injection hr with hr; have := HGl.out; have := HLt.out; have := HW.out; omega)
        have hG := grown_own HG.out g9 (fun r hr => by injection hr with hr; have := HGl.out; omega)
        have HE9 := Lib.hid k9
        have HN9 := Lib.hid hN
        have HC9 := Lib.hid hC
        have HG9 := Lib.hid hG
        clear k9 g9 hN hC hG
        go_wp2_with fail
        go_roundw
        case rel => exact ⟨j - 1, C, S, _, ys, by simp; omega, by omega, HOk'.out, HE9.out, HN9.out, HC9.out, HG9.out⟩
        case measure => simp [intOf]; omega
    · have e1 : decide ((0 : Int) < (j : Int)) = false := decide_eq_false (by omega)
      have hk := (HG.out.block _ HL0.out (fun h => by injection h with h; have := HLt.out; omega)).trans HZ.out
      obtain ⟨q0, q1, q2⟩ := rcs hk
      obtain ⟨f0, f1, f2⟩ := rfr hk
      obtain ⟨x0, x1, x2⟩ := rcs HE.out
      obtain ⟨k9, g9⟩ := rst hk (.int .i64 c) (.int .i64 s) (.slice a nl cp)
      obtain ⟨r0, r1, r2⟩ := rcs k9
      have HO9 := Lib.hid ((HO.out.kept g9 (Or.inr (fun hh => by have := (HO.out.lt _ hh).1; have := HW.out; omega))).mono (show w.heap.size ≤ W0.heap.size by have := HW.out; omega))
      have HC9 := Lib.hid (HC.out.kept g9 (fun h => by injection h with h; have := HLt.out; omega) (fun r hr => by injection hr with hr; have := HLt.out; omega))
      have HG9 := Lib.hid (grown_own (grown_trans (grown_none HG0.out) HG.out) g9 (fun r hr => by injection hr with hr; omega))
      clear k9 g9 hk
      go_wp2_with fail
      exact bodyPost_ret (v := .agg #[.int .i64 c, .int .i64 s, .slice a nl cp]) (by simp [results, Try.results25, go_sem, r0, r1, r2]) rfl ⟨c, s, _, xs, rfl, HOk.out, HO9.out, HC9.out, HG9.out⟩

end Go.Proofs.Ytlbijjifeaimjaa
