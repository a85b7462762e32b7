/- Chapter 17's draws: a list of spent numbers, what SpendToken and MergeSpent take. No conditions but sizes that a machine holds. -/
import Derived.Test.YtdlbpeippmibcaaSpC
import Derived.Test.YtdlbpeippmibcaaDrawB
import Derived.Test.YtdlbpeippmibcaaBaD
import Derived.Test.YtdlbpeippmibcaaDraw15
namespace Go.Proofs.Ytdlbpeippmibcaa
open Go Go.RowKit
set_option linter.unusedVariables false
set_option maxRecDepth 20000
attribute [local irreducible] kh kid pwm tcm pw chl

/-- A row of the call's own is no block of another type. -/
theorem own_ne_box {e T : TypeId} {k : IntKind} {B G : Nat} {w : World} {v : Value} {zs : List Int} {C : Array Value} {fr : Nat × Nat} (hT : e ≠ T) (h : Own e k B w v zs) (hE : w.heap[G]? = some (.cells C T fr)) : ∀ r, v.ownBlock = some r → r ≠ G := by
  intro r hr hG
  obtain ⟨_, _, _, h2⟩ := h
  rcases h2 with ⟨rfl, _⟩ | ⟨g, cap, cur, rfl, _, hg, _⟩
  · cases hr
  · have : g = r := by injection hr
    subst this hG
    rw [hg] at hE
    injection hE with hE
    injection hE with _ h1
    exact hT h1
theorem w17 {x : Int} (h1 : -9223372036854775808 ≤ x) (h2 : x ≤ 9223372036854775807) : (Lit.int .i64 x).wf = true := wf_i64_of h1 h2

set_option maxHeartbeats 16000000 in
/-- spec.l17List -/
theorem list17 (B b : Nat) (w : World) (h : Cur B b w) :
    Calls Try.prog 43 #[.pointer (some ⟨b, 0, none⟩)] w fun e w' => ∃ (x : Int) (v : Value) (zs : List Int), e = .returned (.agg #[.int .i64 x, v]) ∧ (Lit.int .i64 x).wf = true ∧ Own 3 .i64 w.heap.size w' v zs ∧ zs.length ≤ 41 ∧ Cur B b w' ∧ w.grownBy w' (some b) := by
  obtain ⟨i0, hi, hz0, hz1, hz2⟩ := info_parts infoi64
  have Hhi := Lib.hid hi
  have hk := heap_alloc_new w (.cells #[.int .i64 0, .slice none 0 0] 26)
  have hg0 := World.grownBy_alloc w (.cells #[.int .i64 0, .slice none 0 0] 26) none
  have hc0 := h.alloc (.cells #[.int .i64 0, .slice none 0 0] 26)
  obtain ⟨W0, hW0⟩ : ∃ W, W = w.alloc (.cells #[.int .i64 0, .slice none 0 0] 26) := ⟨_, rfl⟩
  have HW : Hid (W0.heap.size = w.heap.size + 1) := Lib.hid (by rw [hW0, World.size_alloc])
  have HL0 : Hid (w.heap.size < W0.heap.size) := Lib.hid (by have := HW.out; omega)
  rw [← hW0] at hk hg0 hc0
  have HW0 := Lib.hid hW0
  have HLt := Lib.hid h.lt
  have HZ := Lib.hid hk
  have HG0 := Lib.hid hg0
  have HC := Lib.hid hc0
  clear hi hk hg0 hc0 hW0 h
  go_enter Try.func43, Try.ntmps43
  go_wp2_with fail
  rw [← HW0.out]
  refine (below_any B b 3 _ HC.out (by omega) (by omega)).mono ?_
  rintro e w1 ⟨y, y0, y1, rfl, hc, hg⟩
  have HC1 := Lib.hid hc
  have HG1 := Lib.hid hg
  clear HC hc hg
  go_wp2_with fail
  refine (spec_nsl (w17 (by omega) (by omega))).mono ?_
  rintro e w2 ⟨rfl, hb⟩
  obtain ⟨x, hx⟩ : ∃ x, x = epN y := ⟨_, rfl⟩
  have HX : Hid ((Lit.int .i64 x).wf = true) := Lib.hid (by rw [hx]; unfold epN; split; exact w17 (by omega) (by omega); decide)
  rw [← hx]
  clear hx
  have hC := HC1.out.kept (grown_of_below hb) (by simp) (fun r hr => by cases hr)
  have hG := grown_trans HG1.out (grown_none (grown_of_below hb))
  have hE := heap_alloc_new w2 (.cells #[.int .i64 x, .slice none 0 0] 26)
  have hC2 := hC.alloc (.cells #[.int .i64 x, .slice none 0 0] 26)
  have hG2 := grown_trans hG (grown_none (World.grownBy_alloc w2 (.cells #[.int .i64 x, .slice none 0 0] 26) none))
  obtain ⟨W1, hW1⟩ : ∃ W, W = w2.alloc (.cells #[.int .i64 x, .slice none 0 0] 26) := ⟨_, rfl⟩
  obtain ⟨G, hGn⟩ : ∃ G, G = w2.heap.size := ⟨_, rfl⟩
  have HGl : Hid (W0.heap.size ≤ G) := Lib.hid (by rw [hGn]; exact hG.size)
  rw [← hW1, ← hGn] at hE
  rw [← hW1] at hC2 hG2
  have HW1 := Lib.hid hW1
  have HGn := Lib.hid hGn
  have HE := Lib.hid hE
  have HO : Hid (Own 3 .i64 W0.heap.size W1 (.slice none 0 0) []) := Lib.hid (Own.nil _ _ hG2.size)
  have HC := Lib.hid hC2
  have HG := Lib.hid hG2
  clear hb hC hG hE hC2 hG2 hW1 hGn HC1 HG1 y0 y1
  go_wp2_with (rw [← HW1.out, ← HGn.out])
  refine (int_alloc B b 0 9 [0, 2, 5, 9] 3 4 _ HC.out rfl (by omega) (by omega) (by intro z hz; simp at hz; omega)).mono ?_
  rintro e w3 ⟨y, y0, y1, rfl, hc, hg⟩
  have hE := (hg.block _ (lt_of_block HE.out) (fun h => by injection h with h; have := HGl.out; have := HLt.out; have := HW.out; omega)).trans HE.out
  have hO := HO.out.cur (show b < W0.heap.size by have := HLt.out; have := HW.out; omega) hg
  replace HE := Lib.hid hE
  replace HO := Lib.hid hO
  replace HC := Lib.hid hc
  replace HG := Lib.hid (grown_trans HG.out hg)
  clear hc hg hE hO
  obtain ⟨n, rfl⟩ : ∃ n : Nat, y = (n : Int) := ⟨y.toNat, by omega⟩
  have hn9 : n ≤ 9 := by omega
  clear y0 y1
  go_wp2_with fail
  go_loopw [4] (fun i wr => ∃ (j : Nat) (vo : Value) (zs : List Int), i = .int .i64 j ∧ j ≤ 9 ∧ zs.length + j ≤ 9 ∧ wr.heap[G]? = some (.cells #[.int .i64 x, vo] 26 (0, 0)) ∧ Own 3 .i64 W0.heap.size wr vo zs ∧ (∀ r, vo.ownBlock = some r → r ≠ G) ∧ Cur B b wr ∧ W0.grownBy wr (some b)) (fun i _ => (intOf i).toNat)
  case atStart => exact ⟨n, _, [], rfl, hn9, by simpa using hn9, HE.out, HO.out, fun r hr => by simp [Value.ownBlock] at hr, HC.out, HG.out⟩
  case round =>
    obtain ⟨j, vo, zs, rfl, hj, hlj, hE, hO, hne, hC, hG⟩ := hrel
    clear HE HO HC HG hn9
    obtain ⟨a, c, hv, _⟩ := hO.open
    subst hv
    obtain ⟨nl, hnl⟩ : ∃ x, x = zs.length := ⟨_, rfl⟩
    rw [← hnl] at hE hO hne
    have HNl := Lib.hid hnl
    have HE := Lib.hid hE
    have HO := Lib.hid hO
    have HNe := Lib.hid hne
    have HC := Lib.hid hC
    have HG := Lib.hid hG
    obtain ⟨x0, x1, _⟩ := scs HE.out
    clear hE hO hne hC hG hnl
    have hnl : nl + j ≤ 9 := by rw [HNl.out]; exact hlj
    clear hlj
    by_cases hlt : 0 < j
    · have e1 : decide ((0 : Int) < (j : Int)) = true := decide_eq_true (by omega)
      clear x0 x1
      go_wp2_with fail
      refine (below_any B b 30 _ HC.out (by omega) (by omega)).mono ?_
      rintro e w4 ⟨y, y0, y1, rfl, hc, hg⟩
      have hE := (hg.block _ (lt_of_block HE.out) (fun h => by injection h with h; have := HGl.out; have := HLt.out; have := HW.out; omega)).trans HE.out
      have hO := HO.out.cur (show b < W0.heap.size by have := HLt.out; have := HW.out; omega) hg
      replace HE := Lib.hid hE
      replace HO := Lib.hid hO
      replace HC := Lib.hid hc
      replace HG := Lib.hid (grown_trans HG.out hg)
      clear hc hg hE hO
      obtain ⟨x0, x1, _⟩ := scs HE.out
      obtain ⟨m, hm⟩ : ∃ m, m = memS zs y := ⟨_, rfl⟩
      have HMem := Lib.hid hm
      clear hm
      go_wp2_with fail
      refine (spec_iss HO.out.rd (Nat.le_refl _)).mono ?_
      rw [← HMem.out]
      rintro e w5 ⟨rfl, hb⟩
      have hE := (hb.block _ (lt_of_block HE.out)).trans HE.out
      have hO := HO.out.next hb
      have hC := HC.out.kept (grown_of_below hb) (by simp) (fun r hr => by cases hr)
      replace HE := Lib.hid hE
      replace HO := Lib.hid hO
      replace HC := Lib.hid hC
      replace HG := Lib.hid (grown_trans HG.out (grown_none (grown_of_below hb)))
      clear hb hE hO hC
      clear x0 x1
      obtain ⟨x0, x1, _⟩ := scs HE.out
      cases m with
      | true =>
        go_wp2_with fail
        go_roundw
        case rel => exact ⟨j - 1, _, zs, by simp; omega, by omega, by rw [← HNl.out]; omega, HE.out, HO.out, HNe.out, HC.out, HG.out⟩
        case measure => simp [intOf]; omega
      | false =>
        go_wp2_with fail
        refine (spec_ins HO.out.rd (Nat.le_refl _) (by rw [← HNl.out]; omega) (w17 (by omega) (by omega))).mono ?_
        rintro e' w8 ⟨v8, rfl, hO8, hb⟩
        obtain ⟨a8, c8, hv8, _⟩ := hO8.open
        subst hv8
        have HNe8 := Lib.hid (show ∀ r, (Value.slice a8 (insS zs y).length c8).ownBlock = some r → r ≠ G from fun r hr => by have := (hO8.lt r hr).1; have := lt_of_block HE.out; omega)
        have HO8 := Lib.hid (hO8.mono HG.out.size)
        obtain ⟨nl8, hnl8⟩ : ∃ x, x = (insS zs y).length := ⟨_, rfl⟩
        rw [← hnl8] at HO8 HNe8 ⊢
        have HNl8 : Hid (nl8 = zs.length + 1) := Lib.hid (by rw [hnl8, insS_len])
        clear hO8 hnl8
        have hE := (hb.block _ (lt_of_block HE.out)).trans HE.out
        have hO := HO.out.next hb
        have hC := HC.out.kept (grown_of_below hb) (by simp) (fun r hr => by cases hr)
        replace HE := Lib.hid hE
        replace HO := Lib.hid hO
        replace HC := Lib.hid hC
        replace HG := Lib.hid (grown_trans HG.out (grown_none (grown_of_below hb)))
        clear hb hE hO hC
        obtain ⟨q0, q1, f0, f1⟩ := scs HE.out
        obtain ⟨k9, g9⟩ := sst HE.out (.int .i64 x) (.slice a8 nl8 c8)
        have HO9 := Lib.hid (HO8.out.kept g9 (Or.inr (fun hh => HNe8.out _ hh rfl)))
        have HC9 := Lib.hid (HC.out.kept g9 (fun h => by injection h with h; have := HGl.out; have := HLt.out; have := HW.out; omega) (fun r hr => by injection hr with hr; have := HGl.out; have := HLt.out; have := HW.out; omega))
        have HG9 := Lib.hid (grown_own HG.out g9 (fun r hr => by injection hr with hr; have := HGl.out; omega))
        have HE9 := Lib.hid k9
        clear k9 g9
        go_wp2_with fail
        go_roundw
        case rel => exact ⟨j - 1, _, _, by simp; omega, by omega, by rw [insS_len, ← HNl.out]; omega, HE9.out, HO9.out, HNe8.out, HC9.out, HG9.out⟩
        case measure => simp [intOf]; omega
    · have e1 : decide ((0 : Int) < (j : Int)) = false := decide_eq_false (by omega)
      clear x0 x1
      go_wp2_with fail
      go_loopw [6] (fun s wr => ∃ (j : Nat) (vo : Value) (zs : List Int), s = .int .i64 j ∧ 100 ≤ j ∧ j ≤ 140 ∧ zs.length ≤ 40 ∧ wr.heap[G]? = some (.cells #[.int .i64 x, vo] 26 (0, 0)) ∧ Own 3 .i64 W0.heap.size wr vo zs ∧ (∀ r, vo.ownBlock = some r → r ≠ G) ∧ Cur B b wr ∧ W0.grownBy wr (some b)) (fun s _ => 140 - (intOf s).toNat)
      case atStart => exact ⟨100, _, zs, rfl, by omega, by omega, by rw [← HNl.out]; omega, HE.out, HO.out, HNe.out, HC.out, HG.out⟩
      case round =>
        obtain ⟨s, vo, zs, rfl, hs0, hs1, hz40, hE, hO, hne, hC, hG⟩ := hrel
        clear HE HO HC HG HNe HNl hnl hj hlt e1
        obtain ⟨a, c, hv, _⟩ := hO.open
        subst hv
        obtain ⟨nl, hnl⟩ : ∃ x, x = zs.length := ⟨_, rfl⟩
        rw [← hnl] at hE hO hne
        have HNl := Lib.hid hnl
        have HE := Lib.hid hE
        have HO := Lib.hid hO
        have HNe := Lib.hid hne
        have HC := Lib.hid hC
        have HG := Lib.hid hG
        obtain ⟨x0, x1, _⟩ := scs HE.out
        clear hE hO hne hC hG hnl
        have hnl : nl ≤ 40 := by rw [HNl.out]; exact hz40
        clear hz40 x0 x1
        go_wp2_with fail
        refine (once_any B b 4 _ HC.out (by omega) (by omega)).mono ?_
        rintro e w4 ⟨t, rfl, hc, hg⟩
        have hE := (hg.block _ (lt_of_block HE.out) (fun h => by injection h with h; have := HGl.out; have := HLt.out; have := HW.out; omega)).trans HE.out
        have hO := HO.out.cur (show b < W0.heap.size by have := HLt.out; have := HW.out; omega) hg
        replace HE := Lib.hid hE
        replace HO := Lib.hid hO
        replace HC := Lib.hid hc
        replace HG := Lib.hid (grown_trans HG.out hg)
        clear hc hg hE hO
        obtain ⟨x0, x1, _⟩ := scs HE.out
        by_cases hgo : t = true ∧ s < 140 ∧ nl < 40
        · obtain ⟨rfl, hs, hnn⟩ := hgo
          have e2 : decide ((s : Int) < 140) = true := by simp; omega
          have e3 : decide ((nl : Int) < 40) = true := by simp; omega
          go_wp2_with fail
          clear e2 e3
          go_loopw [6] (fun s' wr => ∃ (j : Nat) (vo : Value) (zs : List Int), s' = .int .i64 j ∧ 100 ≤ j ∧ j ≤ 140 ∧ zs.length ≤ 40 ∧ ((j = s ∧ zs.length < 40) ∨ s < j) ∧ wr.heap[G]? = some (.cells #[.int .i64 x, vo] 26 (0, 0)) ∧ Own 3 .i64 W0.heap.size wr vo zs ∧ (∀ r, vo.ownBlock = some r → r ≠ G) ∧ Cur B b wr ∧ W0.grownBy wr (some b)) (fun s _ => 140 - (intOf s).toNat)
          case atStart => exact ⟨s, _, zs, rfl, by omega, by omega, by rw [← HNl.out]; omega, Or.inl ⟨rfl, by rw [← HNl.out]; omega⟩, HE.out, HO.out, HNe.out, HC.out, HG.out⟩
          case round =>
            obtain ⟨j, vo, zs, rfl, hj0, hj1, hz40, hor, hE, hO, hne, hC, hG⟩ := hrel
            clear HE HO HC HG HNe HNl hnl hnn x0 x1
            obtain ⟨a, c, hv, _⟩ := hO.open
            subst hv
            obtain ⟨nl, hnl⟩ : ∃ x, x = zs.length := ⟨_, rfl⟩
            rw [← hnl] at hE hO hne
            have HNl := Lib.hid hnl
            have HE := Lib.hid hE
            have HO := Lib.hid hO
            have HNe := Lib.hid hne
            have HC := Lib.hid hC
            have HG := Lib.hid hG
            obtain ⟨x0, x1, _⟩ := scs HE.out
            clear hE hO hne hC hG hnl
            have hnl : nl ≤ 40 := by rw [HNl.out]; exact hz40
            have hor' : (j = s ∧ nl < 40) ∨ s < j := by rw [HNl.out]; exact hor
            have HOr := Lib.hid hor'
            clear hz40 hor hor'
            by_cases hin : j < 140 ∧ nl < 40
            · obtain ⟨h1, h2⟩ := hin
              have e2 : decide ((j : Int) < 140) = true := by simp; omega
              have e3 : decide ((nl : Int) < 40) = true := by simp; omega
              go_wp2_with fail
              refine (spec_ins HO.out.rd (Nat.le_refl _) (by rw [← HNl.out]; omega) (w17 (by omega) (by omega))).mono ?_
              rintro e' w8 ⟨v8, rfl, hO8, hb⟩
              obtain ⟨a8, c8, hv8, _⟩ := hO8.open
              subst hv8
              have HNe8 := Lib.hid (show ∀ r, (Value.slice a8 (insS zs (j : Int)).length c8).ownBlock = some r → r ≠ G from fun r hr => by have := (hO8.lt r hr).1; have := lt_of_block HE.out; omega)
              have HO8 := Lib.hid (hO8.mono HG.out.size)
              obtain ⟨nl8, hnl8⟩ : ∃ x, x = (insS zs (j : Int)).length := ⟨_, rfl⟩
              rw [← hnl8] at HO8 HNe8 ⊢
              have HNl8 : Hid (nl8 = zs.length + 1) := Lib.hid (by rw [hnl8, insS_len])
              clear hO8 hnl8
              have hE := (hb.block _ (lt_of_block HE.out)).trans HE.out
              have hO := HO.out.next hb
              have hC := HC.out.kept (grown_of_below hb) (by simp) (fun r hr => by cases hr)
              replace HE := Lib.hid hE
              replace HO := Lib.hid hO
              replace HC := Lib.hid hC
              replace HG := Lib.hid (grown_trans HG.out (grown_none (grown_of_below hb)))
              clear hb hE hO hC
              obtain ⟨q0, q1, f0, f1⟩ := scs HE.out
              obtain ⟨k9, g9⟩ := sst HE.out (.int .i64 x) (.slice a8 nl8 c8)
              have HO9 := Lib.hid (HO8.out.kept g9 (Or.inr (fun hh => HNe8.out _ hh rfl)))
              have HC9 := Lib.hid (HC.out.kept g9 (fun h => by injection h with h; have := HGl.out; have := HLt.out; have := HW.out; omega) (fun r hr => by injection hr with hr; have := HGl.out; have := HLt.out; have := HW.out; omega))
              have HG9 := Lib.hid (grown_own HG.out g9 (fun r hr => by injection hr with hr; have := HGl.out; omega))
              have HE9 := Lib.hid k9
              clear k9 g9
              go_wp2_with fail
              go_roundw
              case rel => exact ⟨j + 1, _, _, by simp, by omega, by omega, by rw [insS_len, ← HNl.out]; omega, Or.inr (by have := HOr.out; omega), HE9.out, HO9.out, HNe8.out, HC9.out, HG9.out⟩
              case measure => simp [intOf]; omega
            · have hsj : s < j := by have := HOr.out; omega
              have HSj := Lib.hid hsj
              clear hsj
              by_cases h1 : j < 140
              · have e2 : decide ((j : Int) < 140) = true := by simp; omega
                have e3 : decide ((nl : Int) < 40) = false := by simp; omega
                go_wp2_with fail
                go_roundw
                case rel => exact ⟨j, _, zs, rfl, by omega, by omega, by rw [← HNl.out]; omega, HE.out, HO.out, HNe.out, HC.out, HG.out⟩
                case measure => have := HSj.out; simp [intOf]; omega
              · have e2 : decide ((j : Int) < 140) = false := by simp; omega
                go_wp2_with fail
                go_roundw
                case rel => exact ⟨j, _, zs, rfl, by omega, by omega, by rw [← HNl.out]; omega, HE.out, HO.out, HNe.out, HC.out, HG.out⟩
                case measure => have := HSj.out; simp [intOf]; omega
        · -- the way out
          have hstop : (t = false) ∨ (t = true ∧ ¬ s < 140) ∨ (t = true ∧ s < 140 ∧ ¬ nl < 40) := by
            cases t with
            | false => exact Or.inl rfl
            | true =>
              by_cases h1 : s < 140
              · exact Or.inr (Or.inr ⟨rfl, h1, fun h => hgo ⟨rfl, h1, h⟩⟩)
              · exact Or.inr (Or.inl ⟨rfl, h1⟩)
          clear hgo
          rcases hstop with rfl | ⟨rfl, h1⟩ | ⟨rfl, h1, h2⟩
          · go_wp2_with fail
            refine (below_any B b 10 _ HC.out (by omega) (by omega)).mono ?_
            rintro e w5 ⟨y, y0, y1, rfl, hc, hg⟩
            clear x0 x1
            have hE := (hg.block _ (lt_of_block HE.out) (fun h => by injection h with h; have := HGl.out; have := HLt.out; have := HW.out; omega)).trans HE.out
            have hO := HO.out.cur (show b < W0.heap.size by have := HLt.out; have := HW.out; omega) hg
            replace HE := Lib.hid hE
            replace HO := Lib.hid hO
            replace HC := Lib.hid hc
            replace HG := Lib.hid (grown_trans HG.out hg)
            clear hc hg hE hO
            obtain ⟨x0, x1, _⟩ := scs HE.out
            by_cases h0 : y = 0
            case pos =>
              subst h0
              clear x0 x1
              go_wp2_with fail
              refine (int_alloc B b (-1) 1000000000001 [-1, 1000000000000, 1000000000001] 3 3 _ HC.out rfl (by omega) (by omega) (by intro z hz; simp at hz; omega)).mono ?_
              rintro e w6 ⟨z, z0, z1, rfl, hc, hg⟩
              have hE := (hg.block _ (lt_of_block HE.out) (fun h => by injection h with h; have := HGl.out; have := HLt.out; have := HW.out; omega)).trans HE.out
              have hO := HO.out.cur (show b < W0.heap.size by have := HLt.out; have := HW.out; omega) hg
              replace HE := Lib.hid hE
              replace HO := Lib.hid hO
              replace HC := Lib.hid hc
              replace HG := Lib.hid (grown_trans HG.out hg)
              clear hc hg hE hO
              have k9 := blk_set HE.out 0 (.int .i64 z)
              have g9 := grown_set w6 G 0 (.int .i64 z)
              have hO := HO.out.kept g9 (Or.inr (fun hh => HNe.out _ hh rfl))
              have hC := HC.out.kept g9 (fun h => by injection h with h; have := HGl.out; have := HLt.out; have := HW.out; omega) (fun r hr => by injection hr with hr; have := HGl.out; have := HLt.out; have := HW.out; omega)
              have hG := grown_own HG.out g9 (fun r hr => by injection hr with hr; have := HGl.out; omega)
              obtain ⟨g0, g1, fg0, fg1⟩ := scs HE.out
              have hE : (w6.setCell ⟨G, 0, none⟩ (.int .i64 z)).heap[G]? = some (.cells #[.int .i64 z, .slice a nl c] 26 (0, 0)) := k9
              replace HE := Lib.hid hE
              replace HO := Lib.hid hO
              replace HC := Lib.hid hC
              replace HG := Lib.hid hG
              clear k9 g9 hO hC hG hE
              have hk := (HG.out.block _ HL0.out (fun h => by injection h with h; have := HLt.out; omega)).trans HZ.out
              obtain ⟨q0, q1, f0, f1⟩ := scs hk
              obtain ⟨x0, x1, _⟩ := scs HE.out
              obtain ⟨k9, g9⟩ := sst hk (.int .i64 z) (.slice a nl c)
              obtain ⟨r0, r1, _⟩ := scs k9
              have HO9 := Lib.hid ((HO.out.kept g9 (Or.inr (fun hh => by have := (HO.out.lt _ hh).1; have := HW.out; omega))).mono (show w.heap.size ≤ W0.heap.size by have := HW.out; omega))
              have HC9 := Lib.hid (HC.out.kept g9 (fun h => by injection h with h; have := HLt.out; omega) (fun r hr => by injection hr with hr; have := HLt.out; omega))
              have HG9 := Lib.hid (grown_own (grown_trans (grown_none HG0.out) HG.out) g9 (fun r hr => by injection hr with hr; omega))
              clear k9 g9 hk
              go_wp2_with fail
              exact bodyPost_ret (v := .agg #[.int .i64 z, .slice a nl c]) (by simp [results, Try.results43, go_sem, r0, r1]) rfl ⟨z, _, zs, rfl, w17 (by omega) (by omega), HO9.out, by have := HNl.out; omega, HC9.out, HG9.out⟩
            case neg =>
            by_cases h1 : y = 1
            case pos =>
              subst h1
              clear h0
              go_wp2_with fail
              refine region_till (fun u => u.cell? ⟨G, 1, none⟩ = some (.slice a nl c)) 8 (by kernel_rfl) ?_
              obtain ⟨wd, hwd⟩ : ∃ x, x = w5.drew := ⟨_, rfl⟩
              have hb : Below w5.heap.size w5 wd := by rw [hwd]; exact (Below.refl _ _).drew
              rw [← hwd]
              clear x0 x1 hwd
              have hE := (hb.block _ (lt_of_block HE.out)).trans HE.out
              have hO := HO.out.next hb
              have hC := HC.out.kept (grown_of_below hb) (by simp) (fun r hr => by cases hr)
              replace HE := Lib.hid hE
              replace HO := Lib.hid hO
              replace HC := Lib.hid hC
              replace HG := Lib.hid (grown_trans HG.out (grown_none (grown_of_below hb)))
              clear hb hE hO hC
              have s0 : wd.cell? ⟨G, 1, none⟩ = some (.slice a nl c) := (scs HE.out).2.1
              apply Till.take (i := 0) [0, 1, 6, 8]
              · simp only [List.getElem?_toArray, List.getElem?_cons_zero]
                rfl
              · kernel_rfl
              · kernel_rfl
              · kernel_rfl
              · kernel_rfl
              · exact fun _ _ _ h => h
              · first
                  | exact Or.inr ⟨by rfl, rfl⟩
                  | (refine Or.inl ⟨by rfl, fun wq hwq => ?_⟩
                     dsimp only at hwq
                     go_simp
                     first
                       | done
                       | rfl)
              · exact s0
              simp only [Act.put, List.setIfInBounds_toArray, List.set_cons_zero, List.set_cons_succ]
              apply Till.take (i := 1) [1, 6, 8]
              · simp only [List.getElem?_toArray, List.getElem?_cons_succ, List.getElem?_cons_zero]
                rfl
              · kernel_rfl
              · kernel_rfl
              · kernel_rfl
              · kernel_rfl
              · exact fun _ _ _ h => h
              · first
                  | exact Or.inr ⟨by rfl, rfl⟩
                  | (refine Or.inl ⟨by rfl, fun wq hwq => ?_⟩
                     dsimp only at hwq
                     go_simp
                     first
                       | done
                       | rfl)
              · exact s0
              simp only [Act.put, List.setIfInBounds_toArray, List.set_cons_zero, List.set_cons_succ]
              apply Till.take (i := 2) [2, 4, 5, 6, 8]
              · simp only [List.getElem?_toArray, List.getElem?_cons_succ, List.getElem?_cons_zero]
                rfl
              · kernel_rfl
              · kernel_rfl
              · kernel_rfl
              · kernel_rfl
              · exact fun _ _ _ h => h
              · first
                  | exact Or.inr ⟨by rfl, rfl⟩
                  | (refine Or.inl ⟨by rfl, fun wq hwq => ?_⟩
                     dsimp only at hwq
                     go_simp
                     first
                       | done
                       | rfl)
              · exact s0
              simp only [Act.put, List.setIfInBounds_toArray, List.set_cons_zero, List.set_cons_succ]
              apply Till.one (i := 3)
              · kernel_rfl
              · simp only [List.getElem?_toArray, List.getElem?_cons_succ, List.getElem?_cons_zero]
                rfl
              intro K hK
              go_simp
              have s1 : (wd.alloc (.cells #[.int .i64 (-1), .int .i64 3, .int .i64 100000, .int .i64 100001] 3)).cell? ⟨G, 1, none⟩ = some (.slice a nl c) := (scs ((heap_alloc_old wd (.cells #[.int .i64 (-1), .int .i64 3, .int .i64 100000, .int .i64 100001] 3) (lt_of_block HE.out)).trans HE.out)).2.1
              refine hK.out _ _ (Or.inr s1) ?_
              clear hK K
              try simp only [Act.put, List.setIfInBounds_toArray, List.set_cons_zero, List.set_cons_succ]
              apply Till.one (i := 4)
              · kernel_rfl
              · simp only [List.getElem?_toArray, List.getElem?_cons_succ, List.getElem?_cons_zero]
                rfl
              intro K hK
              go_simp
              refine (int_alloc B b (-1) 100001 [-1, 3, 100000, 100001] 3 4 _ HC.out rfl (by omega) (by omega) (by intro z hz; simp at hz; omega)).mono ?_
              rintro e' w6 ⟨z, z0, z1, he, hc, hg⟩
              subst he
              clear s0 s1
              have hE := (hg.block _ (lt_of_block HE.out) (fun h => by injection h with h; have := HGl.out; have := HLt.out; have := HW.out; omega)).trans HE.out
              have hO := HO.out.cur (show b < W0.heap.size by have := HLt.out; have := HW.out; omega) hg
              replace HE := Lib.hid hE
              replace HO := Lib.hid hO
              replace HC := Lib.hid hc
              replace HG := Lib.hid (grown_trans HG.out hg)
              clear hc hg hE hO
              have s0 : w6.cell? ⟨G, 1, none⟩ = some (.slice a nl c) := (scs HE.out).2.1
              refine hK.out _ _ (Or.inr s0) ?_
              clear hK K
              try simp only [Act.put, List.setIfInBounds_toArray, List.set_cons_zero, List.set_cons_succ]
              apply Till.one (i := 5)
              · kernel_rfl
              · simp only [List.getElem?_toArray, List.getElem?_cons_succ, List.getElem?_cons_zero]
                rfl
              intro K hK
              go_simp
              have hb : Below w6.heap.size w6 (w6.alloc (.cells #[.int .i64 z] 3)) := (Below.refl _ _).alloc (Nat.le_refl _) _
              have HR1 := Lib.hid (Rd.one 3 .i64 w6 z (w17 (by omega) (by omega)))
              clear s0
              have hE := (hb.block _ (lt_of_block HE.out)).trans HE.out
              have hO := HO.out.next hb
              have hC := HC.out.kept (grown_of_below hb) (by simp) (fun r hr => by cases hr)
              replace HE := Lib.hid hE
              replace HO := Lib.hid hO
              replace HC := Lib.hid hC
              replace HG := Lib.hid (grown_trans HG.out (grown_none (grown_of_below hb)))
              clear hb hE hO hC
              have s0 : (w6.alloc (.cells #[.int .i64 z] 3)).cell? ⟨G, 1, none⟩ = some (.slice a nl c) := (scs HE.out).2.1
              refine hK.out _ _ (Or.inr s0) ?_
              clear hK K
              try simp only [Act.put, List.setIfInBounds_toArray, List.set_cons_zero, List.set_cons_succ]
              obtain ⟨w7, hw7⟩ : ∃ x, x = w6.alloc (.cells #[.int .i64 z] 3) := ⟨_, rfl⟩
              rw [← hw7] at HE HO HC HG HR1 s0 ⊢
              clear hw7
              apply Till.one (i := 6)
              · kernel_rfl
              · simp only [List.getElem?_toArray, List.getElem?_cons_succ, List.getElem?_cons_zero]
                rfl
              intro K hK
              refine step_append_rds _ (by rfl) _ _ 24 (by rfl) 3 i0 (.int .i64 0) 8 Try.underlying24 Hhi.out hz0 hz1 hz2 rfl (by omega) (by rfl) HO.out (by rfl) HR1.out (by have := HNl.out; simp only [List.length_singleton]; omega) ?_
              intro v8 w8 hO8 hg
              have hE := (hg.block _ (lt_of_block HE.out) (fun h => HNe.out _ h.symm rfl)).trans HE.out
              have hC := HC.out.kept hg (fun h => by have := (HO.out.lt _ h).1; have := HLt.out; have := HW.out; omega) (fun r hr => by have := (HO.out.lt r hr).1; have := HLt.out; have := HW.out; omega)
              have hG := grown_own HG.out hg (fun r hr => (HO.out.lt r hr).1)
              obtain ⟨a8, c8, hv8, _⟩ := hO8.open
              subst hv8
              obtain ⟨nl8, hnl8⟩ : ∃ x, x = (zs ++ [z]).length := ⟨_, rfl⟩
              rw [← hnl8] at hO8 ⊢
              have HNl8 : Hid (nl8 = nl + 1) := Lib.hid (by rw [hnl8, HNl.out]; simp)
              replace HE := Lib.hid hE
              replace HO := Lib.hid hO8
              replace HC := Lib.hid hC
              replace HG := Lib.hid hG
              clear hO8 hg hE hC hG s0 hnl8
              have s0 : w8.cell? ⟨G, 1, none⟩ = some (.slice a nl c) := (scs HE.out).2.1
              refine hK.out _ _ (Or.inr s0) ?_
              clear hK K
              try simp only [Act.put, List.setIfInBounds_toArray, List.set_cons_zero, List.set_cons_succ]
              apply Till.take (i := 7) [7, 8]
              · simp only [List.getElem?_toArray, List.getElem?_cons_succ, List.getElem?_cons_zero]
                rfl
              · kernel_rfl
              · kernel_rfl
              · kernel_rfl
              · kernel_rfl
              · exact fun _ _ _ h => h
              · first
                  | exact Or.inr ⟨by rfl, rfl⟩
                  | (refine Or.inl ⟨by rfl, fun wq hwq => ?_⟩
                     dsimp only at hwq
                     go_simp
                     first
                       | done
                       | rfl)
              · exact s0
              simp only [Act.put, List.setIfInBounds_toArray, List.set_cons_zero, List.set_cons_succ]
              clear s0
              have k9 := blk_set HE.out 1 (.slice a8 nl8 c8)
              have g9 := grown_set w8 G 1 (.slice a8 nl8 c8)
              have hO := HO.out.kept g9 (Or.inr (fun hh => own_ne_box (by decide) HO.out HE.out _ hh rfl))
              have hC := HC.out.kept g9 (fun h => by injection h with h; have := HGl.out; have := HLt.out; have := HW.out; omega) (fun r hr => by injection hr with hr; have := HGl.out; have := HLt.out; have := HW.out; omega)
              have hG := grown_own HG.out g9 (fun r hr => by injection hr with hr; have := HGl.out; omega)
              obtain ⟨g0, g1, fg0, fg1⟩ := scs HE.out
              have hE : (w8.setCell ⟨G, 1, none⟩ (.slice a8 nl8 c8)).heap[G]? = some (.cells #[.int .i64 x, .slice a8 nl8 c8] 26 (0, 0)) := k9
              replace HE := Lib.hid hE
              replace HO := Lib.hid hO
              replace HC := Lib.hid hC
              replace HG := Lib.hid hG
              clear k9 g9 hO hC hG hE
              apply Till.one (i := 8)
              · kernel_rfl
              · simp only [List.getElem?_toArray, List.getElem?_cons_succ, List.getElem?_cons_zero]
                rfl
              intro K hK
              go_simp
              skip
              refine hK.out _ _ (Or.inl (by rfl)) ?_
              clear hK K
              try simp only [Act.put, List.setIfInBounds_toArray, List.set_cons_zero, List.set_cons_succ]
              refine Till.done (by kernel_rfl) ?_ _
              clear g0 g1 fg0 fg1
              obtain ⟨w9, hw9⟩ : ∃ x, x = w8.setCell ⟨G, 1, none⟩ (.slice a8 nl8 c8) := ⟨_, rfl⟩
              rw [← hw9] at HE HO HC HG ⊢
              clear hw9
              have hk := (HG.out.block _ HL0.out (fun h => by injection h with h; have := HLt.out; omega)).trans HZ.out
              obtain ⟨q0, q1, f0, f1⟩ := scs hk
              obtain ⟨x0, x1, _⟩ := scs HE.out
              obtain ⟨k9, g9⟩ := sst hk (.int .i64 x) (.slice a8 nl8 c8)
              obtain ⟨r0, r1, _⟩ := scs k9
              have HO9 := Lib.hid ((HO.out.kept g9 (Or.inr (fun hh => by have := (HO.out.lt _ hh).1; have := HW.out; omega))).mono (show w.heap.size ≤ W0.heap.size by have := HW.out; omega))
              have HC9 := Lib.hid (HC.out.kept g9 (fun h => by injection h with h; have := HLt.out; omega) (fun r hr => by injection hr with hr; have := HLt.out; omega))
              have HG9 := Lib.hid (grown_own (grown_trans (grown_none HG0.out) HG.out) g9 (fun r hr => by injection hr with hr; omega))
              clear k9 g9 hk
              go_wp2_with fail
              exact bodyPost_ret (v := .agg #[.int .i64 x, .slice a8 nl8 c8]) (by simp [results, Try.results43, go_sem, r0, r1]) rfl ⟨x, _, _, rfl, HX.out, HO9.out, by have := HNl8.out; have := HNl.out; simp only [List.length_append, List.length_singleton]; omega, HC9.out, HG9.out⟩
            case neg =>
              have e4 : (y == 0) = false := beq_eq_false_iff_ne.2 h0
              have e5 : (y == 1) = false := beq_eq_false_iff_ne.2 h1
              clear h0 h1 x0 x1
              have hk := (HG.out.block _ HL0.out (fun h => by injection h with h; have := HLt.out; omega)).trans HZ.out
              obtain ⟨q0, q1, f0, f1⟩ := scs hk
              obtain ⟨x0, x1, _⟩ := scs HE.out
              obtain ⟨k9, g9⟩ := sst hk (.int .i64 x) (.slice a nl c)
              obtain ⟨r0, r1, _⟩ := scs k9
              have HO9 := Lib.hid ((HO.out.kept g9 (Or.inr (fun hh => by have := (HO.out.lt _ hh).1; have := HW.out; omega))).mono (show w.heap.size ≤ W0.heap.size by have := HW.out; omega))
              have HC9 := Lib.hid (HC.out.kept g9 (fun h => by injection h with h; have := HLt.out; omega) (fun r hr => by injection hr with hr; have := HLt.out; omega))
              have HG9 := Lib.hid (grown_own (grown_trans (grown_none HG0.out) HG.out) g9 (fun r hr => by injection hr with hr; omega))
              clear k9 g9 hk
              go_wp2_with fail
              exact bodyPost_ret (v := .agg #[.int .i64 x, .slice a nl c]) (by simp [results, Try.results43, go_sem, r0, r1]) rfl ⟨x, _, zs, rfl, HX.out, HO9.out, by have := HNl.out; omega, HC9.out, HG9.out⟩
          · have e2 : decide ((s : Int) < 140) = false := by simp; omega
            go_wp2_with fail
            refine (below_any B b 10 _ HC.out (by omega) (by omega)).mono ?_
            rintro e w5 ⟨y, y0, y1, rfl, hc, hg⟩
            clear x0 x1
            have hE := (hg.block _ (lt_of_block HE.out) (fun h => by injection h with h; have := HGl.out; have := HLt.out; have := HW.out; omega)).trans HE.out
            have hO := HO.out.cur (show b < W0.heap.size by have := HLt.out; have := HW.out; omega) hg
            replace HE := Lib.hid hE
            replace HO := Lib.hid hO
            replace HC := Lib.hid hc
            replace HG := Lib.hid (grown_trans HG.out hg)
            clear hc hg hE hO
            obtain ⟨x0, x1, _⟩ := scs HE.out
            by_cases h0 : y = 0
            case pos =>
              subst h0
              clear x0 x1
              go_wp2_with fail
              refine (int_alloc B b (-1) 1000000000001 [-1, 1000000000000, 1000000000001] 3 3 _ HC.out rfl (by omega) (by omega) (by intro z hz; simp at hz; omega)).mono ?_
              rintro e w6 ⟨z, z0, z1, rfl, hc, hg⟩
              have hE := (hg.block _ (lt_of_block HE.out) (fun h => by injection h with h; have := HGl.out; have := HLt.out; have := HW.out; omega)).trans HE.out
              have hO := HO.out.cur (show b < W0.heap.size by have := HLt.out; have := HW.out; omega) hg
              replace HE := Lib.hid hE
              replace HO := Lib.hid hO
              replace HC := Lib.hid hc
              replace HG := Lib.hid (grown_trans HG.out hg)
              clear hc hg hE hO
              have k9 := blk_set HE.out 0 (.int .i64 z)
              have g9 := grown_set w6 G 0 (.int .i64 z)
              have hO := HO.out.kept g9 (Or.inr (fun hh => HNe.out _ hh rfl))
              have hC := HC.out.kept g9 (fun h => by injection h with h; have := HGl.out; have := HLt.out; have := HW.out; omega) (fun r hr => by injection hr with hr; have := HGl.out; have := HLt.out; have := HW.out; omega)
              have hG := grown_own HG.out g9 (fun r hr => by injection hr with hr; have := HGl.out; omega)
              obtain ⟨g0, g1, fg0, fg1⟩ := scs HE.out
              have hE : (w6.setCell ⟨G, 0, none⟩ (.int .i64 z)).heap[G]? = some (.cells #[.int .i64 z, .slice a nl c] 26 (0, 0)) := k9
              replace HE := Lib.hid hE
              replace HO := Lib.hid hO
              replace HC := Lib.hid hC
              replace HG := Lib.hid hG
              clear k9 g9 hO hC hG hE
              have hk := (HG.out.block _ HL0.out (fun h => by injection h with h; have := HLt.out; omega)).trans HZ.out
              obtain ⟨q0, q1, f0, f1⟩ := scs hk
              obtain ⟨x0, x1, _⟩ := scs HE.out
              obtain ⟨k9, g9⟩ := sst hk (.int .i64 z) (.slice a nl c)
              obtain ⟨r0, r1, _⟩ := scs k9
              have HO9 := Lib.hid ((HO.out.kept g9 (Or.inr (fun hh => by have := (HO.out.lt _ hh).1; have := HW.out; omega))).mono (show w.heap.size ≤ W0.heap.size by have := HW.out; omega))
              have HC9 := Lib.hid (HC.out.kept g9 (fun h => by injection h with h; have := HLt.out; omega) (fun r hr => by injection hr with hr; have := HLt.out; omega))
              have HG9 := Lib.hid (grown_own (grown_trans (grown_none HG0.out) HG.out) g9 (fun r hr => by injection hr with hr; omega))
              clear k9 g9 hk
              go_wp2_with fail
              exact bodyPost_ret (v := .agg #[.int .i64 z, .slice a nl c]) (by simp [results, Try.results43, go_sem, r0, r1]) rfl ⟨z, _, zs, rfl, w17 (by omega) (by omega), HO9.out, by have := HNl.out; omega, HC9.out, HG9.out⟩
            case neg =>
            by_cases h1 : y = 1
            case pos =>
              subst h1
              clear h0
              go_wp2_with fail
              refine region_till (fun u => u.cell? ⟨G, 1, none⟩ = some (.slice a nl c)) 8 (by kernel_rfl) ?_
              obtain ⟨wd, hwd⟩ : ∃ x, x = w5.drew := ⟨_, rfl⟩
              have hb : Below w5.heap.size w5 wd := by rw [hwd]; exact (Below.refl _ _).drew
              rw [← hwd]
              clear x0 x1 hwd
              have hE := (hb.block _ (lt_of_block HE.out)).trans HE.out
              have hO := HO.out.next hb
              have hC := HC.out.kept (grown_of_below hb) (by simp) (fun r hr => by cases hr)
              replace HE := Lib.hid hE
              replace HO := Lib.hid hO
              replace HC := Lib.hid hC
              replace HG := Lib.hid (grown_trans HG.out (grown_none (grown_of_below hb)))
              clear hb hE hO hC
              have s0 : wd.cell? ⟨G, 1, none⟩ = some (.slice a nl c) := (scs HE.out).2.1
              apply Till.take (i := 0) [0, 1, 6, 8]
              · simp only [List.getElem?_toArray, List.getElem?_cons_zero]
                rfl
              · kernel_rfl
              · kernel_rfl
              · kernel_rfl
              · kernel_rfl
              · exact fun _ _ _ h => h
              · first
                  | exact Or.inr ⟨by rfl, rfl⟩
                  | (refine Or.inl ⟨by rfl, fun wq hwq => ?_⟩
                     dsimp only at hwq
                     go_simp
                     first
                       | done
                       | rfl)
              · exact s0
              simp only [Act.put, List.setIfInBounds_toArray, List.set_cons_zero, List.set_cons_succ]
              apply Till.take (i := 1) [1, 6, 8]
              · simp only [List.getElem?_toArray, List.getElem?_cons_succ, List.getElem?_cons_zero]
                rfl
              · kernel_rfl
              · kernel_rfl
              · kernel_rfl
              · kernel_rfl
              · exact fun _ _ _ h => h
              · first
                  | exact Or.inr ⟨by rfl, rfl⟩
                  | (refine Or.inl ⟨by rfl, fun wq hwq => ?_⟩
                     dsimp only at hwq
                     go_simp
                     first
                       | done
                       | rfl)
              · exact s0
              simp only [Act.put, List.setIfInBounds_toArray, List.set_cons_zero, List.set_cons_succ]
              apply Till.take (i := 2) [2, 4, 5, 6, 8]
              · simp only [List.getElem?_toArray, List.getElem?_cons_succ, List.getElem?_cons_zero]
                rfl
              · kernel_rfl
              · kernel_rfl
              · kernel_rfl
              · kernel_rfl
              · exact fun _ _ _ h => h
              · first
                  | exact Or.inr ⟨by rfl, rfl⟩
                  | (refine Or.inl ⟨by rfl, fun wq hwq => ?_⟩
                     dsimp only at hwq
                     go_simp
                     first
                       | done
                       | rfl)
              · exact s0
              simp only [Act.put, List.setIfInBounds_toArray, List.set_cons_zero, List.set_cons_succ]
              apply Till.one (i := 3)
              · kernel_rfl
              · simp only [List.getElem?_toArray, List.getElem?_cons_succ, List.getElem?_cons_zero]
                rfl
              intro K hK
              go_simp
              have s1 : (wd.alloc (.cells #[.int .i64 (-1), .int .i64 3, .int .i64 100000, .int .i64 100001] 3)).cell? ⟨G, 1, none⟩ = some (.slice a nl c) := (scs ((heap_alloc_old wd (.cells #[.int .i64 (-1), .int .i64 3, .int .i64 100000, .int .i64 100001] 3) (lt_of_block HE.out)).trans HE.out)).2.1
              refine hK.out _ _ (Or.inr s1) ?_
              clear hK K
              try simp only [Act.put, List.setIfInBounds_toArray, List.set_cons_zero, List.set_cons_succ]
              apply Till.one (i := 4)
              · kernel_rfl
              · simp only [List.getElem?_toArray, List.getElem?_cons_succ, List.getElem?_cons_zero]
                rfl
              intro K hK
              go_simp
              refine (int_alloc B b (-1) 100001 [-1, 3, 100000, 100001] 3 4 _ HC.out rfl (by omega) (by omega) (by intro z hz; simp at hz; omega)).mono ?_
              rintro e' w6 ⟨z, z0, z1, he, hc, hg⟩
              subst he
              clear s0 s1
              have hE := (hg.block _ (lt_of_block HE.out) (fun h => by injection h with h; have := HGl.out; have := HLt.out; have := HW.out; omega)).trans HE.out
              have hO := HO.out.cur (show b < W0.heap.size by have := HLt.out; have := HW.out; omega) hg
              replace HE := Lib.hid hE
              replace HO := Lib.hid hO
              replace HC := Lib.hid hc
              replace HG := Lib.hid (grown_trans HG.out hg)
              clear hc hg hE hO
              have s0 : w6.cell? ⟨G, 1, none⟩ = some (.slice a nl c) := (scs HE.out).2.1
              refine hK.out _ _ (Or.inr s0) ?_
              clear hK K
              try simp only [Act.put, List.setIfInBounds_toArray, List.set_cons_zero, List.set_cons_succ]
              apply Till.one (i := 5)
              · kernel_rfl
              · simp only [List.getElem?_toArray, List.getElem?_cons_succ, List.getElem?_cons_zero]
                rfl
              intro K hK
              go_simp
              have hb : Below w6.heap.size w6 (w6.alloc (.cells #[.int .i64 z] 3)) := (Below.refl _ _).alloc (Nat.le_refl _) _
              have HR1 := Lib.hid (Rd.one 3 .i64 w6 z (w17 (by omega) (by omega)))
              clear s0
              have hE := (hb.block _ (lt_of_block HE.out)).trans HE.out
              have hO := HO.out.next hb
              have hC := HC.out.kept (grown_of_below hb) (by simp) (fun r hr => by cases hr)
              replace HE := Lib.hid hE
              replace HO := Lib.hid hO
              replace HC := Lib.hid hC
              replace HG := Lib.hid (grown_trans HG.out (grown_none (grown_of_below hb)))
              clear hb hE hO hC
              have s0 : (w6.alloc (.cells #[.int .i64 z] 3)).cell? ⟨G, 1, none⟩ = some (.slice a nl c) := (scs HE.out).2.1
              refine hK.out _ _ (Or.inr s0) ?_
              clear hK K
              try simp only [Act.put, List.setIfInBounds_toArray, List.set_cons_zero, List.set_cons_succ]
              obtain ⟨w7, hw7⟩ : ∃ x, x = w6.alloc (.cells #[.int .i64 z] 3) := ⟨_, rfl⟩
              rw [← hw7] at HE HO HC HG HR1 s0 ⊢
              clear hw7
              apply Till.one (i := 6)
              · kernel_rfl
              · simp only [List.getElem?_toArray, List.getElem?_cons_succ, List.getElem?_cons_zero]
                rfl
              intro K hK
              refine step_append_rds _ (by rfl) _ _ 24 (by rfl) 3 i0 (.int .i64 0) 8 Try.underlying24 Hhi.out hz0 hz1 hz2 rfl (by omega) (by rfl) HO.out (by rfl) HR1.out (by have := HNl.out; simp only [List.length_singleton]; omega) ?_
              intro v8 w8 hO8 hg
              have hE := (hg.block _ (lt_of_block HE.out) (fun h => HNe.out _ h.symm rfl)).trans HE.out
              have hC := HC.out.kept hg (fun h => by have := (HO.out.lt _ h).1; have := HLt.out; have := HW.out; omega) (fun r hr => by have := (HO.out.lt r hr).1; have := HLt.out; have := HW.out; omega)
              have hG := grown_own HG.out hg (fun r hr => (HO.out.lt r hr).1)
              obtain ⟨a8, c8, hv8, _⟩ := hO8.open
              subst hv8
              obtain ⟨nl8, hnl8⟩ : ∃ x, x = (zs ++ [z]).length := ⟨_, rfl⟩
              rw [← hnl8] at hO8 ⊢
              have HNl8 : Hid (nl8 = nl + 1) := Lib.hid (by rw [hnl8, HNl.out]; simp)
              replace HE := Lib.hid hE
              replace HO := Lib.hid hO8
              replace HC := Lib.hid hC
              replace HG := Lib.hid hG
              clear hO8 hg hE hC hG s0 hnl8
              have s0 : w8.cell? ⟨G, 1, none⟩ = some (.slice a nl c) := (scs HE.out).2.1
              refine hK.out _ _ (Or.inr s0) ?_
              clear hK K
              try simp only [Act.put, List.setIfInBounds_toArray, List.set_cons_zero, List.set_cons_succ]
              apply Till.take (i := 7) [7, 8]
              · simp only [List.getElem?_toArray, List.getElem?_cons_succ, List.getElem?_cons_zero]
                rfl
              · kernel_rfl
              · kernel_rfl
              · kernel_rfl
              · kernel_rfl
              · exact fun _ _ _ h => h
              · first
                  | exact Or.inr ⟨by rfl, rfl⟩
                  | (refine Or.inl ⟨by rfl, fun wq hwq => ?_⟩
                     dsimp only at hwq
                     go_simp
                     first
                       | done
                       | rfl)
              · exact s0
              simp only [Act.put, List.setIfInBounds_toArray, List.set_cons_zero, List.set_cons_succ]
              clear s0
              have k9 := blk_set HE.out 1 (.slice a8 nl8 c8)
              have g9 := grown_set w8 G 1 (.slice a8 nl8 c8)
              have hO := HO.out.kept g9 (Or.inr (fun hh => own_ne_box (by decide) HO.out HE.out _ hh rfl))
              have hC := HC.out.kept g9 (fun h => by injection h with h; have := HGl.out; have := HLt.out; have := HW.out; omega) (fun r hr => by injection hr with hr; have := HGl.out; have := HLt.out; have := HW.out; omega)
              have hG := grown_own HG.out g9 (fun r hr => by injection hr with hr; have := HGl.out; omega)
              obtain ⟨g0, g1, fg0, fg1⟩ := scs HE.out
              have hE : (w8.setCell ⟨G, 1, none⟩ (.slice a8 nl8 c8)).heap[G]? = some (.cells #[.int .i64 x, .slice a8 nl8 c8] 26 (0, 0)) := k9
              replace HE := Lib.hid hE
              replace HO := Lib.hid hO
              replace HC := Lib.hid hC
              replace HG := Lib.hid hG
              clear k9 g9 hO hC hG hE
              apply Till.one (i := 8)
              · kernel_rfl
              · simp only [List.getElem?_toArray, List.getElem?_cons_succ, List.getElem?_cons_zero]
                rfl
              intro K hK
              go_simp
              skip
              refine hK.out _ _ (Or.inl (by rfl)) ?_
              clear hK K
              try simp only [Act.put, List.setIfInBounds_toArray, List.set_cons_zero, List.set_cons_succ]
              refine Till.done (by kernel_rfl) ?_ _
              clear g0 g1 fg0 fg1
              obtain ⟨w9, hw9⟩ : ∃ x, x = w8.setCell ⟨G, 1, none⟩ (.slice a8 nl8 c8) := ⟨_, rfl⟩
              rw [← hw9] at HE HO HC HG ⊢
              clear hw9
              have hk := (HG.out.block _ HL0.out (fun h => by injection h with h; have := HLt.out; omega)).trans HZ.out
              obtain ⟨q0, q1, f0, f1⟩ := scs hk
              obtain ⟨x0, x1, _⟩ := scs HE.out
              obtain ⟨k9, g9⟩ := sst hk (.int .i64 x) (.slice a8 nl8 c8)
              obtain ⟨r0, r1, _⟩ := scs k9
              have HO9 := Lib.hid ((HO.out.kept g9 (Or.inr (fun hh => by have := (HO.out.lt _ hh).1; have := HW.out; omega))).mono (show w.heap.size ≤ W0.heap.size by have := HW.out; omega))
              have HC9 := Lib.hid (HC.out.kept g9 (fun h => by injection h with h; have := HLt.out; omega) (fun r hr => by injection hr with hr; have := HLt.out; omega))
              have HG9 := Lib.hid (grown_own (grown_trans (grown_none HG0.out) HG.out) g9 (fun r hr => by injection hr with hr; omega))
              clear k9 g9 hk
              go_wp2_with fail
              exact bodyPost_ret (v := .agg #[.int .i64 x, .slice a8 nl8 c8]) (by simp [results, Try.results43, go_sem, r0, r1]) rfl ⟨x, _, _, rfl, HX.out, HO9.out, by have := HNl8.out; have := HNl.out; simp only [List.length_append, List.length_singleton]; omega, HC9.out, HG9.out⟩
            case neg =>
              have e4 : (y == 0) = false := beq_eq_false_iff_ne.2 h0
              have e5 : (y == 1) = false := beq_eq_false_iff_ne.2 h1
              clear h0 h1 x0 x1
              have hk := (HG.out.block _ HL0.out (fun h => by injection h with h; have := HLt.out; omega)).trans HZ.out
              obtain ⟨q0, q1, f0, f1⟩ := scs hk
              obtain ⟨x0, x1, _⟩ := scs HE.out
              obtain ⟨k9, g9⟩ := sst hk (.int .i64 x) (.slice a nl c)
              obtain ⟨r0, r1, _⟩ := scs k9
              have HO9 := Lib.hid ((HO.out.kept g9 (Or.inr (fun hh => by have := (HO.out.lt _ hh).1; have := HW.out; omega))).mono (show w.heap.size ≤ W0.heap.size by have := HW.out; omega))
              have HC9 := Lib.hid (HC.out.kept g9 (fun h => by injection h with h; have := HLt.out; omega) (fun r hr => by injection hr with hr; have := HLt.out; omega))
              have HG9 := Lib.hid (grown_own (grown_trans (grown_none HG0.out) HG.out) g9 (fun r hr => by injection hr with hr; omega))
              clear k9 g9 hk
              go_wp2_with fail
              exact bodyPost_ret (v := .agg #[.int .i64 x, .slice a nl c]) (by simp [results, Try.results43, go_sem, r0, r1]) rfl ⟨x, _, zs, rfl, HX.out, HO9.out, by have := HNl.out; omega, HC9.out, HG9.out⟩
          · have e2 : decide ((s : Int) < 140) = true := by simp; omega
            have e3 : decide ((nl : Int) < 40) = false := by simp; omega
            go_wp2_with fail
            refine (below_any B b 10 _ HC.out (by omega) (by omega)).mono ?_
            rintro e w5 ⟨y, y0, y1, rfl, hc, hg⟩
            clear x0 x1
            have hE := (hg.block _ (lt_of_block HE.out) (fun h => by injection h with h; have := HGl.out; have := HLt.out; have := HW.out; omega)).trans HE.out
            have hO := HO.out.cur (show b < W0.heap.size by have := HLt.out; have := HW.out; omega) hg
            replace HE := Lib.hid hE
            replace HO := Lib.hid hO
            replace HC := Lib.hid hc
            replace HG := Lib.hid (grown_trans HG.out hg)
            clear hc hg hE hO
            obtain ⟨x0, x1, _⟩ := scs HE.out
            by_cases h0 : y = 0
            case pos =>
              subst h0
              clear x0 x1
              go_wp2_with fail
              refine (int_alloc B b (-1) 1000000000001 [-1, 1000000000000, 1000000000001] 3 3 _ HC.out rfl (by omega) (by omega) (by intro z hz; simp at hz; omega)).mono ?_
              rintro e w6 ⟨z, z0, z1, rfl, hc, hg⟩
              have hE := (hg.block _ (lt_of_block HE.out) (fun h => by injection h with h; have := HGl.out; have := HLt.out; have := HW.out; omega)).trans HE.out
              have hO := HO.out.cur (show b < W0.heap.size by have := HLt.out; have := HW.out; omega) hg
              replace HE := Lib.hid hE
              replace HO := Lib.hid hO
              replace HC := Lib.hid hc
              replace HG := Lib.hid (grown_trans HG.out hg)
              clear hc hg hE hO
              have k9 := blk_set HE.out 0 (.int .i64 z)
              have g9 := grown_set w6 G 0 (.int .i64 z)
              have hO := HO.out.kept g9 (Or.inr (fun hh => HNe.out _ hh rfl))
              have hC := HC.out.kept g9 (fun h => by injection h with h; have := HGl.out; have := HLt.out; have := HW.out; omega) (fun r hr => by injection hr with hr; have := HGl.out; have := HLt.out; have := HW.out; omega)
              have hG := grown_own HG.out g9 (fun r hr => by injection hr with hr; have := HGl.out; omega)
              obtain ⟨g0, g1, fg0, fg1⟩ := scs HE.out
              have hE : (w6.setCell ⟨G, 0, none⟩ (.int .i64 z)).heap[G]? = some (.cells #[.int .i64 z, .slice a nl c] 26 (0, 0)) := k9
              replace HE := Lib.hid hE
              replace HO := Lib.hid hO
              replace HC := Lib.hid hC
              replace HG := Lib.hid hG
              clear k9 g9 hO hC hG hE
              have hk := (HG.out.block _ HL0.out (fun h => by injection h with h; have := HLt.out; omega)).trans HZ.out
              obtain ⟨q0, q1, f0, f1⟩ := scs hk
              obtain ⟨x0, x1, _⟩ := scs HE.out
              obtain ⟨k9, g9⟩ := sst hk (.int .i64 z) (.slice a nl c)
              obtain ⟨r0, r1, _⟩ := scs k9
              have HO9 := Lib.hid ((HO.out.kept g9 (Or.inr (fun hh => by have := (HO.out.lt _ hh).1; have := HW.out; omega))).mono (show w.heap.size ≤ W0.heap.size by have := HW.out; omega))
              have HC9 := Lib.hid (HC.out.kept g9 (fun h => by injection h with h; have := HLt.out; omega) (fun r hr => by injection hr with hr; have := HLt.out; omega))
              have HG9 := Lib.hid (grown_own (grown_trans (grown_none HG0.out) HG.out) g9 (fun r hr => by injection hr with hr; omega))
              clear k9 g9 hk
              go_wp2_with fail
              exact bodyPost_ret (v := .agg #[.int .i64 z, .slice a nl c]) (by simp [results, Try.results43, go_sem, r0, r1]) rfl ⟨z, _, zs, rfl, w17 (by omega) (by omega), HO9.out, by have := HNl.out; omega, HC9.out, HG9.out⟩
            case neg =>
            by_cases h1 : y = 1
            case pos =>
              subst h1
              clear h0
              go_wp2_with fail
              refine region_till (fun u => u.cell? ⟨G, 1, none⟩ = some (.slice a nl c)) 8 (by kernel_rfl) ?_
              obtain ⟨wd, hwd⟩ : ∃ x, x = w5.drew := ⟨_, rfl⟩
              have hb : Below w5.heap.size w5 wd := by rw [hwd]; exact (Below.refl _ _).drew
              rw [← hwd]
              clear x0 x1 hwd
              have hE := (hb.block _ (lt_of_block HE.out)).trans HE.out
              have hO := HO.out.next hb
              have hC := HC.out.kept (grown_of_below hb) (by simp) (fun r hr => by cases hr)
              replace HE := Lib.hid hE
              replace HO := Lib.hid hO
              replace HC := Lib.hid hC
              replace HG := Lib.hid (grown_trans HG.out (grown_none (grown_of_below hb)))
              clear hb hE hO hC
              have s0 : wd.cell? ⟨G, 1, none⟩ = some (.slice a nl c) := (scs HE.out).2.1
              apply Till.take (i := 0) [0, 1, 6, 8]
              · simp only [List.getElem?_toArray, List.getElem?_cons_zero]
                rfl
              · kernel_rfl
              · kernel_rfl
              · kernel_rfl
              · kernel_rfl
              · exact fun _ _ _ h => h
              · first
                  | exact Or.inr ⟨by rfl, rfl⟩
                  | (refine Or.inl ⟨by rfl, fun wq hwq => ?_⟩
                     dsimp only at hwq
                     go_simp
                     first
                       | done
                       | rfl)
              · exact s0
              simp only [Act.put, List.setIfInBounds_toArray, List.set_cons_zero, List.set_cons_succ]
              apply Till.take (i := 1) [1, 6, 8]
              · simp only [List.getElem?_toArray, List.getElem?_cons_succ, List.getElem?_cons_zero]
                rfl
              · kernel_rfl
              · kernel_rfl
              · kernel_rfl
              · kernel_rfl
              · exact fun _ _ _ h => h
              · first
                  | exact Or.inr ⟨by rfl, rfl⟩
                  | (refine Or.inl ⟨by rfl, fun wq hwq => ?_⟩
                     dsimp only at hwq
                     go_simp
                     first
                       | done
                       | rfl)
              · exact s0
              simp only [Act.put, List.setIfInBounds_toArray, List.set_cons_zero, List.set_cons_succ]
              apply Till.take (i := 2) [2, 4, 5, 6, 8]
              · simp only [List.getElem?_toArray, List.getElem?_cons_succ, List.getElem?_cons_zero]
                rfl
              · kernel_rfl
              · kernel_rfl
              · kernel_rfl
              · kernel_rfl
              · exact fun _ _ _ h => h
              · first
                  | exact Or.inr ⟨by rfl, rfl⟩
                  | (refine Or.inl ⟨by rfl, fun wq hwq => ?_⟩
                     dsimp only at hwq
                     go_simp
                     first
                       | done
                       | rfl)
              · exact s0
              simp only [Act.put, List.setIfInBounds_toArray, List.set_cons_zero, List.set_cons_succ]
              apply Till.one (i := 3)
              · kernel_rfl
              · simp only [List.getElem?_toArray, List.getElem?_cons_succ, List.getElem?_cons_zero]
                rfl
              intro K hK
              go_simp
              have s1 : (wd.alloc (.cells #[.int .i64 (-1), .int .i64 3, .int .i64 100000, .int .i64 100001] 3)).cell? ⟨G, 1, none⟩ = some (.slice a nl c) := (scs ((heap_alloc_old wd (.cells #[.int .i64 (-1), .int .i64 3, .int .i64 100000, .int .i64 100001] 3) (lt_of_block HE.out)).trans HE.out)).2.1
              refine hK.out _ _ (Or.inr s1) ?_
              clear hK K
              try simp only [Act.put, List.setIfInBounds_toArray, List.set_cons_zero, List.set_cons_succ]
              apply Till.one (i := 4)
              · kernel_rfl
              · simp only [List.getElem?_toArray, List.getElem?_cons_succ, List.getElem?_cons_zero]
                rfl
              intro K hK
              go_simp
              refine (int_alloc B b (-1) 100001 [-1, 3, 100000, 100001] 3 4 _ HC.out rfl (by omega) (by omega) (by intro z hz; simp at hz; omega)).mono ?_
              rintro e' w6 ⟨z, z0, z1, he, hc, hg⟩
              subst he
              clear s0 s1
              have hE := (hg.block _ (lt_of_block HE.out) (fun h => by injection h with h; have := HGl.out; have := HLt.out; have := HW.out; omega)).trans HE.out
              have hO := HO.out.cur (show b < W0.heap.size by have := HLt.out; have := HW.out; omega) hg
              replace HE := Lib.hid hE
              replace HO := Lib.hid hO
              replace HC := Lib.hid hc
              replace HG := Lib.hid (grown_trans HG.out hg)
              clear hc hg hE hO
              have s0 : w6.cell? ⟨G, 1, none⟩ = some (.slice a nl c) := (scs HE.out).2.1
              refine hK.out _ _ (Or.inr s0) ?_
              clear hK K
              try simp only [Act.put, List.setIfInBounds_toArray, List.set_cons_zero, List.set_cons_succ]
              apply Till.one (i := 5)
              · kernel_rfl
              · simp only [List.getElem?_toArray, List.getElem?_cons_succ, List.getElem?_cons_zero]
                rfl
              intro K hK
              go_simp
              have hb : Below w6.heap.size w6 (w6.alloc (.cells #[.int .i64 z] 3)) := (Below.refl _ _).alloc (Nat.le_refl _) _
              have HR1 := Lib.hid (Rd.one 3 .i64 w6 z (w17 (by omega) (by omega)))
              clear s0
              have hE := (hb.block _ (lt_of_block HE.out)).trans HE.out
              have hO := HO.out.next hb
              have hC := HC.out.kept (grown_of_below hb) (by simp) (fun r hr => by cases hr)
              replace HE := Lib.hid hE
              replace HO := Lib.hid hO
              replace HC := Lib.hid hC
              replace HG := Lib.hid (grown_trans HG.out (grown_none (grown_of_below hb)))
              clear hb hE hO hC
              have s0 : (w6.alloc (.cells #[.int .i64 z] 3)).cell? ⟨G, 1, none⟩ = some (.slice a nl c) := (scs HE.out).2.1
              refine hK.out _ _ (Or.inr s0) ?_
              clear hK K
              try simp only [Act.put, List.setIfInBounds_toArray, List.set_cons_zero, List.set_cons_succ]
              obtain ⟨w7, hw7⟩ : ∃ x, x = w6.alloc (.cells #[.int .i64 z] 3) := ⟨_, rfl⟩
              rw [← hw7] at HE HO HC HG HR1 s0 ⊢
              clear hw7
              apply Till.one (i := 6)
              · kernel_rfl
              · simp only [List.getElem?_toArray, List.getElem?_cons_succ, List.getElem?_cons_zero]
                rfl
              intro K hK
              refine step_append_rds _ (by rfl) _ _ 24 (by rfl) 3 i0 (.int .i64 0) 8 Try.underlying24 Hhi.out hz0 hz1 hz2 rfl (by omega) (by rfl) HO.out (by rfl) HR1.out (by have := HNl.out; simp only [List.length_singleton]; omega) ?_
              intro v8 w8 hO8 hg
              have hE := (hg.block _ (lt_of_block HE.out) (fun h => HNe.out _ h.symm rfl)).trans HE.out
              have hC := HC.out.kept hg (fun h => by have := (HO.out.lt _ h).1; have := HLt.out; have := HW.out; omega) (fun r hr => by have := (HO.out.lt r hr).1; have := HLt.out; have := HW.out; omega)
              have hG := grown_own HG.out hg (fun r hr => (HO.out.lt r hr).1)
              obtain ⟨a8, c8, hv8, _⟩ := hO8.open
              subst hv8
              obtain ⟨nl8, hnl8⟩ : ∃ x, x = (zs ++ [z]).length := ⟨_, rfl⟩
              rw [← hnl8] at hO8 ⊢
              have HNl8 : Hid (nl8 = nl + 1) := Lib.hid (by rw [hnl8, HNl.out]; simp)
              replace HE := Lib.hid hE
              replace HO := Lib.hid hO8
              replace HC := Lib.hid hC
              replace HG := Lib.hid hG
              clear hO8 hg hE hC hG s0 hnl8
              have s0 : w8.cell? ⟨G, 1, none⟩ = some (.slice a nl c) := (scs HE.out).2.1
              refine hK.out _ _ (Or.inr s0) ?_
              clear hK K
              try simp only [Act.put, List.setIfInBounds_toArray, List.set_cons_zero, List.set_cons_succ]
              apply Till.take (i := 7) [7, 8]
              · simp only [List.getElem?_toArray, List.getElem?_cons_succ, List.getElem?_cons_zero]
                rfl
              · kernel_rfl
              · kernel_rfl
              · kernel_rfl
              · kernel_rfl
              · exact fun _ _ _ h => h
              · first
                  | exact Or.inr ⟨by rfl, rfl⟩
                  | (refine Or.inl ⟨by rfl, fun wq hwq => ?_⟩
                     dsimp only at hwq
                     go_simp
                     first
                       | done
                       | rfl)
              · exact s0
              simp only [Act.put, List.setIfInBounds_toArray, List.set_cons_zero, List.set_cons_succ]
              clear s0
              have k9 := blk_set HE.out 1 (.slice a8 nl8 c8)
              have g9 := grown_set w8 G 1 (.slice a8 nl8 c8)
              have hO := HO.out.kept g9 (Or.inr (fun hh => own_ne_box (by decide) HO.out HE.out _ hh rfl))
              have hC := HC.out.kept g9 (fun h => by injection h with h; have := HGl.out; have := HLt.out; have := HW.out; omega) (fun r hr => by injection hr with hr; have := HGl.out; have := HLt.out; have := HW.out; omega)
              have hG := grown_own HG.out g9 (fun r hr => by injection hr with hr; have := HGl.out; omega)
              obtain ⟨g0, g1, fg0, fg1⟩ := scs HE.out
              have hE : (w8.setCell ⟨G, 1, none⟩ (.slice a8 nl8 c8)).heap[G]? = some (.cells #[.int .i64 x, .slice a8 nl8 c8] 26 (0, 0)) := k9
              replace HE := Lib.hid hE
              replace HO := Lib.hid hO
              replace HC := Lib.hid hC
              replace HG := Lib.hid hG
              clear k9 g9 hO hC hG hE
              apply Till.one (i := 8)
              · kernel_rfl
              · simp only [List.getElem?_toArray, List.getElem?_cons_succ, List.getElem?_cons_zero]
                rfl
              intro K hK
              go_simp
              skip
              refine hK.out _ _ (Or.inl (by rfl)) ?_
              clear hK K
              try simp only [Act.put, List.setIfInBounds_toArray, List.set_cons_zero, List.set_cons_succ]
              refine Till.done (by kernel_rfl) ?_ _
              clear g0 g1 fg0 fg1
              obtain ⟨w9, hw9⟩ : ∃ x, x = w8.setCell ⟨G, 1, none⟩ (.slice a8 nl8 c8) := ⟨_, rfl⟩
              rw [← hw9] at HE HO HC HG ⊢
              clear hw9
              have hk := (HG.out.block _ HL0.out (fun h => by injection h with h; have := HLt.out; omega)).trans HZ.out
              obtain ⟨q0, q1, f0, f1⟩ := scs hk
              obtain ⟨x0, x1, _⟩ := scs HE.out
              obtain ⟨k9, g9⟩ := sst hk (.int .i64 x) (.slice a8 nl8 c8)
              obtain ⟨r0, r1, _⟩ := scs k9
              have HO9 := Lib.hid ((HO.out.kept g9 (Or.inr (fun hh => by have := (HO.out.lt _ hh).1; have := HW.out; omega))).mono (show w.heap.size ≤ W0.heap.size by have := HW.out; omega))
              have HC9 := Lib.hid (HC.out.kept g9 (fun h => by injection h with h; have := HLt.out; omega) (fun r hr => by injection hr with hr; have := HLt.out; omega))
              have HG9 := Lib.hid (grown_own (grown_trans (grown_none HG0.out) HG.out) g9 (fun r hr => by injection hr with hr; omega))
              clear k9 g9 hk
              go_wp2_with fail
              exact bodyPost_ret (v := .agg #[.int .i64 x, .slice a8 nl8 c8]) (by simp [results, Try.results43, go_sem, r0, r1]) rfl ⟨x, _, _, rfl, HX.out, HO9.out, by have := HNl8.out; have := HNl.out; simp only [List.length_append, List.length_singleton]; omega, HC9.out, HG9.out⟩
            case neg =>
              have e4 : (y == 0) = false := beq_eq_false_iff_ne.2 h0
              have e5 : (y == 1) = false := beq_eq_false_iff_ne.2 h1
              clear h0 h1 x0 x1
              have hk := (HG.out.block _ HL0.out (fun h => by injection h with h; have := HLt.out; omega)).trans HZ.out
              obtain ⟨q0, q1, f0, f1⟩ := scs hk
              obtain ⟨x0, x1, _⟩ := scs HE.out
              obtain ⟨k9, g9⟩ := sst hk (.int .i64 x) (.slice a nl c)
              obtain ⟨r0, r1, _⟩ := scs k9
              have HO9 := Lib.hid ((HO.out.kept g9 (Or.inr (fun hh => by have := (HO.out.lt _ hh).1; have := HW.out; omega))).mono (show w.heap.size ≤ W0.heap.size by have := HW.out; omega))
              have HC9 := Lib.hid (HC.out.kept g9 (fun h => by injection h with h; have := HLt.out; omega) (fun r hr => by injection hr with hr; have := HLt.out; omega))
              have HG9 := Lib.hid (grown_own (grown_trans (grown_none HG0.out) HG.out) g9 (fun r hr => by injection hr with hr; omega))
              clear k9 g9 hk
              go_wp2_with fail
              exact bodyPost_ret (v := .agg #[.int .i64 x, .slice a nl c]) (by simp [results, Try.results43, go_sem, r0, r1]) rfl ⟨x, _, zs, rfl, HX.out, HO9.out, by have := HNl.out; omega, HC9.out, HG9.out⟩

end Go.Proofs.Ytdlbpeippmibcaa
