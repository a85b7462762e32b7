/- Shares: how many, how long, what is joined and completed; the program's and the document's. No conditions but a size that a machine holds. -/
import Derived.Test.YtigeghmkkppldaaShN
import Derived.Test.YtigeghmkkppldaaBa6
import Derived.Test.YtigeghmkkppldaaBaM
namespace Go.Proofs.Ytigeghmkkppldaa
open Go Go.RowKit
set_option linter.unusedVariables false
attribute [local irreducible] kh

theorem fitB_any {w : World} {a : Option Addr} {n cap : Nat} (hn : n ≤ 140737488355328) : Calls Try.prog 92 #[.slice a n cap] w fun e w' => e = .returned (.bool (inR (n : Int) 2 4)) ∧ w' = w := by
  go_enter Try.func92, Try.ntmps92
  go_wp2_with fail
  refine (impl_in _ _ _ _ (wf_i64_of (by omega) (by omega))).mono ?_
  rintro e w1 ⟨rfl, hw⟩
  subst hw
  go_wp2_with fail
  go_ret
  exact ⟨rfl, rfl⟩
theorem count_any {w : World} {n : Int} (hn : (Lit.int .i64 n).wf = true) : Calls Try.prog 67 #[.int .i64 n] w fun e w' => e = .returned (.bool (inR n 2 4)) ∧ w' = w := by
  go_enter Try.func67, Try.ntmps67
  go_wp2_with fail
  refine (spec_in _ _ _ _ hn).mono ?_
  rintro e w1 ⟨rfl, hw⟩
  subst hw
  go_wp2_with fail
  go_ret
  exact ⟨rfl, rfl⟩

/-! ### Numbers -/

theorem modV_1019 (x : Int) : modV x 1019 = x % 1019 := if_pos (by omega)

/-! ### Byte strings -/

set_option maxHeartbeats 1000000 in
/-- impl.haveOneLength, of bytes. -/
theorem hol_any {lim : Nat} {w : World} {v : Value} {zss : List (List Int)} (h : Rd2 lim .u8 w v zss) (hlim : lim ≤ w.heap.size) :
    Calls Try.prog 93 #[v] w fun e w' => e = .returned (.bool (same zss)) ∧ w' = w := by
  obtain ⟨q, hq⟩ : ∃ q, q = same zss := ⟨_, rfl⟩
  rw [← hq]
  have Hq := Lib.hid hq
  obtain ⟨a, cap, rfl, h1, h2, hc⟩ := h.open
  have Hc := Lib.hid hc
  unfold maxLen at h2
  clear h hc hq
  go_enter Try.func93, Try.ntmps93
  go_wp2_with fail
  go_loopw [7] (fun i wr => ∃ j : Nat, i = .int .i64 j ∧ j ≤ zss.length ∧ (∀ i, i < j → (zss.getD i []).length = (zss.getD 0 []).length) ∧ wr = w) (fun i _ => zss.length - (intOf i).toNat)
  case atStart => exact ⟨0, rfl, Nat.zero_le _, fun i hi => by omega, rfl⟩
  case round =>
    obtain ⟨j, rfl, hj, hs, rfl⟩ := hrel
    have HS := Lib.hid hs
    clear hs
    by_cases hlt : j < zss.length
    · have e1 : decide ((j : Int) < (zss.length : Int)) = true := by simp; omega
      have hpos : 0 < zss.length := by omega
      obtain ⟨b, o, rfl, hbl, hcell⟩ := Hc.out hpos
      obtain ⟨z0, hz0⟩ : ∃ zs, zss[0]? = some zs := ⟨_, List.getElem?_eq_getElem hpos⟩
      obtain ⟨u0, c0, hr0⟩ := hcell _ (Below.refl _ _) 0 z0 hz0
      obtain ⟨a0, k0, rfl, _⟩ := hr0.open
      obtain ⟨zs, hzs⟩ : ∃ zs, zss[j]? = some zs := ⟨_, List.getElem?_eq_getElem hlt⟩
      obtain ⟨u, c1, hr⟩ := hcell _ (Below.refl _ _) j zs hzs
      obtain ⟨a1, k1, rfl, _⟩ := hr.open
      have hlz := hr.len
      have hlz0 := hr0.len
      unfold maxLen at hlz hlz0
      have HG : Hid ((zss.getD j []).length = zs.length ∧ (zss.getD 0 []).length = z0.length) := Lib.hid ⟨by rw [getD_of hzs], by rw [getD_of hz0]⟩
      rw [Nat.add_zero] at c0
      clear hcell hr hr0
      rcases Nat.eq_zero_or_pos j with hj0 | hp
      · subst hj0
        rw [hz0] at hzs
        injection hzs with hzs
        subst hzs
        rw [Nat.add_zero, c0] at c1
        clear c1 hz0
        go_wp2
        go_roundw
        case rel =>
          refine ⟨0 + 1, by simp, hlt, fun i hi => ?_, by first | rfl | trivial⟩
          obtain rfl : i = 0 := by omega
          rfl
        case measure => simp [intOf]; omega
      · clear hz0 hzs
        obtain ⟨L, hL⟩ : ∃ L, L = zs.length := ⟨_, rfl⟩
        obtain ⟨L0, hL0⟩ : ∃ L, L = z0.length := ⟨_, rfl⟩
        rw [← hL] at c1 HG hlz
        rw [← hL0] at c0 HG hlz0
        clear hL hL0
        by_cases he : L = L0
        · have e2 : ((L : Int) != (L0 : Int)) = false := by simp [he]
          have HE := Lib.hid he
          clear he
          go_wp2
          go_roundw
          case rel =>
            refine ⟨j + 1, by simp, hlt, fun i hi => ?_, by first | rfl | trivial⟩
            by_cases hij : i = j
            · subst hij; rw [HG.out.1, HG.out.2, HE.out]
            · exact HS.out i (by omega)
          case measure => simp [intOf]; omega
        · have e2 : ((L : Int) != (L0 : Int)) = true := by simp; omega
          have HE := Lib.hid he
          clear he
          go_wp2
          go_ret
          refine ⟨?_, rfl⟩
          have e : q = false := by rw [Hq.out]; exact decide_eq_false fun h => HE.out (by rw [← HG.out.1, ← HG.out.2]; exact h j hlt)
          rw [e]; rfl
    · have e1 : decide ((j : Int) < (zss.length : Int)) = false := by simp; omega
      go_wp2
      go_ret
      refine ⟨?_, rfl⟩
      have e : q = true := by rw [Hq.out]; exact decide_eq_true fun i hi => HS.out i (by omega)
      rw [e]; rfl

set_option maxHeartbeats 1000000 in
/-- impl.JoinShares. -/
theorem impl_js {lim : Nat} {w : World} {v : Value} {zss : List (List Int)} (h : Rd2 lim .u8 w v zss) (hlim : lim ≤ w.heap.size) (hn : tot zss ≤ 1099511627776) :
    Calls Try.prog 63 #[v] w fun e w' => ∃ v', e = .returned (.tuple #[v', .bool (okS zss)]) ∧ Own 5 .u8 w.heap.size w' v' (jsh zss) ∧ Below w.heap.size w w' := by
  have H := Lib.hid h
  obtain ⟨a, cap, rfl, h1, h2, hc⟩ := h.open
  have hl : zss.length ≤ 140737488355328 := by unfold tot at hn; omega
  have HK : Hid (okS zss = (inR (zss.length : Int) 2 4 && same zss)) := Lib.hid rfl
  have HYes := Lib.hid (jsh_yes (zss := zss))
  have HNo := Lib.hid (jsh_no (zss := zss))
  have HF := Lib.hid (fitB_any (w := w) (a := a) (n := zss.length) (cap := cap) hl)
  have HO := Lib.hid (hol_any H.out hlim)
  obtain ⟨p, hp⟩ : ∃ p, p = inR (zss.length : Int) 2 4 := ⟨_, rfl⟩
  obtain ⟨q, hq⟩ : ∃ q, q = same zss := ⟨_, rfl⟩
  rw [← hp, ← hq] at HK
  rw [← hp] at HF
  rw [← hq] at HO
  clear h hc hp hq
  have HOl : Hid (Own 5 .u8 w.heap.size (w.alloc (.cells #[] 5)) (.slice (some ⟨w.heap.size, 0, none⟩) 0 0) []) := Lib.hid (Own.lit _ _ (Nat.le_refl _))
  have HBl := Lib.hid ((Below.refl w.heap.size w).alloc (Nat.le_refl _) (.cells #[] 5))
  cases p
  · have hk : okS zss = false := by rw [HK.out]; rfl
    rw [hk]
    have HJ := Lib.hid (HNo.out hk)
    clear hk
    go_enter Try.func63, Try.ntmps63
    go_wp2_with fail
    refine HF.out.mono ?_
    rintro e w1 ⟨rfl, hw⟩
    subst hw
    go_wp2_with fail
    go_ret2
    exact ⟨_, rfl, by rw [HJ.out]; exact HOl.out, HBl.out⟩
  · cases q
    · have hk : okS zss = false := by rw [HK.out]; rfl
      rw [hk]
      have HJ := Lib.hid (HNo.out hk)
      clear hk
      go_enter Try.func63, Try.ntmps63
      go_wp2_with fail
      refine HF.out.mono ?_
      rintro e w1 ⟨rfl, hw⟩
      subst hw
      go_wp2_with fail
      refine HO.out.mono ?_
      rintro e w1 ⟨rfl, hw⟩
      subst hw
      go_wp2_with fail
      go_ret2
      exact ⟨_, rfl, by rw [HJ.out]; exact HOl.out, HBl.out⟩
    · have hk : okS zss = true := by rw [HK.out]; rfl
      rw [hk]
      have HJ := Lib.hid (HYes.out hk)
      clear hk
      go_enter Try.func63, Try.ntmps63
      go_wp2_with fail
      refine HF.out.mono ?_
      rintro e w1 ⟨rfl, hw⟩
      subst hw
      go_wp2_with fail
      refine HO.out.mono ?_
      rintro e w1 ⟨rfl, hw⟩
      subst hw
      go_wp2_with fail
      refine (impl_xa H.out hlim hn).mono ?_
      rintro e w2 ⟨v2, rfl, h3, hb⟩
      rw [← HJ.out] at h3
      have H3 := Lib.hid h3
      have HB := Lib.hid hb
      clear h3 hb
      go_wp2_with fail
      go_ret2
      exact ⟨_, rfl, H3.out, HB.out⟩

end Go.Proofs.Ytigeghmkkppldaa
