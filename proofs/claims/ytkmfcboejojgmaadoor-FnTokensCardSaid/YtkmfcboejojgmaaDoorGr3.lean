/- The small group: inverses of exponents, elements from hashes, proofs of equal exponents; the program's and the document's. No conditions but numbers that a machine holds. -/
import Derived.Test.YtkmfcboejojgmaaDoorGr2
namespace Go.Proofs.YtkmfcboejojgmaaDoor
open Go Go.RowKit
set_option linter.unusedVariables false
attribute [local irreducible] kh kid pwm tcm pw

/-- impl.InverseExponent. -/
theorem impl_inv {w : World} {n : Int} (hn : (Lit.int .i64 n).wf = true) :
    Calls Tryd.prog 64 #[.int .i64 n] w fun e w' => e = .returned (.int .i64 (invE n)) ∧ w' = w := by
  obtain ⟨x, hx⟩ : ∃ x, x = n % 1019 := ⟨_, rfl⟩
  have hb : 0 ≤ x ∧ x < 1019 := by omega
  obtain ⟨y, hy⟩ : ∃ y, y = invE n := ⟨_, rfl⟩
  have HY : Hid (pwm 1019 x 1017 = y) := Lib.hid (by rw [hx, hy]; exact pwm_inv rfl n)
  rw [← hy]
  have HX := Lib.hid hx
  clear hx hy
  go_enter Tryd.func64, Tryd.ntmps64
  go_wp2_with fail
  refine (fe_any hn).mono ?_
  rw [← HX.out]
  rintro e w1 ⟨rfl, hw⟩
  subst hw
  go_wp2_with fail
  refine (impl_pm (n := 1017) rfl hb.1 hb.2 (by omega) (by omega) (by omega)).mono ?_
  rw [HY.out]
  rintro e w1 ⟨rfl, hw⟩
  subst hw
  go_wp2_with fail
  go_ret
  exact ⟨rfl, rfl⟩

set_option maxHeartbeats 1000000 in
/-- spec.InverseExponent. -/
theorem spec_inv {w : World} {n : Int} (hn : (Lit.int .i64 n).wf = true) :
    Calls Tryd.prog 38 #[.int .i64 n] w fun e w' => e = .returned (.int .i64 (invE n)) ∧ w' = w := by
  obtain ⟨x, hx⟩ : ∃ x, x = n % 1019 := ⟨_, rfl⟩
  have hb : 0 ≤ x ∧ x < 1019 := by omega
  have hnb := wf_i64 hn
  obtain ⟨y, hy⟩ : ∃ y, y = invE n := ⟨_, rfl⟩
  have HY : Hid (ivn x 1018 1 = y) := Lib.hid (by rw [hx, hy]; rfl)
  rw [← hy]
  have HX : Hid (modV n 1019 = x) := Lib.hid (by rw [hx]; exact modV_1019 n)
  clear hx hy
  go_enter Tryd.func38, Tryd.ntmps38
  go_wp2_with fail
  refine (spec_mod _ _ _ hnb.1 hnb.2).mono ?_
  rw [HX.out]
  rintro e w1 ⟨rfl, hw⟩
  subst hw
  go_wp2_with fail
  go_loopw [4] (fun m wr => ∃ j : Nat, m = .int .i64 j ∧ 1 ≤ j ∧ j ≤ 1019 ∧ ivn x (1019 - j) j = y ∧ wr = w1) (fun m _ => 1019 - (intOf m).toNat)
  case atStart => exact ⟨1, rfl, by omega, by omega, HY.out, rfl⟩
  case round =>
    obtain ⟨j, rfl, hj1, hj, hiv, rfl⟩ := hrel
    have HI := Lib.hid hiv
    clear hiv
    by_cases hlt : j < 1019
    · have e1 : decide ((j : Int) < 1019) = true := by simp; omega
      have hm := pm_mul (m := 1019) (a := x) (b := (j : Int)) hb.1 hb.2 (by omega) (by omega) (by omega)
      have HS : Hid (ivn x (1019 - j) j = if x * j % 1019 = 1 then (j : Int) else ivn x (1019 - (j + 1)) ((j : Int) + 1)) := Lib.hid (by rw [show 1019 - j = (1019 - (j + 1)) + 1 by omega]; rfl)
      obtain ⟨t, ht⟩ : ∃ t, t = x * (j : Int) % 1019 := ⟨_, rfl⟩
      rw [← ht] at hm HS
      have HM := Lib.hid hm
      clear ht
      by_cases h1 : t = 1
      · have e2 : (t == 1) = true := beq_iff_eq.2 h1
        have HE : Hid (y = (j : Int)) := Lib.hid (by rw [← HI.out, HS.out, if_pos h1])
        clear h1
        go_wp2_with fail
        go_ret
        exact ⟨by rw [HE.out]; rfl, rfl⟩
      · have e2 : (t == 1) = false := beq_eq_false_iff_ne.2 h1
        have HE : Hid (ivn x (1019 - (j + 1)) ((j : Int) + 1) = y) := Lib.hid (by rw [← HI.out, HS.out, if_neg h1])
        clear h1
        go_wp2_with fail
        go_roundw
        case rel => exact ⟨j + 1, by simp, by omega, by omega, by rw [show ((j + 1 : Nat) : Int) = (j : Int) + 1 by push_cast; rfl]; exact HE.out, by first | rfl | trivial⟩
        case measure => simp [intOf]; omega
    · have e1 : decide ((j : Int) < 1019) = false := by simp; omega
      obtain rfl : j = 1019 := by omega
      have HE : Hid (y = 0) := Lib.hid (by rw [← HI.out]; rfl)
      go_wp2_with fail
      go_ret
      exact ⟨by rw [HE.out]; rfl, rfl⟩

/-- A wf for what is small. -/
theorem kid_nn (s c : Int) : 0 ≤ kid s c ∧ kid s c ≤ 2147483646 := kid_bound s c

set_option maxHeartbeats 1000000 in
/-- impl.HashToGroup. -/
theorem impl_hgr {w : World} {l v : Int} (hl : (Lit.int .i64 l).wf = true) (hv : (Lit.int .i64 v).wf = true) :
    Calls Tryd.prog 54 #[.int .i64 l, .int .i64 v] w fun e w' => e = .returned (.int .i64 (hgr l v)) ∧ Below w.heap.size w w' := by
  have HR := Lib.hid (Rd.two 3 .i64 w 89 v (by decide) hv)
  have HL := Lib.hid hl
  have HB := Lib.hid ((Below.refl w.heap.size w).alloc (Nat.le_refl _) (.cells #[.int .i64 89, .int .i64 v] 3))
  have hq := kh_bound l [89, v]
  have hs := kid_nn (kh l [89, v]) 0
  have hE : hexp l v = 1 + kid (kh l [89, v]) 0 % 1018 := rfl
  obtain ⟨q, hqe⟩ : ∃ q, q = kh l [89, v] := ⟨_, rfl⟩
  rw [← hqe] at hq hs hE
  obtain ⟨s, hse⟩ : ∃ s, s = kid q 0 := ⟨_, rfl⟩
  rw [← hse] at hs hE
  have HQ := Lib.hid hqe
  have HS := Lib.hid hse
  have HM : Hid (modV s 1018 = s % 1018) := Lib.hid (if_pos (by omega))
  obtain ⟨t, ht⟩ : ∃ t, t = s % 1018 := ⟨_, rfl⟩
  rw [← ht] at HM hE
  have htb : 0 ≤ t ∧ t ≤ 1017 := by omega
  have HX : Hid (hgr l v = pwG 4 (1 + t)) := Lib.hid (by unfold hgr; rw [hE])
  obtain ⟨x, hx⟩ : ∃ x, x = pwG 4 (1 + t) := ⟨_, rfl⟩
  rw [← hx] at HX
  have HXx := Lib.hid hx
  clear hqe hse hE ht hx hl hv
  go_enter Tryd.func54, Tryd.ntmps54
  go_wp2_with fail
  refine (impl_kh HR.out (by simp) HL.out).mono ?_
  rw [← HQ.out]
  rintro e w1 ⟨rfl, h1⟩
  replace HB := Lib.hid (HB.out.trans (h1.mono (by simp)))
  clear h1
  go_wp2_with fail
  refine (impl_cs (wf_i64_of (by omega) (by omega)) (by decide)).mono ?_
  rw [← HS.out]
  rintro e w2 ⟨rfl, h1⟩
  replace HB := Lib.hid (HB.out.trans (h1.mono HB.out.size))
  clear h1
  go_wp2_with fail
  refine (impl_mod _ _ _ (by omega) (by omega)).mono ?_
  rw [HM.out]
  rintro e w3 ⟨rfl, hw⟩
  subst hw
  go_wp2_with fail
  refine (impl_pwg (by decide) (wf_i64_of (by omega) (by omega))).mono ?_
  rw [← HXx.out]
  rintro e w4 ⟨rfl, h1⟩
  replace HB := Lib.hid (HB.out.trans (h1.mono HB.out.size))
  clear h1
  go_wp2_with fail
  go_ret
  exact ⟨by rw [HX.out]; rfl, HB.out⟩

set_option maxHeartbeats 1000000 in
/-- spec.HashToGroup. -/
theorem spec_hgr {w : World} {l v : Int} (hl : (Lit.int .i64 l).wf = true) (hv : (Lit.int .i64 v).wf = true) :
    Calls Tryd.prog 44 #[.int .i64 l, .int .i64 v] w fun e w' => e = .returned (.int .i64 (hgr l v)) ∧ Below w.heap.size w w' := by
  have HR := Lib.hid (Rd.two 3 .i64 w 89 v (by decide) hv)
  have HL := Lib.hid hl
  have HB := Lib.hid ((Below.refl w.heap.size w).alloc (Nat.le_refl _) (.cells #[.int .i64 89, .int .i64 v] 3))
  have hq := kh_bound l [89, v]
  have hs := kid_nn (kh l [89, v]) 0
  have hE : hexp l v = 1 + kid (kh l [89, v]) 0 % 1018 := rfl
  obtain ⟨q, hqe⟩ : ∃ q, q = kh l [89, v] := ⟨_, rfl⟩
  rw [← hqe] at hq hs hE
  obtain ⟨s, hse⟩ : ∃ s, s = kid q 0 := ⟨_, rfl⟩
  rw [← hse] at hs hE
  have HQ := Lib.hid hqe
  have HS := Lib.hid hse
  have htb : 0 ≤ s % 1018 ∧ s % 1018 ≤ 1017 := by omega
  have HX : Hid (pwG 4 (1 + s % 1018) = hgr l v) := Lib.hid (by unfold hgr; rw [hE])
  obtain ⟨x, hx⟩ : ∃ x, x = hgr l v := ⟨_, rfl⟩
  rw [← hx] at HX ⊢
  clear hqe hse hE hx hl hv
  go_enter Tryd.func44, Tryd.ntmps44
  go_wp2_with fail
  refine (spec_kh HR.out (by simp) HL.out (by simp)).mono ?_
  rw [← HQ.out]
  rintro e w1 ⟨rfl, h1⟩
  replace HB := Lib.hid (HB.out.trans (h1.mono (by simp)))
  clear h1
  go_wp2_with fail
  refine (spec_cs (wf_i64_of (by omega) (by omega)) (by decide)).mono ?_
  rw [← HS.out]
  rintro e w2 ⟨rfl, h1⟩
  replace HB := Lib.hid (HB.out.trans (h1.mono HB.out.size))
  clear h1
  go_wp2_with fail
  refine (spec_pwg (by decide) (wf_i64_of (by omega) (by omega))).mono ?_
  rw [HX.out]
  rintro e w4 ⟨rfl, hw⟩
  subst hw
  go_wp2_with fail
  go_ret
  exact ⟨rfl, HB.out⟩


/-- impl.proofChallenge. -/
theorem impl_chg {lim : Nat} {w : World} {v : Value} {zs : List Int} (h : Rd lim .i64 w v zs) (hlim : lim ≤ w.heap.size) (hn : zs.length ≤ 1099511627776) :
    Calls Tryd.prog 51 #[v] w fun e w' => e = .returned (.int .i64 (kh 97 zs % 1019)) ∧ Below w.heap.size w w' := by
  obtain ⟨a, cap, rfl, _⟩ := h.open
  have hq := kh_bound 97 zs
  obtain ⟨q, hqe⟩ : ∃ q, q = kh 97 zs := ⟨_, rfl⟩
  rw [← hqe] at hq ⊢
  have HQ := Lib.hid hqe
  have H := Lib.hid h
  have HN := Lib.hid hn
  clear h hqe hn
  go_enter Tryd.func51, Tryd.ntmps51
  go_wp2_with fail
  refine (impl_kh H.out hlim (by decide)).mono ?_
  rw [← HQ.out]
  rintro e w1 ⟨rfl, h1⟩
  have HB := Lib.hid h1
  clear h1
  go_wp2_with fail
  refine (fe_any (wf_i64_of (by omega) (by omega))).mono ?_
  obtain ⟨t, ht⟩ : ∃ t, t = q % 1019 := ⟨_, rfl⟩
  rw [← ht]
  rintro e w2 ⟨rfl, hw⟩
  subst hw
  have HT := Lib.hid ht
  clear ht
  go_wp2_with fail
  go_ret
  exact ⟨by rw [← HT.out]; rfl, HB.out⟩


/-- spec.l15Challenge. -/
theorem spec_chg {lim : Nat} {w : World} {v : Value} {zs : List Int} (h : Rd lim .i64 w v zs) (hlim : lim ≤ w.heap.size) (hn : zs.length ≤ 1099511627776) :
    Calls Tryd.prog 57 #[v] w fun e w' => e = .returned (.int .i64 (kh 97 zs % 1019)) ∧ Below w.heap.size w w' := by
  obtain ⟨a, cap, rfl, _⟩ := h.open
  have hq := kh_bound 97 zs
  obtain ⟨q, hqe⟩ : ∃ q, q = kh 97 zs := ⟨_, rfl⟩
  rw [← hqe] at hq ⊢
  have HQ := Lib.hid hqe
  have H := Lib.hid h
  have HN := Lib.hid hn
  clear h hqe hn
  go_enter Tryd.func57, Tryd.ntmps57
  go_wp2_with fail
  refine (spec_kh H.out hlim (by decide) HN.out).mono ?_
  rw [← HQ.out]
  rintro e w1 ⟨rfl, h1⟩
  have HB := Lib.hid h1
  clear h1
  go_wp2_with fail
  go_ret
  exact ⟨rfl, HB.out⟩


theorem Own.lits4 {B : Nat} {w : World} {a b c d : Int} (k : IntKind) (e : TypeId) (hB : B ≤ w.heap.size) (ha : (Lit.int k a).wf = true) (hb : (Lit.int k b).wf = true) (hc : (Lit.int k c).wf = true) (hd : (Lit.int k d).wf = true) : Own e k B (w.alloc (.cells #[.int k a, .int k b, .int k c, .int k d] e)) (.slice (some ⟨w.heap.size, 0, none⟩) 4 4) [a, b, c, d] :=
  ⟨by intro t ht; simp at ht; rcases ht with rfl | rfl | rfl | rfl <;> assumption, by simp; omega, World.ownsRow_lit w #[.int k a, .int k b, .int k c, .int k d] 4 hB (by unfold maxLen; omega) rfl⟩
theorem Own.lits6 {B : Nat} {w : World} {a b c d f g : Int} (k : IntKind) (e : TypeId) (hB : B ≤ w.heap.size) (ha : (Lit.int k a).wf = true) (hb : (Lit.int k b).wf = true) (hc : (Lit.int k c).wf = true) (hd : (Lit.int k d).wf = true) (hf : (Lit.int k f).wf = true) (hg : (Lit.int k g).wf = true) : Own e k B (w.alloc (.cells #[.int k a, .int k b, .int k c, .int k d, .int k f, .int k g] e)) (.slice (some ⟨w.heap.size, 0, none⟩) 6 6) [a, b, c, d, f, g] :=
  ⟨by intro t ht; simp at ht; rcases ht with rfl | rfl | rfl | rfl | rfl | rfl <;> assumption, by simp; omega, World.ownsRow_lit w #[.int k a, .int k b, .int k c, .int k d, .int k f, .int k g] 6 hB (by unfold maxLen; omega) rfl⟩
theorem pwG_wf (g n : Int) : (Lit.int .i64 (pwG g n)).wf = true := by have := pwG_bound g n; exact wf_i64_of (by omega) (by omega)
theorem mulG_wf (g n : Int) : (Lit.int .i64 (mulG g n)).wf = true := by have := mulG_bound g n; exact wf_i64_of (by omega) (by omega)
theorem w64_wf (x : Int) : (Lit.int .i64 (wrap64 x)).wf = true := wf_i64_of (by unfold wrap64; omega) (by unfold wrap64; omega)


set_option maxHeartbeats 2000000 in
/-- impl.ProveEqual. -/
theorem impl_pr {w : World} {g h s t : Int} (hg : (Lit.int .i64 g).wf = true) (hh : (Lit.int .i64 h).wf = true) (hs : (Lit.int .i64 s).wf = true) (ht : (Lit.int .i64 t).wf = true) :
    Calls Tryd.prog 30 #[.int .i64 g, .int .i64 h, .int .i64 s, .int .i64 t] w fun e w' => e = .returned (.tuple #[.int .i64 (prC g h s t), .int .i64 (prR g h s t)]) ∧ Below w.heap.size w w' := by
  obtain ⟨p, hp⟩ : ∃ p, p = isG g := ⟨_, rfl⟩
  obtain ⟨q, hq⟩ : ∃ q, q = isG h := ⟨_, rfl⟩
  have HP := Lib.hid hp
  have HQ := Lib.hid hq
  have HG := Lib.hid hg
  have HH := Lib.hid hh
  have HS := Lib.hid hs
  have HT := Lib.hid ht
  have HB := Lib.hid (Below.refl w.heap.size w)
  clear hp hq hg hh hs ht
  cases p with
  | false =>
    have H1 : Hid (prC g h s t = 0) := Lib.hid (by unfold prC; rw [← HP.out]; rfl)
    have H2 : Hid (prR g h s t = 0) := Lib.hid (by unfold prR; rw [← HP.out]; rfl)
    go_enter Tryd.func30, Tryd.ntmps30
    go_wp2_with fail
    refine (impl_isg HG.out).mono ?_
    rw [← HP.out]
    rintro e w1 ⟨rfl, h1⟩
    replace HB := Lib.hid (HB.out.trans (h1.mono HB.out.size))
    clear h1
    go_wp2_with fail
    exact bodyPost_ret (v := .tuple #[.int .i64 0, .int .i64 0]) (by simp [results, Tryd.results30, go_sem]) rfl ⟨by rw [H1.out, H2.out], HB.out⟩
  | true =>
   cases q with
   | false =>
    have H1 : Hid (prC g h s t = 0) := Lib.hid (by unfold prC; rw [← HP.out, ← HQ.out]; rfl)
    have H2 : Hid (prR g h s t = 0) := Lib.hid (by unfold prR; rw [← HP.out, ← HQ.out]; rfl)
    go_enter Tryd.func30, Tryd.ntmps30
    go_wp2_with fail
    refine (impl_isg HG.out).mono ?_
    rw [← HP.out]
    rintro e w1 ⟨rfl, h1⟩
    replace HB := Lib.hid (HB.out.trans (h1.mono HB.out.size))
    clear h1
    go_wp2_with fail
    refine (impl_isg HH.out).mono ?_
    rw [← HQ.out]
    rintro e w2 ⟨rfl, h1⟩
    replace HB := Lib.hid (HB.out.trans (h1.mono HB.out.size))
    clear h1
    go_wp2_with fail
    exact bodyPost_ret (v := .tuple #[.int .i64 0, .int .i64 0]) (by simp [results, Tryd.results30, go_sem]) rfl ⟨by rw [H1.out, H2.out], HB.out⟩
   | true =>
    have hy : (isG g && isG h) = true := by rw [← HP.out, ← HQ.out]; rfl
    have h1 : prC g h s t = chl g h (pwG g s) (pwG h s) (pwG g t) (pwG h t) := if_pos hy
    have h2 : prR g h s t = wrap64 (t - wrap64 (prC g h s t * s)) % 1019 := if_pos hy
    have hcb := prC_bound g h s t
    obtain ⟨c, hc⟩ : ∃ c, c = prC g h s t := ⟨_, rfl⟩
    obtain ⟨r, hr⟩ : ∃ r, r = prR g h s t := ⟨_, rfl⟩
    rw [← hc] at h1 h2 hcb ⊢
    rw [← hr] at h2 ⊢
    have X1 := Lib.hid (pwG_wf g s)
    have X2 := Lib.hid (pwG_wf h s)
    have X3 := Lib.hid (pwG_wf g t)
    have X4 := Lib.hid (pwG_wf h t)
    unfold chl at h1
    obtain ⟨a1, e1⟩ : ∃ a, a = pwG g s := ⟨_, rfl⟩
    obtain ⟨a2, e2⟩ : ∃ a, a = pwG h s := ⟨_, rfl⟩
    obtain ⟨a3, e3⟩ : ∃ a, a = pwG g t := ⟨_, rfl⟩
    obtain ⟨a4, e4⟩ : ∃ a, a = pwG h t := ⟨_, rfl⟩
    rw [← e1, ← e2, ← e3, ← e4] at h1
    rw [← e1] at X1
    rw [← e2] at X2
    rw [← e3] at X3
    rw [← e4] at X4
    have E1 := Lib.hid e1
    have E2 := Lib.hid e2
    have E3 := Lib.hid e3
    have E4 := Lib.hid e4
    have HC := Lib.hid h1
    have HRr := Lib.hid h2
    have HCw : Hid ((Lit.int .i64 c).wf = true) := Lib.hid (wf_i64_of (by omega) (by omega))
    have sb := wf_i64 HS.out
    have tb := wf_i64 HT.out
    clear h1 h2 hc hr e1 e2 e3 e4 hy
    go_enter Tryd.func30, Tryd.ntmps30
    go_wp2_with fail
    refine (impl_isg HG.out).mono ?_
    rw [← HP.out]
    rintro e w1 ⟨rfl, h1⟩
    replace HB := Lib.hid (HB.out.trans (h1.mono HB.out.size))
    clear h1
    go_wp2_with fail
    refine (impl_isg HH.out).mono ?_
    rw [← HQ.out]
    rintro e w2 ⟨rfl, h1⟩
    replace HB := Lib.hid (HB.out.trans (h1.mono HB.out.size))
    clear h1
    go_wp2_with fail
    refine (impl_pwg HG.out HS.out).mono ?_
    rw [← E1.out]
    rintro e w3 ⟨rfl, h1⟩
    replace HB := Lib.hid (HB.out.trans (h1.mono HB.out.size))
    clear h1
    go_wp2_with fail
    refine (impl_pwg HH.out HS.out).mono ?_
    rw [← E2.out]
    rintro e w4 ⟨rfl, h1⟩
    replace HB := Lib.hid (HB.out.trans (h1.mono HB.out.size))
    clear h1
    go_wp2_with fail
    refine (impl_pwg HG.out HT.out).mono ?_
    rw [← E3.out]
    rintro e w5 ⟨rfl, h1⟩
    replace HB := Lib.hid (HB.out.trans (h1.mono HB.out.size))
    clear h1
    go_wp2_with fail
    refine (impl_pwg HH.out HT.out).mono ?_
    rw [← E4.out]
    rintro e w6 ⟨rfl, h1⟩
    replace HB := Lib.hid (HB.out.trans (h1.mono HB.out.size))
    clear h1
    have o1 := Own.lits6 (B := w6.heap.size) (w := w6) .i64 3 (Nat.le_refl _) HG.out HH.out X1.out X2.out X3.out X4.out
    have HO := Lib.hid o1.rd
    replace HB := Lib.hid (HB.out.alloc HB.out.size (.cells #[.int .i64 g, .int .i64 h, .int .i64 a1, .int .i64 a2, .int .i64 a3, .int .i64 a4] 3))
    clear o1
    go_wp2_with fail
    refine (impl_chg HO.out (Nat.le_refl _) (by simp)).mono ?_
    rw [← HC.out]
    rintro e w7 ⟨rfl, h1⟩
    replace HB := Lib.hid (HB.out.trans (h1.mono HB.out.size))
    clear h1
    go_wp2_with fail
    refine (fe_any (w64_wf _)).mono ?_
    rw [← HRr.out]
    rintro e w8 ⟨rfl, hw⟩
    obtain rfl := hw.symm
    go_wp2_with fail
    exact bodyPost_ret (v := .tuple #[.int .i64 c, .int .i64 r]) (by simp [results, Tryd.results30, go_sem]) rfl ⟨rfl, HB.out⟩

end Go.Proofs.YtkmfcboejojgmaaDoor
