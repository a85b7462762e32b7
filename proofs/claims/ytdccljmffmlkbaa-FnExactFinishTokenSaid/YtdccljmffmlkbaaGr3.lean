/- The small group: inverses of exponents, elements from hashes, proofs of equal exponents; the program's and the document's. No conditions but numbers that a machine holds. -/
import Derived.Test.YtdccljmffmlkbaaGr2
namespace Go.Proofs.Ytdccljmffmlkbaa
open Go Go.RowKit
set_option linter.unusedVariables false
attribute [local irreducible] kh kid pwm tcm pw

/-- impl.InverseExponent. -/
theorem impl_inv {w : World} {n : Int} (hn : (Lit.int .i64 n).wf = true) :
    Calls Try.prog 65 #[.int .i64 n] w fun e w' => e = .returned (.int .i64 (invE n)) ∧ w' = w := by
  obtain ⟨x, hx⟩ : ∃ x, x = n % 1019 := ⟨_, rfl⟩
  have hb : 0 ≤ x ∧ x < 1019 := by omega
  obtain ⟨y, hy⟩ : ∃ y, y = invE n := ⟨_, rfl⟩
  have HY : Hid (pwm 1019 x 1017 = y) := Lib.hid (by rw [hx, hy]; exact pwm_inv rfl n)
  rw [← hy]
  have HX := Lib.hid hx
  clear hx hy
  go_enter Try.func65, Try.ntmps65
  go_wp2_with fail
  refine (fe_any hn).mono ?_
  rw [← HX.out]
  rintro e w1 ⟨rfl, hw⟩
  subst hw
  go_wp2_with fail
  refine (impl_pm (n := 1017) rfl hb.1 hb.2 (by omega) (by omega) (by omega)).mono ?_
  rw [HY.out]
  rintro e w1 ⟨rfl, hw⟩
  subst hw
  go_wp2_with fail
  go_ret
  exact ⟨rfl, rfl⟩

set_option maxHeartbeats 1000000 in
/-- spec.InverseExponent. -/
theorem spec_inv {w : World} {n : Int} (hn : (Lit.int .i64 n).wf = true) :
    Calls Try.prog 43 #[.int .i64 n] w fun e w' => e = .returned (.int .i64 (invE n)) ∧ w' = w := by
  obtain ⟨x, hx⟩ : ∃ x, x = n % 1019 := ⟨_, rfl⟩
  have hb : 0 ≤ x ∧ x < 1019 := by omega
  have hnb := wf_i64 hn
  obtain ⟨y, hy⟩ : ∃ y, y = invE n := ⟨_, rfl⟩
  have HY : Hid (ivn x 1018 1 = y) := Lib.hid (by rw [hx, hy]; rfl)
  rw [← hy]
  have HX : Hid (modV n 1019 = x) := Lib.hid (by rw [hx]; exact modV_1019 n)
  clear hx hy
  go_enter Try.func43, Try.ntmps43
  go_wp2_with fail
  refine (spec_mod _ _ _ hnb.1 hnb.2).mono ?_
  rw [HX.out]
  rintro e w1 ⟨rfl, hw⟩
  subst hw
  go_wp2_with fail
  go_loopw [4] (fun m wr => ∃ j : Nat, m = .int .i64 j ∧ 1 ≤ j ∧ j ≤ 1019 ∧ ivn x (1019 - j) j = y ∧ wr = w1) (fun m _ => 1019 - (intOf m).toNat)
  case atStart => exact ⟨1, rfl, by omega, by omega, HY.out, rfl⟩
  case round =>
    obtain ⟨j, rfl, hj1, hj, hiv, rfl⟩ := hrel
    have HI := Lib.hid hiv
    clear hiv
    by_cases hlt : j < 1019
    · have e1 : decide ((j : Int) < 1019) = true := by simp; omega
      have hm := pm_mul (m := 1019) (a := x) (b := (j : Int)) hb.1 hb.2 (by omega) (by omega) (by omega)
      have HS : Hid (ivn x (1019 - j) j = if x * j % 1019 = 1 then (j : Int) else ivn x (1019 - (j + 1)) ((j : Int) + 1)) := Lib.hid (by rw [show 1019 - j = (1019 - (j + 1)) + 1 by omega]; rfl)
      obtain ⟨t, ht⟩ : ∃ t, t = x * (j : Int) % 1019 := ⟨_, rfl⟩
      rw [← ht] at hm HS
      have HM := Lib.hid hm
      clear ht
      by_cases h1 : t = 1
      · have e2 : (t == 1) = true := beq_iff_eq.2 h1
        have HE : Hid (y = (j : Int)) := Lib.hid (by rw [← HI.out, HS.out, if_pos h1])
        clear h1
        go_wp2_with fail
        go_ret
        exact ⟨by rw [HE.out]; rfl, rfl⟩
      · have e2 : (t == 1) = false := beq_eq_false_iff_ne.2 h1
        have HE : Hid (ivn x (1019 - (j + 1)) ((j : Int) + 1) = y) := Lib.hid (by rw [← HI.out, HS.out, if_neg h1])
        clear h1
        go_wp2_with fail
        go_roundw
        case rel => exact ⟨j + 1, by simp, by omega, by omega, by rw [show ((j + 1 : Nat) : Int) = (j : Int) + 1 by push_cast; rfl]; exact HE.out, by first | rfl | trivial⟩
        case measure => simp [intOf]; omega
    · have e1 : decide ((j : Int) < 1019) = false := by simp; omega
      obtain rfl : j = 1019 := by omega
      have HE : Hid (y = 0) := Lib.hid (by rw [← HI.out]; rfl)
      go_wp2_with fail
      go_ret
      exact ⟨by rw [HE.out]; rfl, rfl⟩

/-- A wf for what is small. -/
theorem kid_nn (s c : Int) : 0 ≤ kid s c ∧ kid s c ≤ 2147483646 := kid_bound s c

/-- impl.exponentFrom. -/
theorem impl_ef {w : World} {q : Int} (hq : (Lit.int .i64 q).wf = true) :
    Calls Try.prog 37 #[.int .i64 q] w fun e w' => e = .returned (.int .i64 (1 + kid q 0 % 1018)) ∧ Below w.heap.size w w' := by
  have hs := kid_nn q 0
  have HB := Lib.hid (Below.refl w.heap.size w)
  obtain ⟨s, hse⟩ : ∃ s, s = kid q 0 := ⟨_, rfl⟩
  rw [← hse] at hs ⊢
  have HS := Lib.hid hse
  have HM : Hid (modV s 1018 = s % 1018) := Lib.hid (if_pos (by omega))
  obtain ⟨t, ht⟩ : ∃ t, t = s % 1018 := ⟨_, rfl⟩
  rw [← ht] at HM ⊢
  have htb : 0 ≤ t ∧ t ≤ 1017 := by omega
  have HQ := Lib.hid hq
  clear hse ht hq
  go_enter Try.func37, Try.ntmps37
  go_wp2_with fail
  refine (impl_cs HQ.out (by decide)).mono ?_
  rw [← HS.out]
  rintro e w2 ⟨rfl, h1⟩
  replace HB := Lib.hid (HB.out.trans h1)
  clear h1
  go_wp2_with fail
  refine (impl_mod _ _ _ (by omega) (by omega)).mono ?_
  rw [HM.out]
  rintro e w3 ⟨rfl, hw⟩
  subst hw
  go_wp2_with fail
  go_ret
  exact ⟨rfl, HB.out⟩

set_option maxHeartbeats 1000000 in
/-- impl.HashToGroup. -/
theorem impl_hgr {w : World} {l v : Int} (hl : (Lit.int .i64 l).wf = true) (hv : (Lit.int .i64 v).wf = true) :
    Calls Try.prog 16 #[.int .i64 l, .int .i64 v] w fun e w' => e = .returned (.int .i64 (hgr l v)) ∧ Below w.heap.size w w' := by
  have HR := Lib.hid (Rd.two 3 .i64 w 89 v (by decide) hv)
  have HL := Lib.hid hl
  have HB := Lib.hid ((Below.refl w.heap.size w).alloc (Nat.le_refl _) (.cells #[.int .i64 89, .int .i64 v] 3))
  have hq := kh_bound l [89, v]
  have hE : hexp l v = 1 + kid (kh l [89, v]) 0 % 1018 := rfl
  obtain ⟨q, hqe⟩ : ∃ q, q = kh l [89, v] := ⟨_, rfl⟩
  rw [← hqe] at hq hE
  have HQ := Lib.hid hqe
  obtain ⟨t, ht⟩ : ∃ t, t = 1 + kid q 0 % 1018 := ⟨_, rfl⟩
  rw [← ht] at hE
  have htb : 1 ≤ t ∧ t ≤ 1018 := by omega
  have HT := Lib.hid ht
  have HX : Hid (hgr l v = pwG 4 t) := Lib.hid (by unfold hgr; rw [hE])
  obtain ⟨x, hx⟩ : ∃ x, x = pwG 4 t := ⟨_, rfl⟩
  rw [← hx] at HX
  have HXx := Lib.hid hx
  clear hqe hE ht hx hl hv
  go_enter Try.func16, Try.ntmps16
  go_wp2_with fail
  refine (impl_kh HR.out (by simp) HL.out).mono ?_
  rw [← HQ.out]
  rintro e w1 ⟨rfl, h1⟩
  replace HB := Lib.hid (HB.out.trans (h1.mono (by simp)))
  clear h1
  go_wp2_with fail
  refine (impl_ef (wf_i64_of (by omega) (by omega))).mono ?_
  rw [← HT.out]
  rintro e w2 ⟨rfl, h1⟩
  replace HB := Lib.hid (HB.out.trans (h1.mono HB.out.size))
  clear h1
  go_wp2_with fail
  refine (impl_pwg (by decide) (wf_i64_of (by omega) (by omega))).mono ?_
  rw [← HXx.out]
  rintro e w4 ⟨rfl, h1⟩
  replace HB := Lib.hid (HB.out.trans (h1.mono HB.out.size))
  clear h1
  go_wp2_with fail
  go_ret
  exact ⟨by rw [HX.out]; first | done | rfl, HB.out⟩

set_option maxHeartbeats 1000000 in
/-- spec.HashToGroup. -/
theorem spec_hgr {w : World} {l v : Int} (hl : (Lit.int .i64 l).wf = true) (hv : (Lit.int .i64 v).wf = true) :
    Calls Try.prog 15 #[.int .i64 l, .int .i64 v] w fun e w' => e = .returned (.int .i64 (hgr l v)) ∧ Below w.heap.size w w' := by
  have HR := Lib.hid (Rd.two 3 .i64 w 89 v (by decide) hv)
  have HL := Lib.hid hl
  have HB := Lib.hid ((Below.refl w.heap.size w).alloc (Nat.le_refl _) (.cells #[.int .i64 89, .int .i64 v] 3))
  have hq := kh_bound l [89, v]
  have hs := kid_nn (kh l [89, v]) 0
  have hE : hexp l v = 1 + kid (kh l [89, v]) 0 % 1018 := rfl
  obtain ⟨q, hqe⟩ : ∃ q, q = kh l [89, v] := ⟨_, rfl⟩
  rw [← hqe] at hq hs hE
  obtain ⟨s, hse⟩ : ∃ s, s = kid q 0 := ⟨_, rfl⟩
  rw [← hse] at hs hE
  have HQ := Lib.hid hqe
  have HS := Lib.hid hse
  have htb : 0 ≤ s % 1018 ∧ s % 1018 ≤ 1017 := by omega
  have HX : Hid (pwG 4 (1 + s % 1018) = hgr l v) := Lib.hid (by unfold hgr; rw [hE])
  obtain ⟨x, hx⟩ : ∃ x, x = hgr l v := ⟨_, rfl⟩
  rw [← hx] at HX ⊢
  clear hqe hse hE hx hl hv
  go_enter Try.func15, Try.ntmps15
  go_wp2_with fail
  refine (spec_kh HR.out (by simp) HL.out (by simp)).mono ?_
  rw [← HQ.out]
  rintro e w1 ⟨rfl, h1⟩
  replace HB := Lib.hid (HB.out.trans (h1.mono (by simp)))
  clear h1
  go_wp2_with fail
  refine (spec_cs (wf_i64_of (by omega) (by omega)) (by decide)).mono ?_
  rw [← HS.out]
  rintro e w2 ⟨rfl, h1⟩
  replace HB := Lib.hid (HB.out.trans (h1.mono HB.out.size))
  clear h1
  go_wp2_with fail
  refine (spec_pwg (by decide) (wf_i64_of (by omega) (by omega))).mono ?_
  rw [HX.out]
  rintro e w4 ⟨rfl, hw⟩
  subst hw
  go_wp2_with fail
  go_ret
  exact ⟨rfl, HB.out⟩


/-- impl.proofChallenge. -/
theorem impl_chg {lim : Nat} {w : World} {v : Value} {zs : List Int} (h : Rd lim .i64 w v zs) (hlim : lim ≤ w.heap.size) (hn : zs.length ≤ 1099511627776) :
    Calls Try.prog 68 #[v] w fun e w' => e = .returned (.int .i64 (kh 97 zs % 1019)) ∧ Below w.heap.size w w' := by
  obtain ⟨a, cap, rfl, _⟩ := h.open
  have hq := kh_bound 97 zs
  obtain ⟨q, hqe⟩ : ∃ q, q = kh 97 zs := ⟨_, rfl⟩
  rw [← hqe] at hq ⊢
  have HQ := Lib.hid hqe
  have H := Lib.hid h
  have HN := Lib.hid hn
  clear h hqe hn
  go_enter Try.func68, Try.ntmps68
  go_wp2_with fail
  refine (impl_kh H.out hlim (by decide)).mono ?_
  rw [← HQ.out]
  rintro e w1 ⟨rfl, h1⟩
  have HB := Lib.hid h1
  clear h1
  go_wp2_with fail
  refine (fe_any (wf_i64_of (by omega) (by omega))).mono ?_
  obtain ⟨t, ht⟩ : ∃ t, t = q % 1019 := ⟨_, rfl⟩
  rw [← ht]
  rintro e w2 ⟨rfl, hw⟩
  subst hw
  have HT := Lib.hid ht
  clear ht
  go_wp2_with fail
  go_ret
  exact ⟨by rw [← HT.out]; rfl, HB.out⟩


/-- spec.l15Challenge. -/
theorem spec_chg {lim : Nat} {w : World} {v : Value} {zs : List Int} (h : Rd lim .i64 w v zs) (hlim : lim ≤ w.heap.size) (hn : zs.length ≤ 1099511627776) :
    Calls Try.prog 60 #[v] w fun e w' => e = .returned (.int .i64 (kh 97 zs % 1019)) ∧ Below w.heap.size w w' := by
  obtain ⟨a, cap, rfl, _⟩ := h.open
  have hq := kh_bound 97 zs
  obtain ⟨q, hqe⟩ : ∃ q, q = kh 97 zs := ⟨_, rfl⟩
  rw [← hqe] at hq ⊢
  have HQ := Lib.hid hqe
  have H := Lib.hid h
  have HN := Lib.hid hn
  clear h hqe hn
  go_enter Try.func60, Try.ntmps60
  go_wp2_with fail
  refine (spec_kh H.out hlim (by decide) HN.out).mono ?_
  rw [← HQ.out]
  rintro e w1 ⟨rfl, h1⟩
  have HB := Lib.hid h1
  clear h1
  go_wp2_with fail
  go_ret
  exact ⟨rfl, HB.out⟩


theorem Own.lits4 {B : Nat} {w : World} {a b c d : Int} (k : IntKind) (e : TypeId) (hB : B ≤ w.heap.size) (ha : (Lit.int k a).wf = true) (hb : (Lit.int k b).wf = true) (hc : (Lit.int k c).wf = true) (hd : (Lit.int k d).wf = true) : Own e k B (w.alloc (.cells #[.int k a, .int k b, .int k c, .int k d] e)) (.slice (some ⟨w.heap.size, 0, none⟩) 4 4) [a, b, c, d] :=
  ⟨by intro t ht; simp at ht; rcases ht with rfl | rfl | rfl | rfl <;> assumption, by simp; omega, World.ownsRow_lit w #[.int k a, .int k b, .int k c, .int k d] 4 hB (by unfold maxLen; omega) rfl⟩
theorem Own.lits6 {B : Nat} {w : World} {a b c d f g : Int} (k : IntKind) (e : TypeId) (hB : B ≤ w.heap.size) (ha : (Lit.int k a).wf = true) (hb : (Lit.int k b).wf = true) (hc : (Lit.int k c).wf = true) (hd : (Lit.int k d).wf = true) (hf : (Lit.int k f).wf = true) (hg : (Lit.int k g).wf = true) : Own e k B (w.alloc (.cells #[.int k a, .int k b, .int k c, .int k d, .int k f, .int k g] e)) (.slice (some ⟨w.heap.size, 0, none⟩) 6 6) [a, b, c, d, f, g] :=
  ⟨by intro t ht; simp at ht; rcases ht with rfl | rfl | rfl | rfl | rfl | rfl <;> assumption, by simp; omega, World.ownsRow_lit w #[.int k a, .int k b, .int k c, .int k d, .int k f, .int k g] 6 hB (by unfold maxLen; omega) rfl⟩
theorem pwG_wf (g n : Int) : (Lit.int .i64 (pwG g n)).wf = true := by have := pwG_bound g n; exact wf_i64_of (by omega) (by omega)
theorem mulG_wf (g n : Int) : (Lit.int .i64 (mulG g n)).wf = true := by have := mulG_bound g n; exact wf_i64_of (by omega) (by omega)
theorem w64_wf (x : Int) : (Lit.int .i64 (wrap64 x)).wf = true := wf_i64_of (by unfold wrap64; omega) (by unfold wrap64; omega)


end Go.Proofs.Ytdccljmffmlkbaa
