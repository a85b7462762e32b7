/- The small group: inverses of exponents, elements from hashes, proofs of equal exponents; the program's and the document's. No conditions but numbers that a machine holds. -/
import Derived.Test.YtdlbpeippmibcaaGr2
namespace Go.Proofs.Ytdlbpeippmibcaa
open Go Go.RowKit
set_option linter.unusedVariables false
attribute [local irreducible] kh kid pwm tcm pw

/-- A wf for what is small. -/
theorem kid_nn (s c : Int) : 0 ≤ kid s c ∧ kid s c ≤ 2147483646 := kid_bound s c

/-- impl.exponentFrom. -/
theorem impl_ef {w : World} {q : Int} (hq : (Lit.int .i64 q).wf = true) :
    Calls Try.prog 57 #[.int .i64 q] w fun e w' => e = .returned (.int .i64 (1 + kid q 0 % 1018)) ∧ Below w.heap.size w w' := by
  have hs := kid_nn q 0
  have HB := Lib.hid (Below.refl w.heap.size w)
  obtain ⟨s, hse⟩ : ∃ s, s = kid q 0 := ⟨_, rfl⟩
  rw [← hse] at hs ⊢
  have HS := Lib.hid hse
  have HM : Hid (modV s 1018 = s % 1018) := Lib.hid (if_pos (by omega))
  obtain ⟨t, ht⟩ : ∃ t, t = s % 1018 := ⟨_, rfl⟩
  rw [← ht] at HM ⊢
  have htb : 0 ≤ t ∧ t ≤ 1017 := by omega
  have HQ := Lib.hid hq
  clear hse ht hq
  go_enter Try.func57, Try.ntmps57
  go_wp2_with fail
  refine (impl_cs HQ.out (by decide)).mono ?_
  rw [← HS.out]
  rintro e w2 ⟨rfl, h1⟩
  replace HB := Lib.hid (HB.out.trans h1)
  clear h1
  go_wp2_with fail
  refine (impl_mod _ _ _ (by omega) (by omega)).mono ?_
  rw [HM.out]
  rintro e w3 ⟨rfl, hw⟩
  subst hw
  go_wp2_with fail
  go_ret
  exact ⟨rfl, HB.out⟩

set_option maxHeartbeats 1000000 in
/-- impl.HashToGroup. -/
theorem impl_hgr {w : World} {l v : Int} (hl : (Lit.int .i64 l).wf = true) (hv : (Lit.int .i64 v).wf = true) :
    Calls Try.prog 90 #[.int .i64 l, .int .i64 v] w fun e w' => e = .returned (.int .i64 (hgr l v)) ∧ Below w.heap.size w w' := by
  have HR := Lib.hid (Rd.two 3 .i64 w 89 v (by decide) hv)
  have HL := Lib.hid hl
  have HB := Lib.hid ((Below.refl w.heap.size w).alloc (Nat.le_refl _) (.cells #[.int .i64 89, .int .i64 v] 3))
  have hq := kh_bound l [89, v]
  have hE : hexp l v = 1 + kid (kh l [89, v]) 0 % 1018 := rfl
  obtain ⟨q, hqe⟩ : ∃ q, q = kh l [89, v] := ⟨_, rfl⟩
  rw [← hqe] at hq hE
  have HQ := Lib.hid hqe
  obtain ⟨t, ht⟩ : ∃ t, t = 1 + kid q 0 % 1018 := ⟨_, rfl⟩
  rw [← ht] at hE
  have htb : 1 ≤ t ∧ t ≤ 1018 := by omega
  have HT := Lib.hid ht
  have HX : Hid (hgr l v = pwG 4 t) := Lib.hid (by unfold hgr; rw [hE])
  obtain ⟨x, hx⟩ : ∃ x, x = pwG 4 t := ⟨_, rfl⟩
  rw [← hx] at HX
  have HXx := Lib.hid hx
  clear hqe hE ht hx hl hv
  go_enter Try.func90, Try.ntmps90
  go_wp2_with fail
  refine (impl_kh HR.out (by simp) HL.out).mono ?_
  rw [← HQ.out]
  rintro e w1 ⟨rfl, h1⟩
  replace HB := Lib.hid (HB.out.trans (h1.mono (by simp)))
  clear h1
  go_wp2_with fail
  refine (impl_ef (wf_i64_of (by omega) (by omega))).mono ?_
  rw [← HT.out]
  rintro e w2 ⟨rfl, h1⟩
  replace HB := Lib.hid (HB.out.trans (h1.mono HB.out.size))
  clear h1
  go_wp2_with fail
  refine (impl_pwg (by decide) (wf_i64_of (by omega) (by omega))).mono ?_
  rw [← HXx.out]
  rintro e w4 ⟨rfl, h1⟩
  replace HB := Lib.hid (HB.out.trans (h1.mono HB.out.size))
  clear h1
  go_wp2_with fail
  go_ret
  exact ⟨by rw [HX.out]; first | done | rfl, HB.out⟩

set_option maxHeartbeats 1000000 in
/-- spec.HashToGroup. -/
theorem spec_hgr {w : World} {l v : Int} (hl : (Lit.int .i64 l).wf = true) (hv : (Lit.int .i64 v).wf = true) :
    Calls Try.prog 46 #[.int .i64 l, .int .i64 v] w fun e w' => e = .returned (.int .i64 (hgr l v)) ∧ Below w.heap.size w w' := by
  have HR := Lib.hid (Rd.two 3 .i64 w 89 v (by decide) hv)
  have HL := Lib.hid hl
  have HB := Lib.hid ((Below.refl w.heap.size w).alloc (Nat.le_refl _) (.cells #[.int .i64 89, .int .i64 v] 3))
  have hq := kh_bound l [89, v]
  have hs := kid_nn (kh l [89, v]) 0
  have hE : hexp l v = 1 + kid (kh l [89, v]) 0 % 1018 := rfl
  obtain ⟨q, hqe⟩ : ∃ q, q = kh l [89, v] := ⟨_, rfl⟩
  rw [← hqe] at hq hs hE
  obtain ⟨s, hse⟩ : ∃ s, s = kid q 0 := ⟨_, rfl⟩
  rw [← hse] at hs hE
  have HQ := Lib.hid hqe
  have HS := Lib.hid hse
  have htb : 0 ≤ s % 1018 ∧ s % 1018 ≤ 1017 := by omega
  have HX : Hid (pwG 4 (1 + s % 1018) = hgr l v) := Lib.hid (by unfold hgr; rw [hE])
  obtain ⟨x, hx⟩ : ∃ x, x = hgr l v := ⟨_, rfl⟩
  rw [← hx] at HX ⊢
  clear hqe hse hE hx hl hv
  go_enter Try.func46, Try.ntmps46
  go_wp2_with fail
  refine (spec_kh HR.out (by simp) HL.out (by simp)).mono ?_
  rw [← HQ.out]
  rintro e w1 ⟨rfl, h1⟩
  replace HB := Lib.hid (HB.out.trans (h1.mono (by simp)))
  clear h1
  go_wp2_with fail
  refine (spec_cs (wf_i64_of (by omega) (by omega)) (by decide)).mono ?_
  rw [← HS.out]
  rintro e w2 ⟨rfl, h1⟩
  replace HB := Lib.hid (HB.out.trans (h1.mono HB.out.size))
  clear h1
  go_wp2_with fail
  refine (spec_pwg (by decide) (wf_i64_of (by omega) (by omega))).mono ?_
  rw [HX.out]
  rintro e w4 ⟨rfl, hw⟩
  subst hw
  go_wp2_with fail
  go_ret
  exact ⟨rfl, HB.out⟩


theorem Own.lits4 {B : Nat} {w : World} {a b c d : Int} (k : IntKind) (e : TypeId) (hB : B ≤ w.heap.size) (ha : (Lit.int k a).wf = true) (hb : (Lit.int k b).wf = true) (hc : (Lit.int k c).wf = true) (hd : (Lit.int k d).wf = true) : Own e k B (w.alloc (.cells #[.int k a, .int k b, .int k c, .int k d] e)) (.slice (some ⟨w.heap.size, 0, none⟩) 4 4) [a, b, c, d] :=
  ⟨by intro t ht; simp at ht; rcases ht with rfl | rfl | rfl | rfl <;> assumption, by simp; omega, World.ownsRow_lit w #[.int k a, .int k b, .int k c, .int k d] 4 hB (by unfold maxLen; omega) rfl⟩
theorem Own.lits6 {B : Nat} {w : World} {a b c d f g : Int} (k : IntKind) (e : TypeId) (hB : B ≤ w.heap.size) (ha : (Lit.int k a).wf = true) (hb : (Lit.int k b).wf = true) (hc : (Lit.int k c).wf = true) (hd : (Lit.int k d).wf = true) (hf : (Lit.int k f).wf = true) (hg : (Lit.int k g).wf = true) : Own e k B (w.alloc (.cells #[.int k a, .int k b, .int k c, .int k d, .int k f, .int k g] e)) (.slice (some ⟨w.heap.size, 0, none⟩) 6 6) [a, b, c, d, f, g] :=
  ⟨by intro t ht; simp at ht; rcases ht with rfl | rfl | rfl | rfl | rfl | rfl <;> assumption, by simp; omega, World.ownsRow_lit w #[.int k a, .int k b, .int k c, .int k d, .int k f, .int k g] 6 hB (by unfold maxLen; omega) rfl⟩
theorem pwG_wf (g n : Int) : (Lit.int .i64 (pwG g n)).wf = true := by have := pwG_bound g n; exact wf_i64_of (by omega) (by omega)
theorem mulG_wf (g n : Int) : (Lit.int .i64 (mulG g n)).wf = true := by have := mulG_bound g n; exact wf_i64_of (by omega) (by omega)
theorem w64_wf (x : Int) : (Lit.int .i64 (wrap64 x)).wf = true := wf_i64_of (by unfold wrap64; omega) (by unfold wrap64; omega)


end Go.Proofs.Ytdlbpeippmibcaa
