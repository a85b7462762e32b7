/- The small group: powers by squaring, elements; the program's and the document's. No conditions but numbers that a machine holds. -/
import Derived.Test.YtdlbpeippmibcaaGrS
import Derived.Test.YtdlbpeippmibcaaSh1
import Derived.Test.YtdlbpeippmibcaaEnc
namespace Go.Proofs.Ytdlbpeippmibcaa
open Go Go.RowKit
set_option linter.unusedVariables false
attribute [local irreducible] kh kid pwm tcm pw

theorem pm_mul {a b m : Int} (ha0 : 0 ≤ a) (ha1 : a < m) (hb0 : 0 ≤ b) (hb1 : b < m) (hm : m ≤ 2039) : (wrap64 (a * b)).tmod m = a * b % m := by
  have h := mul_bound ha0 (by omega) hb0 (by omega)
  have e1 : wrap64 (a * b) = a * b := by generalize a * b = q at h ⊢; unfold wrap64; omega
  rw [e1]
  exact Int.tmod_eq_emod_of_nonneg h.1
theorem pm_mulw {a b : Int} (ha0 : 0 ≤ a) (ha1 : a < 2039) (hb0 : 0 ≤ b) (hb1 : b < 2039) : wrap64 (a * b) = a * b := by
  have h := mul_bound ha0 ha1 hb0 hb1
  generalize a * b = q at h ⊢
  unfold wrap64
  omega
theorem half_cast (k : Nat) : (k : Int) / 2 = ((k / 2 : Nat) : Int) := by omega

set_option maxHeartbeats 1000000 in
/-- impl.powerModulo. -/
theorem impl_pm {w : World} {g m k : Int} {n : Nat} (hk : k = (n : Int)) (h0 : 0 ≤ g) (h1 : g < m) (hm0 : 2 ≤ m) (hm : m ≤ 2039) (hn : n ≤ 1000000) :
    Calls Try.prog 93 #[.int .i64 g, .int .i64 k, .int .i64 m] w fun e w' => e = .returned (.int .i64 (pwm m g n)) ∧ w' = w := by
  subst hk
  obtain ⟨T, hT⟩ : ∃ T, T = pwm m g n := ⟨_, rfl⟩
  have HT := Lib.hid hT
  rw [← hT]
  clear hT
  have hmm : (m == 0) = false := beq_eq_false_iff_ne.2 (by omega)
  go_enter Try.func93, Try.ntmps93
  go_wp2_with fail
  go_loopw [0, 1, 7] (fun b e p wr => ∃ (x y : Int) (k : Nat), b = .int .i64 x ∧ e = .int .i64 k ∧ p = .int .i64 y ∧ k ≤ n ∧ 0 ≤ x ∧ x < m ∧ 0 ≤ y ∧ y < m ∧ tcm m y x k = T ∧ wr = w) (fun _ e _ _ => (intOf e).toNat)
  case atStart => exact ⟨g, 1, n, rfl, rfl, rfl, Nat.le_refl _, h0, h1, by omega, by omega, by rw [tcm_start, HT.out], rfl⟩
  case round =>
    obtain ⟨x, y, k, rfl, rfl, rfl, hk, hx0, hx1, hy0, hy1, htc, rfl⟩ := hrel
    have HTC := Lib.hid htc
    clear htc
    by_cases hlt : 0 < k
    · have e1 : decide ((0 : Int) < (k : Int)) = true := by simp; omega
      have P1 := Lib.hid (pm_mul hx0 hx1 hx0 hx1 hm)
      have P2 := Lib.hid (pm_mul hy0 hy1 hx0 hx1 hm)
      have Q1 := Lib.hid (mod_bd (x := x * x) (m := m) (by omega))
      have Q2 := Lib.hid (mod_bd (x := y * x) (m := m) (by omega))
      by_cases hod : k % 2 = 1
      · have e2 : (((k : Int) % 2 : Int) == 1) = true := by simp; omega
        have HE := Lib.hid (tcm_odd (m := m) (p := y) (b := x) hod)
        go_wp2_with fail
        refine ⟨⟨x * x % m, y * x % m, k / 2, by rw [P1.out], by rw [half_cast], by rw [P2.out], by omega, Q1.out.1, Q1.out.2, Q2.out.1, Q2.out.2, HE.out.trans HTC.out, trivial⟩, ?_⟩
        simp [intOf]; omega
      · have e2 : (((k : Int) % 2 : Int) == 1) = false := by simp; omega
        have HE := Lib.hid (tcm_even (m := m) (p := y) (b := x) (e := k) (by omega))
        go_wp2_with fail
        refine ⟨⟨x * x % m, y, k / 2, by rw [P1.out], by rw [half_cast], rfl, by omega, Q1.out.1, Q1.out.2, hy0, hy1, HE.out.trans HTC.out, trivial⟩, ?_⟩
        simp [intOf]; omega
    · have e1 : decide ((0 : Int) < (k : Int)) = false := by simp; omega
      obtain rfl : k = 0 := by omega
      have HY : Hid (y = T) := Lib.hid ((tcm_end hy0 hy1).symm.trans HTC.out)
      go_wp2_with fail
      go_ret
      exact ⟨by rw [HY.out]; rfl, rfl⟩

set_option maxHeartbeats 1000000 in
/-- spec.l15Pow. -/
theorem spec_pm {w : World} {g k : Int} {n : Nat} (hk : k = (n : Int)) (h0 : 0 ≤ g) (h1 : g < 2039) (hn : n ≤ 1000000) :
    Calls Try.prog 72 #[.int .i64 g, .int .i64 k] w fun e w' => e = .returned (.int .i64 (pwm 2039 g n)) ∧ w' = w := by
  subst hk
  obtain ⟨T, hT⟩ : ∃ T, T = pwm 2039 g n := ⟨_, rfl⟩
  have HT := Lib.hid hT
  rw [← hT]
  clear hT
  go_enter Try.func72, Try.ntmps72
  go_wp2_with fail
  go_loopw [0, 1, 5] (fun b e p wr => ∃ (x y : Int) (k : Nat), b = .int .i64 x ∧ e = .int .i64 k ∧ p = .int .i64 y ∧ k ≤ n ∧ 0 ≤ x ∧ x < 2039 ∧ 0 ≤ y ∧ y < 2039 ∧ tcm 2039 y x k = T ∧ wr = w) (fun _ e _ _ => (intOf e).toNat)
  case atStart => exact ⟨g, 1, n, rfl, rfl, rfl, Nat.le_refl _, h0, h1, by omega, by omega, by rw [tcm_start, HT.out], rfl⟩
  case round =>
    obtain ⟨x, y, k, rfl, rfl, rfl, hk, hx0, hx1, hy0, hy1, htc, rfl⟩ := hrel
    have HTC := Lib.hid htc
    clear htc
    by_cases hlt : 0 < k
    · have e1 : decide ((0 : Int) < (k : Int)) = true := by simp; omega
      have P1 := Lib.hid (pm_mul hx0 hx1 hx0 hx1 (Int.le_refl _))
      have P2 := Lib.hid (pm_mul hy0 hy1 hx0 hx1 (Int.le_refl _))
      have Q1 := Lib.hid (mod_bd (x := x * x) (m := 2039) (by omega))
      have Q2 := Lib.hid (mod_bd (x := y * x) (m := 2039) (by omega))
      have ha := i64_and1 (k : Int)
      by_cases hod : k % 2 = 1
      · have e2 : (((k : Int) % 2 : Int) == 1) = true := by simp; omega
        have HE := Lib.hid (tcm_odd (m := 2039) (p := y) (b := x) hod)
        go_wp2_with fail
        refine ⟨⟨x * x % 2039, y * x % 2039, k / 2, by rw [P1.out], by rw [half_cast], by rw [P2.out], by omega, Q1.out.1, Q1.out.2, Q2.out.1, Q2.out.2, HE.out.trans HTC.out, trivial⟩, ?_⟩
        simp [intOf]; omega
      · have e2 : (((k : Int) % 2 : Int) == 1) = false := by simp; omega
        have HE := Lib.hid (tcm_even (m := 2039) (p := y) (b := x) (e := k) (by omega))
        go_wp2_with fail
        refine ⟨⟨x * x % 2039, y, k / 2, by rw [P1.out], by rw [half_cast], rfl, by omega, Q1.out.1, Q1.out.2, hy0, hy1, HE.out.trans HTC.out, trivial⟩, ?_⟩
        simp [intOf]; omega
    · have e1 : decide ((0 : Int) < (k : Int)) = false := by simp; omega
      obtain rfl : k = 0 := by omega
      have HY : Hid (y = T) := Lib.hid ((tcm_end hy0 hy1).symm.trans HTC.out)
      go_wp2_with fail
      go_ret
      exact ⟨by rw [HY.out]; rfl, rfl⟩

end Go.Proofs.Ytdlbpeippmibcaa
