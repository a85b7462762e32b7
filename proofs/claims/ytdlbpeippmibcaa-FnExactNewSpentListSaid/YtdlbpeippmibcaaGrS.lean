/- The small group as numbers, second part: powers by squaring, the inverse of an exponent as a power, every element a power of every other but 1. Pure. No conditions but those that are named. -/
import Derived.Test.YtdlbpeippmibcaaGrN
import Derived.KernelRfl
namespace Go.Proofs.Ytdlbpeippmibcaa
open Go Go.RowKit
set_option linter.unusedVariables false
attribute [local irreducible] kh kid

theorem ml_l (m a b : Int) : (a % m) * b % m = a * b % m := by rw [Int.mul_emod, Int.emod_emod_of_dvd a (Int.dvd_refl m), ← Int.mul_emod]
theorem ml_r (m a b : Int) : a * (b % m) % m = a * b % m := by rw [Int.mul_comm, ml_l, Int.mul_comm]
/-- The power modulo m. -/
def pwm (m g : Int) (n : Nat) : Int := g ^ n % m
theorem pwm_pw (g : Int) (n : Nat) : pwm 2039 g n = pw g n := by
  induction n with
  | zero => unfold pwm; rw [Int.pow_zero]; rfl
  | succ n ih =>
    rw [pw_succ, ← ih]
    unfold pwm
    rw [Int.pow_succ, ml_l]
/-- What is still to come of a power. -/
def tcm (m p b : Int) (e : Nat) : Int := p * b ^ e % m
theorem tcm_start (m g : Int) (n : Nat) : tcm m 1 g n = pwm m g n := by unfold tcm pwm; rw [Int.one_mul]
theorem tcm_end {m p b : Int} (h0 : 0 ≤ p) (h1 : p < m) : tcm m p b 0 = p := by
  unfold tcm
  rw [Int.pow_zero, Int.mul_one]
  exact Int.emod_eq_of_lt h0 h1
theorem pow_l (m a : Int) (k : Nat) : (a % m) ^ k % m = a ^ k % m := by
  induction k with
  | zero => rw [Int.pow_zero, Int.pow_zero]
  | succ k ih => rw [Int.pow_succ, Int.pow_succ, ml_r, Int.mul_emod, ih, ← Int.mul_emod]
theorem pow_sq (b : Int) (k : Nat) : (b * b) ^ k = b ^ (2 * k) := by
  induction k with
  | zero => rw [Int.pow_zero, Nat.mul_zero, Int.pow_zero]
  | succ k ih => rw [Int.pow_succ, ih, show 2 * (k + 1) = 2 * k + 1 + 1 by omega, Int.pow_succ, Int.pow_succ, Int.mul_assoc]
theorem tcm_even {m p b : Int} {e : Nat} (h : e % 2 = 0) : tcm m p (b * b % m) (e / 2) = tcm m p b e := by
  unfold tcm
  rw [Int.mul_emod, pow_l, ← Int.mul_emod, pow_sq, show 2 * (e / 2) = e by omega]
theorem tcm_odd {m p b : Int} {e : Nat} (h : e % 2 = 1) : tcm m (p * b % m) (b * b % m) (e / 2) = tcm m p b e := by
  unfold tcm
  rw [ml_l, Int.mul_emod, pow_l, ← Int.mul_emod, pow_sq, Int.mul_assoc]
  congr 1
  congr 1
  obtain ⟨k, rfl⟩ : ∃ k, e = 2 * k + 1 := ⟨e / 2, by omega⟩
  rw [show 2 * ((2 * k + 1) / 2) = 2 * k by omega, Int.pow_succ, Int.mul_comm]
theorem tcm_bound {m p b : Int} {e : Nat} (h : 0 < m) : 0 ≤ tcm m p b e ∧ tcm m p b e < m := ⟨Int.emod_nonneg _ (by omega), Int.emod_lt_of_pos _ h⟩
theorem pwm_bound {m g : Int} {n : Nat} (h : 0 < m) : 0 ≤ pwm m g n ∧ pwm m g n < m := ⟨Int.emod_nonneg _ (by omega), Int.emod_lt_of_pos _ h⟩
/-- Products of numbers below 2039. -/
theorem mul_bound {a b : Int} (h0 : 0 ≤ a) (h1 : a < 2039) (h2 : 0 ≤ b) (h3 : b < 2039) : 0 ≤ a * b ∧ a * b ≤ 4153444 := by
  refine ⟨Int.mul_nonneg h0 h2, ?_⟩
  have e1 : a * b ≤ 2038 * b := Int.mul_le_mul_of_nonneg_right (by omega) h2
  omega
theorem mod_bd {x m : Int} (hm : 0 < m) : 0 ≤ x % m ∧ x % m < m := ⟨Int.emod_nonneg _ (by omega), Int.emod_lt_of_pos _ hm⟩

/-- The inverse of an exponent is a power of it. -/
theorem sqm_succ (f b e o : Nat) : sqm (f + 1) b e o = sqm f (Nat.mod (Nat.mul b b) 1019) (Nat.div e 2) (cond (Nat.beq (Nat.mod e 2) 1) (Nat.mod (Nat.mul o b) 1019) o) := rfl
theorem pow_ln (a k : Nat) : (a % 1019) ^ k % 1019 = a ^ k % 1019 := (Nat.pow_mod a k 1019).symm
theorem pow_sqn (b k : Nat) : (b * b) ^ k = b ^ (2 * k) := by
  induction k with
  | zero => rfl
  | succ k ih => rw [Nat.pow_succ, ih, show 2 * (k + 1) = 2 * k + 1 + 1 by omega, Nat.pow_succ, Nat.pow_succ, Nat.mul_assoc]
theorem sqm_is : ∀ (f b e o : Nat), e < 2 ^ f → o < 1019 → sqm f b e o = o * b ^ e % 1019 := by
  intro f
  induction f with
  | zero =>
    intro b e o he ho
    obtain rfl : e = 0 := by rw [Nat.pow_zero] at he; omega
    show o = _
    rw [Nat.pow_zero, Nat.mul_one, Nat.mod_eq_of_lt ho]
  | succ f ih =>
    intro b e o he ho
    rw [Nat.pow_succ] at he
    rw [sqm_succ]
    show sqm f (b * b % 1019) (e / 2) (cond (Nat.beq (e % 2) 1) (o * b % 1019) o) = _
    by_cases h : e % 2 = 1
    · have hb : Nat.beq (e % 2) 1 = true := by rw [h]; rfl
      rw [hb]
      show sqm f (b * b % 1019) (e / 2) (o * b % 1019) = _
      rw [ih _ _ _ (by omega) (Nat.mod_lt _ (by omega)), Nat.mul_mod, pow_ln, Nat.mod_mod, ← Nat.mul_mod, pow_sqn, Nat.mul_assoc]
      congr 2
      obtain ⟨k, rfl⟩ : ∃ k, e = 2 * k + 1 := ⟨e / 2, by omega⟩
      rw [show 2 * ((2 * k + 1) / 2) = 2 * k by omega, Nat.pow_succ, Nat.mul_comm]
    · have h0 : e % 2 = 0 := by omega
      have hb : Nat.beq (e % 2) 1 = false := by rw [h0]; rfl
      rw [hb]
      show sqm f (b * b % 1019) (e / 2) o = _
      rw [ih _ _ _ (by omega) ho, Nat.mul_mod, pow_ln, ← Nat.mul_mod, pow_sqn, show 2 * (e / 2) = e by omega]
theorem invAll_at {n x : Nat} (h : invAll n = true) (hx : x < n) : (x + 1) * sqm 10 (x + 1) 1017 1 % 1019 = 1 := by
  induction n with
  | zero => omega
  | succ n ih =>
    rw [invAll_succ] at h
    cases hb : Nat.beq (Nat.mod (Nat.mul (Nat.succ n) (sqm 10 (Nat.succ n) 1017 1)) 1019) 1 with
    | false => rw [hb] at h; cases h
    | true =>
      rw [hb] at h
      by_cases e : x = n
      · subst e
        exact Nat.eq_of_beq_eq_true hb
      · exact ih h (by omega)
theorem inv_pow {x N : Nat} (hN : N = 1017) (h1 : 1 ≤ x) (h2 : x ≤ 1018) : x * (x ^ N % 1019) % 1019 = 1 := by
  have h := invAll_at inv_all (x := x - 1) (by omega)
  rw [show x - 1 + 1 = x by omega, ← hN, sqm_is 10 x N 1 (by rw [hN]; decide) (by omega), Nat.one_mul] at h
  exact h
theorem zero_pow_mod (n : Nat) : (0 : Int) ^ (n + 1) % 1019 = 0 := by rw [Int.pow_succ, Int.mul_zero]; rfl
theorem pow_castn (x n : Nat) : ((x : Int)) ^ n % 1019 = ((x ^ n % 1019 : Nat) : Int) := by
  rw [Int.natCast_emod, Int.natCast_pow]
  rfl
theorem pwm_inv {N : Nat} (hN : N = 1017) (n : Int) : pwm 1019 (n % 1019) N = invE n := by
  unfold pwm
  by_cases h0 : n % 1019 = 0
  · obtain ⟨M, rfl⟩ : ∃ M, N = M + 1 := ⟨N - 1, by omega⟩
    rw [h0, invE_zero h0]
    exact zero_pow_mod M
  · obtain ⟨x, hx⟩ : ∃ x : Nat, n % 1019 = (x : Int) := ⟨(n % 1019).toNat, by omega⟩
    rw [hx, pow_castn]
    have hp := inv_pow (x := x) hN (by omega) (by omega)
    have hb : x ^ N % 1019 ≤ 1018 := Nat.le_of_lt_succ (Nat.mod_lt _ (Nat.succ_pos _))
    generalize x ^ N % 1019 = y at hp hb ⊢
    refine (invE_is (n := n) (m := y) ?_ hb ?_).symm
    · by_cases hy : y = 0
      · rw [hy, Nat.mul_zero] at hp; cases hp
      · omega
    · rw [hx]
      exact natmod.2 hp

/-- Every element is a power of 4: a look at all, by a mask of the powers. -/
noncomputable def walk (n : Nat) : Nat → Nat → Nat :=
  Nat.rec (fun _ m => m) (fun _ ih p m => ih (Nat.mod (Nat.mul p 4) 2039) (Nat.lor m (Nat.shiftLeft 1 p))) n
noncomputable def sq2 (f : Nat) : Nat → Nat → Nat → Nat :=
  Nat.rec (fun _ _ o => o) (fun _ ih b e o => ih (Nat.mod (Nat.mul b b) 2039) (Nat.div e 2) (cond (Nat.beq (Nat.mod e 2) 1) (Nat.mod (Nat.mul o b) 2039) o)) f
noncomputable def allIn (m n : Nat) : Bool := Nat.rec true (fun x ih => cond (Nat.beq (sq2 10 (Nat.succ x) 1019 1) 1) (cond (Nat.beq (Nat.land (Nat.shiftRight m (Nat.succ x)) 1) 1) ih false) ih) n
theorem all_in : allIn (walk 1019 1 0) 2038 = true := by kernel_rfl
theorem walk_succ (n p m : Nat) : walk (n + 1) p m = walk n (Nat.mod (Nat.mul p 4) 2039) (Nat.lor m (Nat.shiftLeft 1 p)) := rfl
theorem sq2_succ (f b e o : Nat) : sq2 (f + 1) b e o = sq2 f (Nat.mod (Nat.mul b b) 2039) (Nat.div e 2) (cond (Nat.beq (Nat.mod e 2) 1) (Nat.mod (Nat.mul o b) 2039) o) := rfl
theorem allIn_succ (m n : Nat) : allIn m (n + 1) = cond (Nat.beq (sq2 10 (Nat.succ n) 1019 1) 1) (cond (Nat.beq (Nat.land (Nat.shiftRight m (Nat.succ n)) 1) 1) (allIn m n) false) (allIn m n) := rfl
theorem pw4_cast (n : Nat) : pw 4 n = ((4 ^ n % 2039 : Nat) : Int) := by
  rw [← pwm_pw]
  unfold pwm
  rw [Int.natCast_emod, Int.natCast_pow]
  rfl
theorem walk_bit : ∀ (n k m x : Nat), (∀ y, m.testBit y = true → ∃ e, e < k ∧ 4 ^ e % 2039 = y) → (walk n (4 ^ k % 2039) m).testBit x = true → ∃ e, e < k + n ∧ 4 ^ e % 2039 = x := by
  intro n
  induction n with
  | zero => intro k m x hm h; exact hm x h
  | succ n ih =>
    intro k m x hm h
    rw [walk_succ] at h
    have e1 : Nat.mod (Nat.mul (4 ^ k % 2039) 4) 2039 = 4 ^ (k + 1) % 2039 := by
      show (4 ^ k % 2039) * 4 % 2039 = _
      rw [Nat.pow_succ, Nat.mul_mod, Nat.mod_mod, ← Nat.mul_mod]
    rw [e1] at h
    obtain ⟨e, he, hx⟩ := ih (k + 1) (Nat.lor m (Nat.shiftLeft 1 (4 ^ k % 2039))) x (fun y hy => by
      have hy' : (m ||| 1 <<< (4 ^ k % 2039)).testBit y = true := hy
      rw [Nat.testBit_or, Nat.testBit_shiftLeft, Bool.or_eq_true] at hy'
      rcases hy' with h1 | h1
      · obtain ⟨e, he, hx⟩ := hm y h1
        exact ⟨e, by omega, hx⟩
      · rw [Bool.and_eq_true, decide_eq_true_eq] at h1
        refine ⟨k, by omega, ?_⟩
        have := h1.2
        rw [Nat.testBit_one_eq_true_iff_self_eq_zero] at this
        omega) h
    exact ⟨e, by omega, hx⟩
theorem sq2_is : ∀ (f b e o : Nat), e < 2 ^ f → o < 2039 → sq2 f b e o = o * b ^ e % 2039 := by
  intro f
  induction f with
  | zero =>
    intro b e o he ho
    obtain rfl : e = 0 := by rw [Nat.pow_zero] at he; omega
    show o = _
    rw [Nat.pow_zero, Nat.mul_one, Nat.mod_eq_of_lt ho]
  | succ f ih =>
    intro b e o he ho
    rw [Nat.pow_succ] at he
    rw [sq2_succ]
    show sq2 f (b * b % 2039) (e / 2) (cond (Nat.beq (e % 2) 1) (o * b % 2039) o) = _
    by_cases h : e % 2 = 1
    · have hb : Nat.beq (e % 2) 1 = true := by rw [h]; rfl
      rw [hb]
      show sq2 f (b * b % 2039) (e / 2) (o * b % 2039) = _
      rw [ih _ _ _ (by omega) (Nat.mod_lt _ (by omega)), Nat.mul_mod, ← Nat.pow_mod, Nat.mod_mod, ← Nat.mul_mod, pow_sqn, Nat.mul_assoc]
      congr 2
      obtain ⟨k, rfl⟩ : ∃ k, e = 2 * k + 1 := ⟨e / 2, by omega⟩
      rw [show 2 * ((2 * k + 1) / 2) = 2 * k by omega, Nat.pow_succ, Nat.mul_comm]
    · have h0 : e % 2 = 0 := by omega
      have hb : Nat.beq (e % 2) 1 = false := by rw [h0]; rfl
      rw [hb]
      show sq2 f (b * b % 2039) (e / 2) o = _
      rw [ih _ _ _ (by omega) ho, Nat.mul_mod, ← Nat.pow_mod, ← Nat.mul_mod, pow_sqn, show 2 * (e / 2) = e by omega]
theorem sq2_of {y N : Nat} (hN : N < 1024) (h : pwm 2039 (y : Int) N = 1) : sq2 10 y N 1 = 1 := by
  rw [sq2_is 10 y N 1 (by rw [show (2 : Nat) ^ 10 = 1024 from rfl]; exact hN) (by omega), Nat.one_mul]
  unfold pwm at h
  rw [← Int.natCast_pow] at h
  omega
theorem allIn_sound {m n x : Nat} (h : allIn m n = true) (hx : x < n) (hg : sq2 10 (x + 1) 1019 1 = 1) : m.testBit (x + 1) = true := by
  induction n with
  | zero => omega
  | succ n ih =>
    rw [allIn_succ] at h
    by_cases e : x = n
    · subst e
      have h1 : sq2 10 (Nat.succ x) 1019 1 = 1 := hg
      rw [h1] at h
      cases hb : Nat.beq (Nat.land (Nat.shiftRight m (Nat.succ x)) 1) 1 with
      | false => rw [hb] at h; cases h
      | true =>
        have h2 : (m >>> (x + 1)) &&& 1 = 1 := Nat.eq_of_beq_eq_true hb
        unfold Nat.testBit
        rw [Nat.and_comm, h2]
        rfl
    · refine ih ?_ (by omega)
      cases h1 : Nat.beq (sq2 10 (Nat.succ n) 1019 1) 1 with
      | false => rw [h1] at h; exact h
      | true =>
        rw [h1] at h
        cases h2 : Nat.beq (Nat.land (Nat.shiftRight m (Nat.succ n)) 1) 1 with
        | false => rw [h2] at h; cases h
        | true => rw [h2] at h; exact h
theorem el_pow4 {x : Int} (h : isG x = true) : ∃ e : Nat, e ≤ 1018 ∧ pw 4 e = x := by
  obtain ⟨hb, hp⟩ := isG_iff.1 h
  obtain ⟨y, hy⟩ : ∃ y : Nat, x = ((y + 1 : Nat) : Int) := ⟨(x - 1).toNat, by omega⟩
  subst hy
  rw [← pwm_pw] at hp
  have hp' := sq2_of (y := y + 1) (N := 1019) (by omega) hp
  have ht := allIn_sound all_in (x := y) (by omega) hp'
  obtain ⟨e, he, hx⟩ := walk_bit 1019 0 0 (y + 1) (fun z hz => by rw [Nat.zero_testBit] at hz; cases hz) ht
  exact ⟨e, by omega, by rw [pw4_cast, hx]⟩
theorem log_ex {g x : Int} (hg : isG g = true) (hne : g ≠ 1) (hx : isG x = true) : ∃ e : Nat, e ≤ 1018 ∧ pw g e = x := by
  obtain ⟨a, ha, rfl⟩ := el_pow4 hg
  obtain ⟨b, hb, rfl⟩ := el_pow4 hx
  have ha0 : 1 ≤ a := by
    rcases Nat.eq_zero_or_pos a with h | h
    · exact (hne (by rw [h, pw_zero])).elim
    · exact h
  obtain ⟨m, _, _, hm⟩ := inv_ex ha0 ha
  refine ⟨m * b % 1019, by omega, ?_⟩
  rw [pw_red (pw_el isG_four a), pw_mul, ← pw_red isG_four (a * (m * b)), ← Nat.mul_assoc, Nat.mul_mod, hm, Nat.one_mul, Nat.mod_mod, pw_red isG_four]
/-- One step of 32 back. -/
theorem pw_back {g : Int} (h : isG g = true) {e : Nat} (he : 32 ≤ e) : pw g e * pw g 987 % 2039 = pw g (e - 32) := by
  rw [← pw_add]
  have := pw_period h (e - 32) 1
  rwa [show e - 32 + 1019 * 1 = e + 987 by omega] at this

end Go.Proofs.Ytdlbpeippmibcaa
