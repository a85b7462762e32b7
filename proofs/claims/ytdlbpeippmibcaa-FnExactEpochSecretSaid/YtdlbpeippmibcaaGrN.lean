/- The small group as numbers: powers, elements, products, inverses of exponents, logarithms, proofs of equal exponents. Pure. No conditions but those that are named. -/
import Derived.Test.YtdlbpeippmibcaaBbR
import Derived.Test.YtdlbpeippmibcaaBaM
import Derived.KernelRfl
namespace Go.Proofs.Ytdlbpeippmibcaa
open Go Go.RowKit
set_option linter.unusedVariables false
attribute [local irreducible] kh kid

/-- The power. -/
def pw (g : Int) : Nat → Int
  | 0 => 1
  | n + 1 => pw g n * g % 2039
theorem pw_zero (g : Int) : pw g 0 = 1 := rfl
theorem pw_succ (g : Int) (n : Nat) : pw g (n + 1) = pw g n * g % 2039 := rfl
theorem pw_bound (g : Int) (n : Nat) : 0 ≤ pw g n ∧ pw g n ≤ 2038 := by
  cases n with
  | zero => rw [pw_zero]; omega
  | succ n => rw [pw_succ]; omega
theorem pw_self (g : Int) (n : Nat) : pw g n % 2039 = pw g n := by have := pw_bound g n; omega
/-- Products modulo the group's modulus. -/
theorem mm_l (a b : Int) : (a % 2039) * b % 2039 = a * b % 2039 := by rw [Int.mul_emod, Int.emod_emod_of_dvd a (Int.dvd_refl 2039), ← Int.mul_emod]
theorem mm_r (a b : Int) : a * (b % 2039) % 2039 = a * b % 2039 := by rw [Int.mul_comm, mm_l, Int.mul_comm]
theorem pw_mod (g : Int) (n : Nat) : pw (g % 2039) n = pw g n := by
  induction n with
  | zero => rfl
  | succ n ih => rw [pw_succ, pw_succ, ih, mm_r]
theorem pw_add (g : Int) (a b : Nat) : pw g (a + b) = pw g a * pw g b % 2039 := by
  induction b with
  | zero => rw [Nat.add_zero, pw_zero, Int.mul_one, pw_self]
  | succ b ih => rw [← Nat.add_assoc, pw_succ, pw_succ, ih, mm_l, mm_r, Int.mul_assoc]
theorem pw_mul (g : Int) (a b : Nat) : pw (pw g a) b = pw g (a * b) := by
  induction b with
  | zero => rfl
  | succ b ih => rw [pw_succ, ih, Nat.mul_succ, pw_add]
theorem pw_one (n : Nat) : pw 1 n = 1 := by
  induction n with
  | zero => rfl
  | succ n ih => rw [pw_succ, ih]; rfl
theorem pw_base (a b : Int) (n : Nat) : pw (a * b) n = pw a n * pw b n % 2039 := by
  induction n with
  | zero => rfl
  | succ n ih =>
    rw [pw_succ, pw_succ, pw_succ, ih, mm_l, mm_l, mm_r]
    congr 1
    rw [Int.mul_assoc, Int.mul_assoc]
    congr 1
    rw [← Int.mul_assoc, Int.mul_comm (pw b n) a, Int.mul_assoc]
/-- Squaring and multiplying. -/
theorem pw_even (g : Int) (k : Nat) : pw (g * g % 2039) k = pw g (2 * k) := by
  rw [pw_mod]
  have h : pw g 2 = g * g % 2039 := by rw [pw_succ, pw_succ, pw_zero, Int.one_mul, mm_l]
  have := pw_mul g 2 k
  rw [h, pw_mod] at this
  exact this
theorem pw_odd (g : Int) (k : Nat) : pw (g * g % 2039) k * g % 2039 = pw g (2 * k + 1) := by rw [pw_even, pw_succ]

/-- An element. -/
def isG (x : Int) : Bool := inR x 1 2038 && (pw x 1019 == 1)
theorem isG_iff {x : Int} : isG x = true ↔ (1 ≤ x ∧ x ≤ 2038) ∧ pw x 1019 = 1 := by
  unfold isG inR
  simp [and_assoc]
theorem isG_one : isG 1 = true := isG_iff.2 ⟨by omega, pw_one _⟩
theorem pw_first {g : Int} (h : isG g = true) : pw g 1 = g := by
  have := (isG_iff.1 h).1
  rw [pw_succ, pw_zero, Int.one_mul]
  omega
theorem pw_period {g : Int} (h : isG g = true) (n k : Nat) : pw g (n + 1019 * k) = pw g n := by
  rw [pw_add, ← pw_mul, (isG_iff.1 h).2, pw_one, Int.mul_one, pw_self]
theorem pw_red {g : Int} (h : isG g = true) (n : Nat) : pw g (n % 1019) = pw g n := by
  have := pw_period h (n % 1019) (n / 1019)
  rw [Nat.mod_add_div] at this
  exact this.symm
theorem pw_el {g : Int} (h : isG g = true) (n : Nat) : isG (pw g n) = true := by
  have hp : pw (pw g n) 1019 = 1 := by rw [pw_mul, Nat.mul_comm, ← pw_mul, (isG_iff.1 h).2, pw_one]
  refine isG_iff.2 ⟨?_, hp⟩
  have hb := pw_bound g n
  by_cases h0 : pw g n = 0
  · rw [h0, pw_succ, Int.mul_zero] at hp
    cases hp
  · omega
/-- The product of two elements. -/
theorem mul_el {a b : Int} (ha : isG a = true) (hb : isG b = true) : isG (a * b % 2039) = true := by
  have hp : pw (a * b % 2039) 1019 = 1 := by
    rw [pw_mod, pw_base, (isG_iff.1 ha).2, (isG_iff.1 hb).2]
    rfl
  refine isG_iff.2 ⟨?_, hp⟩
  have h1 : 0 ≤ a * b % 2039 ∧ a * b % 2039 ≤ 2038 := by omega
  by_cases h0 : a * b % 2039 = 0
  · rw [h0, pw_succ, Int.mul_zero] at hp
    cases hp
  · omega

/-- The inverse of an exponent: the first m from f on, n of them tried. -/
def ivn (x : Int) : Nat → Int → Int
  | 0, _ => 0
  | n + 1, m => if x * m % 1019 = 1 then m else ivn x n (m + 1)
def invE (n : Int) : Int := ivn (n % 1019) 1018 1
theorem ivn_found {x : Int} : ∀ (n : Nat) (m : Int) (d : Nat), d < n → (∀ t : Nat, t < d → x * (m + t) % 1019 ≠ 1) → x * (m + d) % 1019 = 1 → ivn x n m = m + d := by
  intro n
  induction n with
  | zero => intro m d h; omega
  | succ n ih =>
    intro m d hd hn hy
    show (if x * m % 1019 = 1 then m else ivn x n (m + 1)) = _
    cases d with
    | zero => rw [Int.natCast_zero, Int.add_zero] at hy ⊢; rw [if_pos hy]
    | succ d =>
      have h0 := hn 0 (by omega)
      rw [Int.natCast_zero, Int.add_zero] at h0
      rw [if_neg h0, ih (m + 1) d (by omega) (fun t ht => by have := hn (t + 1) (by omega); rwa [show m + ((t + 1 : Nat) : Int) = m + 1 + t by push_cast; omega] at this) (by rwa [show m + ((d + 1 : Nat) : Int) = m + 1 + d by push_cast; omega] at hy)]
      push_cast
      omega
theorem ivn_none {x : Int} : ∀ (n : Nat) (m : Int), (∀ t : Nat, t < n → x * (m + t) % 1019 ≠ 1) → ivn x n m = 0 := by
  intro n
  induction n with
  | zero => intro m _; rfl
  | succ n ih =>
    intro m hn
    show (if x * m % 1019 = 1 then m else ivn x n (m + 1)) = _
    have h0 := hn 0 (by omega)
    rw [Int.natCast_zero, Int.add_zero] at h0
    rw [if_neg h0]
    exact ih (m + 1) (fun t ht => by have := hn (t + 1) (by omega); rwa [show m + ((t + 1 : Nat) : Int) = m + 1 + t by push_cast; omega] at this)
/-- Every exponent but nought has an inverse: a look at all. -/
noncomputable def sqm (f : Nat) : Nat → Nat → Nat → Nat :=
  Nat.rec (fun _ _ o => o) (fun _ ih b e o => ih (Nat.mod (Nat.mul b b) 1019) (Nat.div e 2) (cond (Nat.beq (Nat.mod e 2) 1) (Nat.mod (Nat.mul o b) 1019) o)) f
noncomputable def invAll (n : Nat) : Bool := Nat.rec true (fun x ih => cond (Nat.beq (Nat.mod (Nat.mul (Nat.succ x) (sqm 10 (Nat.succ x) 1017 1)) 1019) 1) ih false) n
theorem inv_all : invAll 1018 = true := by kernel_rfl
theorem invAll_succ (n : Nat) : invAll (n + 1) = cond (Nat.beq (Nat.mod (Nat.mul (Nat.succ n) (sqm 10 (Nat.succ n) 1017 1)) 1019) 1) (invAll n) false := rfl
theorem invAll_sound {n x : Nat} (h : invAll n = true) (hx : x < n) : ∃ y : Nat, (x + 1) * y % 1019 = 1 := by
  induction n with
  | zero => omega
  | succ n ih =>
    rw [invAll_succ] at h
    cases hb : Nat.beq (Nat.mod (Nat.mul (Nat.succ n) (sqm 10 (Nat.succ n) 1017 1)) 1019) 1 with
    | false => rw [hb] at h; cases h
    | true =>
      rw [hb] at h
      by_cases e : x = n
      · subst e
        exact ⟨_, Nat.eq_of_beq_eq_true hb⟩
      · exact ih h (by omega)
theorem inv_ex {x : Nat} (h1 : 1 ≤ x) (h2 : x ≤ 1018) : ∃ y : Nat, 1 ≤ y ∧ y ≤ 1018 ∧ x * y % 1019 = 1 := by
  obtain ⟨y, hy⟩ := invAll_sound inv_all (x := x - 1) (by omega)
  rw [show x - 1 + 1 = x by omega, Nat.mul_mod] at hy
  refine ⟨y % 1019, ?_, by omega, ?_⟩
  · by_cases h0 : y % 1019 = 0
    · rw [h0, Nat.mul_zero] at hy; cases hy
    · omega
  · rw [Nat.mul_mod, Nat.mod_mod]; exact hy
/-- It is one alone. -/
theorem inv_one {x a b : Nat} (ha : a ≤ 1018) (hb : b ≤ 1018) (h1 : x * a % 1019 = 1) (h2 : x * b % 1019 = 1) : a = b := by
  have e1 : a * (x * b) % 1019 = a := by rw [Nat.mul_mod, h2, Nat.mul_one, Nat.mod_mod]; omega
  have e2 : b * (x * a) % 1019 = b := by rw [Nat.mul_mod, h1, Nat.mul_one, Nat.mod_mod]; omega
  have e3 : a * (x * b) = b * (x * a) := by rw [← Nat.mul_assoc, ← Nat.mul_assoc, Nat.mul_comm a x, Nat.mul_comm b x, Nat.mul_assoc, Nat.mul_assoc, Nat.mul_comm a b]
  rw [e3, e2] at e1
  exact e1.symm
theorem natmod {x m : Nat} : ((x : Int) * (m : Int) % 1019 = 1) ↔ x * m % 1019 = 1 := by
  rw [← Int.natCast_mul]
  omega
/-- What InverseExponent gives. -/
theorem invE_zero {n : Int} (h : n % 1019 = 0) : invE n = 0 := by
  unfold invE
  rw [h]
  exact ivn_none _ _ (fun t ht => by rw [Int.zero_mul]; decide)
theorem invE_is {n : Int} {m : Nat} (h1 : 1 ≤ m) (h2 : m ≤ 1018) (h : n % 1019 * (m : Int) % 1019 = 1) : invE n = (m : Int) := by
  unfold invE
  obtain ⟨x, hx⟩ : ∃ x : Nat, n % 1019 = (x : Int) := ⟨(n % 1019).toNat, by omega⟩
  rw [hx] at h ⊢
  have := ivn_found (x := (x : Int)) 1018 1 (m - 1) (by omega) (fun t ht hc => by
    have h3 : (x : Int) * ((t + 1 : Nat) : Int) % 1019 = 1 := by rw [show ((t + 1 : Nat) : Int) = 1 + (t : Int) by push_cast; omega]; exact hc
    have := inv_one (by omega) h2 (natmod.1 h3) (natmod.1 h)
    omega) (by rw [show (1 : Int) + ((m - 1 : Nat) : Int) = (m : Int) by omega]; exact h)
  rw [this]
  omega
theorem invE_ok {n : Int} (h : n % 1019 ≠ 0) : ∃ m : Nat, 1 ≤ m ∧ m ≤ 1018 ∧ invE n = (m : Int) ∧ (n % 1019).toNat * m % 1019 = 1 := by
  obtain ⟨m, h1, h2, h3⟩ := inv_ex (x := (n % 1019).toNat) (by omega) (by omega)
  refine ⟨m, h1, h2, invE_is h1 h2 ?_, h3⟩
  have := natmod.2 h3
  rwa [show (((n % 1019).toNat : Nat) : Int) = n % 1019 by omega] at this

/-- A power of an exponent that is not nought is 1 for 1 alone. -/
theorem pw_order {g : Int} (h : isG g = true) {d : Nat} (h1 : 1 ≤ d) (h2 : d ≤ 1018) (h3 : pw g d = 1) : g = 1 := by
  obtain ⟨m, _, _, hm⟩ := inv_ex h1 h2
  have e : pw g (d * m) = 1 := by rw [← pw_mul, h3, pw_one]
  rw [← pw_red h, hm, pw_first h] at e
  exact e
/-- A logarithm is one alone. -/
theorem pw_inj {g : Int} (h : isG g = true) (hne : g ≠ 1) {a b : Nat} (ha : a ≤ 1018) (hb : b ≤ 1018) (hp : pw g a = pw g b) : a = b := by
  have key : ∀ a b : Nat, a ≤ 1018 → b ≤ 1018 → a < b → pw g a = pw g b → False := fun a b ha hb hab hp => by
    have e1 : pw g (a + (1019 - a)) = 1 := by rw [show a + (1019 - a) = 1019 by omega]; exact (isG_iff.1 h).2
    have e2 : pw g (b + (1019 - a)) = pw g (b - a) := by
      have := pw_period h (b - a) 1
      rwa [show b - a + 1019 * 1 = b + (1019 - a) by omega] at this
    rw [pw_add, hp, ← pw_add, e2] at e1
    exact hne (pw_order h (by omega) (by omega) e1)
  rcases Nat.lt_trichotomy a b with hlt | he | hgt
  · exact (key a b ha hb hlt hp).elim
  · exact he
  · exact (key b a hb ha hgt hp.symm).elim

/-- The logarithm: the first e from e0 on, n of them tried. -/
def dln (g x : Int) : Nat → Nat → Int
  | 0, _ => -1
  | n + 1, e => if pw g e = x then (e : Int) else dln g x n (e + 1)
def dlok (g x : Int) : Bool := isG g && (isG x && !(g == 1))
def dlog (g x : Int) : Int := if dlok g x = true then dln g x 1019 0 else -1
theorem dln_found {g x : Int} : ∀ (n e d : Nat), d < n → (∀ t, t < d → pw g (e + t) ≠ x) → pw g (e + d) = x → dln g x n e = ((e + d : Nat) : Int) := by
  intro n
  induction n with
  | zero => intro e d h; omega
  | succ n ih =>
    intro e d hd hn hy
    show (if pw g e = x then (e : Int) else dln g x n (e + 1)) = _
    cases d with
    | zero => rw [Nat.add_zero] at hy; rw [if_pos hy, Nat.add_zero]
    | succ d =>
      have h0 := hn 0 (by omega)
      rw [Nat.add_zero] at h0
      rw [if_neg h0, ih (e + 1) d (by omega) (fun t ht => by have := hn (t + 1) (by omega); rwa [show e + (t + 1) = e + 1 + t by omega] at this) (by rwa [show e + (d + 1) = e + 1 + d by omega] at hy)]
      congr 1
      omega
theorem dln_none {g x : Int} : ∀ (n e : Nat), (∀ t, t < n → pw g (e + t) ≠ x) → dln g x n e = -1 := by
  intro n
  induction n with
  | zero => intro e _; rfl
  | succ n ih =>
    intro e hn
    show (if pw g e = x then (e : Int) else dln g x n (e + 1)) = _
    have h0 := hn 0 (by omega)
    rw [Nat.add_zero] at h0
    rw [if_neg h0]
    exact ih (e + 1) (fun t ht => by have := hn (t + 1) (by omega); rwa [show e + (t + 1) = e + 1 + t by omega] at this)
theorem dlog_is {g x : Int} (h : dlok g x = true) {e : Nat} (he : e ≤ 1018) (hp : pw g e = x) : dlog g x = (e : Int) := by
  have h' := h
  unfold dlok at h'
  simp only [Bool.and_eq_true, Bool.not_eq_true', beq_eq_false_iff_ne] at h'
  unfold dlog
  rw [if_pos h, dln_found 1019 0 e (by omega) (fun t ht hc => by
    rw [Nat.zero_add] at hc
    have := pw_inj h'.1 h'.2.2 (by omega) he (hc.trans hp.symm)
    omega) (by rw [Nat.zero_add]; exact hp), Nat.zero_add]
theorem dlog_no {g x : Int} (h : dlok g x = false) : dlog g x = -1 := if_neg (by rw [h]; decide)
theorem dlog_none {g x : Int} (h : ∀ e : Nat, e ≤ 1018 → pw g e ≠ x) : dlog g x = -1 := by
  unfold dlog
  split
  · exact dln_none _ _ (fun t ht => by rw [Nat.zero_add]; exact h t (by omega))
  · rfl

/-- PowGroup, MulGroup, HashToGroup. -/
def pwG (g n : Int) : Int := if isG g = true then pw g (n % 1019).toNat else 0
def mulG (a b : Int) : Int := if (isG a && isG b) = true then a * b % 2039 else 0
def hexp (l v : Int) : Int := 1 + kid (kh l [89, v]) 0 % 1018
def hgr (l v : Int) : Int := pwG 4 (hexp l v)
theorem isG_four : isG 4 = true := by kernel_rfl
theorem pwG_yes {g : Int} (h : isG g = true) (n : Int) : pwG g n = pw g (n % 1019).toNat := if_pos h
theorem pwG_no {g : Int} (h : isG g = false) (n : Int) : pwG g n = 0 := if_neg (by rw [h]; decide)
theorem pwG_el {g : Int} (h : isG g = true) (n : Int) : isG (pwG g n) = true := by rw [pwG_yes h]; exact pw_el h _
theorem pwG_bound (g n : Int) : 0 ≤ pwG g n ∧ pwG g n ≤ 2038 := by
  unfold pwG
  split
  · exact pw_bound _ _
  · omega
theorem mulG_yes {a b : Int} (ha : isG a = true) (hb : isG b = true) : mulG a b = a * b % 2039 := if_pos (by rw [ha, hb]; rfl)
theorem mulG_bound (a b : Int) : 0 ≤ mulG a b ∧ mulG a b ≤ 2038 := by
  unfold mulG
  split <;> omega
theorem hexp_bound (l v : Int) : 1 ≤ hexp l v ∧ hexp l v ≤ 1018 := by
  unfold hexp
  generalize kid (kh l [89, v]) 0 = q
  omega
theorem hgr_ok (l v : Int) : isG (hgr l v) = true ∧ hgr l v ≠ 1 := by
  have hb := hexp_bound l v
  refine ⟨pwG_el isG_four _, fun h => ?_⟩
  unfold hgr at h
  rw [pwG_yes isG_four] at h
  have := pw_order isG_four (by omega) (by omega) h
  omega
/-- Exponents add up, also before they are reduced. -/
theorem pwG_add {g : Int} (h : isG g = true) (a b : Int) : mulG (pwG g a) (pwG g b) = pwG g (a + b) := by
  rw [mulG_yes (pwG_el h a) (pwG_el h b), pwG_yes h, pwG_yes h, pwG_yes h, ← pw_add, ← pw_red h]
  congr 1
  omega
theorem pwG_mul {g : Int} (h : isG g = true) (a b : Int) : pwG (pwG g a) b = pwG g (a * b) := by
  rw [pwG_yes (pwG_el h a), pwG_yes h, pwG_yes h, pw_mul, ← pw_red h]
  congr 1
  have e1 : a * b % 1019 = (a % 1019) * (b % 1019) % 1019 := Int.mul_emod _ _ _
  obtain ⟨x, hx⟩ : ∃ x : Nat, a % 1019 = (x : Int) := ⟨(a % 1019).toNat, by omega⟩
  obtain ⟨y, hy⟩ : ∃ y : Nat, b % 1019 = (y : Int) := ⟨(b % 1019).toNat, by omega⟩
  rw [e1, hx, hy, ← Int.natCast_mul, Int.toNat_natCast, Int.toNat_natCast]
  omega
theorem pwG_congr {g : Int} {a b : Int} (h : a % 1019 = b % 1019) : pwG g a = pwG g b := by
  unfold pwG
  rw [h]
/-- A power of an inverse exponent leads back. -/
theorem pwG_inv {g n : Int} (h : isG g = true) (hn : n % 1019 ≠ 0) : pwG (pwG g n) (invE n) = g := by
  obtain ⟨m, h1, h2, he, hm⟩ := invE_ok hn
  rw [he, pwG_yes (pwG_el h n), pwG_yes h, pw_mul, ← pw_red h, show ((m : Int) % 1019).toNat = m by omega, hm, pw_first h]

/-- A proof of equal exponents: challenge, response; when it is accepted. -/
def chl (g h u v a b : Int) : Int := kh 97 [g, h, u, v, a, b] % 1019
def prC (g h s t : Int) : Int := if (isG g && isG h) = true then chl g h (pwG g s) (pwG h s) (pwG g t) (pwG h t) else 0
def prR (g h s t : Int) : Int := if (isG g && isG h) = true then wrap64 (t - wrap64 (prC g h s t * s)) % 1019 else 0
def vrq (g h u v c r : Int) : Bool := isG g && (isG h && (isG u && (isG v && (inR c 0 1018 && inR r 0 1018))))
def vrf (g h u v c r : Int) : Bool := vrq g h u v c r && (c == chl g h u v (mulG (pwG g r) (pwG u c)) (mulG (pwG h r) (pwG v c)))
theorem chl_bound (g h u v a b : Int) : 0 ≤ chl g h u v a b ∧ chl g h u v a b ≤ 1018 := by
  unfold chl
  generalize kh 97 [g, h, u, v, a, b] = q
  omega
theorem prC_bound (g h s t : Int) : 0 ≤ prC g h s t ∧ prC g h s t ≤ 1018 := by
  unfold prC
  split
  · exact chl_bound _ _ _ _ _ _
  · omega
theorem prR_bound (g h s t : Int) : 0 ≤ prR g h s t ∧ prR g h s t ≤ 1018 := by
  unfold prR
  generalize wrap64 (t - wrap64 (prC g h s t * s)) = q
  split <;> omega
theorem vrf_no {g h u v c r : Int} (hq : vrq g h u v c r = false) : vrf g h u v c r = false := by unfold vrf; rw [hq]; rfl
/-- What is multiplied in VerifyEqual is the nonce's power. -/
theorem nonce_pw {g : Int} (hg : isG g = true) {s t c r : Int} (hr : r % 1019 = (t - c * s) % 1019) : mulG (pwG g r) (pwG (pwG g s) c) = pwG g t := by
  rw [pwG_mul hg, pwG_add hg]
  apply pwG_congr
  have e : c * s = s * c := Int.mul_comm _ _
  rw [e] at hr
  generalize s * c = q at hr ⊢
  omega
/-- A proof that was made is accepted, where no product or difference wraps around. -/
theorem pr_ok {g h s t : Int} (hg : isG g = true) (hh : isG h = true) (hs : -1000000000 ≤ s ∧ s ≤ 1000000000) (ht : -1000000000 ≤ t ∧ t ≤ 1000000000) : vrf g h (pwG g s) (pwG h s) (prC g h s t) (prR g h s t) = true := by
  have hc := prC_bound g h s t
  have hrb := prR_bound g h s t
  have hy : (isG g && isG h) = true := by rw [hg, hh]; rfl
  have hcs : -1018000000000 ≤ prC g h s t * s ∧ prC g h s t * s ≤ 1018000000000 := by
    have h1 : prC g h s t * s ≤ prC g h s t * 1000000000 := Int.mul_le_mul_of_nonneg_left hs.2 hc.1
    have h2 : prC g h s t * (-1000000000) ≤ prC g h s t * s := Int.mul_le_mul_of_nonneg_left hs.1 hc.1
    omega
  have hw : wrap64 (t - wrap64 (prC g h s t * s)) = t - prC g h s t * s := by
    have e1 : wrap64 (prC g h s t * s) = prC g h s t * s := by generalize prC g h s t * s = q at hcs ⊢; unfold wrap64; omega
    rw [e1]
    generalize prC g h s t * s = q at hcs ⊢
    unfold wrap64
    omega
  have hr : prR g h s t % 1019 = (t - prC g h s t * s) % 1019 := by
    unfold prR
    rw [if_pos hy, hw]
    generalize prC g h s t * s = q
    omega
  have hq : vrq g h (pwG g s) (pwG h s) (prC g h s t) (prR g h s t) = true := by
    unfold vrq
    rw [hg, hh, pwG_el hg, pwG_el hh, inR_yes hc, inR_yes hrb]
    rfl
  unfold vrf
  rw [hq, nonce_pw hg hr, nonce_pw hh hr, Bool.true_and, beq_iff_eq]
  unfold prC
  rw [if_pos hy]

end Go.Proofs.Ytdlbpeippmibcaa
