/- The small group as numbers: powers, elements, products, inverses of exponents, logarithms, proofs of equal exponents. Pure. No conditions but those that are named. The small group as numbers, second part: powers by squaring, the inverse of an exponent as a power, every element a power of every other but 1. Pure. No conditions but those that are named. Blind tokens as numbers: requests, replies, tokens, what explains a request. Pure. No conditions but those that are named. -/
import Derived.Test.YtlbijjifeaimjaaBbR
import Derived.Test.YtlbijjifeaimjaaBaM
import Derived.KernelRfl

/-! GrN -/
namespace Go.Proofs.Ytlbijjifeaimjaa
open Go Go.RowKit
set_option linter.unusedVariables false
attribute [local irreducible] kh kid

/-- The power. -/
def pw (g : Int) : Nat → Int
  | 0 => 1
  | n + 1 => pw g n * g % 2039
theorem pw_zero (g : Int) : pw g 0 = 1 := rfl
theorem pw_succ (g : Int) (n : Nat) : pw g (n + 1) = pw g n * g % 2039 := rfl
theorem pw_bound (g : Int) (n : Nat) : 0 ≤ pw g n ∧ pw g n ≤ 2038 := by
  cases n with
  | zero => rw [pw_zero]; omega
  | succ n => rw [pw_succ]; omega
theorem pw_self (g : Int) (n : Nat) : pw g n % 2039 = pw g n := by have := pw_bound g n; omega
/-- Products modulo the group's modulus. -/
theorem mm_l (a b : Int) : (a % 2039) * b % 2039 = a * b % 2039 := by rw [Int.mul_emod, Int.emod_emod_of_dvd a (Int.dvd_refl 2039), ← Int.mul_emod]
theorem mm_r (a b : Int) : a * (b % 2039) % 2039 = a * b % 2039 := by rw [Int.mul_comm, mm_l, Int.mul_comm]
theorem pw_mod (g : Int) (n : Nat) : pw (g % 2039) n = pw g n := by
  induction n with
  | zero => rfl
  | succ n ih => rw [pw_succ, pw_succ, ih, mm_r]
theorem pw_add (g : Int) (a b : Nat) : pw g (a + b) = pw g a * pw g b % 2039 := by
  induction b with
  | zero => rw [Nat.add_zero, pw_zero, Int.mul_one, pw_self]
  | succ b ih => rw [← Nat.add_assoc, pw_succ, pw_succ, ih, mm_l, mm_r, Int.mul_assoc]
theorem pw_mul (g : Int) (a b : Nat) : pw (pw g a) b = pw g (a * b) := by
  induction b with
  | zero => rfl
  | succ b ih => rw [pw_succ, ih, Nat.mul_succ, pw_add]
theorem pw_one (n : Nat) : pw 1 n = 1 := by
  induction n with
  | zero => rfl
  | succ n ih => rw [pw_succ, ih]; rfl
theorem pw_base (a b : Int) (n : Nat) : pw (a * b) n = pw a n * pw b n % 2039 := by
  induction n with
  | zero => rfl
  | succ n ih =>
    rw [pw_succ, pw_succ, pw_succ, ih, mm_l, mm_l, mm_r]
    congr 1
    rw [Int.mul_assoc, Int.mul_assoc]
    congr 1
    rw [← Int.mul_assoc, Int.mul_comm (pw b n) a, Int.mul_assoc]
/-- Squaring and multiplying. -/
theorem pw_even (g : Int) (k : Nat) : pw (g * g % 2039) k = pw g (2 * k) := by
  rw [pw_mod]
  have h : pw g 2 = g * g % 2039 := by rw [pw_succ, pw_succ, pw_zero, Int.one_mul, mm_l]
  have := pw_mul g 2 k
  rw [h, pw_mod] at this
  exact this
theorem pw_odd (g : Int) (k : Nat) : pw (g * g % 2039) k * g % 2039 = pw g (2 * k + 1) := by rw [pw_even, pw_succ]

/-- An element. -/
def isG (x : Int) : Bool := inR x 1 2038 && (pw x 1019 == 1)
theorem isG_iff {x : Int} : isG x = true ↔ (1 ≤ x ∧ x ≤ 2038) ∧ pw x 1019 = 1 := by
  unfold isG inR
  simp [and_assoc]
theorem isG_one : isG 1 = true := isG_iff.2 ⟨by omega, pw_one _⟩
theorem pw_first {g : Int} (h : isG g = true) : pw g 1 = g := by
  have := (isG_iff.1 h).1
  rw [pw_succ, pw_zero, Int.one_mul]
  omega
theorem pw_period {g : Int} (h : isG g = true) (n k : Nat) : pw g (n + 1019 * k) = pw g n := by
  rw [pw_add, ← pw_mul, (isG_iff.1 h).2, pw_one, Int.mul_one, pw_self]
theorem pw_red {g : Int} (h : isG g = true) (n : Nat) : pw g (n % 1019) = pw g n := by
  have := pw_period h (n % 1019) (n / 1019)
  rw [Nat.mod_add_div] at this
  exact this.symm
theorem pw_el {g : Int} (h : isG g = true) (n : Nat) : isG (pw g n) = true := by
  have hp : pw (pw g n) 1019 = 1 := by rw [pw_mul, Nat.mul_comm, ← pw_mul, (isG_iff.1 h).2, pw_one]
  refine isG_iff.2 ⟨?_, hp⟩
  have hb := pw_bound g n
  by_cases h0 : pw g n = 0
  · rw [h0, pw_succ, Int.mul_zero] at hp
    cases hp
  · omega
/-- The product of two elements. -/
theorem mul_el {a b : Int} (ha : isG a = true) (hb : isG b = true) : isG (a * b % 2039) = true := by
  have hp : pw (a * b % 2039) 1019 = 1 := by
    rw [pw_mod, pw_base, (isG_iff.1 ha).2, (isG_iff.1 hb).2]
    rfl
  refine isG_iff.2 ⟨?_, hp⟩
  have h1 : 0 ≤ a * b % 2039 ∧ a * b % 2039 ≤ 2038 := by omega
  by_cases h0 : a * b % 2039 = 0
  · rw [h0, pw_succ, Int.mul_zero] at hp
    cases hp
  · omega

/-- The inverse of an exponent: the first m from f on, n of them tried. -/
def ivn (x : Int) : Nat → Int → Int
  | 0, _ => 0
  | n + 1, m => if x * m % 1019 = 1 then m else ivn x n (m + 1)
def invE (n : Int) : Int := ivn (n % 1019) 1018 1
theorem ivn_found {x : Int} : ∀ (n : Nat) (m : Int) (d : Nat), d < n → (∀ t : Nat, t < d → x * (m + t) % 1019 ≠ 1) → x * (m + d) % 1019 = 1 → ivn x n m = m + d := by
  intro n
  induction n with
  | zero => intro m d h; omega
  | succ n ih =>
    intro m d hd hn hy
    show (if x * m % 1019 = 1 then m else ivn x n (m + 1)) = _
    cases d with
    | zero => rw [Int.natCast_zero, Int.add_zero] at hy ⊢; rw [if_pos hy]
    | succ d =>
      have h0 := hn 0 (by omega)
      rw [Int.natCast_zero, Int.add_zero] at h0
      rw [if_neg h0, ih (m + 1) d (by omega) (fun t ht => by have := hn (t + 1) (by omega); rwa [show m + ((t + 1 : Nat) : Int) = m + 1 + t by push_cast; omega] at this) (by rwa [show m + ((d + 1 : Nat) : Int) = m + 1 + d by push_cast; omega] at hy)]
      push_cast
      omega
theorem ivn_none {x : Int} : ∀ (n : Nat) (m : Int), (∀ t : Nat, t < n → x * (m + t) % 1019 ≠ 1) → ivn x n m = 0 := by
  intro n
  induction n with
  | zero => intro m _; rfl
  | succ n ih =>
    intro m hn
    show (if x * m % 1019 = 1 then m else ivn x n (m + 1)) = _
    have h0 := hn 0 (by omega)
    rw [Int.natCast_zero, Int.add_zero] at h0
    rw [if_neg h0]
    exact ih (m + 1) (fun t ht => by have := hn (t + 1) (by omega); rwa [show m + ((t + 1 : Nat) : Int) = m + 1 + t by push_cast; omega] at this)
/-- Every exponent but nought has an inverse: a look at all. -/
noncomputable def sqm (f : Nat) : Nat → Nat → Nat → Nat :=
  Nat.rec (fun _ _ o => o) (fun _ ih b e o => ih (Nat.mod (Nat.mul b b) 1019) (Nat.div e 2) (cond (Nat.beq (Nat.mod e 2) 1) (Nat.mod (Nat.mul o b) 1019) o)) f
noncomputable def invAll (n : Nat) : Bool := Nat.rec true (fun x ih => cond (Nat.beq (Nat.mod (Nat.mul (Nat.succ x) (sqm 10 (Nat.succ x) 1017 1)) 1019) 1) ih false) n
theorem inv_all : invAll 1018 = true := by kernel_rfl
theorem invAll_succ (n : Nat) : invAll (n + 1) = cond (Nat.beq (Nat.mod (Nat.mul (Nat.succ n) (sqm 10 (Nat.succ n) 1017 1)) 1019) 1) (invAll n) false := rfl
theorem invAll_sound {n x : Nat} (h : invAll n = true) (hx : x < n) : ∃ y : Nat, (x + 1) * y % 1019 = 1 := by
  induction n with
  | zero => omega
  | succ n ih =>
    rw [invAll_succ] at h
    cases hb : Nat.beq (Nat.mod (Nat.mul (Nat.succ n) (sqm 10 (Nat.succ n) 1017 1)) 1019) 1 with
    | false => rw [hb] at h; cases h
    | true =>
      rw [hb] at h
      by_cases e : x = n
      · subst e
        exact ⟨_, Nat.eq_of_beq_eq_true hb⟩
      · exact ih h (by omega)
theorem inv_ex {x : Nat} (h1 : 1 ≤ x) (h2 : x ≤ 1018) : ∃ y : Nat, 1 ≤ y ∧ y ≤ 1018 ∧ x * y % 1019 = 1 := by
  obtain ⟨y, hy⟩ := invAll_sound inv_all (x := x - 1) (by omega)
  rw [show x - 1 + 1 = x by omega, Nat.mul_mod] at hy
  refine ⟨y % 1019, ?_, by omega, ?_⟩
  · by_cases h0 : y % 1019 = 0
    · rw [h0, Nat.mul_zero] at hy; cases hy
    · omega
  · rw [Nat.mul_mod, Nat.mod_mod]; exact hy
/-- It is one alone. -/
theorem inv_one {x a b : Nat} (ha : a ≤ 1018) (hb : b ≤ 1018) (h1 : x * a % 1019 = 1) (h2 : x * b % 1019 = 1) : a = b := by
  have e1 : a * (x * b) % 1019 = a := by rw [Nat.mul_mod, h2, Nat.mul_one, Nat.mod_mod]; omega
  have e2 : b * (x * a) % 1019 = b := by rw [Nat.mul_mod, h1, Nat.mul_one, Nat.mod_mod]; omega
  have e3 : a * (x * b) = b * (x * a) := by rw [← Nat.mul_assoc, ← Nat.mul_assoc, Nat.mul_comm a x, Nat.mul_comm b x, Nat.mul_assoc, Nat.mul_assoc, Nat.mul_comm a b]
  rw [e3, e2] at e1
  exact e1.symm
theorem natmod {x m : Nat} : ((x : Int) * (m : Int) % 1019 = 1) ↔ x * m % 1019 = 1 := by
  rw [← Int.natCast_mul]
  omega
/-- What InverseExponent gives. -/
theorem invE_zero {n : Int} (h : n % 1019 = 0) : invE n = 0 := by
  unfold invE
  rw [h]
  exact ivn_none _ _ (fun t ht => by rw [Int.zero_mul]; decide)
theorem invE_is {n : Int} {m : Nat} (h1 : 1 ≤ m) (h2 : m ≤ 1018) (h : n % 1019 * (m : Int) % 1019 = 1) : invE n = (m : Int) := by
  unfold invE
  obtain ⟨x, hx⟩ : ∃ x : Nat, n % 1019 = (x : Int) := ⟨(n % 1019).toNat, by omega⟩
  rw [hx] at h ⊢
  have := ivn_found (x := (x : Int)) 1018 1 (m - 1) (by omega) (fun t ht hc => by
    have h3 : (x : Int) * ((t + 1 : Nat) : Int) % 1019 = 1 := by rw [show ((t + 1 : Nat) : Int) = 1 + (t : Int) by push_cast; omega]; exact hc
    have := inv_one (by omega) h2 (natmod.1 h3) (natmod.1 h)
    omega) (by rw [show (1 : Int) + ((m - 1 : Nat) : Int) = (m : Int) by omega]; exact h)
  rw [this]
  omega
theorem invE_ok {n : Int} (h : n % 1019 ≠ 0) : ∃ m : Nat, 1 ≤ m ∧ m ≤ 1018 ∧ invE n = (m : Int) ∧ (n % 1019).toNat * m % 1019 = 1 := by
  obtain ⟨m, h1, h2, h3⟩ := inv_ex (x := (n % 1019).toNat) (by omega) (by omega)
  refine ⟨m, h1, h2, invE_is h1 h2 ?_, h3⟩
  have := natmod.2 h3
  rwa [show (((n % 1019).toNat : Nat) : Int) = n % 1019 by omega] at this

/-- A power of an exponent that is not nought is 1 for 1 alone. -/
theorem pw_order {g : Int} (h : isG g = true) {d : Nat} (h1 : 1 ≤ d) (h2 : d ≤ 1018) (h3 : pw g d = 1) : g = 1 := by
  obtain ⟨m, _, _, hm⟩ := inv_ex h1 h2
  have e : pw g (d * m) = 1 := by rw [← pw_mul, h3, pw_one]
  rw [← pw_red h, hm, pw_first h] at e
  exact e
/-- A logarithm is one alone. -/
theorem pw_inj {g : Int} (h : isG g = true) (hne : g ≠ 1) {a b : Nat} (ha : a ≤ 1018) (hb : b ≤ 1018) (hp : pw g a = pw g b) : a = b := by
  have key : ∀ a b : Nat, a ≤ 1018 → b ≤ 1018 → a < b → pw g a = pw g b → False := fun a b ha hb hab hp => by
    have e1 : pw g (a + (1019 - a)) = 1 := by rw [show a + (1019 - a) = 1019 by omega]; exact (isG_iff.1 h).2
    have e2 : pw g (b + (1019 - a)) = pw g (b - a) := by
      have := pw_period h (b - a) 1
      rwa [show b - a + 1019 * 1 = b + (1019 - a) by omega] at this
    rw [pw_add, hp, ← pw_add, e2] at e1
    exact hne (pw_order h (by omega) (by omega) e1)
  rcases Nat.lt_trichotomy a b with hlt | he | hgt
  · exact (key a b ha hb hlt hp).elim
  · exact he
  · exact (key b a hb ha hgt hp.symm).elim

/-- The logarithm: the first e from e0 on, n of them tried. -/
def dln (g x : Int) : Nat → Nat → Int
  | 0, _ => -1
  | n + 1, e => if pw g e = x then (e : Int) else dln g x n (e + 1)
def dlok (g x : Int) : Bool := isG g && (isG x && !(g == 1))
def dlog (g x : Int) : Int := if dlok g x = true then dln g x 1019 0 else -1
theorem dln_found {g x : Int} : ∀ (n e d : Nat), d < n → (∀ t, t < d → pw g (e + t) ≠ x) → pw g (e + d) = x → dln g x n e = ((e + d : Nat) : Int) := by
  intro n
  induction n with
  | zero => intro e d h; omega
  | succ n ih =>
    intro e d hd hn hy
    show (if pw g e = x then (e : Int) else dln g x n (e + 1)) = _
    cases d with
    | zero => rw [Nat.add_zero] at hy; rw [if_pos hy, Nat.add_zero]
    | succ d =>
      have h0 := hn 0 (by omega)
      rw [Nat.add_zero] at h0
      rw [if_neg h0, ih (e + 1) d (by omega) (fun t ht => by have := hn (t + 1) (by omega); rwa [show e + (t + 1) = e + 1 + t by omega] at this) (by rwa [show e + (d + 1) = e + 1 + d by omega] at hy)]
      congr 1
      omega
theorem dln_none {g x : Int} : ∀ (n e : Nat), (∀ t, t < n → pw g (e + t) ≠ x) → dln g x n e = -1 := by
  intro n
  induction n with
  | zero => intro e _; rfl
  | succ n ih =>
    intro e hn
    show (if pw g e = x then (e : Int) else dln g x n (e + 1)) = _
    have h0 := hn 0 (by omega)
    rw [Nat.add_zero] at h0
    rw [if_neg h0]
    exact ih (e + 1) (fun t ht => by have := hn (t + 1) (by omega); rwa [show e + (t + 1) = e + 1 + t by omega] at this)
theorem dlog_is {g x : Int} (h : dlok g x = true) {e : Nat} (he : e ≤ 1018) (hp : pw g e = x) : dlog g x = (e : Int) := by
  have h' := h
  unfold dlok at h'
  simp only [Bool.and_eq_true, Bool.not_eq_true', beq_eq_false_iff_ne] at h'
  unfold dlog
  rw [if_pos h, dln_found 1019 0 e (by omega) (fun t ht hc => by
    rw [Nat.zero_add] at hc
    have := pw_inj h'.1 h'.2.2 (by omega) he (hc.trans hp.symm)
    omega) (by rw [Nat.zero_add]; exact hp), Nat.zero_add]
theorem dlog_no {g x : Int} (h : dlok g x = false) : dlog g x = -1 := if_neg (by rw [h]; decide)
theorem dlog_none {g x : Int} (h : ∀ e : Nat, e ≤ 1018 → pw g e ≠ x) : dlog g x = -1 := by
  unfold dlog
  split
  · exact dln_none _ _ (fun t ht => by rw [Nat.zero_add]; exact h t (by omega))
  · rfl

/-- PowGroup, MulGroup, HashToGroup. -/
def pwG (g n : Int) : Int := if isG g = true then pw g (n % 1019).toNat else 0
def mulG (a b : Int) : Int := if (isG a && isG b) = true then a * b % 2039 else 0
def hexp (l v : Int) : Int := 1 + kid (kh l [89, v]) 0 % 1018
def hgr (l v : Int) : Int := pwG 4 (hexp l v)
theorem isG_four : isG 4 = true := by kernel_rfl
theorem pwG_yes {g : Int} (h : isG g = true) (n : Int) : pwG g n = pw g (n % 1019).toNat := if_pos h
theorem pwG_no {g : Int} (h : isG g = false) (n : Int) : pwG g n = 0 := if_neg (by rw [h]; decide)
theorem pwG_el {g : Int} (h : isG g = true) (n : Int) : isG (pwG g n) = true := by rw [pwG_yes h]; exact pw_el h _
theorem pwG_bound (g n : Int) : 0 ≤ pwG g n ∧ pwG g n ≤ 2038 := by
  unfold pwG
  split
  · exact pw_bound _ _
  · omega
theorem mulG_yes {a b : Int} (ha : isG a = true) (hb : isG b = true) : mulG a b = a * b % 2039 := if_pos (by rw [ha, hb]; rfl)
theorem mulG_bound (a b : Int) : 0 ≤ mulG a b ∧ mulG a b ≤ 2038 := by
  unfold mulG
  split <;> omega
theorem hexp_bound (l v : Int) : 1 ≤ hexp l v ∧ hexp l v ≤ 1018 := by
  unfold hexp
  generalize kid (kh l [89, v]) 0 = q
  omega
theorem hgr_ok (l v : Int) : isG (hgr l v) = true ∧ hgr l v ≠ 1 := by
  have hb := hexp_bound l v
  refine ⟨pwG_el isG_four _, fun h => ?_⟩
  unfold hgr at h
  rw [pwG_yes isG_four] at h
  have := pw_order isG_four (by omega) (by omega) h
  omega
/-- Exponents add up, also before they are reduced. -/
theorem pwG_add {g : Int} (h : isG g = true) (a b : Int) : mulG (pwG g a) (pwG g b) = pwG g (a + b) := by
  rw [mulG_yes (pwG_el h a) (pwG_el h b), pwG_yes h, pwG_yes h, pwG_yes h, ← pw_add, ← pw_red h]
  congr 1
  omega
theorem pwG_mul {g : Int} (h : isG g = true) (a b : Int) : pwG (pwG g a) b = pwG g (a * b) := by
  rw [pwG_yes (pwG_el h a), pwG_yes h, pwG_yes h, pw_mul, ← pw_red h]
  congr 1
  have e1 : a * b % 1019 = (a % 1019) * (b % 1019) % 1019 := Int.mul_emod _ _ _
  obtain ⟨x, hx⟩ : ∃ x : Nat, a % 1019 = (x : Int) := ⟨(a % 1019).toNat, by omega⟩
  obtain ⟨y, hy⟩ : ∃ y : Nat, b % 1019 = (y : Int) := ⟨(b % 1019).toNat, by omega⟩
  rw [e1, hx, hy, ← Int.natCast_mul, Int.toNat_natCast, Int.toNat_natCast]
  omega
theorem pwG_congr {g : Int} {a b : Int} (h : a % 1019 = b % 1019) : pwG g a = pwG g b := by
  unfold pwG
  rw [h]
/-- A power of an inverse exponent leads back. -/
theorem pwG_inv {g n : Int} (h : isG g = true) (hn : n % 1019 ≠ 0) : pwG (pwG g n) (invE n) = g := by
  obtain ⟨m, h1, h2, he, hm⟩ := invE_ok hn
  rw [he, pwG_yes (pwG_el h n), pwG_yes h, pw_mul, ← pw_red h, show ((m : Int) % 1019).toNat = m by omega, hm, pw_first h]

/-- A proof of equal exponents: challenge, response; when it is accepted. -/
def chl (g h u v a b : Int) : Int := kh 97 [g, h, u, v, a, b] % 1019
def prC (g h s t : Int) : Int := if (isG g && isG h) = true then chl g h (pwG g s) (pwG h s) (pwG g t) (pwG h t) else 0
def prR (g h s t : Int) : Int := if (isG g && isG h) = true then wrap64 (t - wrap64 (prC g h s t * s)) % 1019 else 0
def vrq (g h u v c r : Int) : Bool := isG g && (isG h && (isG u && (isG v && (inR c 0 1018 && inR r 0 1018))))
def vrf (g h u v c r : Int) : Bool := vrq g h u v c r && (c == chl g h u v (mulG (pwG g r) (pwG u c)) (mulG (pwG h r) (pwG v c)))
theorem chl_bound (g h u v a b : Int) : 0 ≤ chl g h u v a b ∧ chl g h u v a b ≤ 1018 := by
  unfold chl
  generalize kh 97 [g, h, u, v, a, b] = q
  omega
theorem prC_bound (g h s t : Int) : 0 ≤ prC g h s t ∧ prC g h s t ≤ 1018 := by
  unfold prC
  split
  · exact chl_bound _ _ _ _ _ _
  · omega
theorem prR_bound (g h s t : Int) : 0 ≤ prR g h s t ∧ prR g h s t ≤ 1018 := by
  unfold prR
  generalize wrap64 (t - wrap64 (prC g h s t * s)) = q
  split <;> omega
theorem vrf_no {g h u v c r : Int} (hq : vrq g h u v c r = false) : vrf g h u v c r = false := by unfold vrf; rw [hq]; rfl
/-- What is multiplied in VerifyEqual is the nonce's power. -/
theorem nonce_pw {g : Int} (hg : isG g = true) {s t c r : Int} (hr : r % 1019 = (t - c * s) % 1019) : mulG (pwG g r) (pwG (pwG g s) c) = pwG g t := by
  rw [pwG_mul hg, pwG_add hg]
  apply pwG_congr
  have e : c * s = s * c := Int.mul_comm _ _
  rw [e] at hr
  generalize s * c = q at hr ⊢
  omega
/-- A proof that was made is accepted, where no product or difference wraps around. -/
theorem pr_ok {g h s t : Int} (hg : isG g = true) (hh : isG h = true) (hs : -1000000000 ≤ s ∧ s ≤ 1000000000) (ht : -1000000000 ≤ t ∧ t ≤ 1000000000) : vrf g h (pwG g s) (pwG h s) (prC g h s t) (prR g h s t) = true := by
  have hc := prC_bound g h s t
  have hrb := prR_bound g h s t
  have hy : (isG g && isG h) = true := by rw [hg, hh]; rfl
  have hcs : -1018000000000 ≤ prC g h s t * s ∧ prC g h s t * s ≤ 1018000000000 := by
    have h1 : prC g h s t * s ≤ prC g h s t * 1000000000 := Int.mul_le_mul_of_nonneg_left hs.2 hc.1
    have h2 : prC g h s t * (-1000000000) ≤ prC g h s t * s := Int.mul_le_mul_of_nonneg_left hs.1 hc.1
    omega
  have hw : wrap64 (t - wrap64 (prC g h s t * s)) = t - prC g h s t * s := by
    have e1 : wrap64 (prC g h s t * s) = prC g h s t * s := by generalize prC g h s t * s = q at hcs ⊢; unfold wrap64; omega
    rw [e1]
    generalize prC g h s t * s = q at hcs ⊢
    unfold wrap64
    omega
  have hr : prR g h s t % 1019 = (t - prC g h s t * s) % 1019 := by
    unfold prR
    rw [if_pos hy, hw]
    generalize prC g h s t * s = q
    omega
  have hq : vrq g h (pwG g s) (pwG h s) (prC g h s t) (prR g h s t) = true := by
    unfold vrq
    rw [hg, hh, pwG_el hg, pwG_el hh, inR_yes hc, inR_yes hrb]
    rfl
  unfold vrf
  rw [hq, nonce_pw hg hr, nonce_pw hh hr, Bool.true_and, beq_iff_eq]
  unfold prC
  rw [if_pos hy]

end Go.Proofs.Ytlbijjifeaimjaa


/-! GrS -/
namespace Go.Proofs.Ytlbijjifeaimjaa
open Go Go.RowKit
set_option linter.unusedVariables false
attribute [local irreducible] kh kid

theorem ml_l (m a b : Int) : (a % m) * b % m = a * b % m := by rw [Int.mul_emod, Int.emod_emod_of_dvd a (Int.dvd_refl m), ← Int.mul_emod]
theorem ml_r (m a b : Int) : a * (b % m) % m = a * b % m := by rw [Int.mul_comm, ml_l, Int.mul_comm]
/-- The power modulo m. -/
def pwm (m g : Int) (n : Nat) : Int := g ^ n % m
theorem pwm_pw (g : Int) (n : Nat) : pwm 2039 g n = pw g n := by
  induction n with
  | zero => unfold pwm; rw [Int.pow_zero]; rfl
  | succ n ih =>
    rw [pw_succ, ← ih]
    unfold pwm
    rw [Int.pow_succ, ml_l]
/-- What is still to come of a power. -/
def tcm (m p b : Int) (e : Nat) : Int := p * b ^ e % m
theorem tcm_start (m g : Int) (n : Nat) : tcm m 1 g n = pwm m g n := by unfold tcm pwm; rw [Int.one_mul]
theorem tcm_end {m p b : Int} (h0 : 0 ≤ p) (h1 : p < m) : tcm m p b 0 = p := by
  unfold tcm
  rw [Int.pow_zero, Int.mul_one]
  exact Int.emod_eq_of_lt h0 h1
theorem pow_l (m a : Int) (k : Nat) : (a % m) ^ k % m = a ^ k % m := by
  induction k with
  | zero => rw [Int.pow_zero, Int.pow_zero]
  | succ k ih => rw [Int.pow_succ, Int.pow_succ, ml_r, Int.mul_emod, ih, ← Int.mul_emod]
theorem pow_sq (b : Int) (k : Nat) : (b * b) ^ k = b ^ (2 * k) := by
  induction k with
  | zero => rw [Int.pow_zero, Nat.mul_zero, Int.pow_zero]
  | succ k ih => rw [Int.pow_succ, ih, show 2 * (k + 1) = 2 * k + 1 + 1 by omega, Int.pow_succ, Int.pow_succ, Int.mul_assoc]
theorem tcm_even {m p b : Int} {e : Nat} (h : e % 2 = 0) : tcm m p (b * b % m) (e / 2) = tcm m p b e := by
  unfold tcm
  rw [Int.mul_emod, pow_l, ← Int.mul_emod, pow_sq, show 2 * (e / 2) = e by omega]
theorem tcm_odd {m p b : Int} {e : Nat} (h : e % 2 = 1) : tcm m (p * b % m) (b * b % m) (e / 2) = tcm m p b e := by
  unfold tcm
  rw [ml_l, Int.mul_emod, pow_l, ← Int.mul_emod, pow_sq, Int.mul_assoc]
  congr 1
  congr 1
  obtain ⟨k, rfl⟩ : ∃ k, e = 2 * k + 1 := ⟨e / 2, by omega⟩
  rw [show 2 * ((2 * k + 1) / 2) = 2 * k by omega, Int.pow_succ, Int.mul_comm]
theorem tcm_bound {m p b : Int} {e : Nat} (h : 0 < m) : 0 ≤ tcm m p b e ∧ tcm m p b e < m := ⟨Int.emod_nonneg _ (by omega), Int.emod_lt_of_pos _ h⟩
theorem pwm_bound {m g : Int} {n : Nat} (h : 0 < m) : 0 ≤ pwm m g n ∧ pwm m g n < m := ⟨Int.emod_nonneg _ (by omega), Int.emod_lt_of_pos _ h⟩
/-- Products of numbers below 2039. -/
theorem mul_bound {a b : Int} (h0 : 0 ≤ a) (h1 : a < 2039) (h2 : 0 ≤ b) (h3 : b < 2039) : 0 ≤ a * b ∧ a * b ≤ 4153444 := by
  refine ⟨Int.mul_nonneg h0 h2, ?_⟩
  have e1 : a * b ≤ 2038 * b := Int.mul_le_mul_of_nonneg_right (by omega) h2
  omega
theorem mod_bd {x m : Int} (hm : 0 < m) : 0 ≤ x % m ∧ x % m < m := ⟨Int.emod_nonneg _ (by omega), Int.emod_lt_of_pos _ hm⟩

/-- The inverse of an exponent is a power of it. -/
theorem sqm_succ (f b e o : Nat) : sqm (f + 1) b e o = sqm f (Nat.mod (Nat.mul b b) 1019) (Nat.div e 2) (cond (Nat.beq (Nat.mod e 2) 1) (Nat.mod (Nat.mul o b) 1019) o) := rfl
theorem pow_ln (a k : Nat) : (a % 1019) ^ k % 1019 = a ^ k % 1019 := (Nat.pow_mod a k 1019).symm
theorem pow_sqn (b k : Nat) : (b * b) ^ k = b ^ (2 * k) := by
  induction k with
  | zero => rfl
  | succ k ih => rw [Nat.pow_succ, ih, show 2 * (k + 1) = 2 * k + 1 + 1 by omega, Nat.pow_succ, Nat.pow_succ, Nat.mul_assoc]
theorem sqm_is : ∀ (f b e o : Nat), e < 2 ^ f → o < 1019 → sqm f b e o = o * b ^ e % 1019 := by
  intro f
  induction f with
  | zero =>
    intro b e o he ho
    obtain rfl : e = 0 := by rw [Nat.pow_zero] at he; omega
    show o = _
    rw [Nat.pow_zero, Nat.mul_one, Nat.mod_eq_of_lt ho]
  | succ f ih =>
    intro b e o he ho
    rw [Nat.pow_succ] at he
    rw [sqm_succ]
    show sqm f (b * b % 1019) (e / 2) (cond (Nat.beq (e % 2) 1) (o * b % 1019) o) = _
    by_cases h : e % 2 = 1
    · have hb : Nat.beq (e % 2) 1 = true := by rw [h]; rfl
      rw [hb]
      show sqm f (b * b % 1019) (e / 2) (o * b % 1019) = _
      rw [ih _ _ _ (by omega) (Nat.mod_lt _ (by omega)), Nat.mul_mod, pow_ln, Nat.mod_mod, ← Nat.mul_mod, pow_sqn, Nat.mul_assoc]
      congr 2
      obtain ⟨k, rfl⟩ : ∃ k, e = 2 * k + 1 := ⟨e / 2, by omega⟩
      rw [show 2 * ((2 * k + 1) / 2) = 2 * k by omega, Nat.pow_succ, Nat.mul_comm]
    · have h0 : e % 2 = 0 := by omega
      have hb : Nat.beq (e % 2) 1 = false := by rw [h0]; rfl
      rw [hb]
      show sqm f (b * b % 1019) (e / 2) o = _
      rw [ih _ _ _ (by omega) ho, Nat.mul_mod, pow_ln, ← Nat.mul_mod, pow_sqn, show 2 * (e / 2) = e by omega]
theorem invAll_at {n x : Nat} (h : invAll n = true) (hx : x < n) : (x + 1) * sqm 10 (x + 1) 1017 1 % 1019 = 1 := by
  induction n with
  | zero => omega
  | succ n ih =>
    rw [invAll_succ] at h
    cases hb : Nat.beq (Nat.mod (Nat.mul (Nat.succ n) (sqm 10 (Nat.succ n) 1017 1)) 1019) 1 with
    | false => rw [hb] at h; cases h
    | true =>
      rw [hb] at h
      by_cases e : x = n
      · subst e
        exact Nat.eq_of_beq_eq_true hb
      · exact ih h (by omega)
theorem inv_pow {x N : Nat} (hN : N = 1017) (h1 : 1 ≤ x) (h2 : x ≤ 1018) : x * (x ^ N % 1019) % 1019 = 1 := by
  have h := invAll_at inv_all (x := x - 1) (by omega)
  rw [show x - 1 + 1 = x by omega, ← hN, sqm_is 10 x N 1 (by rw [hN]; decide) (by omega), Nat.one_mul] at h
  exact h
theorem zero_pow_mod (n : Nat) : (0 : Int) ^ (n + 1) % 1019 = 0 := by rw [Int.pow_succ, Int.mul_zero]; rfl
theorem pow_castn (x n : Nat) : ((x : Int)) ^ n % 1019 = ((x ^ n % 1019 : Nat) : Int) := by
  rw [Int.natCast_emod, Int.natCast_pow]
  rfl
theorem pwm_inv {N : Nat} (hN : N = 1017) (n : Int) : pwm 1019 (n % 1019) N = invE n := by
  unfold pwm
  by_cases h0 : n % 1019 = 0
  · obtain ⟨M, rfl⟩ : ∃ M, N = M + 1 := ⟨N - 1, by omega⟩
    rw [h0, invE_zero h0]
    exact zero_pow_mod M
  · obtain ⟨x, hx⟩ : ∃ x : Nat, n % 1019 = (x : Int) := ⟨(n % 1019).toNat, by omega⟩
    rw [hx, pow_castn]
    have hp := inv_pow (x := x) hN (by omega) (by omega)
    have hb : x ^ N % 1019 ≤ 1018 := Nat.le_of_lt_succ (Nat.mod_lt _ (Nat.succ_pos _))
    generalize x ^ N % 1019 = y at hp hb ⊢
    refine (invE_is (n := n) (m := y) ?_ hb ?_).symm
    · by_cases hy : y = 0
      · rw [hy, Nat.mul_zero] at hp; cases hp
      · omega
    · rw [hx]
      exact natmod.2 hp

/-- Every element is a power of 4: a look at all, by a mask of the powers. -/
noncomputable def walk (n : Nat) : Nat → Nat → Nat :=
  Nat.rec (fun _ m => m) (fun _ ih p m => ih (Nat.mod (Nat.mul p 4) 2039) (Nat.lor m (Nat.shiftLeft 1 p))) n
noncomputable def sq2 (f : Nat) : Nat → Nat → Nat → Nat :=
  Nat.rec (fun _ _ o => o) (fun _ ih b e o => ih (Nat.mod (Nat.mul b b) 2039) (Nat.div e 2) (cond (Nat.beq (Nat.mod e 2) 1) (Nat.mod (Nat.mul o b) 2039) o)) f
noncomputable def allIn (m n : Nat) : Bool := Nat.rec true (fun x ih => cond (Nat.beq (sq2 10 (Nat.succ x) 1019 1) 1) (cond (Nat.beq (Nat.land (Nat.shiftRight m (Nat.succ x)) 1) 1) ih false) ih) n
theorem all_in : allIn (walk 1019 1 0) 2038 = true := by kernel_rfl
theorem walk_succ (n p m : Nat) : walk (n + 1) p m = walk n (Nat.mod (Nat.mul p 4) 2039) (Nat.lor m (Nat.shiftLeft 1 p)) := rfl
theorem sq2_succ (f b e o : Nat) : sq2 (f + 1) b e o = sq2 f (Nat.mod (Nat.mul b b) 2039) (Nat.div e 2) (cond (Nat.beq (Nat.mod e 2) 1) (Nat.mod (Nat.mul o b) 2039) o) := rfl
theorem allIn_succ (m n : Nat) : allIn m (n + 1) = cond (Nat.beq (sq2 10 (Nat.succ n) 1019 1) 1) (cond (Nat.beq (Nat.land (Nat.shiftRight m (Nat.succ n)) 1) 1) (allIn m n) false) (allIn m n) := rfl
theorem pw4_cast (n : Nat) : pw 4 n = ((4 ^ n % 2039 : Nat) : Int) := by
  rw [← pwm_pw]
  unfold pwm
  rw [Int.natCast_emod, Int.natCast_pow]
  rfl
theorem walk_bit : ∀ (n k m x : Nat), (∀ y, m.testBit y = true → ∃ e, e < k ∧ 4 ^ e % 2039 = y) → (walk n (4 ^ k % 2039) m).testBit x = true → ∃ e, e < k + n ∧ 4 ^ e % 2039 = x := by
  intro n
  induction n with
  | zero => intro k m x hm h; exact hm x h
  | succ n ih =>
    intro k m x hm h
    rw [walk_succ] at h
    have e1 : Nat.mod (Nat.mul (4 ^ k % 2039) 4) 2039 = 4 ^ (k + 1) % 2039 := by
      show (4 ^ k % 2039) * 4 % 2039 = _
      rw [Nat.pow_succ, Nat.mul_mod, Nat.mod_mod, ← Nat.mul_mod]
    rw [e1] at h
    obtain ⟨e, he, hx⟩ := ih (k + 1) (Nat.lor m (Nat.shiftLeft 1 (4 ^ k % 2039))) x (fun y hy => by
      have hy' : (m ||| 1 <<< (4 ^ k % 2039)).testBit y = true := hy
      rw [Nat.testBit_or, Nat.testBit_shiftLeft, Bool.or_eq_true] at hy'
      rcases hy' with h1 | h1
      · obtain ⟨e, he, hx⟩ := hm y h1
        exact ⟨e, by omega, hx⟩
      · rw [Bool.and_eq_true, decide_eq_true_eq] at h1
        refine ⟨k, by omega, ?_⟩
        have := h1.2
        rw [Nat.testBit_one_eq_true_iff_self_eq_zero] at this
        omega) h
    exact ⟨e, by omega, hx⟩
theorem sq2_is : ∀ (f b e o : Nat), e < 2 ^ f → o < 2039 → sq2 f b e o = o * b ^ e % 2039 := by
  intro f
  induction f with
  | zero =>
    intro b e o he ho
    obtain rfl : e = 0 := by rw [Nat.pow_zero] at he; omega
    show o = _
    rw [Nat.pow_zero, Nat.mul_one, Nat.mod_eq_of_lt ho]
  | succ f ih =>
    intro b e o he ho
    rw [Nat.pow_succ] at he
    rw [sq2_succ]
    show sq2 f (b * b % 2039) (e / 2) (cond (Nat.beq (e % 2) 1) (o * b % 2039) o) = _
    by_cases h : e % 2 = 1
    · have hb : Nat.beq (e % 2) 1 = true := by rw [h]; rfl
      rw [hb]
      show sq2 f (b * b % 2039) (e / 2) (o * b % 2039) = _
      rw [ih _ _ _ (by omega) (Nat.mod_lt _ (by omega)), Nat.mul_mod, ← Nat.pow_mod, Nat.mod_mod, ← Nat.mul_mod, pow_sqn, Nat.mul_assoc]
      congr 2
      obtain ⟨k, rfl⟩ : ∃ k, e = 2 * k + 1 := ⟨e / 2, by omega⟩
      rw [show 2 * ((2 * k + 1) / 2) = 2 * k by omega, Nat.pow_succ, Nat.mul_comm]
    · have h0 : e % 2 = 0 := by omega
      have hb : Nat.beq (e % 2) 1 = false := by rw [h0]; rfl
      rw [hb]
      show sq2 f (b * b % 2039) (e / 2) o = _
      rw [ih _ _ _ (by omega) ho, Nat.mul_mod, ← Nat.pow_mod, ← Nat.mul_mod, pow_sqn, show 2 * (e / 2) = e by omega]
theorem sq2_of {y N : Nat} (hN : N < 1024) (h : pwm 2039 (y : Int) N = 1) : sq2 10 y N 1 = 1 := by
  rw [sq2_is 10 y N 1 (by rw [show (2 : Nat) ^ 10 = 1024 from rfl]; exact hN) (by omega), Nat.one_mul]
  unfold pwm at h
  rw [← Int.natCast_pow] at h
  omega
theorem allIn_sound {m n x : Nat} (h : allIn m n = true) (hx : x < n) (hg : sq2 10 (x + 1) 1019 1 = 1) : m.testBit (x + 1) = true := by
  induction n with
  | zero => omega
  | succ n ih =>
    rw [allIn_succ] at h
    by_cases e : x = n
    · subst e
      have h1 : sq2 10 (Nat.succ x) 1019 1 = 1 := hg
      rw [h1] at h
      cases hb : Nat.beq (Nat.land (Nat.shiftRight m (Nat.succ x)) 1) 1 with
      | false => rw [hb] at h; cases h
      | true =>
        have h2 : (m >>> (x + 1)) &&& 1 = 1 := Nat.eq_of_beq_eq_true hb
        unfold Nat.testBit
        rw [Nat.and_comm, h2]
        rfl
    · refine ih ?_ (by omega)
      cases h1 : Nat.beq (sq2 10 (Nat.succ n) 1019 1) 1 with
      | false => rw [h1] at h; exact h
      | true =>
        rw [h1] at h
        cases h2 : Nat.beq (Nat.land (Nat.shiftRight m (Nat.succ n)) 1) 1 with
        | false => rw [h2] at h; cases h
        | true => rw [h2] at h; exact h
theorem el_pow4 {x : Int} (h : isG x = true) : ∃ e : Nat, e ≤ 1018 ∧ pw 4 e = x := by
  obtain ⟨hb, hp⟩ := isG_iff.1 h
  obtain ⟨y, hy⟩ : ∃ y : Nat, x = ((y + 1 : Nat) : Int) := ⟨(x - 1).toNat, by omega⟩
  subst hy
  rw [← pwm_pw] at hp
  have hp' := sq2_of (y := y + 1) (N := 1019) (by omega) hp
  have ht := allIn_sound all_in (x := y) (by omega) hp'
  obtain ⟨e, he, hx⟩ := walk_bit 1019 0 0 (y + 1) (fun z hz => by rw [Nat.zero_testBit] at hz; cases hz) ht
  exact ⟨e, by omega, by rw [pw4_cast, hx]⟩
theorem log_ex {g x : Int} (hg : isG g = true) (hne : g ≠ 1) (hx : isG x = true) : ∃ e : Nat, e ≤ 1018 ∧ pw g e = x := by
  obtain ⟨a, ha, rfl⟩ := el_pow4 hg
  obtain ⟨b, hb, rfl⟩ := el_pow4 hx
  have ha0 : 1 ≤ a := by
    rcases Nat.eq_zero_or_pos a with h | h
    · exact (hne (by rw [h, pw_zero])).elim
    · exact h
  obtain ⟨m, _, _, hm⟩ := inv_ex ha0 ha
  refine ⟨m * b % 1019, by omega, ?_⟩
  rw [pw_red (pw_el isG_four a), pw_mul, ← pw_red isG_four (a * (m * b)), ← Nat.mul_assoc, Nat.mul_mod, hm, Nat.one_mul, Nat.mod_mod, pw_red isG_four]
/-- One step of 32 back. -/
theorem pw_back {g : Int} (h : isG g = true) {e : Nat} (he : 32 ≤ e) : pw g e * pw g 987 % 2039 = pw g (e - 32) := by
  rw [← pw_add]
  have := pw_period h (e - 32) 1
  rwa [show e - 32 + 1019 * 1 = e + 987 by omega] at this

end Go.Proofs.Ytlbijjifeaimjaa


/-! TkN -/
namespace Go.Proofs.Ytlbijjifeaimjaa
open Go Go.RowKit
set_option linter.unusedVariables false
attribute [local irreducible] kh kid pwm tcm pw

/-- The hash of a serial number. -/
def hs (n : Int) : Int := hgr 101 n
theorem hs_el (n : Int) : isG (hs n) = true := (hgr_ok 101 n).1
theorem hs_ne (n : Int) : hs n ≠ 1 := (hgr_ok 101 n).2
def okNr (n : Int) : Bool := inR n 0 100000
def nz (n : Int) : Bool := !(n % 1019 == 0)
theorem nz_iff {n : Int} : nz n = true ↔ n % 1019 ≠ 0 := by unfold nz; simp
theorem nz_small {n : Int} (h1 : 1 ≤ n) (h2 : n ≤ 1018) : nz n = true := nz_iff.2 (by omega)
theorem okNr_in {n : Int} (h1 : 0 ≤ n) (h2 : n ≤ 100000) : okNr n = true := inR_yes ⟨h1, h2⟩

/-- BlindToken. -/
def blok (n b : Int) : Bool := okNr n && nz b
def blE (n b : Int) : Int := if blok n b = true then pwG (hs n) b else 0
theorem blE_yes {n b : Int} (h : blok n b = true) : blE n b = pwG (hs n) b := if_pos h
theorem blE_no {n b : Int} (h : blok n b = false) : blE n b = 0 := if_neg (by rw [h]; decide)
theorem blE_bound (n b : Int) : 0 ≤ blE n b ∧ blE n b ≤ 2038 := by
  unfold blE
  split
  · exact pwG_bound _ _
  · omega
/-- SignBlinded. -/
def sgok (s x : Int) : Bool := isG x && (!(x == 1) && nz s)
def sgE (s x : Int) : Int := if sgok s x = true then pwG x s else 0
def sgC (s x t : Int) : Int := if sgok s x = true then prC 4 x s t else 0
def sgR (s x t : Int) : Int := if sgok s x = true then prR 4 x s t else 0
theorem sg_no {s x : Int} (t : Int) (h : sgok s x = false) : sgE s x = 0 ∧ sgC s x t = 0 ∧ sgR s x t = 0 := by
  unfold sgE sgC sgR
  rw [h]
  exact ⟨rfl, rfl, rfl⟩
theorem sg_yes {s x : Int} (t : Int) (h : sgok s x = true) : sgE s x = pwG x s ∧ sgC s x t = prC 4 x s t ∧ sgR s x t = prR 4 x s t := ⟨if_pos h, if_pos h, if_pos h⟩
theorem sg_bound (s x t : Int) : (0 ≤ sgE s x ∧ sgE s x ≤ 2038) ∧ (0 ≤ sgC s x t ∧ sgC s x t ≤ 1018) ∧ (0 ≤ sgR s x t ∧ sgR s x t ≤ 1018) := by
  refine ⟨?_, ?_, ?_⟩
  · unfold sgE; split; exact pwG_bound _ _; omega
  · unfold sgC; split; exact prC_bound _ _ _ _; omega
  · unfold sgR; split; exact prR_bound _ _ _ _; omega
/-- FinishToken. -/
def fnok (n b k e c r : Int) : Bool := blok n b && vrf 4 (blE n b) k e c r
def fnS (n b k e c r : Int) : Int := if fnok n b k e c r = true then n else 0
def fnV (n b k e c r : Int) : Int := if fnok n b k e c r = true then pwG e (invE b) else 0
theorem fn_no {n b k e c r : Int} (h : fnok n b k e c r = false) : fnS n b k e c r = 0 ∧ fnV n b k e c r = 0 := by
  unfold fnS fnV
  rw [h]
  exact ⟨rfl, rfl⟩
theorem fn_yes {n b k e c r : Int} (h : fnok n b k e c r = true) : fnS n b k e c r = n ∧ fnV n b k e c r = pwG e (invE b) := ⟨if_pos h, if_pos h⟩
theorem fn_bound {n b k e c r : Int} : (0 ≤ fnS n b k e c r ∧ fnS n b k e c r ≤ 100000) ∧ (0 ≤ fnV n b k e c r ∧ fnV n b k e c r ≤ 2038) := by
  cases h : fnok n b k e c r with
  | false => rw [(fn_no h).1, (fn_no h).2]; omega
  | true =>
    rw [(fn_yes h).1, (fn_yes h).2]
    refine ⟨?_, pwG_bound _ _⟩
    unfold fnok blok okNr inR at h
    simp only [Bool.and_eq_true, decide_eq_true_eq] at h
    omega
/-- IsValidToken. -/
def vtok (s n v : Int) : Bool := okNr n && (nz s && (v == pwG (hs n) s))
/-- ExplainRequest. -/
def exqT (x n : Int) : Bool := okNr n && !(x == 1)
def exn (x n : Int) : Int := if exqT x n = true then dlog (hs n) x else 0
def exok (x n : Int) : Bool := exqT x n && decide (1 ≤ dlog (hs n) x)
def exV (x n : Int) : Int := if exok x n = true then dlog (hs n) x else 0
theorem ex_no {x n : Int} (h : exok x n = false) : exV x n = 0 := if_neg (by rw [h]; decide)
theorem ex_yes {x n : Int} (h : exok x n = true) : exV x n = dlog (hs n) x := if_pos h
theorem dlog_bound (g x : Int) : -1 ≤ dlog g x ∧ dlog g x ≤ 1018 := by
  cases h : dlok g x with
  | false => rw [dlog_no h]; omega
  | true =>
    have h' := h
    unfold dlok at h'
    simp only [Bool.and_eq_true, Bool.not_eq_true', beq_eq_false_iff_ne] at h'
    obtain ⟨e, he, hp⟩ := log_ex h'.1 h'.2.2 h'.2.1
    rw [dlog_is h he hp]
    omega
theorem exV_bound (x n : Int) : 0 ≤ exV x n ∧ exV x n ≤ 1018 := by
  cases h : exok x n with
  | false => rw [ex_no h]; omega
  | true =>
    rw [ex_yes h]
    have := dlog_bound (hs n) x
    unfold exok at h
    simp only [Bool.and_eq_true, decide_eq_true_eq] at h
    omega

/-! ### What the laws say -/
theorem pwG_ne1 {g : Int} (h : isG g = true) (h1 : g ≠ 1) {b : Int} (hb : b % 1019 ≠ 0) : pwG g b ≠ 1 := by
  rw [pwG_yes h]
  intro e
  exact h1 (pw_order h (d := (b % 1019).toNat) (by omega) (by omega) e)
/-- A token that was issued blindly. -/
theorem tk_bl {n b : Int} (hn : okNr n = true) (hb : nz b = true) : blok n b = true := by unfold blok; rw [hn, hb]; rfl
theorem tk_el {n b : Int} (hn : okNr n = true) (hb : nz b = true) : isG (blE n b) = true ∧ blE n b ≠ 1 := by
  rw [blE_yes (tk_bl hn hb)]
  exact ⟨pwG_el (hs_el n) b, pwG_ne1 (hs_el n) (hs_ne n) (nz_iff.1 hb)⟩
theorem tk_sg {n b s : Int} (hn : okNr n = true) (hb : nz b = true) (hz : nz s = true) : sgok s (blE n b) = true := by
  have h := tk_el hn hb
  unfold sgok
  rw [h.1, hz, beq_eq_false_iff_ne.2 h.2]
  rfl
theorem tk_fn {n b s t : Int} (hn : okNr n = true) (hb : nz b = true) (hz : nz s = true) (hs : -1000000000 ≤ s ∧ s ≤ 1000000000) (ht : -1000000000 ≤ t ∧ t ≤ 1000000000) :
    fnok n b (pwG 4 s) (sgE s (blE n b)) (sgC s (blE n b) t) (sgR s (blE n b) t) = true := by
  obtain ⟨e1, e2, e3⟩ := sg_yes t (tk_sg hn hb hz)
  unfold fnok
  rw [tk_bl hn hb, e1, e2, e3, Bool.true_and]
  exact pr_ok isG_four (tk_el hn hb).1 hs ht
theorem tk_val {n b s : Int} (hn : okNr n = true) (hb : nz b = true) (hz : nz s = true) : pwG (sgE s (blE n b)) (invE b) = pwG (hs n) s := by
  rw [(sg_yes 0 (tk_sg hn hb hz)).1, blE_yes (tk_bl hn hb), pwG_mul (pwG_el (hs_el n) b), Int.mul_comm s (invE b), ← pwG_mul (pwG_el (hs_el n) b), pwG_inv (hs_el n) (nz_iff.1 hb)]
theorem tk_valid {n s : Int} (hn : okNr n = true) (hz : nz s = true) : vtok s n (pwG (hs n) s) = true := by unfold vtok; rw [hn, hz]; simp
/-- Another value, another issuer. -/
theorem mul4_ne {v : Int} (h : isG v = true) : mulG v 4 ≠ v := by
  obtain ⟨e, he, rfl⟩ := el_pow4 h
  rw [mulG_yes h isG_four]
  intro hc
  rw [← pw_succ, ← pw_red isG_four] at hc
  have h2 : (e + 1) % 1019 = e := pw_inj isG_four (by omega) (by omega) he hc
  omega
theorem tk_bad {n s : Int} : vtok s n (mulG (pwG (hs n) s) 4) = false := by
  unfold vtok
  rw [beq_eq_false_iff_ne.2 (mul4_ne (pwG_el (hs_el n) s)), Bool.and_false, Bool.and_false]
theorem tk_other {n s o : Int} (h : s % 1019 ≠ o % 1019) : vtok o n (pwG (hs n) s) = false := by
  unfold vtok
  have hne : pwG (hs n) s ≠ pwG (hs n) o := by
    rw [pwG_yes (hs_el n), pwG_yes (hs_el n)]
    intro e
    have := pw_inj (hs_el n) (hs_ne n) (by omega) (by omega) e
    omega
  rw [beq_eq_false_iff_ne.2 hne, Bool.and_false, Bool.and_false]
/-- A request fits every serial number. -/
theorem ex_fits {x n : Int} (hx : isG x = true) (h1 : x ≠ 1) (hn : okNr n = true) : exok x n = true ∧ blok n (exV x n) = true ∧ blE n (exV x n) = x := by
  obtain ⟨e, he, hp⟩ := log_ex (hs_el n) (hs_ne n) hx
  have hd : dlog (hs n) x = (e : Int) := dlog_is (by unfold dlok; rw [hs_el, hx, beq_eq_false_iff_ne.2 (hs_ne n)]; rfl) he hp
  have he1 : 1 ≤ e := by
    rcases Nat.eq_zero_or_pos e with h | h
    · exact (h1 (by rw [← hp, h, pw_zero])).elim
    · exact h
  have hok : exok x n = true := by
    unfold exok exqT
    rw [hn, beq_eq_false_iff_ne.2 h1, hd, decide_eq_true (by omega)]
    rfl
  have hb : blok n (exV x n) = true := by
    rw [ex_yes hok, hd]
    exact tk_bl hn (nz_small (by omega) (by omega))
  refine ⟨hok, hb, ?_⟩
  rw [blE_yes hb, ex_yes hok, hd, pwG_yes (hs_el n), show ((e : Int) % 1019).toNat = e by omega, hp]
theorem ex_self {n b : Int} (hn : okNr n = true) (h1 : 1 ≤ b) (h2 : b ≤ 1018) : exV (blE n b) n = b := by
  have hz := nz_small h1 h2
  obtain ⟨hx, hne⟩ := tk_el hn hz
  rw [ex_yes (ex_fits hx hne hn).1, blE_yes (tk_bl hn hz)]
  rw [dlog_is (e := b.toNat) (by unfold dlok; rw [hs_el, pwG_el (hs_el n), beq_eq_false_iff_ne.2 (hs_ne n)]; rfl) (by omega) (by rw [pwG_yes (hs_el n)]; congr 1; omega)]
  omega
theorem ex_one (n : Int) : exok 1 n = false := by unfold exok exqT; simp

end Go.Proofs.Ytlbijjifeaimjaa
