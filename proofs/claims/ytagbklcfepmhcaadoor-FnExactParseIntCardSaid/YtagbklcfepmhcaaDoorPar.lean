/- Which strings spell a number from 0 to MaxValue, and that strconv's reading and the model's reading agree on them. Plain facts; no program. -/
import Derived.Test.YtagbklcfepmhcaaDoorNum
namespace Go.Proofs.YtagbklcfepmhcaaDoor.Num
open Go.Lib

/-- The number from 0 to 10^12 that a string is the numeral of. -/
def parsed (l : List UInt8) : Option Nat :=
  match atoiAll l with
  | .ok v => if 0 ≤ v ∧ v ≤ 1000000000000 ∧ itoa v = l then some v.toNat else none
  | _ => none

/-- A row of digits, read from the left behind 'a'. -/
def digs (a : Nat) : List UInt8 → Option Nat
  | [] => some a
  | c :: r => if 48 ≤ c.toNat ∧ c.toNat ≤ 57 then digs (a * 10 + (c.toNat - 48)) r else none

theorem digs_eq : ∀ (l : List UInt8) (a : Nat), digs a l = decFrom a l
  | [], a => rfl
  | c :: r, a => by
    by_cases h : 48 ≤ c.toNat ∧ c.toNat ≤ 57
    · simp only [digs, decFrom, digitVal, if_pos h]; exact digs_eq r _
    · simp only [digs, decFrom, digitVal, if_neg h]

theorem dec_digit (d : Nat) (h : d < 10) : (UInt8.ofNat (48 + d)).toNat = 48 + d := by
  rw [UInt8.toNat_ofNat']; exact Nat.mod_eq_of_lt (by omega)

theorem decFrom_append : ∀ (l r : List UInt8) (a : Nat), decFrom a (l ++ r) = (decFrom a l).bind fun m => decFrom m r
  | [], _, _ => rfl
  | c :: l, r, a => by
    simp only [List.cons_append, decFrom]
    cases digitVal c with
    | none => rfl
    | some d => exact decFrom_append l r _

theorem decFrom_digits (u : Nat) : decFrom 0 (decDigits u) = some u := by
  induction u using Nat.strongRecOn with
  | _ u ih =>
    by_cases h : u < 10
    · rw [decDigits, dif_pos h]
      simp only [decFrom, digitVal, dec_digit u h]
      rw [if_pos (by omega)]; simp
    · rw [decDigits, dif_neg h, decFrom_append, ih (u / 10) (by omega)]
      simp only [Option.bind_some, decFrom, digitVal, dec_digit (u % 10) (by omega)]
      rw [if_pos (by omega)]
      simp; omega

theorem dec_ne (u : Nat) : decDigits u ≠ [] := by
  intro h
  have h1 := decDigits_length u
  have h2 := nDigits_pos u
  rw [h] at h1; simp at h1; omega

theorem len13 {u : Nat} (h : u ≤ 1000000000000) : (decDigits u).length ≤ 13 := by
  rw [decDigits_length]
  rcases Nat.lt_or_ge 13 (nDigits u) with h1 | h1
  · exfalso
    have key : ∀ k x : Nat, k < nDigits x → 10 ^ k ≤ x ∨ k = 0 := by
      intro k
      induction k with
      | zero => intro x _; exact .inr rfl
      | succ k ih =>
        intro x hx
        by_cases h2 : x < 10
        · rw [nDigits_small h2] at hx; omega
        · rw [nDigits_big h2] at hx
          rcases ih (x / 10) (by omega) with h3 | h3
          · left; rw [Nat.pow_succ]; omega
          · left; subst h3; omega
    rcases key 13 u h1 with h2 | h2
    · have e : (10 : Nat) ^ 13 = 10000000000000 := by decide
      omega
    · omega
  · exact h1

theorem head_digit {u : Nat} {c : UInt8} {r : List UInt8} (h : decDigits u = c :: r) : 48 ≤ c.toNat ∧ c.toNat ≤ 57 := by
  have h1 := decFrom_digits u
  rw [h] at h1
  simp only [decFrom] at h1
  cases hd : digitVal c with
  | none => rw [hd] at h1; cases h1
  | some d => have := digitVal_eq hd; omega

theorem atoi_digits {u : Nat} (hu : u ≤ 1000000000000) : atoiAll (decDigits u) = .ok (u : Int) := by
  rw [atoiAll_short _ (by have := len13 hu; omega)]
  cases h : decDigits u with
  | nil => exact absurd h (dec_ne u)
  | cons c r =>
    have hc := head_digit h
    have n45 : (c == 45) = false := by
      rw [beq_eq_false_iff_ne]; intro e; subst e; simp at hc
    have n43 : (c == 43) = false := by
      rw [beq_eq_false_iff_ne]; intro e; subst e; simp at hc
    have hd : decNat (c :: r) = some u := by
      unfold decNat
      rw [← h, decFrom_digits, h]; rfl
    simp only [atoi, n45, n43, hd]
    rfl

/-- What 'parsed' says. -/
theorem parsed_some {l : List UInt8} {m : Nat} : parsed l = some m ↔ m ≤ 1000000000000 ∧ l = decDigits m := by
  constructor
  · intro h
    unfold parsed at h
    cases ha : atoiAll l with
    | ok v =>
      rw [ha] at h
      simp only at h
      split at h
      · rename_i hc
        obtain ⟨h0, h1, h2⟩ := hc
        injection h with h
        subst h
        refine ⟨by omega, ?_⟩
        rw [← h2]
        obtain ⟨u, rfl⟩ := Int.eq_ofNat_of_zero_le h0
        rw [itoa_nonneg]; rfl
      · cases h
    | _ => rw [ha] at h; cases h
  · rintro ⟨h1, rfl⟩
    unfold parsed
    rw [atoi_digits h1]
    simp only
    rw [if_pos ⟨by omega, by omega, itoa_nonneg m⟩]
    simp

/-- The model's reading: a row of 1 to 13 digits, whose numeral is the row. -/
theorem parsed_digs (l : List UInt8) : parsed l = if 1 ≤ l.length ∧ l.length ≤ 13 then (match digs 0 l with | some m => if m ≤ 1000000000000 ∧ decDigits m = l then some m else none | none => none) else none := by
  cases h : parsed l with
  | some m =>
    obtain ⟨h1, rfl⟩ := parsed_some.1 h
    have hl := len13 h1
    have h0 : 1 ≤ (decDigits m).length := by rw [decDigits_length]; exact nDigits_pos m
    rw [if_pos ⟨h0, hl⟩, digs_eq, decFrom_digits]
    simp [h1]
  | none =>
    split
    · cases hd : digs 0 l with
      | none => rfl
      | some m =>
        simp only
        split
        · rename_i hc
          have := parsed_some.2 ⟨hc.1, hc.2.symm⟩
          rw [h] at this; cases this
        · rfl
    · rfl

end Go.Proofs.YtagbklcfepmhcaaDoor.Num
