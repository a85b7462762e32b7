/- Plain facts on decimal numerals: how spec.FormatInt's loop builds one, and which strings a numeral is read from. No conditions; no program. -/
import Derived.Lib.AtoiTie
import Derived.Lib.ItoaMem
namespace Go.Proofs.YtdccljmffmlkbaaDoor.Num
open Go.Lib

/-- The digits of a number, none for 0. -/
def dd (v : Nat) : List UInt8 := if v = 0 then [] else decDigits v

theorem dd_zero : dd 0 = [] := rfl
theorem dd_pos {v : Nat} (h : v ≠ 0) : dd v = decDigits v := if_neg h
theorem dd_step {v : Nat} (h : v ≠ 0) : dd v = dd (v / 10) ++ [UInt8.ofNat (48 + v % 10)] := by
  rw [dd_pos h]
  by_cases h1 : v < 10
  · rw [decDigits, dif_pos h1]
    have e : v / 10 = 0 := by omega
    rw [e, dd_zero, Nat.mod_eq_of_lt h1]; rfl
  · rw [decDigits, dif_neg h1, dd_pos (by omega)]

theorem nDigits_le {u : Nat} (h : u ≤ 9223372036854775808) : nDigits u ≤ 19 := by
  rcases Nat.lt_or_ge 19 (nDigits u) with h1 | h1
  · exfalso
    have key : ∀ k x : Nat, k < nDigits x → 10 ^ k ≤ x ∨ k = 0 := by
      intro k
      induction k with
      | zero => intro x _; exact .inr rfl
      | succ k ih =>
        intro x hx
        by_cases h2 : x < 10
        · rw [nDigits_small h2] at hx; omega
        · rw [nDigits_big h2] at hx
          rcases ih (x / 10) (by omega) with h3 | h3
          · left; rw [Nat.pow_succ]; omega
          · left; subst h3; omega
    rcases key 19 u h1 with h2 | h2
    · have e : (10 : Nat) ^ 19 = 10000000000000000000 := by decide
      omega
    · omega
  · exact h1

theorem dec_len {u : Nat} (h : u ≤ 9223372036854775808) : (decDigits u).length ≤ 19 := by
  rw [decDigits_length]; exact nDigits_le h

theorem tail_len {u v : Nat} {l : List UInt8} (h : u ≤ 9223372036854775808) (e : dd v ++ l = decDigits u) : l.length ≤ 19 := by
  have h1 := dec_len h
  have h2 := congrArg List.length e
  rw [List.length_append] at h2
  omega

end Go.Proofs.YtdccljmffmlkbaaDoor.Num
