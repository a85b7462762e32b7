/- The 'or' of two numbers of 64 bits, as the model reckons it. No program. -/
import Derived.Test.YtnamgnhplodhoaaBits
namespace Go.Proofs.Ytnamgnhplodhoaa
open Go

theorem i64_or (a b : Nat) (ha : a < 9223372036854775808) (hb : b < 9223372036854775808) : bits .or .i64 (a : Int) (b : Int) = ((a ||| b : Nat) : Int) := by
  have e64 : (2 : Nat) ^ 64 = 18446744073709551616 := by decide
  have e1 : (BitVec.ofInt 64 (a : Int)).toNat = a := by
    rw [BitVec.toNat_ofInt]
    have : ((a : Int) % ((2 ^ 64 : Nat) : Int)) = a := by rw [e64]; omega
    rw [this]; rfl
  have e2 : (BitVec.ofInt 64 (b : Int)).toNat = b := by
    rw [BitVec.toNat_ofInt]
    have : ((b : Int) % ((2 ^ 64 : Nat) : Int)) = b := by rw [e64]; omega
    rw [this]; rfl
  show IntKind.i64.wrap ((BitVec.ofInt 64 (a : Int) ||| BitVec.ofInt 64 (b : Int)).toNat : Nat) = _
  rw [BitVec.toNat_or, e1, e2, IntKind.wrap_i64]
  have h : a ||| b < 2 ^ 63 := Nat.or_lt_two_pow (by omega) (by omega)
  omega

theorem or_high {k a b : Nat} (ha : a < 2 ^ k) : a ||| b * 2 ^ k = a + b * 2 ^ k := by
  rw [Nat.or_comm, ← Nat.shiftLeft_eq, ← Nat.shiftLeft_add_eq_or_of_lt ha, Nat.add_comm]

theorem i64_and127 (n : Int) : bits .and .i64 n 127 = n % 128 := i64_mask 7 127 (by decide) (by decide) n
theorem i64_or128 (x : Int) (h0 : 0 ≤ x) (h1 : x < 128) : bits .or .i64 x 128 = x + 128 := by
  obtain ⟨u, rfl⟩ : ∃ u : Nat, x = (u : Int) := ⟨x.toNat, by omega⟩
  have e := or_high (k := 7) (a := u) (b := 1) (by omega)
  have := i64_or u 128 (by omega) (by decide)
  have e2 : u ||| 128 = u + 128 := by simpa using e
  rw [e2] at this
  simpa using this

end Go.Proofs.Ytnamgnhplodhoaa
