/- ReadUvarint, the program's and the document's: what is read of a varint. No conditions. -/
import Derived.Test.YtaekjnacigicoaaEnc
namespace Go.Proofs.Ytaekjnacigicoaa
open Go Go.RowKit
set_option linter.unusedVariables false

theorem pow_le_35 {k : Nat} (hk : k ≤ 5) : 2 ^ (7 * k) ≤ 34359738368 := by
  have := Nat.pow_le_pow_right (n := 2) (by decide) (show 7 * k ≤ 35 by omega)
  have e : (2 : Nat) ^ 35 = 34359738368 := by decide
  omega
theorem or_step {k n y : Nat} (hk : k ≤ 5) (hn : n < 2 ^ (7 * k)) (hy : y < 128) : bits .or .i64 (n : Int) (wrap64 ((y : Int) * 2 ^ (7 * k))) = ((n + y * 2 ^ (7 * k) : Nat) : Int) := by
  have hp := pow_le_35 hk
  have h2 : y * 2 ^ (7 * k) ≤ 127 * 34359738368 := Nat.mul_le_mul (by omega) hp
  have e : (y : Int) * 2 ^ (7 * k) = ((y * 2 ^ (7 * k) : Nat) : Int) := by rw [Int.natCast_mul, Int.natCast_pow]; rfl
  have e2 : wrap64 ((y * 2 ^ (7 * k) : Nat) : Int) = ((y * 2 ^ (7 * k) : Nat) : Int) := by unfold wrap64; omega
  rw [e, e2, i64_or _ _ (by omega) (by omega), or_high hn]
theorem step_lt {k n y : Nat} (hn : n < 2 ^ (7 * k)) (hy : y < 128) : n + y * 2 ^ (7 * k) < 2 ^ (7 * (k + 1)) := by
  rw [pow_step]
  have : y * 2 ^ (7 * k) ≤ 127 * 2 ^ (7 * k) := Nat.mul_le_mul_right _ (by omega)
  omega

end Go.Proofs.Ytaekjnacigicoaa
