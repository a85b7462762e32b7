import Derived.Test.YtnamgnhplodhoaaRows
import Derived.Test.YtnamgnhplodhoaaRd
import Derived.WalkKit
import Derived.Handy
import Derived.Outline
import Derived.WalkSpells
import Derived.Lib.Hide
import Derived.Laws.Bits128

/- What the laws of properties share: whether the code is too long, a byte of it. No conditions. -/
section
namespace Go.Proofs.Ytnamgnhplodhoaa
open Go Go.RowKit
set_option linter.unusedVariables false

theorem big_is (a : Option Addr) (len cap : Nat) (w : World) (hl : len ≤ 9223372036854775807) :
    Calls Try.prog 11 #[.slice a len cap] w fun e w' => e = .returned (.bool (decide ((1048576 : Int) < (len : Int)))) ∧ w' = w := by
  go_enter Try.func11, Try.ntmps11
  go_wp2
  go_ret
  exact ⟨rfl, rfl⟩

/-- laws.at. -/
def atv (s : List Int) (i : Nat) : Int := if i < s.length then s.getD i 0 else ((i * 31 + s.length * 7 : Nat) : Int) % 256
theorem atv_bound {s : List Int} (h : ∀ i, i < s.length → (Lit.int .u8 (s.getD i 0)).wf = true) (i : Nat) : 0 ≤ atv s i ∧ atv s i ≤ 255 := by
  unfold atv
  split
  · exact wf_u8 (h i (by assumption))
  · omega
theorem at_any {lim : Nat} {w : World} {v : Value} {s : List Int} (h : Rd lim .u8 w v s) (i : Nat) (hi : i ≤ 1000) (hs : s.length ≤ 1048576) :
    Calls Try.prog 22 #[v, .int .i64 i] w fun e w' => (e = .returned (.int .i64 (atv s i)) ∧ 0 ≤ atv s i ∧ atv s i ≤ 255) ∧ w' = w := by
  have hwf : Hid (∀ i, i < s.length → (Lit.int .u8 (s.getD i 0)).wf = true) := Lib.hid fun i hi => h.wf hi
  obtain ⟨a, cap, rfl, h1, h2, hc⟩ := h.open
  by_cases hlt : i < s.length
  · have e1 : decide ((i : Int) < (s.length : Int)) = true := by simp; omega
    obtain ⟨b, o, rfl, hb, hcell⟩ := hc (by omega)
    have c1 := hcell w (Below.refl _ _) i hlt
    have hw := wf_u8 (hwf.out i hlt)
    have ha : atv s i = s.getD i 0 := by unfold atv; rw [if_pos hlt]
    rw [ha]
    obtain ⟨z, hz⟩ : ∃ z, z = s.getD i 0 := ⟨_, rfl⟩
    rw [← hz] at c1 hw ⊢
    have hlt' : (i : Int) < (s.length : Int) := by omega
    clear h hc hcell ha hz h2 hwf
    go_enter Try.func22, Try.ntmps22
    go_wp2
    go_ret
    exact ⟨⟨rfl, hw⟩, rfl⟩
  · have e1 : decide ((i : Int) < (s.length : Int)) = false := by simp; omega
    have ha : atv s i = ((i : Int) * 31 + (s.length : Int) * 7) % 256 := by unfold atv; rw [if_neg hlt]; simp
    have hb : 0 ≤ ((i : Int) * 31 + (s.length : Int) * 7) % 256 ∧ ((i : Int) * 31 + (s.length : Int) * 7) % 256 ≤ 255 := by omega
    rw [ha]
    have h9 : 0 ≤ (i : Int) * 31 + (s.length : Int) * 7 := by omega
    have HB := Lib.hid hb
    clear h hc ha h2 hwf hb
    go_enter Try.func22, Try.ntmps22
    go_wp2
    go_ret
    exact ⟨⟨rfl, HB.out⟩, rfl⟩

end Go.Proofs.Ytnamgnhplodhoaa
end

/- The last bits of a number, as the model reckons them. No program. -/
section
namespace Go.Proofs.Ytnamgnhplodhoaa
open Go

theorem i64_mask (k : Nat) (m : Int) (hk : k ≤ 62) (hm : (BitVec.ofInt 64 m).toNat = 2 ^ k - 1) (n : Int) : bits .and .i64 n m = n % ((2 ^ k : Nat) : Int) := by
  have key : (BitVec.ofInt 64 n &&& BitVec.ofInt 64 m).toNat = (n % ((2 ^ 64 : Nat) : Int)).toNat % 2 ^ k := by
    rw [BitVec.toNat_and, BitVec.toNat_ofInt, hm, Nat.and_two_pow_sub_one_eq_mod]
  show IntKind.i64.wrap ((BitVec.ofInt 64 n &&& BitVec.ofInt 64 m).toNat : Nat) = _
  rw [key, IntKind.wrap_i64]
  have hd : (2 ^ 64 : Nat) = 2 ^ k * 2 ^ (64 - k) := by rw [← Nat.pow_add]; congr 1; omega
  have e1 : (n % ((2 ^ 64 : Nat) : Int)).toNat % 2 ^ k = (n % ((2 ^ k : Nat) : Int)).toNat := by
    apply Int.ofNat_inj.1
    rw [Int.natCast_emod, Int.toNat_of_nonneg (Int.emod_nonneg _ (by decide)), Int.toNat_of_nonneg (Int.emod_nonneg _ (by have := Nat.pow_pos (n := k) (show 0 < 2 by decide); omega)), hd]
    rw [Int.emod_emod_of_dvd _ (by rw [Int.natCast_mul]; exact Int.dvd_mul_right _ _)]
  rw [e1]
  have hp : (2 : Nat) ^ k ≤ 2 ^ 62 := Nat.pow_le_pow_right (by decide) hk
  have hp0 := Nat.pow_pos (n := k) (show 0 < 2 by decide)
  have e62 : (2 : Nat) ^ 62 = 4611686018427387904 := by decide
  have b1 := Int.emod_nonneg n (b := ((2 ^ k : Nat) : Int)) (by omega)
  have b2 := Int.emod_lt_of_pos n (b := ((2 ^ k : Nat) : Int)) (by omega)
  generalize n % ((2 ^ k : Nat) : Int) = r at b1 b2 ⊢
  omega

theorem i64_and255 (n : Int) : bits .and .i64 n 255 = n % 256 := i64_mask 8 255 (by decide) (by decide) n
theorem i64_and30 (n : Int) : bits .and .i64 n 1073741823 = n % 1073741824 := i64_mask 30 1073741823 (by decide) (by decide) n

end Go.Proofs.Ytnamgnhplodhoaa
end
