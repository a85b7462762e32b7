import Derived.Test.YtnamgnhplodhoaaJ2
import Derived.Test.YtnamgnhplodhoaaRd
import Derived.Test.YtnamgnhplodhoaaJ3

/- The exclusive or of bytes and of byte strings. No program. -/
section
namespace Go.Proofs.Ytnamgnhplodhoaa
open Go Go.RowKit
set_option linter.unusedVariables false

/-- The exclusive or of two bytes. -/
def bx (x y : Int) : Int := ((x.toNat ^^^ y.toNat : Nat) : Int)

theorem u8_xor {x y : Int} (hx : 0 ≤ x ∧ x ≤ 255) (hy : 0 ≤ y ∧ y ≤ 255) : bits .xor .u8 x y = bx x y := by
  obtain ⟨a, rfl⟩ : ∃ a : Nat, x = (a : Int) := ⟨x.toNat, by omega⟩
  obtain ⟨b, rfl⟩ : ∃ b : Nat, y = (b : Int) := ⟨y.toNat, by omega⟩
  have e8 : (2 : Nat) ^ 8 = 256 := by decide
  have e1 : (BitVec.ofInt 8 (a : Int)).toNat = a := by
    rw [BitVec.toNat_ofInt]
    have : ((a : Int) % ((2 ^ 8 : Nat) : Int)) = a := by rw [e8]; omega
    rw [this]; rfl
  have e2 : (BitVec.ofInt 8 (b : Int)).toNat = b := by
    rw [BitVec.toNat_ofInt]
    have : ((b : Int) % ((2 ^ 8 : Nat) : Int)) = b := by rw [e8]; omega
    rw [this]; rfl
  show IntKind.u8.wrap ((BitVec.ofInt 8 (a : Int) ^^^ BitVec.ofInt 8 (b : Int)).toNat : Nat) = _
  rw [BitVec.toNat_xor, e1, e2]
  have h : a ^^^ b < 2 ^ 8 := Nat.xor_lt_two_pow (by omega) (by omega)
  unfold bx
  rw [Int.toNat_natCast, Int.toNat_natCast]
  generalize a ^^^ b = c at h
  have : IntKind.u8.wrap (c : Int) = (c : Int) % 256 := by unfold IntKind.wrap; rfl
  rw [this]; omega

theorem bx_bound {x y : Int} (hx : 0 ≤ x ∧ x ≤ 255) (hy : 0 ≤ y ∧ y ≤ 255) : 0 ≤ bx x y ∧ bx x y ≤ 255 := by
  have h : x.toNat ^^^ y.toNat < 2 ^ 8 := Nat.xor_lt_two_pow (by omega) (by omega)
  unfold bx
  omega
theorem bx_comm (x y : Int) : bx x y = bx y x := by unfold bx; rw [Nat.xor_comm]
theorem bx_zero {x : Int} (hx : 0 ≤ x) : bx x 0 = x := by unfold bx; simp; omega
theorem zero_bx {x : Int} (hx : 0 ≤ x) : bx 0 x = x := by rw [bx_comm, bx_zero hx]
theorem bx_self (x : Int) : bx x x = 0 := by unfold bx; simp
theorem bx_assoc (x y z : Int) : bx (bx x y) z = bx x (bx y z) := by unfold bx; rw [Int.toNat_natCast, Int.toNat_natCast, Nat.xor_assoc]
theorem bx_bx {x : Int} (hx : 0 ≤ x) (y : Int) : bx (bx x y) y = x := by rw [bx_assoc, bx_self, bx_zero hx]

/-- All are bytes. -/
def U8s (xs : List Int) : Prop := ∀ z ∈ xs, (Lit.int .u8 z).wf = true
theorem U8s.get {xs : List Int} (h : U8s xs) (i : Nat) : 0 ≤ xs.getD i 0 ∧ xs.getD i 0 ≤ 255 := by
  by_cases hi : i < xs.length
  · refine wf_u8 (h _ ?_)
    rw [List.getD_eq_getElem?_getD, List.getElem?_eq_getElem hi]; simp
  · rw [List.getD_eq_getElem?_getD, List.getElem?_eq_none (by omega)]; simp

/-- The exclusive or of two byte strings: as long as the longer one. -/
def xorl (xs ys : List Int) : List Int := (List.range (max xs.length ys.length)).map fun i => bx (xs.getD i 0) (ys.getD i 0)

theorem xorl_len (xs ys : List Int) : (xorl xs ys).length = max xs.length ys.length := by simp [xorl]
theorem xorl_len_le (xs ys : List Int) : (xorl xs ys).length ≤ xs.length + ys.length := by rw [xorl_len]; omega
theorem xorl_get (xs ys : List Int) {i : Nat} (hi : i < max xs.length ys.length) : (xorl xs ys)[i]? = some (bx (xs.getD i 0) (ys.getD i 0)) := by
  simp [xorl, hi]
theorem xorl_getD {xs ys : List Int} (i : Nat) : (xorl xs ys).getD i 0 = bx (xs.getD i 0) (ys.getD i 0) := by
  by_cases hi : i < max xs.length ys.length
  · rw [List.getD_eq_getElem?_getD, xorl_get xs ys hi]; rfl
  · have e1 : xs.getD i 0 = 0 := by rw [List.getD_eq_getElem?_getD, List.getElem?_eq_none (by omega)]; rfl
    have e2 : ys.getD i 0 = 0 := by rw [List.getD_eq_getElem?_getD, List.getElem?_eq_none (by omega)]; rfl
    have e3 : (xorl xs ys).getD i 0 = 0 := by rw [List.getD_eq_getElem?_getD, List.getElem?_eq_none (by rw [xorl_len]; omega)]; rfl
    rw [e1, e2, e3, bx_self]
theorem xorl_u8 {xs ys : List Int} (hx : U8s xs) (hy : U8s ys) : U8s (xorl xs ys) := by
  intro z hz
  obtain ⟨i, _, rfl⟩ := List.mem_map.1 hz
  have := bx_bound (hx.get i) (hy.get i)
  exact wf_u8_of this.1 this.2
theorem xorl_take_succ (xs ys : List Int) {j : Nat} (hj : j < max xs.length ys.length) : (xorl xs ys).take j ++ [bx (xs.getD j 0) (ys.getD j 0)] = (xorl xs ys).take (j + 1) := by
  rw [List.take_add_one, xorl_get xs ys hj]; rfl
/-- Two lists that agree in length and at every place. -/
theorem list_eq {xs ys : List Int} (hl : xs.length = ys.length) (h : ∀ i, i < xs.length → xs.getD i 0 = ys.getD i 0) : xs = ys := by
  refine List.ext_getElem hl fun i h1 h2 => ?_
  have := h i h1
  simpa [List.getD_eq_getElem?_getD, List.getElem?_eq_getElem h1, List.getElem?_eq_getElem h2] using this
theorem xorl_comm (xs ys : List Int) : xorl xs ys = xorl ys xs := by
  refine list_eq (by rw [xorl_len, xorl_len, Nat.max_comm]) fun i _ => ?_
  rw [xorl_getD, xorl_getD, bx_comm]
theorem xorl_nil {ys : List Int} (hy : U8s ys) : xorl [] ys = ys := by
  refine list_eq (by rw [xorl_len]; simp) fun i _ => ?_
  rw [xorl_getD]
  exact zero_bx (hy.get i).1
/-- What an exclusive or in place leaves, and what is appended to it. -/
theorem getD_out {xs : List Int} {i : Nat} (h : xs.length ≤ i) : xs.getD i 0 = 0 := by rw [List.getD_eq_getElem?_getD, List.getElem?_eq_none h]; rfl
theorem xorl_parts {xs ys : List Int} (hx : U8s xs) (hy : U8s ys) {c : Nat} (hc : c = min xs.length ys.length) :
    upt (fun i => bx (xs.getD i 0) (ys.getD i 0)) (fun i => xs.getD i 0) c xs.length ++ ys.drop c = xorl xs ys := by
  refine list_eq (by rw [xorl_len, List.length_append, upt_length, List.length_drop]; omega) fun i hi => ?_
  rw [List.length_append, upt_length, List.length_drop] at hi
  rw [xorl_getD, List.getD_eq_getElem?_getD]
  by_cases h1 : i < xs.length
  · rw [List.getElem?_append_left (by rw [upt_length]; exact h1), upt_get _ _ _ _ _ h1]
    by_cases h2 : i < c
    · rw [if_pos h2]; rfl
    · rw [if_neg h2, getD_out (xs := ys) (by omega), bx_zero (hx.get i).1]; rfl
  · rw [List.getElem?_append_right (by rw [upt_length]; omega), upt_length, List.getElem?_drop, show c + (i - xs.length) = i by omega, getD_out (xs := xs) (by omega), zero_bx (hy.get i).1]
    rfl
theorem Own.u8s {e : TypeId} {B : Nat} {w : World} {v : Value} {zs : List Int} (h : Own e .u8 B w v zs) : U8s zs := h.1
theorem Rd.u8s {l : Nat} {w : World} {v : Value} {zs : List Int} (h : Rd l .u8 w v zs) : U8s zs := h.1
/-- The exclusive or of all. -/
def xorAll (zss : List (List Int)) : List Int := zss.foldl xorl []
theorem xorAll_snoc (l : List (List Int)) (z : List Int) : xorAll (l ++ [z]) = xorl (xorAll l) z := by simp [xorAll, List.foldl_append]
theorem xorAll_nil : xorAll [] = [] := rfl

end Go.Proofs.Ytnamgnhplodhoaa
end

/- The 'or' of two numbers of 64 bits, as the model reckons it. No program. -/
section
namespace Go.Proofs.Ytnamgnhplodhoaa
open Go

theorem i64_or (a b : Nat) (ha : a < 9223372036854775808) (hb : b < 9223372036854775808) : bits .or .i64 (a : Int) (b : Int) = ((a ||| b : Nat) : Int) := by
  have e64 : (2 : Nat) ^ 64 = 18446744073709551616 := by decide
  have e1 : (BitVec.ofInt 64 (a : Int)).toNat = a := by
    rw [BitVec.toNat_ofInt]
    have : ((a : Int) % ((2 ^ 64 : Nat) : Int)) = a := by rw [e64]; omega
    rw [this]; rfl
  have e2 : (BitVec.ofInt 64 (b : Int)).toNat = b := by
    rw [BitVec.toNat_ofInt]
    have : ((b : Int) % ((2 ^ 64 : Nat) : Int)) = b := by rw [e64]; omega
    rw [this]; rfl
  show IntKind.i64.wrap ((BitVec.ofInt 64 (a : Int) ||| BitVec.ofInt 64 (b : Int)).toNat : Nat) = _
  rw [BitVec.toNat_or, e1, e2, IntKind.wrap_i64]
  have h : a ||| b < 2 ^ 63 := Nat.or_lt_two_pow (by omega) (by omega)
  omega

theorem or_high {k a b : Nat} (ha : a < 2 ^ k) : a ||| b * 2 ^ k = a + b * 2 ^ k := by
  rw [Nat.or_comm, ← Nat.shiftLeft_eq, ← Nat.shiftLeft_add_eq_or_of_lt ha, Nat.add_comm]

theorem i64_and127 (n : Int) : bits .and .i64 n 127 = n % 128 := i64_mask 7 127 (by decide) (by decide) n
theorem i64_or128 (x : Int) (h0 : 0 ≤ x) (h1 : x < 128) : bits .or .i64 x 128 = x + 128 := by
  obtain ⟨u, rfl⟩ : ∃ u : Nat, x = (u : Int) := ⟨x.toNat, by omega⟩
  have e := or_high (k := 7) (a := u) (b := 1) (by omega)
  have := i64_or u 128 (by omega) (by decide)
  have e2 : u ||| 128 = u + 128 := by simpa using e
  rw [e2] at this
  simpa using this

end Go.Proofs.Ytnamgnhplodhoaa
end
