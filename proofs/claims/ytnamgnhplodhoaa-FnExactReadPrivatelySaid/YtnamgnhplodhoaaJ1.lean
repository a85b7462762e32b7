import Derived.Test.YtnamgnhplodhoaaRd

/- A list that is written from its head on. No program. -/
section
namespace Go.Proofs.Ytnamgnhplodhoaa
open Go Go.RowKit

/-- n places, those below j as f says, the others as g says. -/
def upt (f g : Nat → Int) (j n : Nat) : List Int := (List.range n).map fun i => if i < j then f i else g i

theorem upt_length (f g : Nat → Int) (j n : Nat) : (upt f g j n).length = n := by simp [upt]
theorem upt_get (f g : Nat → Int) (j n i : Nat) (hi : i < n) : (upt f g j n)[i]? = some (if i < j then f i else g i) := by
  simp [upt, hi]
theorem upt_set (f g : Nat → Int) (j n : Nat) : (upt f g j n).set j (f j) = upt f g (j + 1) n := by
  apply List.ext_getElem?
  intro i
  by_cases hi : i < n
  · rw [List.getElem?_set, upt_length, upt_get _ _ _ _ _ hi, upt_get _ _ _ _ _ hi]
    by_cases h : j = i
    · subst h; simp [hi]
    · rw [if_neg h]
      by_cases h2 : i < j
      · simp [h2, Nat.lt_succ_of_lt h2]
      · rw [if_neg h2, if_neg (by omega)]
  · rw [List.getElem?_eq_none (by simp [upt]; omega), List.getElem?_eq_none (by simp [upt]; omega)]
theorem upt_zero (f g : Nat → Int) (n : Nat) : upt f g 0 n = (List.range n).map g := by simp [upt]
theorem upt_full (f g : Nat → Int) (n : Nat) : upt f g n n = (List.range n).map f := by
  unfold upt
  apply List.map_congr_left
  intro i hi
  simp [List.mem_range.1 hi]
theorem range_getD (zs : List Int) : (List.range zs.length).map (fun i => zs.getD i 0) = zs := by
  apply List.ext_getElem?
  intro i
  rw [List.getElem?_map]
  by_cases hi : i < zs.length
  · rw [List.getElem?_range hi]
    simp [List.getD_eq_getElem?_getD, List.getElem?_eq_getElem hi]
  · rw [List.getElem?_eq_none (by simpa using hi), List.getElem?_eq_none (by omega)]
    rfl
theorem upt_map_set (k : IntKind) (f g : Nat → Int) (j n : Nat) : ((upt f g j n).map (Value.int k)).set j (.int k (f j)) = (upt f g (j + 1) n).map (Value.int k) := by
  rw [← upt_set, List.map_set]
theorem upt_mem {f g : Nat → Int} {j n : Nat} {p : Int → Prop} (hf : ∀ i, i < n → p (f i)) (hg : ∀ i, i < n → p (g i)) : ∀ z ∈ upt f g j n, p z := by
  intro z hz
  obtain ⟨i, hi, rfl⟩ := List.mem_map.1 hz
  have := List.mem_range.1 hi
  split
  · exact hf i this
  · exact hg i this

/-- A store into a row of the call's own whose elements are being written from its head on. -/
theorem Own.put {e : TypeId} {k : IntKind} {B : Nat} {w : World} {g cap n : Nat} {f q : Nat → Int} {j : Nat} (h : Own e k B w (.slice (some ⟨g, 0, none⟩) n cap) (upt f q j n)) (hf : (Lit.int k (f j)).wf = true) :
    Own e k B (w.setCell ⟨g, j, none⟩ (.int k (f j))) (.slice (some ⟨g, 0, none⟩) n cap) (upt f q (j + 1) n) ∧ w.grownBy (w.setCell ⟨g, j, none⟩ (.int k (f j))) (some g) := by
  obtain ⟨hw, hB, ho⟩ := h
  rw [upt_length] at ho
  obtain ⟨h1, h2⟩ := ho.stored j (.int k (f j))
  rw [upt_map_set] at h1
  refine ⟨⟨?_, Nat.le_trans hB h2.size, by rw [upt_length]; exact h1⟩, h2⟩
  intro z hz
  obtain ⟨i, hi, rfl⟩ := List.mem_map.1 hz
  have hn := List.mem_range.1 hi
  by_cases hj : i < j + 1
  · rw [if_pos hj]
    by_cases hij : i = j
    · subst hij; exact hf
    · refine hw _ (List.mem_map.2 ⟨i, hi, ?_⟩)
      rw [if_pos (by omega)]
  · rw [if_neg hj]
    refine hw _ (List.mem_map.2 ⟨i, hi, ?_⟩)
    rw [if_neg (by omega)]

theorem Own.cellAt {e : TypeId} {k : IntKind} {B : Nat} {w : World} {g cap n : Nat} {zs : List Int} (h : Own e k B w (.slice (some ⟨g, 0, none⟩) n cap) zs) (hz : zs.length = n) {j : Nat} (hj : j < n) : w.cell? ⟨g, j, none⟩ = some (.int k (zs.getD j 0)) := by
  obtain ⟨hw, hB, ho⟩ := h
  subst hz
  rw [ho.cellAt j (by omega)]
  simp [List.getD_eq_getElem?_getD, List.getElem?_eq_getElem hj]
theorem Own.free {e : TypeId} {k : IntKind} {B : Nat} {w : World} {g cap n : Nat} {zs : List Int} (h : Own e k B w (.slice (some ⟨g, 0, none⟩) n cap) zs) (hz : zs.length = n) (j : Nat) : w.frozen? ⟨g, j, none⟩ = false := by
  obtain ⟨hw, hB, ho⟩ := h
  subst hz
  exact ho.frozenAt j

theorem Own.open {e : TypeId} {k : IntKind} {B : Nat} {w : World} {v : Value} {zs : List Int} (h : Own e k B w v zs) : ∃ a cap, v = .slice a zs.length cap ∧ (0 < zs.length → ∃ g, a = some ⟨g, 0, none⟩) := by
  obtain ⟨hw, hB, h1, h2⟩ := h
  rcases h2 with ⟨rfl, h3⟩ | ⟨g, cap, cur, rfl, h4⟩
  · exact ⟨none, 0, by rw [h3], fun h => by omega⟩
  · exact ⟨_, cap, rfl, fun _ => ⟨g, rfl⟩⟩

end Go.Proofs.Ytnamgnhplodhoaa
end

/- The exclusive or of bytes and of byte strings. No program. -/
section
section
namespace Go.Proofs.Ytnamgnhplodhoaa
open Go Go.RowKit
set_option linter.unusedVariables false

/-- The exclusive or of two bytes. -/
def bx (x y : Int) : Int := ((x.toNat ^^^ y.toNat : Nat) : Int)

theorem u8_xor {x y : Int} (hx : 0 ≤ x ∧ x ≤ 255) (hy : 0 ≤ y ∧ y ≤ 255) : bits .xor .u8 x y = bx x y := by
  obtain ⟨a, rfl⟩ : ∃ a : Nat, x = (a : Int) := ⟨x.toNat, by omega⟩
  obtain ⟨b, rfl⟩ : ∃ b : Nat, y = (b : Int) := ⟨y.toNat, by omega⟩
  have e8 : (2 : Nat) ^ 8 = 256 := by decide
  have e1 : (BitVec.ofInt 8 (a : Int)).toNat = a := by
    rw [BitVec.toNat_ofInt]
    have : ((a : Int) % ((2 ^ 8 : Nat) : Int)) = a := by rw [e8]; omega
    rw [this]; rfl
  have e2 : (BitVec.ofInt 8 (b : Int)).toNat = b := by
    rw [BitVec.toNat_ofInt]
    have : ((b : Int) % ((2 ^ 8 : Nat) : Int)) = b := by rw [e8]; omega
    rw [this]; rfl
  show IntKind.u8.wrap ((BitVec.ofInt 8 (a : Int) ^^^ BitVec.ofInt 8 (b : Int)).toNat : Nat) = _
  rw [BitVec.toNat_xor, e1, e2]
  have h : a ^^^ b < 2 ^ 8 := Nat.xor_lt_two_pow (by omega) (by omega)
  unfold bx
  rw [Int.toNat_natCast, Int.toNat_natCast]
  generalize a ^^^ b = c at h
  have : IntKind.u8.wrap (c : Int) = (c : Int) % 256 := by unfold IntKind.wrap; rfl
  rw [this]; omega

theorem bx_bound {x y : Int} (hx : 0 ≤ x ∧ x ≤ 255) (hy : 0 ≤ y ∧ y ≤ 255) : 0 ≤ bx x y ∧ bx x y ≤ 255 := by
  have h : x.toNat ^^^ y.toNat < 2 ^ 8 := Nat.xor_lt_two_pow (by omega) (by omega)
  unfold bx
  omega
theorem bx_comm (x y : Int) : bx x y = bx y x := by unfold bx; rw [Nat.xor_comm]
theorem bx_zero {x : Int} (hx : 0 ≤ x) : bx x 0 = x := by unfold bx; simp; omega
theorem zero_bx {x : Int} (hx : 0 ≤ x) : bx 0 x = x := by rw [bx_comm, bx_zero hx]
theorem bx_self (x : Int) : bx x x = 0 := by unfold bx; simp
theorem bx_assoc (x y z : Int) : bx (bx x y) z = bx x (bx y z) := by unfold bx; rw [Int.toNat_natCast, Int.toNat_natCast, Nat.xor_assoc]
theorem bx_bx {x : Int} (hx : 0 ≤ x) (y : Int) : bx (bx x y) y = x := by rw [bx_assoc, bx_self, bx_zero hx]

/-- All are bytes. -/
def U8s (xs : List Int) : Prop := ∀ z ∈ xs, (Lit.int .u8 z).wf = true
theorem U8s.get {xs : List Int} (h : U8s xs) (i : Nat) : 0 ≤ xs.getD i 0 ∧ xs.getD i 0 ≤ 255 := by
  by_cases hi : i < xs.length
  · refine wf_u8 (h _ ?_)
    rw [List.getD_eq_getElem?_getD, List.getElem?_eq_getElem hi]; simp
  · rw [List.getD_eq_getElem?_getD, List.getElem?_eq_none (by omega)]; simp

/-- The exclusive or of two byte strings: as long as the longer one. -/
def xorl (xs ys : List Int) : List Int := (List.range (max xs.length ys.length)).map fun i => bx (xs.getD i 0) (ys.getD i 0)

theorem xorl_len (xs ys : List Int) : (xorl xs ys).length = max xs.length ys.length := by simp [xorl]
theorem xorl_len_le (xs ys : List Int) : (xorl xs ys).length ≤ xs.length + ys.length := by rw [xorl_len]; omega
theorem xorl_get (xs ys : List Int) {i : Nat} (hi : i < max xs.length ys.length) : (xorl xs ys)[i]? = some (bx (xs.getD i 0) (ys.getD i 0)) := by
  simp [xorl, hi]
theorem xorl_getD {xs ys : List Int} (i : Nat) : (xorl xs ys).getD i 0 = bx (xs.getD i 0) (ys.getD i 0) := by
  by_cases hi : i < max xs.length ys.length
  · rw [List.getD_eq_getElem?_getD, xorl_get xs ys hi]; rfl
  · have e1 : xs.getD i 0 = 0 := by rw [List.getD_eq_getElem?_getD, List.getElem?_eq_none (by omega)]; rfl
    have e2 : ys.getD i 0 = 0 := by rw [List.getD_eq_getElem?_getD, List.getElem?_eq_none (by omega)]; rfl
    have e3 : (xorl xs ys).getD i 0 = 0 := by rw [List.getD_eq_getElem?_getD, List.getElem?_eq_none (by rw [xorl_len]; omega)]; rfl
    rw [e1, e2, e3, bx_self]
theorem xorl_u8 {xs ys : List Int} (hx : U8s xs) (hy : U8s ys) : U8s (xorl xs ys) := by
  intro z hz
  obtain ⟨i, _, rfl⟩ := List.mem_map.1 hz
  have := bx_bound (hx.get i) (hy.get i)
  exact wf_u8_of this.1 this.2
theorem xorl_take_succ (xs ys : List Int) {j : Nat} (hj : j < max xs.length ys.length) : (xorl xs ys).take j ++ [bx (xs.getD j 0) (ys.getD j 0)] = (xorl xs ys).take (j + 1) := by
  rw [List.take_add_one, xorl_get xs ys hj]; rfl
/-- Two lists that agree in length and at every place. -/
theorem list_eq {xs ys : List Int} (hl : xs.length = ys.length) (h : ∀ i, i < xs.length → xs.getD i 0 = ys.getD i 0) : xs = ys := by
  refine List.ext_getElem hl fun i h1 h2 => ?_
  have := h i h1
  simpa [List.getD_eq_getElem?_getD, List.getElem?_eq_getElem h1, List.getElem?_eq_getElem h2] using this
theorem xorl_comm (xs ys : List Int) : xorl xs ys = xorl ys xs := by
  refine list_eq (by rw [xorl_len, xorl_len, Nat.max_comm]) fun i _ => ?_
  rw [xorl_getD, xorl_getD, bx_comm]
theorem xorl_nil {ys : List Int} (hy : U8s ys) : xorl [] ys = ys := by
  refine list_eq (by rw [xorl_len]; simp) fun i _ => ?_
  rw [xorl_getD]
  exact zero_bx (hy.get i).1
/-- What an exclusive or in place leaves, and what is appended to it. -/
theorem getD_out {xs : List Int} {i : Nat} (h : xs.length ≤ i) : xs.getD i 0 = 0 := by rw [List.getD_eq_getElem?_getD, List.getElem?_eq_none h]; rfl
theorem xorl_parts {xs ys : List Int} (hx : U8s xs) (hy : U8s ys) {c : Nat} (hc : c = min xs.length ys.length) :
    upt (fun i => bx (xs.getD i 0) (ys.getD i 0)) (fun i => xs.getD i 0) c xs.length ++ ys.drop c = xorl xs ys := by
  refine list_eq (by rw [xorl_len, List.length_append, upt_length, List.length_drop]; omega) fun i hi => ?_
  rw [List.length_append, upt_length, List.length_drop] at hi
  rw [xorl_getD, List.getD_eq_getElem?_getD]
  by_cases h1 : i < xs.length
  · rw [List.getElem?_append_left (by rw [upt_length]; exact h1), upt_get _ _ _ _ _ h1]
    by_cases h2 : i < c
    · rw [if_pos h2]; rfl
    · rw [if_neg h2, getD_out (xs := ys) (by omega), bx_zero (hx.get i).1]; rfl
  · rw [List.getElem?_append_right (by rw [upt_length]; omega), upt_length, List.getElem?_drop, show c + (i - xs.length) = i by omega, getD_out (xs := xs) (by omega), zero_bx (hy.get i).1]
    rfl
theorem Own.u8s {e : TypeId} {B : Nat} {w : World} {v : Value} {zs : List Int} (h : Own e .u8 B w v zs) : U8s zs := h.1
theorem Rd.u8s {l : Nat} {w : World} {v : Value} {zs : List Int} (h : Rd l .u8 w v zs) : U8s zs := h.1
/-- The exclusive or of all. -/
def xorAll (zss : List (List Int)) : List Int := zss.foldl xorl []
theorem xorAll_snoc (l : List (List Int)) (z : List Int) : xorAll (l ++ [z]) = xorl (xorAll l) z := by simp [xorAll, List.foldl_append]
theorem xorAll_nil : xorAll [] = [] := rfl

end Go.Proofs.Ytnamgnhplodhoaa
end

/- The 'or' of two numbers of 64 bits, as the model reckons it. No program. -/
section
namespace Go.Proofs.Ytnamgnhplodhoaa
open Go

theorem i64_or (a b : Nat) (ha : a < 9223372036854775808) (hb : b < 9223372036854775808) : bits .or .i64 (a : Int) (b : Int) = ((a ||| b : Nat) : Int) := by
  have e64 : (2 : Nat) ^ 64 = 18446744073709551616 := by decide
  have e1 : (BitVec.ofInt 64 (a : Int)).toNat = a := by
    rw [BitVec.toNat_ofInt]
    have : ((a : Int) % ((2 ^ 64 : Nat) : Int)) = a := by rw [e64]; omega
    rw [this]; rfl
  have e2 : (BitVec.ofInt 64 (b : Int)).toNat = b := by
    rw [BitVec.toNat_ofInt]
    have : ((b : Int) % ((2 ^ 64 : Nat) : Int)) = b := by rw [e64]; omega
    rw [this]; rfl
  show IntKind.i64.wrap ((BitVec.ofInt 64 (a : Int) ||| BitVec.ofInt 64 (b : Int)).toNat : Nat) = _
  rw [BitVec.toNat_or, e1, e2, IntKind.wrap_i64]
  have h : a ||| b < 2 ^ 63 := Nat.or_lt_two_pow (by omega) (by omega)
  omega

theorem or_high {k a b : Nat} (ha : a < 2 ^ k) : a ||| b * 2 ^ k = a + b * 2 ^ k := by
  rw [Nat.or_comm, ← Nat.shiftLeft_eq, ← Nat.shiftLeft_add_eq_or_of_lt ha, Nat.add_comm]

theorem i64_and127 (n : Int) : bits .and .i64 n 127 = n % 128 := i64_mask 7 127 (by decide) (by decide) n
theorem i64_or128 (x : Int) (h0 : 0 ≤ x) (h1 : x < 128) : bits .or .i64 x 128 = x + 128 := by
  obtain ⟨u, rfl⟩ : ∃ u : Nat, x = (u : Int) := ⟨x.toNat, by omega⟩
  have e := or_high (k := 7) (a := u) (b := 1) (by omega)
  have := i64_or u 128 (by omega) (by decide)
  have e2 : u ||| 128 = u + 128 := by simpa using e
  rw [e2] at this
  simpa using this

end Go.Proofs.Ytnamgnhplodhoaa
end
end
