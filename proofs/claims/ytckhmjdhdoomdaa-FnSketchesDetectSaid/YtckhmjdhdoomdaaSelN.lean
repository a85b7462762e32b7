/- Selections as lists, numbers and bytes. No program. -/
import Derived.Test.YtckhmjdhdoomdaaBa7
namespace Go.Proofs.Ytckhmjdhdoomdaa
open Go Go.RowKit
set_option linter.unusedVariables false

/-- Whether all elements are 0 or 1. -/
def bits01 (zs : List Int) : Bool := decide (∀ i, i < zs.length → 0 ≤ zs.getD i 0 ∧ zs.getD i 0 ≤ 1)
/-- Whether zs is a selection of n rows. -/
def isel (zs : List Int) (n : Int) : Bool := bits01 zs && decide ((zs.length : Int) = n ∧ n ≤ 64)

theorem isel_iff {zs : List Int} {n : Int} : isel zs n = true ↔ ((∀ i, i < zs.length → 0 ≤ zs.getD i 0 ∧ zs.getD i 0 ≤ 1) ∧ (zs.length : Int) = n ∧ n ≤ 64) := by
  unfold isel bits01
  rw [Bool.and_eq_true, decide_eq_true_iff, decide_eq_true_iff]

/-- The number whose bits are the elements, the first one in bit 0. -/
def bnat : List Int → Nat
  | [] => 0
  | z :: t => z.toNat + 2 * bnat t

/-- The first n bits. -/
def els (n M : Nat) : List Int := (List.range n).map fun i => ((M / 2 ^ i % 2 : Nat) : Int)

theorem els_len (n M : Nat) : (els n M).length = n := by simp [els]
theorem els_getD {n M i : Nat} (h : i < n) : (els n M).getD i 0 = ((M / 2 ^ i % 2 : Nat) : Int) := by
  simp [els, List.getD_eq_getElem?_getD, h]
theorem els_bits (n M : Nat) : bits01 (els n M) = true := by
  refine decide_eq_true fun i hi => ?_
  rw [els_len] at hi
  rw [els_getD hi]
  omega
theorem els_wf (n M : Nat) : ∀ z ∈ els n M, (Lit.int .i64 z).wf = true := by
  intro z hz
  obtain ⟨i, _, rfl⟩ := List.mem_map.1 hz
  exact wf_i64_of (by omega) (by omega)

theorem getD_cons_zero (z : Int) (t : List Int) : (z :: t).getD 0 0 = z := rfl
theorem getD_cons_succ (z : Int) (t : List Int) (i : Nat) : (z :: t).getD (i + 1) 0 = t.getD i 0 := rfl
theorem bits_tail {z : Int} {t : List Int} (h : ∀ i, i < (z :: t).length → 0 ≤ (z :: t).getD i 0 ∧ (z :: t).getD i 0 ≤ 1) : (0 ≤ z ∧ z ≤ 1) ∧ ∀ i, i < t.length → 0 ≤ t.getD i 0 ∧ t.getD i 0 ≤ 1 :=
  ⟨h 0 (by simp), fun i hi => by have := h (i + 1) (by simp; omega); rwa [getD_cons_succ] at this⟩

theorem bnat_snoc (l : List Int) (z : Int) : bnat (l ++ [z]) = bnat l + z.toNat * 2 ^ l.length := by
  induction l with
  | nil => simp [bnat]
  | cons x l ih =>
    simp only [List.cons_append, bnat, ih, List.length_cons, Nat.pow_succ]
    generalize 2 ^ l.length = p
    rw [Nat.mul_add, ← Nat.mul_assoc, ← Nat.mul_assoc, Nat.mul_comm 2 z.toNat, Nat.mul_right_comm z.toNat 2 p]
    omega
theorem bnat_lt {zs : List Int} (h : ∀ i, i < zs.length → 0 ≤ zs.getD i 0 ∧ zs.getD i 0 ≤ 1) : bnat zs < 2 ^ zs.length := by
  induction zs with
  | nil => simp [bnat]
  | cons z t ih =>
    obtain ⟨h0, h1⟩ := bits_tail h
    have := ih h1
    simp only [bnat, List.length_cons, Nat.pow_succ]
    omega
theorem take_snoc_getD (zs : List Int) {j : Nat} (hj : j < zs.length) : zs.take (j + 1) = zs.take j ++ [zs.getD j 0] := by
  rw [List.take_add_one, List.getD_eq_getElem?_getD, List.getElem?_eq_getElem hj]; rfl
theorem bnat_take {zs : List Int} {j : Nat} (hj : j < zs.length) : bnat (zs.take (j + 1)) = bnat (zs.take j) + (zs.getD j 0).toNat * 2 ^ j := by
  rw [take_snoc_getD zs hj, bnat_snoc, List.length_take, Nat.min_eq_left (by omega)]
theorem getD_take {zs : List Int} {i j : Nat} (h : i < j) : (zs.take j).getD i 0 = zs.getD i 0 := by
  simp [List.getD_eq_getElem?_getD, h]
theorem bnat_take_lt {zs : List Int} {j : Nat} (h : ∀ i, i < j → 0 ≤ zs.getD i 0 ∧ zs.getD i 0 ≤ 1) : bnat (zs.take j) < 2 ^ j := by
  refine Nat.lt_of_lt_of_le (bnat_lt fun i hi => ?_) (Nat.pow_le_pow_right (by decide) (List.length_take_le _ _))
  rw [List.length_take] at hi
  rw [getD_take (by omega)]
  exact h i (by omega)

theorem bnat_bit {zs : List Int} (h : ∀ i, i < zs.length → 0 ≤ zs.getD i 0 ∧ zs.getD i 0 ≤ 1) (i : Nat) (hi : i < zs.length) : ((bnat zs / 2 ^ i % 2 : Nat) : Int) = zs.getD i 0 := by
  induction zs generalizing i with
  | nil => simp at hi
  | cons z t ih =>
    obtain ⟨h0, h1⟩ := bits_tail h
    cases i with
    | zero => rw [getD_cons_zero]; simp only [bnat, Nat.pow_zero, Nat.div_one]; omega
    | succ i =>
      rw [getD_cons_succ, ← ih h1 i (by simpa using hi)]
      have e : bnat (z :: t) / 2 ^ (i + 1) = bnat t / 2 ^ i := by
        rw [Nat.pow_succ, Nat.mul_comm, ← Nat.div_div_eq_div_mul]
        congr 1
        simp only [bnat]; omega
      rw [e]
/-- The bits of a selection's number are its elements. -/
theorem els_bnat {zs : List Int} (h : ∀ i, i < zs.length → 0 ≤ zs.getD i 0 ∧ zs.getD i 0 ≤ 1) : els zs.length (bnat zs) = zs := by
  refine list_eq (els_len _ _) fun i hi => ?_
  rw [els_len] at hi
  rw [els_getD hi, bnat_bit h i hi]
/-- The number of a number's first bits. -/
theorem bnat_els (n M : Nat) : bnat (els n M) = M % 2 ^ n := by
  induction n with
  | zero => simp [els, bnat, Nat.mod_one]
  | succ n ih =>
    have e : els (n + 1) M = els n M ++ [((M / 2 ^ n % 2 : Nat) : Int)] := by simp [els, List.range_succ]
    rw [e, bnat_snoc, ih, els_len, Int.toNat_natCast, Nat.mod_pow_succ, Nat.mul_comm]
theorem els_mod {n M : Nat} : els n (M % 2 ^ n) = els n M := by
  have h := els_bnat (zs := els n M) (of_decide_eq_true (els_bits n M))
  rwa [els_len, bnat_els] at h
theorem isel_els {n M : Nat} (h : n ≤ 64) : isel (els n M) (n : Int) = true := by
  refine isel_iff.2 ⟨of_decide_eq_true (els_bits n M), by rw [els_len], by omega⟩

/-- The sums modulo 2 of the elements. -/
def xors (a b : List Int) : List Int := (List.range a.length).map fun i => bx (a.getD i 0) (b.getD i 0)
theorem xors_len (a b : List Int) : (xors a b).length = a.length := by simp [xors]
theorem xors_getD {a b : List Int} {i : Nat} (h : i < a.length) : (xors a b).getD i 0 = bx (a.getD i 0) (b.getD i 0) := by simp [xors, List.getD_eq_getElem?_getD, h]
theorem bit_xor (A B i : Nat) : (A ^^^ B) / 2 ^ i % 2 = (A / 2 ^ i % 2) ^^^ (B / 2 ^ i % 2) := by
  rw [← Nat.toNat_testBit, ← Nat.toNat_testBit, ← Nat.toNat_testBit, Nat.testBit_xor]
  cases A.testBit i <;> cases B.testBit i <;> rfl
theorem els_xor {a b : List Int} (ha : ∀ i, i < a.length → 0 ≤ a.getD i 0 ∧ a.getD i 0 ≤ 1) (hb : ∀ i, i < b.length → 0 ≤ b.getD i 0 ∧ b.getD i 0 ≤ 1) (hl : a.length = b.length) : els a.length (bnat a ^^^ bnat b) = xors a b := by
  refine list_eq (by rw [els_len, xors_len]) fun i hi => ?_
  rw [els_len] at hi
  rw [els_getD hi, xors_getD hi, ← bnat_bit ha i hi, ← bnat_bit hb i (by omega), bit_xor]
  rfl
theorem bx_bit {x y : Int} (hx : 0 ≤ x ∧ x ≤ 1) (hy : 0 ≤ y ∧ y ≤ 1) : 0 ≤ bx x y ∧ bx x y ≤ 1 := by
  have h : x.toNat ^^^ y.toNat < 2 ^ 1 := Nat.xor_lt_two_pow (by omega) (by omega)
  unfold bx
  omega
theorem i64_xor_bit {x y : Int} (hx : 0 ≤ x ∧ x ≤ 1) (hy : 0 ≤ y ∧ y ≤ 1) : bits .xor .i64 x y = bx x y := by
  rcases (show x = 0 ∨ x = 1 by omega) with rfl | rfl <;> rcases (show y = 0 ∨ y = 1 by omega) with rfl | rfl <;> decide
theorem xors_bits {a b : List Int} (ha : ∀ i, i < a.length → 0 ≤ a.getD i 0 ∧ a.getD i 0 ≤ 1) (hb : ∀ i, i < b.length → 0 ≤ b.getD i 0 ∧ b.getD i 0 ≤ 1) (hl : a.length = b.length) : ∀ i, i < (xors a b).length → 0 ≤ (xors a b).getD i 0 ∧ (xors a b).getD i 0 ≤ 1 := by
  intro i hi
  rw [xors_len] at hi
  rw [xors_getD hi]
  exact bx_bit (ha i hi) (hb i (by omega))
theorem xors_take_succ (a b : List Int) {j : Nat} (hj : j < a.length) : (xors a b).take j ++ [bx (a.getD j 0) (b.getD j 0)] = (xors a b).take (j + 1) := by
  rw [take_snoc_getD (xors a b) (by rw [xors_len]; exact hj), xors_getD hj]

/-- XorSelections' answer. -/
def xs2 (a b : List Int) : List Int := if isel a (a.length : Int) = true ∧ isel b (a.length : Int) = true then xors a b else []

/-- The unit selection. -/
def unitV (rows index : Int) : List Int := if 1 ≤ rows ∧ rows ≤ 64 ∧ 0 ≤ index ∧ index ≤ rows - 1 then (List.replicate rows.toNat 0).set index.toNat 1 else []
theorem els_unit {n i : Nat} (h : i < n) : els n (2 ^ i) = (List.replicate n (0 : Int)).set i 1 := by
  refine list_eq (by simp [els_len]) fun j hj => ?_
  rw [els_len] at hj
  rw [els_getD hj, List.getD_eq_getElem?_getD, List.getElem?_set, List.length_replicate]
  by_cases hij : i = j
  · subst hij
    rw [if_pos rfl, if_pos h, Nat.div_self (Nat.pow_pos (by decide))]
    rfl
  · rw [if_neg hij, List.getElem?_replicate, if_pos hj]
    rcases Nat.lt_or_gt_of_ne hij with hlt | hgt
    · rw [Nat.div_eq_of_lt (Nat.pow_lt_pow_right (by decide) hlt)]; rfl
    · obtain ⟨d, rfl⟩ : ∃ d, i = j + d + 1 := ⟨i - j - 1, by omega⟩
      rw [show j + d + 1 = d + 1 + j by omega, Nat.pow_add, Nat.mul_div_cancel _ (Nat.pow_pos (by decide)), Nat.pow_succ]
      simp

/-- The number of ones. -/
def cnt (zs : List Int) : Nat := (zs.filter fun z => z == 1).length
theorem cnt_le (zs : List Int) : cnt zs ≤ zs.length := List.length_filter_le _ _
theorem cnt_take {zs : List Int} {j : Nat} (hj : j < zs.length) : cnt (zs.take (j + 1)) = cnt (zs.take j) + if zs.getD j 0 = 1 then 1 else 0 := by
  rw [take_snoc_getD zs hj]
  unfold cnt
  rw [List.filter_append, List.length_append]
  generalize zs.getD j 0 = z
  by_cases h : z = 1
  · simp [h]
  · simp [h]

/-! ### 64 bits without a sign -/

theorem wrapU64 (x : Int) : IntKind.u64.wrap x = x % 18446744073709551616 := by
  have e1 : IntKind.u64.min = 0 := rfl
  simp [IntKind.wrap, IntKind.bits, IntKind.signed]
theorem bv64 (a : Nat) (ha : a < 18446744073709551616) : (BitVec.ofInt 64 (a : Int)).toNat = a := by
  have e64 : (2 : Nat) ^ 64 = 18446744073709551616 := by decide
  rw [BitVec.toNat_ofInt]
  have : ((a : Int) % ((2 ^ 64 : Nat) : Int)) = a := by rw [e64]; omega
  rw [this]; rfl
theorem u64_or (a b : Nat) (ha : a < 18446744073709551616) (hb : b < 18446744073709551616) : bits .or .u64 (a : Int) (b : Int) = ((a ||| b : Nat) : Int) := by
  have e64 : (2 : Nat) ^ 64 = 18446744073709551616 := by decide
  show IntKind.u64.wrap ((BitVec.ofInt 64 (a : Int) ||| BitVec.ofInt 64 (b : Int)).toNat : Nat) = _
  rw [BitVec.toNat_or, bv64 a ha, bv64 b hb, wrapU64]
  have h : a ||| b < 2 ^ 64 := Nat.or_lt_two_pow (by omega) (by omega)
  omega
theorem u64_xor (a b : Nat) (ha : a < 18446744073709551616) (hb : b < 18446744073709551616) : bits .xor .u64 (a : Int) (b : Int) = ((a ^^^ b : Nat) : Int) := by
  have e64 : (2 : Nat) ^ 64 = 18446744073709551616 := by decide
  show IntKind.u64.wrap ((BitVec.ofInt 64 (a : Int) ^^^ BitVec.ofInt 64 (b : Int)).toNat : Nat) = _
  rw [BitVec.toNat_xor, bv64 a ha, bv64 b hb, wrapU64]
  have h : a ^^^ b < 2 ^ 64 := Nat.xor_lt_two_pow (by omega) (by omega)
  omega
theorem u64_and1 (a : Nat) (ha : a < 18446744073709551616) : bits .and .u64 (a : Int) 1 = ((a % 2 : Nat) : Int) := by
  show IntKind.u64.wrap ((BitVec.ofInt 64 (a : Int) &&& BitVec.ofInt 64 1).toNat : Nat) = _
  rw [BitVec.toNat_and, bv64 a ha, show (BitVec.ofInt 64 1).toNat = 1 from rfl, wrapU64, Nat.and_one_is_mod]
  omega
theorem div_pow_min {M : Nat} (hM : M < 18446744073709551616) (j : Nat) : M / 2 ^ min j 64 = M / 2 ^ j := by
  by_cases h : j ≤ 64
  · rw [Nat.min_eq_left h]
  · have e64 : (2 : Nat) ^ 64 = 18446744073709551616 := by decide
    have h1 : 2 ^ 64 ≤ 2 ^ j := Nat.pow_le_pow_right (by decide) (by omega)
    rw [Nat.min_eq_right (by omega), Nat.div_eq_of_lt (by omega), Nat.div_eq_of_lt (by omega)]
theorem shr_cast (M j : Nat) : (M : Int) / 2 ^ j = ((M / 2 ^ j : Nat) : Int) := by rw [Int.natCast_ediv]; simp
theorem u64_bit {M : Nat} (hM : M < 18446744073709551616) (j : Nat) : wrap64 (bits .and .u64 ((M : Int) / 2 ^ min j 64) 1) = ((M / 2 ^ j % 2 : Nat) : Int) := by
  rw [shr_cast, div_pow_min hM, u64_and1 _ (Nat.lt_of_le_of_lt (Nat.div_le_self _ _) hM)]
  have h2 : M / 2 ^ j % 2 < 2 := Nat.mod_lt _ (by decide)
  generalize M / 2 ^ j % 2 = q at h2
  unfold wrap64
  omega
/-- One bit is added above M. -/
theorem u64_add {M j : Nat} {z : Int} (hM : M < 2 ^ j) (hz : 0 ≤ z ∧ z ≤ 1) (hj : j < 64) : bits .or .u64 (M : Int) (IntKind.u64.wrap (IntKind.u64.wrap z * 2 ^ j)) = ((M + z.toNat * 2 ^ j : Nat) : Int) := by
  have e64 : (2 : Nat) ^ 64 = 18446744073709551616 := by decide
  have h1 : 2 ^ (j + 1) ≤ 2 ^ 64 := Nat.pow_le_pow_right (by decide) (by omega)
  rw [Nat.pow_succ] at h1
  have h2 : z.toNat * 2 ^ j ≤ 1 * 2 ^ j := Nat.mul_le_mul_right _ (by omega)
  have e1 : IntKind.u64.wrap z = z := by rw [wrapU64]; omega
  have e2 : IntKind.u64.wrap (IntKind.u64.wrap z * 2 ^ j) = ((z.toNat * 2 ^ j : Nat) : Int) := by
    rw [e1]
    have : z * 2 ^ j = ((z.toNat * 2 ^ j : Nat) : Int) := by
      rw [Int.natCast_mul, Int.toNat_of_nonneg hz.1]; simp
    rw [this, wrapU64]
    omega
  rw [e2, u64_or _ _ (by omega) (by omega), or_high hM]

/-! ### Packed -/

/-- Byte k of a number. -/
def byt (M k : Nat) : Int := ((M / 2 ^ (8 * k) % 256 : Nat) : Int)
/-- The number of elements, then the bits. -/
def packs (zs : List Int) : List Int := (zs.length : Int) :: (List.range ((zs.length + 7) / 8)).map (byt (bnat zs))
/-- PackSelection's answer. -/
def packV (zs : List Int) : List Int := if isel zs (zs.length : Int) = true then packs zs else []

theorem packs_len (zs : List Int) : (packs zs).length = 1 + (zs.length + 7) / 8 := by simp [packs]; omega
theorem byt_u8 (M k : Nat) : 0 ≤ byt M k ∧ byt M k ≤ 255 := by unfold byt; omega
theorem packs_u8 {zs : List Int} (h : zs.length ≤ 64) : U8s (packs zs) := by
  intro z hz
  rcases List.mem_cons.1 hz with rfl | hz
  · exact wf_u8_of (by omega) (by omega)
  · obtain ⟨k, _, rfl⟩ := List.mem_map.1 hz
    exact wf_u8_of (byt_u8 _ _).1 (byt_u8 _ _).2
theorem packV_u8 (zs : List Int) : U8s (packV zs) := by
  unfold packV
  split
  · rename_i h
    have := (isel_iff.1 h).2.2
    exact packs_u8 (by omega)
  · intro z hz; simp at hz
theorem packV_len (zs : List Int) : (packV zs).length ≤ 9 := by
  unfold packV
  split
  · rename_i h
    have := (isel_iff.1 h).2.2
    rw [packs_len]; omega
  · simp

/-- What the document's loop has written behind j elements. -/
def packJ (zs : List Int) (j : Nat) : List Int := (zs.length : Int) :: (List.range ((zs.length + 7) / 8)).map (byt (bnat (zs.take j)))
theorem packJ_len (zs : List Int) (j : Nat) : (packJ zs j).length = 1 + (zs.length + 7) / 8 := by simp [packJ]; omega
theorem packJ_full (zs : List Int) : packJ zs zs.length = packs zs := by unfold packJ packs; rw [List.take_length]
theorem packJ_zero (zs : List Int) : (List.replicate (1 + (zs.length + 7) / 8) (0 : Int)).set 0 (zs.length : Int) = packJ zs 0 := by
  unfold packJ
  rw [Nat.add_comm, List.replicate_succ, List.set_cons_zero, List.take_zero]
  congr 1
  refine list_eq (by simp) fun i hi => ?_
  have hi' : i < (zs.length + 7) / 8 := by simpa using hi
  simp [List.getD_eq_getElem?_getD, hi', byt, bnat]
theorem packJ_get (zs : List Int) (j k : Nat) (hk : k < (zs.length + 7) / 8) : (packJ zs j).getD (1 + k) 0 = byt (bnat (zs.take j)) k := by
  rw [Nat.add_comm]
  unfold packJ
  rw [getD_cons_succ]
  simp [List.getD_eq_getElem?_getD, hk]
theorem byt_low {M z j k : Nat} (hM : M < 2 ^ j) (hz : z ≤ 1) (hk : k = j / 8) : byt M k = ((M / 2 ^ (8 * k) : Nat) : Int) ∧ M / 2 ^ (8 * k) < 2 ^ (j % 8) ∧ byt (M + z * 2 ^ j) k = ((M / 2 ^ (8 * k) + z * 2 ^ (j % 8) : Nat) : Int) ∧ M / 2 ^ (8 * k) + z * 2 ^ (j % 8) ≤ 255 := by
  have hj : j = j % 8 + 8 * k := by omega
  have h8 : j % 8 < 8 := by omega
  have hp : 0 < 2 ^ (8 * k) := Nat.pow_pos (by decide)
  have e1 : M / 2 ^ (8 * k) < 2 ^ (j % 8) := by
    refine Nat.div_lt_of_lt_mul ?_
    rw [← Nat.pow_add, Nat.add_comm, ← hj]; exact hM
  have e2 : (M + z * 2 ^ j) / 2 ^ (8 * k) = M / 2 ^ (8 * k) + z * 2 ^ (j % 8) := by
    have : z * 2 ^ j = z * 2 ^ (j % 8) * 2 ^ (8 * k) := by rw [Nat.mul_assoc, ← Nat.pow_add, ← hj]
    rw [this, Nat.add_mul_div_right _ _ hp]
  have e3 : 2 ^ (j % 8) ≤ 2 ^ 7 := Nat.pow_le_pow_right (by decide) (by omega)
  have e7 : (2 : Nat) ^ 7 = 128 := by decide
  have e4 : z * 2 ^ (j % 8) ≤ 1 * 2 ^ (j % 8) := Nat.mul_le_mul_right _ hz
  unfold byt
  rw [e2]
  refine ⟨?_, e1, ?_, by omega⟩
  · rw [Nat.mod_eq_of_lt (by omega)]
  · rw [Nat.mod_eq_of_lt (by omega)]
theorem byt_other {M z j k : Nat} (hM : M < 2 ^ j) (hz : z ≤ 1) (hk : k ≠ j / 8) : byt (M + z * 2 ^ j) k = byt M k := by
  have hp : 0 < 2 ^ (8 * k) := Nat.pow_pos (by decide)
  unfold byt
  congr 1
  rcases Nat.lt_or_gt_of_ne hk with hlt | hgt
  · obtain ⟨d, hd⟩ : ∃ d, j = d + 8 + 8 * k := ⟨j - 8 - 8 * k, by omega⟩
    have : z * 2 ^ j = z * 2 ^ d * 256 * 2 ^ (8 * k) := by rw [hd, Nat.pow_add, Nat.pow_add]; simp [Nat.mul_assoc]
    rw [this, Nat.add_mul_div_right _ _ hp, Nat.add_mul_mod_self_right]
  · have h1 : 2 ^ (j + 1) ≤ 2 ^ (8 * k) := Nat.pow_le_pow_right (by decide) (by omega)
    rw [Nat.pow_succ] at h1
    have h2 : z * 2 ^ j ≤ 1 * 2 ^ j := Nat.mul_le_mul_right _ hz
    rw [Nat.div_eq_of_lt (by omega), Nat.div_eq_of_lt (by omega)]
/-- One round of the document's loop. -/
theorem packJ_step {zs : List Int} {j : Nat} (hj : j < zs.length) (h : ∀ i, i < zs.length → 0 ≤ zs.getD i 0 ∧ zs.getD i 0 ≤ 1) :
    (packJ zs j).set (1 + j / 8) (byt (bnat (zs.take (j + 1))) (j / 8)) = packJ zs (j + 1) := by
  have hM := bnat_take_lt (zs := zs) (j := j) (fun i hi => h i (by omega))
  have hz := h j hj
  refine list_eq (by rw [List.length_set, packJ_len, packJ_len]) fun i hi => ?_
  rw [List.length_set, packJ_len] at hi
  rw [List.getD_eq_getElem?_getD, List.getElem?_set, packJ_len]
  cases i with
  | zero => rw [if_neg (by omega)]; rfl
  | succ i =>
    rw [show i + 1 = 1 + i by omega, packJ_get _ _ _ (by omega)]
    by_cases hij : 1 + j / 8 = 1 + i
    · have : j / 8 = i := by omega
      rw [if_pos hij, if_pos (by omega), this]; rfl
    · rw [if_neg hij, ← List.getD_eq_getElem?_getD, packJ_get _ _ _ (by omega), bnat_take hj]
      exact (byt_other hM (by omega) (by omega)).symm

/-! ### Unpacked -/

/-- The number whose bytes are given, the least first. -/
def lnat : List Int → Nat
  | [] => 0
  | c :: t => c.toNat + 256 * lnat t
theorem lnat_snoc (l : List Int) (z : Int) : lnat (l ++ [z]) = lnat l + z.toNat * 2 ^ (8 * l.length) := by
  induction l with
  | nil => simp [lnat]
  | cons x l ih =>
    simp only [List.cons_append, lnat, ih, List.length_cons, Nat.mul_add, Nat.pow_add]
    generalize 2 ^ (8 * l.length) = p
    have : (2 : Nat) ^ (8 * 1) = 256 := by decide
    rw [this, ← Nat.mul_assoc 256 z.toNat p, Nat.mul_comm 256 z.toNat, Nat.mul_assoc z.toNat 256 p, Nat.mul_comm 256 p, Nat.add_assoc]
theorem lnat_take {zs : List Int} {j : Nat} (hj : j < zs.length) : lnat (zs.take (j + 1)) = lnat (zs.take j) + (zs.getD j 0).toNat * 2 ^ (8 * j) := by
  rw [take_snoc_getD zs hj, lnat_snoc, List.length_take, Nat.min_eq_left (by omega)]
theorem U8s.tail {z : Int} {t : List Int} (h : U8s (z :: t)) : (0 ≤ z ∧ z ≤ 255) ∧ U8s t := ⟨wf_u8 (h z (List.mem_cons_self ..)), fun x hx => h x (List.mem_cons_of_mem _ hx)⟩
theorem U8s.drop {zs : List Int} (h : U8s zs) (n : Nat) : U8s (zs.drop n) := fun z hz => h z (List.mem_of_mem_drop hz)
theorem U8s.take {zs : List Int} (h : U8s zs) (n : Nat) : U8s (zs.take n) := fun z hz => h z (List.mem_of_mem_take hz)
theorem lnat_lt {zs : List Int} (h : U8s zs) : lnat zs < 2 ^ (8 * zs.length) := by
  induction zs with
  | nil => simp [lnat]
  | cons z t ih =>
    obtain ⟨h0, h1⟩ := h.tail
    have := ih h1
    simp only [lnat, List.length_cons, Nat.mul_add, Nat.pow_add]
    have e : (2 : Nat) ^ (8 * 1) = 256 := by decide
    rw [e]
    omega
theorem lnat_byt {zs : List Int} (h : U8s zs) (k : Nat) (hk : k < zs.length) : byt (lnat zs) k = zs.getD k 0 := by
  induction zs generalizing k with
  | nil => simp at hk
  | cons z t ih =>
    obtain ⟨h0, h1⟩ := h.tail
    cases k with
    | zero => rw [getD_cons_zero]; simp only [byt, lnat, Nat.mul_zero, Nat.pow_zero, Nat.div_one]; omega
    | succ k =>
      rw [getD_cons_succ, ← ih h1 k (by simpa using hk)]
      unfold byt
      have e : lnat (z :: t) / 2 ^ (8 * (k + 1)) = lnat t / 2 ^ (8 * k) := by
        rw [Nat.mul_add, Nat.pow_add, Nat.mul_comm, ← Nat.div_div_eq_div_mul]
        congr 1
        simp only [lnat]; omega
      rw [e]
theorem lnat_map (M n : Nat) : lnat ((List.range n).map (byt M)) = M % 2 ^ (8 * n) := by
  induction n with
  | zero => simp [lnat, Nat.mod_one]
  | succ n ih =>
    rw [List.range_succ, List.map_append, List.map_singleton, lnat_snoc, ih, List.length_map, List.length_range, Nat.mul_add, Nat.pow_add, Nat.mod_mul]
    unfold byt
    rw [Int.toNat_natCast, show (2 : Nat) ^ (8 * 1) = 256 by decide, Nat.mul_comm (2 ^ (8 * n))]
/-- A bit of a byte is a bit of the number. -/
theorem byt_bit (M i : Nat) : (byt M (i / 8)).toNat / 2 ^ (i % 8) % 2 = M / 2 ^ i % 2 := by
  unfold byt
  rw [Int.toNat_natCast]
  obtain ⟨r, hr⟩ : ∃ r, r = i % 8 := ⟨_, rfl⟩
  obtain ⟨k, hk⟩ : ∃ k, k = i / 8 := ⟨_, rfl⟩
  have hi : i = 8 * k + r := by omega
  have h8 : r < 8 := by omega
  rw [← hr, ← hk, hi, Nat.pow_add, ← Nat.div_div_eq_div_mul]
  generalize M / 2 ^ (8 * k) = A
  have e : (256 : Nat) = 2 ^ r * 2 ^ (8 - r) := by rw [← Nat.pow_add, show r + (8 - r) = 8 by omega]
  rw [e, Nat.mod_mul_right_div_self, Nat.mod_mod_of_dvd]
  exact ⟨2 ^ (7 - r), by rw [show 8 - r = 7 - r + 1 by omega, Nat.pow_succ, Nat.mul_comm]⟩

/-- The number of elements that a packed selection tells. -/
def upn (zs : List Int) : Nat := (zs.getD 0 0).toNat
/-- The number that its bytes tell. -/
def upm (zs : List Int) : Nat := lnat (zs.drop 1)
/-- Whether its length fits. -/
def upl (zs : List Int) : Bool := decide (zs.length ≠ 0 ∧ zs.length = 1 + (upn zs + 7) / 8)
/-- UnpackSelection's second answer. -/
def uok (zs : List Int) : Bool := upl zs && decide (upn zs ≤ 64 ∧ upm zs < 2 ^ upn zs)
/-- UnpackSelection's first answer. -/
def uval (zs : List Int) : List Int := if uok zs = true then els (upn zs) (upm zs) else []

theorem drop_get (zs : List Int) (k : Nat) : (zs.drop 1).getD k 0 = zs.getD (1 + k) 0 := by
  simp [List.getD_eq_getElem?_getD, Nat.add_comm]
theorem head_drop {zs : List Int} (h : zs.length ≠ 0) : zs = zs.getD 0 0 :: zs.drop 1 := by
  cases zs with
  | nil => exact absurd rfl h
  | cons z t => simp
theorem u8_get0 {zs : List Int} (h : U8s zs) : ((upn zs : Nat) : Int) = zs.getD 0 0 := by
  have := h.get 0
  unfold upn; omega

/-- The packed first bits are the given bytes if and only if no other bit is set. -/
theorem packs_els {zs : List Int} (hu : U8s zs) (hl : upl zs = true) : packs (els (upn zs) (upm zs)) = zs ↔ upm zs < 2 ^ upn zs := by
  obtain ⟨h0, hlen⟩ := of_decide_eq_true hl
  have e0 := head_drop h0
  have ed : (zs.drop 1).length = (upn zs + 7) / 8 := by rw [List.length_drop]; omega
  have hud := hu.drop 1
  have hM : upm zs < 2 ^ (8 * ((upn zs + 7) / 8)) := by have := lnat_lt hud; rwa [ed] at this
  have hb : 2 ^ upn zs ≤ 2 ^ (8 * ((upn zs + 7) / 8)) := Nat.pow_le_pow_right (by decide) (by omega)
  have hp : packs (els (upn zs) (upm zs)) = zs.getD 0 0 :: (List.range ((upn zs + 7) / 8)).map (byt (upm zs % 2 ^ upn zs)) := by
    unfold packs
    rw [els_len, bnat_els, u8_get0 hu]
  constructor
  · intro h
    rw [hp] at h
    have h1 : (List.range ((upn zs + 7) / 8)).map (byt (upm zs % 2 ^ upn zs)) = zs.drop 1 := by
      have h' := congrArg (List.drop 1) h
      simpa using h'
    have h2 := congrArg lnat h1
    have hlt := Nat.mod_lt (upm zs) (Nat.pow_pos (n := upn zs) (show 0 < 2 by decide))
    rw [lnat_map, Nat.mod_eq_of_lt (by omega)] at h2
    have h3 : upm zs % 2 ^ upn zs = upm zs := h2
    omega
  · intro h
    rw [hp, Nat.mod_eq_of_lt h]
    conv => rhs; rw [e0]
    congr 1
    refine list_eq (by simp; omega) fun k hk => ?_
    have hk' : k < (upn zs + 7) / 8 := by simpa using hk
    rw [show ((List.range ((upn zs + 7) / 8)).map (byt (upm zs))).getD k 0 = byt (upm zs) k by simp [List.getD_eq_getElem?_getD, hk']]
    exact lnat_byt hud k (by omega)

/-- What is packed is unpacked. -/
theorem un_pack {zs : List Int} (h : isel zs (zs.length : Int) = true) : uok (packs zs) = true ∧ uval (packs zs) = zs := by
  obtain ⟨hb, _, hn⟩ := isel_iff.1 h
  have e1 : upn (packs zs) = zs.length := by unfold upn packs; rw [getD_cons_zero]; rfl
  have hlt := bnat_lt hb
  have hle : 2 ^ zs.length ≤ 2 ^ (8 * ((zs.length + 7) / 8)) := Nat.pow_le_pow_right (by decide) (by omega)
  have e2 : upm (packs zs) = bnat zs := by
    unfold upm packs
    rw [List.drop_succ_cons, List.drop_zero, lnat_map, Nat.mod_eq_of_lt (by omega)]
  have e3 : uok (packs zs) = true := by
    unfold uok upl
    rw [Bool.and_eq_true, decide_eq_true_iff, decide_eq_true_iff, e1, e2, packs_len]
    exact ⟨⟨by omega, rfl⟩, by omega, hlt⟩
  refine ⟨e3, ?_⟩
  unfold uval
  rw [if_pos e3, e1, e2, els_bnat hb]
theorem un_pack_no {zs : List Int} (h : isel zs (zs.length : Int) = false) : packV zs = [] ∧ uok [] = false := by
  refine ⟨?_, by decide⟩
  unfold packV
  rw [h]
  rfl
/-- What is unpacked is packed. -/
theorem pack_un {zs : List Int} (hu : U8s zs) (h : uok zs = true) : packV (uval zs) = zs := by
  have h' := h
  unfold uok at h'
  rw [Bool.and_eq_true, decide_eq_true_iff] at h'
  obtain ⟨hl, hn, hm⟩ := h'
  unfold uval
  rw [if_pos h]
  unfold packV
  rw [els_len, if_pos (isel_els hn)]
  exact (packs_els hu hl).2 hm

theorem uval_len (zs : List Int) : (uval zs).length ≤ 64 := by
  unfold uval
  split
  · rename_i h
    unfold uok at h
    rw [Bool.and_eq_true, decide_eq_true_iff] at h
    rw [els_len]; exact h.2.1
  · simp

theorem wrap_min (c : Int) (s : Nat) : IntKind.u64.wrap (c * 2 ^ min s 64) = IntKind.u64.wrap (c * 2 ^ s) := by
  by_cases h : s ≤ 64
  · rw [Nat.min_eq_left h]
  · obtain ⟨d, rfl⟩ : ∃ d, s = d + 64 := ⟨s - 64, by omega⟩
    have e64 : (2 : Int) ^ 64 = 18446744073709551616 := by decide
    rw [Nat.min_eq_right (by omega), wrapU64, wrapU64, Int.pow_add, e64, ← Int.mul_assoc, Int.mul_emod_left, Int.mul_emod_left]
/-- One more byte, in 64 bits. -/
theorem u64_addb {t : List Int} (hu : U8s t) {j s : Nat} (hj : j < t.length) (hs : s = 8 * j) :
    bits .or .u64 ((lnat (t.take j) % 18446744073709551616 : Nat) : Int) (IntKind.u64.wrap (IntKind.u64.wrap (t.getD j 0) * 2 ^ min s 64)) = ((lnat (t.take (j + 1)) % 18446744073709551616 : Nat) : Int) := by
  subst hs
  have hc := hu.get j
  rw [wrap_min, show IntKind.u64.wrap (t.getD j 0) = t.getD j 0 by rw [wrapU64]; omega]
  have hL := lnat_lt (hu.take j)
  rw [List.length_take, Nat.min_eq_left (by omega)] at hL
  rw [lnat_take hj]
  obtain ⟨c, hcc⟩ : ∃ c : Nat, c = (t.getD j 0).toNat := ⟨_, rfl⟩
  have e1 : t.getD j 0 = (c : Int) := by omega
  have hcb : c ≤ 255 := by omega
  have e2 : t.getD j 0 * 2 ^ (8 * j) = ((c * 2 ^ (8 * j) : Nat) : Int) := by rw [e1, Int.natCast_mul]; simp
  rw [e2, ← hcc]
  clear e1 e2 hcc hc
  generalize lnat (t.take j) = L at hL
  have e64 : (2 : Nat) ^ 64 = 18446744073709551616 := by decide
  have ew : IntKind.u64.wrap ((c * 2 ^ (8 * j) : Nat) : Int) = ((c * 2 ^ (8 * j) % 18446744073709551616 : Nat) : Int) := by
    rw [wrapU64, Int.natCast_emod]; rfl
  rw [ew, u64_or _ _ (Nat.mod_lt _ (by decide)) (Nat.mod_lt _ (by decide))]
  congr 1
  by_cases h8 : j < 8
  · have h1 : 2 ^ (8 * j) ≤ 2 ^ 56 := Nat.pow_le_pow_right (by decide) (by omega)
    have e56 : (2 : Nat) ^ 56 = 72057594037927936 := by decide
    have h2 : c * 2 ^ (8 * j) ≤ 255 * 2 ^ (8 * j) := Nat.mul_le_mul_right _ hcb
    rw [Nat.mod_eq_of_lt (by omega), Nat.mod_eq_of_lt (by omega), Nat.mod_eq_of_lt (by omega), or_high hL]
  · obtain ⟨d, hd⟩ : ∃ d, 8 * j = d + 64 := ⟨8 * j - 64, by omega⟩
    have e3 : c * 2 ^ (8 * j) = c * 2 ^ d * 18446744073709551616 := by rw [hd, Nat.pow_add, e64, Nat.mul_assoc]
    rw [e3, Nat.mul_mod_left, Nat.add_mul_mod_self_right, Nat.or_zero]

/-! ### Random -/

/-- The rows of which the element is 1. -/
def chosen : List (List Int) → List Int → List (List Int)
  | zs :: zss, z :: v => if z = 1 then zs :: chosen zss v else chosen zss v
  | _, _ => []
/-- SelectXor's answer. -/
def sx (zss : List (List Int)) (v : List Int) : List Int := xorAll (chosen zss v)
theorem chosen_nil (v : List Int) : chosen [] v = [] := by cases v <;> rfl
theorem chosen_nil' (zss : List (List Int)) : chosen zss [] = [] := by cases zss <;> rfl
theorem chosen_take {zss : List (List Int)} {v : List Int} {j : Nat} {zs : List Int} (h : zss[j]? = some zs) (hj : j < v.length) :
    chosen (zss.take (j + 1)) (v.take (j + 1)) = if v.getD j 0 = 1 then chosen (zss.take j) (v.take j) ++ [zs] else chosen (zss.take j) (v.take j) := by
  induction zss generalizing j v with
  | nil => simp at h
  | cons x zss ih =>
    cases v with
    | nil => simp at hj
    | cons z v =>
      cases j with
      | zero =>
        simp at h
        subst h
        simp [chosen, chosen_nil]
      | succ j =>
        have := ih (j := j) (v := v) (by simpa using h) (by simpa using hj)
        show (if z = 1 then x :: chosen (zss.take (j + 1)) (v.take (j + 1)) else chosen (zss.take (j + 1)) (v.take (j + 1))) = if (z :: v).getD (j + 1) 0 = 1 then (if z = 1 then x :: chosen (zss.take j) (v.take j) else chosen (zss.take j) (v.take j)) ++ [zs] else (if z = 1 then x :: chosen (zss.take j) (v.take j) else chosen (zss.take j) (v.take j))
        rw [this, getD_cons_succ]
        split <;> split <;> rfl
theorem chosen_over (zss : List (List Int)) (v : List Int) {j : Nat} (h : j = min zss.length v.length) : chosen (zss.take j) (v.take j) = chosen zss v := by
  induction zss generalizing j v with
  | nil => simp [chosen_nil]
  | cons x zss ih =>
    cases v with
    | nil => simp [chosen_nil']
    | cons z v =>
      obtain ⟨i, rfl⟩ : ∃ i, j = i + 1 := ⟨j - 1, by simp at h; omega⟩
      have := ih v (j := i) (by simp at h; omega)
      rw [List.take_succ_cons, List.take_succ_cons, chosen, chosen, this]
theorem chosen_len (zss : List (List Int)) (v : List Int) : (chosen zss v).length ≤ zss.length := by
  induction zss generalizing v with
  | nil => simp [chosen_nil]
  | cons x zss ih =>
    cases v with
    | nil => simp [chosen_nil']
    | cons z v =>
      have := ih v
      rw [chosen]
      split <;> simp <;> omega

/-- Element i of an exclusive or of rows. -/
theorem xorAll_getD (l : List (List Int)) (acc : List Int) (i : Nat) : (l.foldl xorl acc).getD i 0 = bx (acc.getD i 0) ((xorAll l).getD i 0) ∨ ¬ U8s acc ∨ ¬ (∀ x ∈ l, U8s x) := by
  by_cases ha : U8s acc
  · by_cases hl : ∀ x ∈ l, U8s x
    · left
      induction l generalizing acc with
      | nil => rw [xorAll_nil, List.foldl_nil]; exact (bx_zero (ha.get i).1).symm
      | cons x l ih =>
        have hx := hl x (List.mem_cons_self ..)
        have hl' : ∀ y ∈ l, U8s y := fun y hy => hl y (List.mem_cons_of_mem _ hy)
        have h1 := ih (xorl acc x) (xorl_u8 ha hx) hl'
        have h2 := ih (xorl [] x) (xorl_u8 (fun z hz => by simp at hz) hx) hl'
        rw [List.foldl_cons, h1, xorl_getD, bx_assoc]
        congr 1
        show _ = (l.foldl xorl (xorl [] x)).getD i 0
        rw [h2, xorl_getD]
        congr 1
        rw [show ([] : List Int).getD i 0 = 0 from rfl, zero_bx (hx.get i).1]
    · exact .inr (.inr hl)
  · exact .inr (.inl ha)
theorem xorAll_cons_getD {x : List Int} {l : List (List Int)} (hx : U8s x) (hl : ∀ y ∈ l, U8s y) (i : Nat) : (xorAll (x :: l)).getD i 0 = bx (x.getD i 0) ((xorAll l).getD i 0) := by
  have e : xorAll (x :: l) = l.foldl xorl (xorl [] x) := rfl
  rw [e, xorl_nil hx]
  rcases xorAll_getD l x i with h | h | h
  · exact h
  · exact absurd hx h
  · exact absurd hl h
theorem chosen_mem {zss : List (List Int)} {v : List Int} {p : List Int → Prop} (h : ∀ x ∈ zss, p x) : ∀ x ∈ chosen zss v, p x := by
  induction zss generalizing v with
  | nil => rw [chosen_nil]; intro x hx; simp at hx
  | cons y zss ih =>
    cases v with
    | nil => rw [chosen_nil']; intro x hx; simp at hx
    | cons z v =>
      have := ih (v := v) fun x hx => h x (List.mem_cons_of_mem _ hx)
      rw [chosen]
      split
      · intro x hx
        rcases List.mem_cons.1 hx with rfl | hx
        · exact h _ (List.mem_cons_self ..)
        · exact this x hx
      · exact this
theorem xorAll_u8 {l : List (List Int)} (h : ∀ y ∈ l, U8s y) : U8s (xorAll l) := by
  suffices hs : ∀ (l : List (List Int)) (acc : List Int), U8s acc → (∀ y ∈ l, U8s y) → U8s (l.foldl xorl acc) from hs l [] (fun z hz => by simp at hz) h
  intro l
  induction l with
  | nil => intro acc ha _; exact ha
  | cons x l ih => intro acc ha hl; exact ih _ (xorl_u8 ha (hl x (List.mem_cons_self ..))) fun y hy => hl y (List.mem_cons_of_mem _ hy)

/-- What two selections select together is what their sum selects. -/
theorem sx_xor {zss : List (List Int)} {p q : List Int} (hz : ∀ x ∈ zss, U8s x) (hp : ∀ i, i < p.length → 0 ≤ p.getD i 0 ∧ p.getD i 0 ≤ 1) (hq : ∀ i, i < q.length → 0 ≤ q.getD i 0 ∧ q.getD i 0 ≤ 1) (hl : p.length = q.length) (i : Nat) :
    bx (bx ((sx zss p).getD i 0) ((sx zss q).getD i 0)) ((sx zss (xors p q)).getD i 0) = 0 := by
  unfold sx
  induction zss generalizing p q with
  | nil => rw [chosen_nil, chosen_nil, chosen_nil, bx_self, xorAll_nil]; simp [bx]
  | cons x zss ih =>
    cases p with
    | nil =>
      have : q = [] := List.eq_nil_of_length_eq_zero (by simpa using hl.symm)
      subst this
      rw [show xors [] [] = [] from rfl, chosen_nil', bx_self, xorAll_nil]; simp [bx]
    | cons a p =>
      cases q with
      | nil => simp at hl
      | cons b q =>
        obtain ⟨ha, hp'⟩ := bits_tail hp
        obtain ⟨hb, hq'⟩ := bits_tail hq
        have hx := hz x (List.mem_cons_self ..)
        have hz' : ∀ y ∈ zss, U8s y := fun y hy => hz y (List.mem_cons_of_mem _ hy)
        have := ih hz' hp' hq' (by simpa using hl)
        have ex : xors (a :: p) (b :: q) = bx a b :: xors p q := by
          refine list_eq (by simp [xors_len]) fun k hk => ?_
          rw [xors_len] at hk
          rw [xors_getD hk]
          cases k with
          | zero => rfl
          | succ k => rw [getD_cons_succ, getD_cons_succ, getD_cons_succ, xors_getD (by simpa using hk)]
        rw [ex, chosen, chosen, chosen]
        have u := fun (v : List Int) => chosen_mem (zss := zss) (v := v) (p := U8s) hz'
        have g := (xorAll_u8 (u p)).get i
        have g2 := (xorAll_u8 (u q)).get i
        have g3 := (xorAll_u8 (u (xors p q))).get i
        have gx := hx.get i
        rcases (show a = 0 ∨ a = 1 by omega) with rfl | rfl <;> rcases (show b = 0 ∨ b = 1 by omega) with rfl | rfl
        · rw [show bx 0 0 = 0 from rfl]
          simpa using this
        · rw [show bx 0 1 = 1 from rfl]
          simp only [if_true, if_false, show ¬ (0 : Int) = 1 by decide]
          rw [xorAll_cons_getD hx (u _), xorAll_cons_getD hx (u _)]
          generalize (xorAll (chosen zss p)).getD i 0 = A at *
          generalize (xorAll (chosen zss q)).getD i 0 = B at *
          generalize (xorAll (chosen zss (xors p q))).getD i 0 = C at *
          generalize x.getD i 0 = X at *
          rw [bx_comm X B, ← bx_assoc A B X, bx_assoc (bx A B) X, ← bx_assoc X X C, bx_self, zero_bx g3.1, this]
        · rw [show bx 1 0 = 1 from rfl]
          simp only [if_true, if_false, show ¬ (0 : Int) = 1 by decide]
          rw [xorAll_cons_getD hx (u _), xorAll_cons_getD hx (u _)]
          generalize (xorAll (chosen zss p)).getD i 0 = A at *
          generalize (xorAll (chosen zss q)).getD i 0 = B at *
          generalize (xorAll (chosen zss (xors p q))).getD i 0 = C at *
          generalize x.getD i 0 = X at *
          rw [bx_comm X A, bx_assoc A X B, bx_comm X B, ← bx_assoc A B X, bx_assoc (bx A B) X, ← bx_assoc X X C, bx_self, zero_bx g3.1, this]
        · rw [show bx 1 1 = 0 from rfl]
          simp only [if_true, if_false, show ¬ (0 : Int) = 1 by decide]
          rw [xorAll_cons_getD hx (u _), xorAll_cons_getD hx (u _)]
          generalize (xorAll (chosen zss p)).getD i 0 = A at *
          generalize (xorAll (chosen zss q)).getD i 0 = B at *
          generalize (xorAll (chosen zss (xors p q))).getD i 0 = C at *
          generalize x.getD i 0 = X at *
          rw [bx_comm X B, bx_comm X A, bx_assoc A X, bx_comm B X, ← bx_assoc X X B, bx_self, zero_bx g2.1, this]

end Go.Proofs.Ytckhmjdhdoomdaa
