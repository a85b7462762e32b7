/- The 'or' of two numbers of 64 bits, as the model reckons it. No program. The varint of a number, and what is read of one. No program. The exclusive or of bytes and of byte strings. No program. -/
import Derived.Test.YtlbijjifeaimjaaBa1
import Derived.Below

/-! BitOr -/
namespace Go.Proofs.Ytlbijjifeaimjaa
open Go

theorem i64_or (a b : Nat) (ha : a < 9223372036854775808) (hb : b < 9223372036854775808) : bits .or .i64 (a : Int) (b : Int) = ((a ||| b : Nat) : Int) := by
  have e64 : (2 : Nat) ^ 64 = 18446744073709551616 := by decide
  have e1 : (BitVec.ofInt 64 (a : Int)).toNat = a := by
    rw [BitVec.toNat_ofInt]
    have : ((a : Int) % ((2 ^ 64 : Nat) : Int)) = a := by rw [e64]; omega
    rw [this]; rfl
  have e2 : (BitVec.ofInt 64 (b : Int)).toNat = b := by
    rw [BitVec.toNat_ofInt]
    have : ((b : Int) % ((2 ^ 64 : Nat) : Int)) = b := by rw [e64]; omega
    rw [this]; rfl
  show IntKind.i64.wrap ((BitVec.ofInt 64 (a : Int) ||| BitVec.ofInt 64 (b : Int)).toNat : Nat) = _
  rw [BitVec.toNat_or, e1, e2, IntKind.wrap_i64]
  have h : a ||| b < 2 ^ 63 := Nat.or_lt_two_pow (by omega) (by omega)
  omega

theorem or_high {k a b : Nat} (ha : a < 2 ^ k) : a ||| b * 2 ^ k = a + b * 2 ^ k := by
  rw [Nat.or_comm, ← Nat.shiftLeft_eq, ← Nat.shiftLeft_add_eq_or_of_lt ha, Nat.add_comm]

theorem i64_and127 (n : Int) : bits .and .i64 n 127 = n % 128 := i64_mask 7 127 (by decide) (by decide) n
theorem i64_or128 (x : Int) (h0 : 0 ≤ x) (h1 : x < 128) : bits .or .i64 x 128 = x + 128 := by
  obtain ⟨u, rfl⟩ : ∃ u : Nat, x = (u : Int) := ⟨x.toNat, by omega⟩
  have e := or_high (k := 7) (a := u) (b := 1) (by omega)
  have := i64_or u 128 (by omega) (by decide)
  have e2 : u ||| 128 = u + 128 := by simpa using e
  rw [e2] at this
  simpa using this

end Go.Proofs.Ytlbijjifeaimjaa


/-! Uv -/
namespace Go.Proofs.Ytlbijjifeaimjaa

/-- Groups of seven bits, the least first; all but the last bear 128. -/
def uv (n : Nat) : List Int := if h : 128 ≤ n then ((n % 128 + 128 : Nat) : Int) :: uv (n / 128) else [(n : Int)]
termination_by n

theorem uv_big {n : Nat} (h : 128 ≤ n) : uv n = ((n % 128 + 128 : Nat) : Int) :: uv (n / 128) := by rw [uv]; simp [h]
theorem uv_small {n : Nat} (h : n < 128) : uv n = [(n : Int)] := by rw [uv]; simp [show ¬ 128 ≤ n by omega]

/-- What a call appends for n. -/
def uvz (n : Int) : List Int := if 0 ≤ n ∧ n ≤ 1000000000000 then uv n.toNat else []

theorem uv_len : ∀ (f n : Nat), n < 128 ^ (f + 1) → (uv n).length ≤ f + 1
  | 0, n, h => by rw [uv_small (by simpa using h)]; simp
  | f + 1, n, h => by
    by_cases h1 : 128 ≤ n
    · rw [uv_big h1, List.length_cons]
      have := uv_len f (n / 128) (by
        apply Nat.div_lt_of_lt_mul
        rw [Nat.pow_succ] at h; omega)
      omega
    · rw [uv_small (by omega)]; simp
theorem uvz_len (n : Int) : (uvz n).length ≤ 6 := by
  unfold uvz
  split
  · exact uv_len 5 n.toNat (by omega)
  · simp
theorem uv_pos (n : Nat) : 1 ≤ (uv n).length := by
  by_cases h : 128 ≤ n
  · rw [uv_big h]; simp
  · rw [uv_small (by omega)]; simp
theorem uv_wf (n : Nat) : ∀ z ∈ uv n, 0 ≤ z ∧ z ≤ 255 := by
  induction n using Nat.strongRecOn with
  | ind n ih =>
    intro z hz
    by_cases h : 128 ≤ n
    · rw [uv_big h] at hz
      rcases List.mem_cons.1 hz with rfl | hz
      · omega
      · exact ih (n / 128) (by omega) z hz
    · rw [uv_small (by omega)] at hz
      simp at hz
      omega

/-- The number read of zs from place o on: at place o + k, with n from the places before; f places are left. -/
def rdu (zs : List Int) (o : Nat) : Nat → Nat → Nat → Option (Nat × Nat)
  | 0, _, _ => none
  | f + 1, k, n =>
    if o + k < zs.length then
      let x := (zs.getD (o + k) 0).toNat
      let m := n + x % 128 * 2 ^ (7 * k)
      if x < 128 then (if (x = 0 ∧ 0 < k) ∨ 1000000000000 < m then none else some (m, o + k + 1))
      else rdu zs o f (k + 1) m
    else none

/-- ReadUvarint's answer. -/
def rdv (zs : List Int) (o : Int) : Option (Nat × Nat) := if 0 ≤ o then rdu zs o.toNat 6 0 0 else none

/-- The three results. -/
def rvN (r : Option (Nat × Nat)) : Int := match r with | some (n, _) => (n : Int) | none => 0
def rvE (r : Option (Nat × Nat)) : Int := match r with | some (_, e) => (e : Int) | none => 0
def rvB (r : Option (Nat × Nat)) : Bool := match r with | some _ => true | none => false

theorem rdu_next (zs : List Int) (o f k n : Nat) : rdu zs o (f + 1) k n =
    if o + k < zs.length then (if (zs.getD (o + k) 0).toNat < 128 then (if ((zs.getD (o + k) 0).toNat = 0 ∧ 0 < k) ∨ 1000000000000 < n + (zs.getD (o + k) 0).toNat % 128 * 2 ^ (7 * k) then none else some (n + (zs.getD (o + k) 0).toNat % 128 * 2 ^ (7 * k), o + k + 1))
      else rdu zs o f (k + 1) (n + (zs.getD (o + k) 0).toNat % 128 * 2 ^ (7 * k))) else none := rfl

theorem rdu_bound (zs : List Int) (o : Nat) : ∀ (f k n : Nat) {m e : Nat}, rdu zs o f k n = some (m, e) → m ≤ 1000000000000 ∧ o < e ∧ e ≤ zs.length
  | 0, k, n, m, e, h => by simp [rdu] at h
  | f + 1, k, n, m, e, h => by
    rw [rdu] at h
    by_cases h1 : o + k < zs.length
    · rw [if_pos h1] at h
      dsimp only at h
      split at h
      · split at h
        · cases h
        · rename_i h3
          injection h with h
          injection h with h4 h5
          omega
      · exact rdu_bound zs o f (k + 1) _ h
    · rw [if_neg h1] at h; cases h
theorem rdv_bound {zs : List Int} {o : Int} {m e : Nat} (h : rdv zs o = some (m, e)) : 0 ≤ o ∧ m ≤ 1000000000000 ∧ o.toNat < e ∧ e ≤ zs.length := by
  unfold rdv at h
  by_cases h0 : 0 ≤ o
  · rw [if_pos h0] at h
    exact ⟨h0, rdu_bound _ _ _ _ _ h⟩
  · rw [if_neg h0] at h; cases h

theorem drop_cons {zs rest : List Int} {i : Nat} {a : Int} (h : zs.drop i = a :: rest) : i < zs.length ∧ zs.getD i 0 = a ∧ zs.drop (i + 1) = rest := by
  have hl : i < zs.length := by
    refine Nat.lt_of_not_le fun hn => ?_
    rw [List.drop_eq_nil_of_le hn] at h
    cases h
  rw [List.drop_eq_getElem_cons hl] at h
  injection h with h1 h2
  exact ⟨hl, by simp [List.getD_eq_getElem?_getD, List.getElem?_eq_getElem hl, h1], h2⟩

theorem pow_step (k : Nat) : 2 ^ (7 * (k + 1)) = 128 * 2 ^ (7 * k) := by
  rw [Nat.mul_add, Nat.pow_add, Nat.mul_comm]

/-- A varint that was appended is read back, whatever stands before and behind it. -/
theorem rdu_uv (o : Nat) (suf : List Int) (zs : List Int) : ∀ (f k c m : Nat), m < 128 ^ f → c + m * 2 ^ (7 * k) ≤ 1000000000000 → (0 < k → 0 < m) → zs.drop (o + k) = uv m ++ suf → f + k = 6 →
    rdu zs o f k c = some (c + m * 2 ^ (7 * k), o + k + (uv m).length)
  | 0, k, c, m, hm, hc, hk, hz, hf => by
    have hm0 : m = 0 := by simpa using hm
    have := hk (by omega)
    omega
  | f + 1, k, c, m, hm, hc, hk, hz, hf => by
    rw [rdu]
    by_cases h : 128 ≤ m
    · rw [uv_big h, List.cons_append] at hz
      obtain ⟨h1, h2, h3⟩ := drop_cons hz
      rw [if_pos h1, h2]
      have e1 : ((m % 128 + 128 : Nat) : Int).toNat = m % 128 + 128 := Int.toNat_natCast _
      simp only [e1]
      have e2 : (m % 128 + 128) % 128 = m % 128 := by omega
      have e3 : ¬ (m % 128 + 128 < 128) := by omega
      rw [if_neg e3, e2]
      have e4 : m % 128 * 2 ^ (7 * k) + m / 128 * 2 ^ (7 * (k + 1)) = m * 2 ^ (7 * k) := by
        rw [pow_step, ← Nat.mul_assoc, ← Nat.add_mul]
        congr 1
        omega
      have := rdu_uv o suf zs f (k + 1) (c + m % 128 * 2 ^ (7 * k)) (m / 128) (by
        apply Nat.div_lt_of_lt_mul
        rw [Nat.pow_succ] at hm; omega) (by omega) (fun _ => by omega) (by rw [← Nat.add_assoc]; exact h3) (by omega)
      rw [this, uv_big h, List.length_cons]
      congr 2 <;> omega
    · rw [uv_small (by omega)] at hz ⊢
      obtain ⟨h1, h2, h3⟩ := drop_cons hz
      rw [if_pos h1, h2]
      have e1 : ((m : Nat) : Int).toNat = m := by simp
      have e2 : m % 128 = m := Nat.mod_eq_of_lt (by omega)
      simp only [e1, e2]
      rw [if_pos (by omega), if_neg (by intro h; rcases h with ⟨h, h'⟩ | h; · have := hk h'; omega
                                        · omega)]
      rfl

/-- What is read is the varint of the number that is read. -/
theorem rdu_back (o : Nat) (zs : List Int) (hw : ∀ z ∈ zs, 0 ≤ z ∧ z ≤ 255) : ∀ (f k c : Nat) {r e : Nat}, rdu zs o f k c = some (r, e) →
    ∃ m, r = c + m * 2 ^ (7 * k) ∧ (0 < k → 0 < m) ∧ zs.drop (o + k) = uv m ++ zs.drop e ∧ e = o + k + (uv m).length
  | 0, k, c, r, e, h => by simp [rdu] at h
  | f + 1, k, c, r, e, h => by
    rw [rdu] at h
    by_cases h1 : o + k < zs.length
    · rw [if_pos h1] at h
      have hx : zs.getD (o + k) 0 = zs[o + k] := by simp [List.getD_eq_getElem?_getD, List.getElem?_eq_getElem h1]
      have hxb := hw zs[o + k] (List.getElem_mem h1)
      have hd := List.drop_eq_getElem_cons h1
      obtain ⟨x, hxx⟩ : ∃ x : Nat, zs[o + k] = (x : Int) := ⟨zs[o + k].toNat, by omega⟩
      rw [hxx] at hx hxb hd
      have e1 : ((x : Nat) : Int).toNat = x := by simp
      simp only [hx, e1] at h
      by_cases h2 : x < 128
      · rw [if_pos h2] at h
        split at h
        · cases h
        · rename_i h3
          injection h with h
          injection h with h4 h5
          rw [Nat.mod_eq_of_lt h2] at h4
          refine ⟨x, h4.symm, fun hk => ?_, ?_, ?_⟩
          · refine Nat.pos_of_ne_zero fun h0 => h3 (.inl ⟨h0, hk⟩)
          · rw [hd, uv_small h2, ← h5]; rfl
          · rw [uv_small h2, ← h5]; rfl
      · rw [if_neg h2] at h
        obtain ⟨m, h4, h5, h6, h7⟩ := rdu_back o zs hw f (k + 1) _ h
        have hm := h5 (by omega)
        have hbig : 128 ≤ x % 128 + 128 * m := by omega
        have hu : uv (x % 128 + 128 * m) = (x : Int) :: uv m := by
          rw [uv_big hbig]
          have e2 : (x % 128 + 128 * m) % 128 + 128 = x := by omega
          have e3 : (x % 128 + 128 * m) / 128 = m := by omega
          rw [e2, e3]
        refine ⟨x % 128 + 128 * m, ?_, fun _ => by omega, ?_, ?_⟩
        · rw [h4, pow_step, Nat.add_mul, Nat.add_assoc]
          congr 2
          rw [← Nat.mul_assoc, Nat.mul_comm m 128]
        · rw [hd, hu, List.cons_append]
          rw [← Nat.add_assoc] at h6
          rw [h6]
        · rw [hu, h7, List.length_cons]; omega
    · rw [if_neg h1] at h; cases h

theorem rdv_uvz (zs suf : List Int) (o : Nat) (n : Int) (h0 : 0 ≤ n) (h1 : n ≤ 1000000000000) (hz : zs.drop o = uvz n ++ suf) : rdv zs o = some (n.toNat, o + (uvz n).length) := by
  have e : uvz n = uv n.toNat := by unfold uvz; rw [if_pos ⟨h0, h1⟩]
  rw [e] at hz ⊢
  unfold rdv
  rw [if_pos (by omega)]
  have := rdu_uv o suf zs 6 0 0 n.toNat (by omega) (by simp; omega) (fun h => by omega) hz rfl
  simpa using this
theorem rdv_back {zs : List Int} {o : Int} {r e : Nat} (hw : ∀ z ∈ zs, 0 ≤ z ∧ z ≤ 255) (h : rdv zs o = some (r, e)) : zs.drop o.toNat = uv r ++ zs.drop e ∧ e = o.toNat + (uv r).length := by
  unfold rdv at h
  by_cases h0 : 0 ≤ o
  · rw [if_pos h0] at h
    obtain ⟨m, h1, _, h2, h3⟩ := rdu_back o.toNat zs hw 6 0 0 h
    have e1 : r = m := by simpa using h1
    subst e1
    exact ⟨h2, h3⟩
  · rw [if_neg h0] at h; cases h

end Go.Proofs.Ytlbijjifeaimjaa


/-! XorN -/
namespace Go.Proofs.Ytlbijjifeaimjaa
open Go Go.RowKit
set_option linter.unusedVariables false

/-- The exclusive or of two bytes. -/
def bx (x y : Int) : Int := ((x.toNat ^^^ y.toNat : Nat) : Int)

theorem u8_xor {x y : Int} (hx : 0 ≤ x ∧ x ≤ 255) (hy : 0 ≤ y ∧ y ≤ 255) : bits .xor .u8 x y = bx x y := by
  obtain ⟨a, rfl⟩ : ∃ a : Nat, x = (a : Int) := ⟨x.toNat, by omega⟩
  obtain ⟨b, rfl⟩ : ∃ b : Nat, y = (b : Int) := ⟨y.toNat, by omega⟩
  have e8 : (2 : Nat) ^ 8 = 256 := by decide
  have e1 : (BitVec.ofInt 8 (a : Int)).toNat = a := by
    rw [BitVec.toNat_ofInt]
    have : ((a : Int) % ((2 ^ 8 : Nat) : Int)) = a := by rw [e8]; omega
    rw [this]; rfl
  have e2 : (BitVec.ofInt 8 (b : Int)).toNat = b := by
    rw [BitVec.toNat_ofInt]
    have : ((b : Int) % ((2 ^ 8 : Nat) : Int)) = b := by rw [e8]; omega
    rw [this]; rfl
  show IntKind.u8.wrap ((BitVec.ofInt 8 (a : Int) ^^^ BitVec.ofInt 8 (b : Int)).toNat : Nat) = _
  rw [BitVec.toNat_xor, e1, e2]
  have h : a ^^^ b < 2 ^ 8 := Nat.xor_lt_two_pow (by omega) (by omega)
  unfold bx
  rw [Int.toNat_natCast, Int.toNat_natCast]
  generalize a ^^^ b = c at h
  have : IntKind.u8.wrap (c : Int) = (c : Int) % 256 := by unfold IntKind.wrap; rfl
  rw [this]; omega

theorem bx_bound {x y : Int} (hx : 0 ≤ x ∧ x ≤ 255) (hy : 0 ≤ y ∧ y ≤ 255) : 0 ≤ bx x y ∧ bx x y ≤ 255 := by
  have h : x.toNat ^^^ y.toNat < 2 ^ 8 := Nat.xor_lt_two_pow (by omega) (by omega)
  unfold bx
  omega
theorem bx_comm (x y : Int) : bx x y = bx y x := by unfold bx; rw [Nat.xor_comm]
theorem bx_zero {x : Int} (hx : 0 ≤ x) : bx x 0 = x := by unfold bx; simp; omega
theorem zero_bx {x : Int} (hx : 0 ≤ x) : bx 0 x = x := by rw [bx_comm, bx_zero hx]
theorem bx_self (x : Int) : bx x x = 0 := by unfold bx; simp
theorem bx_assoc (x y z : Int) : bx (bx x y) z = bx x (bx y z) := by unfold bx; rw [Int.toNat_natCast, Int.toNat_natCast, Nat.xor_assoc]
theorem bx_bx {x : Int} (hx : 0 ≤ x) (y : Int) : bx (bx x y) y = x := by rw [bx_assoc, bx_self, bx_zero hx]

/-- All are bytes. -/
def U8s (xs : List Int) : Prop := ∀ z ∈ xs, (Lit.int .u8 z).wf = true
theorem U8s.get {xs : List Int} (h : U8s xs) (i : Nat) : 0 ≤ xs.getD i 0 ∧ xs.getD i 0 ≤ 255 := by
  by_cases hi : i < xs.length
  · refine wf_u8 (h _ ?_)
    rw [List.getD_eq_getElem?_getD, List.getElem?_eq_getElem hi]; simp
  · rw [List.getD_eq_getElem?_getD, List.getElem?_eq_none (by omega)]; simp

/-- The exclusive or of two byte strings: as long as the longer one. -/
def xorl (xs ys : List Int) : List Int := (List.range (max xs.length ys.length)).map fun i => bx (xs.getD i 0) (ys.getD i 0)

theorem xorl_len (xs ys : List Int) : (xorl xs ys).length = max xs.length ys.length := by simp [xorl]
theorem xorl_len_le (xs ys : List Int) : (xorl xs ys).length ≤ xs.length + ys.length := by rw [xorl_len]; omega
theorem xorl_get (xs ys : List Int) {i : Nat} (hi : i < max xs.length ys.length) : (xorl xs ys)[i]? = some (bx (xs.getD i 0) (ys.getD i 0)) := by
  simp [xorl, hi]
theorem xorl_getD {xs ys : List Int} (i : Nat) : (xorl xs ys).getD i 0 = bx (xs.getD i 0) (ys.getD i 0) := by
  by_cases hi : i < max xs.length ys.length
  · rw [List.getD_eq_getElem?_getD, xorl_get xs ys hi]; rfl
  · have e1 : xs.getD i 0 = 0 := by rw [List.getD_eq_getElem?_getD, List.getElem?_eq_none (by omega)]; rfl
    have e2 : ys.getD i 0 = 0 := by rw [List.getD_eq_getElem?_getD, List.getElem?_eq_none (by omega)]; rfl
    have e3 : (xorl xs ys).getD i 0 = 0 := by rw [List.getD_eq_getElem?_getD, List.getElem?_eq_none (by rw [xorl_len]; omega)]; rfl
    rw [e1, e2, e3, bx_self]
theorem xorl_u8 {xs ys : List Int} (hx : U8s xs) (hy : U8s ys) : U8s (xorl xs ys) := by
  intro z hz
  obtain ⟨i, _, rfl⟩ := List.mem_map.1 hz
  have := bx_bound (hx.get i) (hy.get i)
  exact wf_u8_of this.1 this.2
theorem xorl_take_succ (xs ys : List Int) {j : Nat} (hj : j < max xs.length ys.length) : (xorl xs ys).take j ++ [bx (xs.getD j 0) (ys.getD j 0)] = (xorl xs ys).take (j + 1) := by
  rw [List.take_add_one, xorl_get xs ys hj]; rfl
/-- Two lists that agree in length and at every place. -/
theorem list_eq {xs ys : List Int} (hl : xs.length = ys.length) (h : ∀ i, i < xs.length → xs.getD i 0 = ys.getD i 0) : xs = ys := by
  refine List.ext_getElem hl fun i h1 h2 => ?_
  have := h i h1
  simpa [List.getD_eq_getElem?_getD, List.getElem?_eq_getElem h1, List.getElem?_eq_getElem h2] using this
theorem xorl_comm (xs ys : List Int) : xorl xs ys = xorl ys xs := by
  refine list_eq (by rw [xorl_len, xorl_len, Nat.max_comm]) fun i _ => ?_
  rw [xorl_getD, xorl_getD, bx_comm]
theorem xorl_nil {ys : List Int} (hy : U8s ys) : xorl [] ys = ys := by
  refine list_eq (by rw [xorl_len]; simp) fun i _ => ?_
  rw [xorl_getD]
  exact zero_bx (hy.get i).1
/-- What an exclusive or in place leaves, and what is appended to it. -/
theorem getD_out {xs : List Int} {i : Nat} (h : xs.length ≤ i) : xs.getD i 0 = 0 := by rw [List.getD_eq_getElem?_getD, List.getElem?_eq_none h]; rfl
theorem xorl_parts {xs ys : List Int} (hx : U8s xs) (hy : U8s ys) {c : Nat} (hc : c = min xs.length ys.length) :
    upt (fun i => bx (xs.getD i 0) (ys.getD i 0)) (fun i => xs.getD i 0) c xs.length ++ ys.drop c = xorl xs ys := by
  refine list_eq (by rw [xorl_len, List.length_append, upt_length, List.length_drop]; omega) fun i hi => ?_
  rw [List.length_append, upt_length, List.length_drop] at hi
  rw [xorl_getD, List.getD_eq_getElem?_getD]
  by_cases h1 : i < xs.length
  · rw [List.getElem?_append_left (by rw [upt_length]; exact h1), upt_get _ _ _ _ _ h1]
    by_cases h2 : i < c
    · rw [if_pos h2]; rfl
    · rw [if_neg h2, getD_out (xs := ys) (by omega), bx_zero (hx.get i).1]; rfl
  · rw [List.getElem?_append_right (by rw [upt_length]; omega), upt_length, List.getElem?_drop, show c + (i - xs.length) = i by omega, getD_out (xs := xs) (by omega), zero_bx (hy.get i).1]
    rfl
theorem Own.u8s {e : TypeId} {B : Nat} {w : World} {v : Value} {zs : List Int} (h : Own e .u8 B w v zs) : U8s zs := h.1
theorem Rd.u8s {l : Nat} {w : World} {v : Value} {zs : List Int} (h : Rd l .u8 w v zs) : U8s zs := h.1
/-- The exclusive or of all. -/
def xorAll (zss : List (List Int)) : List Int := zss.foldl xorl []
theorem xorAll_snoc (l : List (List Int)) (z : List Int) : xorAll (l ++ [z]) = xorl (xorAll l) z := by simp [xorAll, List.foldl_append]
theorem xorAll_nil : xorAll [] = [] := rfl

end Go.Proofs.Ytlbijjifeaimjaa
