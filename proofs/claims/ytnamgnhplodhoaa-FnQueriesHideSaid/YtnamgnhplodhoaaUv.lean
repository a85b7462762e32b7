/- The varint of a number, and what is read of one. No program. -/
import Derived.Below
namespace Go.Proofs.Ytnamgnhplodhoaa

/-- Groups of seven bits, the least first; all but the last bear 128. -/
def uv (n : Nat) : List Int := if h : 128 ≤ n then ((n % 128 + 128 : Nat) : Int) :: uv (n / 128) else [(n : Int)]
termination_by n

theorem uv_big {n : Nat} (h : 128 ≤ n) : uv n = ((n % 128 + 128 : Nat) : Int) :: uv (n / 128) := by rw [uv]; simp [h]
theorem uv_small {n : Nat} (h : n < 128) : uv n = [(n : Int)] := by rw [uv]; simp [show ¬ 128 ≤ n by omega]

/-- What a call appends for n. -/
def uvz (n : Int) : List Int := if 0 ≤ n ∧ n ≤ 1000000000000 then uv n.toNat else []

theorem uv_len : ∀ (f n : Nat), n < 128 ^ (f + 1) → (uv n).length ≤ f + 1
  | 0, n, h => by rw [uv_small (by simpa using h)]; simp
  | f + 1, n, h => by
    by_cases h1 : 128 ≤ n
    · rw [uv_big h1, List.length_cons]
      have := uv_len f (n / 128) (by
        apply Nat.div_lt_of_lt_mul
        rw [Nat.pow_succ] at h; omega)
      omega
    · rw [uv_small (by omega)]; simp
theorem uvz_len (n : Int) : (uvz n).length ≤ 6 := by
  unfold uvz
  split
  · exact uv_len 5 n.toNat (by omega)
  · simp
theorem uv_pos (n : Nat) : 1 ≤ (uv n).length := by
  by_cases h : 128 ≤ n
  · rw [uv_big h]; simp
  · rw [uv_small (by omega)]; simp
theorem uv_wf (n : Nat) : ∀ z ∈ uv n, 0 ≤ z ∧ z ≤ 255 := by
  induction n using Nat.strongRecOn with
  | ind n ih =>
    intro z hz
    by_cases h : 128 ≤ n
    · rw [uv_big h] at hz
      rcases List.mem_cons.1 hz with rfl | hz
      · omega
      · exact ih (n / 128) (by omega) z hz
    · rw [uv_small (by omega)] at hz
      simp at hz
      omega

/-- The number read of zs from place o on: at place o + k, with n from the places before; f places are left. -/
def rdu (zs : List Int) (o : Nat) : Nat → Nat → Nat → Option (Nat × Nat)
  | 0, _, _ => none
  | f + 1, k, n =>
    if o + k < zs.length then
      let x := (zs.getD (o + k) 0).toNat
      let m := n + x % 128 * 2 ^ (7 * k)
      if x < 128 then (if (x = 0 ∧ 0 < k) ∨ 1000000000000 < m then none else some (m, o + k + 1))
      else rdu zs o f (k + 1) m
    else none

/-- ReadUvarint's answer. -/
def rdv (zs : List Int) (o : Int) : Option (Nat × Nat) := if 0 ≤ o then rdu zs o.toNat 6 0 0 else none

/-- The three results. -/
def rvN (r : Option (Nat × Nat)) : Int := match r with | some (n, _) => (n : Int) | none => 0
def rvE (r : Option (Nat × Nat)) : Int := match r with | some (_, e) => (e : Int) | none => 0
def rvB (r : Option (Nat × Nat)) : Bool := match r with | some _ => true | none => false

theorem rdu_next (zs : List Int) (o f k n : Nat) : rdu zs o (f + 1) k n =
    if o + k < zs.length then (if (zs.getD (o + k) 0).toNat < 128 then (if ((zs.getD (o + k) 0).toNat = 0 ∧ 0 < k) ∨ 1000000000000 < n + (zs.getD (o + k) 0).toNat % 128 * 2 ^ (7 * k) then none else some (n + (zs.getD (o + k) 0).toNat % 128 * 2 ^ (7 * k), o + k + 1))
      else rdu zs o f (k + 1) (n + (zs.getD (o + k) 0).toNat % 128 * 2 ^ (7 * k))) else none := rfl

theorem rdu_bound (zs : List Int) (o : Nat) : ∀ (f k n : Nat) {m e : Nat}, rdu zs o f k n = some (m, e) → m ≤ 1000000000000 ∧ o < e ∧ e ≤ zs.length
  | 0, k, n, m, e, h => by simp [rdu] at h
  | f + 1, k, n, m, e, h => by
    rw [rdu] at h
    by_cases h1 : o + k < zs.length
    · rw [if_pos h1] at h
      dsimp only at h
      split at h
      · split at h
        · cases h
        · rename_i h3
          injection h with h
          injection h with h4 h5
          omega
      · exact rdu_bound zs o f (k + 1) _ h
    · rw [if_neg h1] at h; cases h
theorem rdv_bound {zs : List Int} {o : Int} {m e : Nat} (h : rdv zs o = some (m, e)) : 0 ≤ o ∧ m ≤ 1000000000000 ∧ o.toNat < e ∧ e ≤ zs.length := by
  unfold rdv at h
  by_cases h0 : 0 ≤ o
  · rw [if_pos h0] at h
    exact ⟨h0, rdu_bound _ _ _ _ _ h⟩
  · rw [if_neg h0] at h; cases h

theorem drop_cons {zs rest : List Int} {i : Nat} {a : Int} (h : zs.drop i = a :: rest) : i < zs.length ∧ zs.getD i 0 = a ∧ zs.drop (i + 1) = rest := by
  have hl : i < zs.length := by
    refine Nat.lt_of_not_le fun hn => ?_
    rw [List.drop_eq_nil_of_le hn] at h
    cases h
  rw [List.drop_eq_getElem_cons hl] at h
  injection h with h1 h2
  exact ⟨hl, by simp [List.getD_eq_getElem?_getD, List.getElem?_eq_getElem hl, h1], h2⟩

theorem pow_step (k : Nat) : 2 ^ (7 * (k + 1)) = 128 * 2 ^ (7 * k) := by
  rw [Nat.mul_add, Nat.pow_add, Nat.mul_comm]

/-- A varint that was appended is read back, whatever stands before and behind it. -/
theorem rdu_uv (o : Nat) (suf : List Int) (zs : List Int) : ∀ (f k c m : Nat), m < 128 ^ f → c + m * 2 ^ (7 * k) ≤ 1000000000000 → (0 < k → 0 < m) → zs.drop (o + k) = uv m ++ suf → f + k = 6 →
    rdu zs o f k c = some (c + m * 2 ^ (7 * k), o + k + (uv m).length)
  | 0, k, c, m, hm, hc, hk, hz, hf => by
    have hm0 : m = 0 := by simpa using hm
    have := hk (by omega)
    omega
  | f + 1, k, c, m, hm, hc, hk, hz, hf => by
    rw [rdu]
    by_cases h : 128 ≤ m
    · rw [uv_big h, List.cons_append] at hz
      obtain ⟨h1, h2, h3⟩ := drop_cons hz
      rw [if_pos h1, h2]
      have e1 : ((m % 128 + 128 : Nat) : Int).toNat = m % 128 + 128 := Int.toNat_natCast _
      simp only [e1]
      have e2 : (m % 128 + 128) % 128 = m % 128 := by omega
      have e3 : ¬ (m % 128 + 128 < 128) := by omega
      rw [if_neg e3, e2]
      have e4 : m % 128 * 2 ^ (7 * k) + m / 128 * 2 ^ (7 * (k + 1)) = m * 2 ^ (7 * k) := by
        rw [pow_step, ← Nat.mul_assoc, ← Nat.add_mul]
        congr 1
        omega
      have := rdu_uv o suf zs f (k + 1) (c + m % 128 * 2 ^ (7 * k)) (m / 128) (by
        apply Nat.div_lt_of_lt_mul
        rw [Nat.pow_succ] at hm; omega) (by omega) (fun _ => by omega) (by rw [← Nat.add_assoc]; exact h3) (by omega)
      rw [this, uv_big h, List.length_cons]
      congr 2 <;> omega
    · rw [uv_small (by omega)] at hz ⊢
      obtain ⟨h1, h2, h3⟩ := drop_cons hz
      rw [if_pos h1, h2]
      have e1 : ((m : Nat) : Int).toNat = m := by simp
      have e2 : m % 128 = m := Nat.mod_eq_of_lt (by omega)
      simp only [e1, e2]
      rw [if_pos (by omega), if_neg (by intro h; rcases h with ⟨h, h'⟩ | h; · have := hk h'; omega
                                        · omega)]
      rfl

/-- What is read is the varint of the number that is read. -/
theorem rdu_back (o : Nat) (zs : List Int) (hw : ∀ z ∈ zs, 0 ≤ z ∧ z ≤ 255) : ∀ (f k c : Nat) {r e : Nat}, rdu zs o f k c = some (r, e) →
    ∃ m, r = c + m * 2 ^ (7 * k) ∧ (0 < k → 0 < m) ∧ zs.drop (o + k) = uv m ++ zs.drop e ∧ e = o + k + (uv m).length
  | 0, k, c, r, e, h => by simp [rdu] at h
  | f + 1, k, c, r, e, h => by
    rw [rdu] at h
    by_cases h1 : o + k < zs.length
    · rw [if_pos h1] at h
      have hx : zs.getD (o + k) 0 = zs[o + k] := by simp [List.getD_eq_getElem?_getD, List.getElem?_eq_getElem h1]
      have hxb := hw zs[o + k] (List.getElem_mem h1)
      have hd := List.drop_eq_getElem_cons h1
      obtain ⟨x, hxx⟩ : ∃ x : Nat, zs[o + k] = (x : Int) := ⟨zs[o + k].toNat, by omega⟩
      rw [hxx] at hx hxb hd
      have e1 : ((x : Nat) : Int).toNat = x := by simp
      simp only [hx, e1] at h
      by_cases h2 : x < 128
      · rw [if_pos h2] at h
        split at h
        · cases h
        · rename_i h3
          injection h with h
          injection h with h4 h5
          rw [Nat.mod_eq_of_lt h2] at h4
          refine ⟨x, h4.symm, fun hk => ?_, ?_, ?_⟩
          · refine Nat.pos_of_ne_zero fun h0 => h3 (.inl ⟨h0, hk⟩)
          · rw [hd, uv_small h2, ← h5]; rfl
          · rw [uv_small h2, ← h5]; rfl
      · rw [if_neg h2] at h
        obtain ⟨m, h4, h5, h6, h7⟩ := rdu_back o zs hw f (k + 1) _ h
        have hm := h5 (by omega)
        have hbig : 128 ≤ x % 128 + 128 * m := by omega
        have hu : uv (x % 128 + 128 * m) = (x : Int) :: uv m := by
          rw [uv_big hbig]
          have e2 : (x % 128 + 128 * m) % 128 + 128 = x := by omega
          have e3 : (x % 128 + 128 * m) / 128 = m := by omega
          rw [e2, e3]
        refine ⟨x % 128 + 128 * m, ?_, fun _ => by omega, ?_, ?_⟩
        · rw [h4, pow_step, Nat.add_mul, Nat.add_assoc]
          congr 2
          rw [← Nat.mul_assoc, Nat.mul_comm m 128]
        · rw [hd, hu, List.cons_append]
          rw [← Nat.add_assoc] at h6
          rw [h6]
        · rw [hu, h7, List.length_cons]; omega
    · rw [if_neg h1] at h; cases h

theorem rdv_uvz (zs suf : List Int) (o : Nat) (n : Int) (h0 : 0 ≤ n) (h1 : n ≤ 1000000000000) (hz : zs.drop o = uvz n ++ suf) : rdv zs o = some (n.toNat, o + (uvz n).length) := by
  have e : uvz n = uv n.toNat := by unfold uvz; rw [if_pos ⟨h0, h1⟩]
  rw [e] at hz ⊢
  unfold rdv
  rw [if_pos (by omega)]
  have := rdu_uv o suf zs 6 0 0 n.toNat (by omega) (by simp; omega) (fun h => by omega) hz rfl
  simpa using this
theorem rdv_back {zs : List Int} {o : Int} {r e : Nat} (hw : ∀ z ∈ zs, 0 ≤ z ∧ z ≤ 255) (h : rdv zs o = some (r, e)) : zs.drop o.toNat = uv r ++ zs.drop e ∧ e = o.toNat + (uv r).length := by
  unfold rdv at h
  by_cases h0 : 0 ≤ o
  · rw [if_pos h0] at h
    obtain ⟨m, h1, _, h2, h3⟩ := rdu_back o.toNat zs hw 6 0 0 h
    have e1 : r = m := by simpa using h1
    subst e1
    exact ⟨h2, h3⟩
  · rw [if_neg h0] at h; cases h

end Go.Proofs.Ytnamgnhplodhoaa
