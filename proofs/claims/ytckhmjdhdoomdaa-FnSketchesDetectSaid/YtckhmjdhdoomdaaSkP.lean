/- Checks of writes: the sums of the shares are those of the vector; a vector with one nonzero component is accepted; one with two is accepted by equal challenges alone. No program. -/
import Derived.Test.YtckhmjdhdoomdaaSkN
import Derived.KernelRfl
namespace Go.Proofs.Ytckhmjdhdoomdaa
open Go Go.RowKit
set_option linter.unusedVariables false
attribute [local irreducible] kh kid

theorem mm (x y : Int) : x * (y % 1019) % 1019 = x * y % 1019 := by rw [Int.mul_emod, Int.emod_emod, ← Int.mul_emod]
theorem mm2 (x y : Int) : (x % 1019) * (y % 1019) % 1019 = x * y % 1019 := by rw [← Int.mul_emod]

/-! ### Sums of shares -/

/-- A sum of so many numbers modulo 1019. -/
def ms (f : Nat → Int) : Nat → Int
  | 0 => 0
  | K + 1 => (ms f K + f K) % 1019
theorem ms_succ (f : Nat → Int) (K : Nat) : ms f (K + 1) = (ms f K + f K) % 1019 := rfl
theorem ms_congr {f g : Nat → Int} {K : Nat} (h : ∀ k, k < K → f k = g k) : ms f K = ms g K := by
  induction K with
  | zero => rfl
  | succ K ih => rw [ms_succ, ms_succ, ih (fun k hk => h k (by omega)), h K (by omega)]
theorem ms_add (f g : Nat → Int) (K : Nat) : ms (fun k => (f k + g k) % 1019) K = (ms f K + ms g K) % 1019 := by
  induction K with
  | zero => rfl
  | succ K ih => rw [ms_succ, ms_succ, ms_succ, ih]; omega
theorem ms_mul (c : Int) (g : Nat → Int) (K : Nat) : ms (fun k => c * g k) K = c * ms g K % 1019 := by
  induction K with
  | zero => rw [show ms g 0 = 0 from rfl, Int.mul_zero]; rfl
  | succ K ih =>
    rw [ms_succ, ms_succ, ih, mm, Int.mul_add]
    generalize c * ms g K = p
    generalize c * g K = q
    omega
theorem ms_getD (l : List Int) (j : Nat) (hj : j ≤ l.length) : ms (fun k => l.getD k 0) j = (l.take j).sum % 1019 := by
  induction j with
  | zero => simp [ms]
  | succ j ih =>
    rw [ms_succ, ih (by omega), List.take_add_one, List.getElem?_eq_getElem (by omega), List.sum_append]
    have : l.getD j 0 = l[j] := by rw [List.getD_eq_getElem?_getD, List.getElem?_eq_getElem (by omega)]; rfl
    rw [this]
    simp only [Option.toList_some, List.sum_cons, List.sum_nil]
    omega
theorem ms_shN {x : Int} {s : List Int} (h : 1 ≤ s.length ∧ s.length ≤ 3) : ms (fun k => (shN x s).getD k 0) (s.length + 1) = x % 1019 := by
  have hl := shN_len_yes (x := x) h
  rw [ms_getD _ _ (by omega), List.take_of_length_le (by omega), shN_yes h, List.sum_append]
  unfold lastN
  rw [List.take_of_length_le (by rw [fes_len]; exact Nat.le_refl _)]
  simp only [List.sum_cons, List.sum_nil]
  omega
section
variable {v s : List Int} (h : v.length ≤ 64 ∧ 1 ≤ s.length ∧ s.length ≤ 3)
include h
theorem vrow_sums (r : Nat → Int) {j : Nat} (hj : j ≤ v.length) : ms (fun k => wS r (vrow v s k v.length) j) (s.length + 1) = wS r v j := by
  induction j with
  | zero =>
    show ms (fun _ => 0) _ = 0
    generalize s.length + 1 = K
    induction K with
    | zero => rfl
    | succ K ih => rw [ms_succ, ih]; rfl
  | succ j ih =>
    show ms (fun k => (wS r (vrow v s k v.length) j + r j * (vrow v s k v.length).getD j 0) % 1019) _ = (wS r v j + r j * v.getD j 0) % 1019
    rw [ms_add, ih (by omega), ms_mul]
    have e : ms (fun k => (vrow v s k v.length).getD j 0) (s.length + 1) = v.getD j 0 % 1019 := by
      have := ms_shN (x := v.getD j 0) (s := sds s j) (by rw [sds_len]; exact h.2)
      rw [sds_len] at this
      rw [← this]
      exact ms_congr fun k _ => vrow_at (by omega)
    rw [e, mm]
    generalize r j * v.getD j 0 = q
    omega
theorem shN_getD_bound (x : Int) {i k : Nat} (hk : k < s.length + 1) : 0 ≤ (shN x (sds s i)).getD k 0 ∧ (shN x (sds s i)).getD k 0 ≤ 1018 := by
  have h' : 1 ≤ (sds s i).length ∧ (sds s i).length ≤ 3 := by rw [sds_len]; exact h.2
  by_cases hk' : k < s.length
  · rw [shN_at h' (by rw [sds_len]; exact hk')]; omega
  · have : k = (sds s i).length := by rw [sds_len]; omega
    rw [this, shN_last h']
    exact lastN_bound _ _ _
theorem vrow_fvec {k : Nat} (hk : k < s.length + 1) : fvec (vrow v s k v.length) = true := by
  refine fvec_iff.2 ⟨by rw [vrow_len]; exact h.1, fun i hi => ?_⟩
  rw [vrow_len] at hi
  rw [vrow_at hi]
  exact shN_getD_bound h _ hk
theorem shV_allF : allF (shV v s) = true := by
  refine allF_iff.2 fun k hk => ?_
  rw [shV_len h] at hk
  rw [shV_at h hk]
  exact vrow_fvec h hk
theorem shV_same : same (shV v s) = true := by
  refine decide_eq_true fun k hk => ?_
  rw [shV_len h] at hk
  rw [shV_at h hk, shV_at h (by omega), vrow_len, vrow_len]
theorem shV_in : inR ((shV v s).length : Int) 2 4 = true := by rw [shV_len h]; exact inR_yes (by omega)
theorem jS_rows (f : List Int → Int) (r : Nat → Int) (hf : ∀ k, k < s.length + 1 → f (vrow v s k v.length) = wS r (vrow v s k v.length) v.length) : jS f (shV v s) (shV v s).length = wS r v v.length := by
  rw [← vrow_sums h r (Nat.le_refl _), shV_len h]
  suffices hh : ∀ K, K ≤ s.length + 1 → jS f (shV v s) K = ms (fun k => wS r (vrow v s k v.length) v.length) K from hh _ (Nat.le_refl _)
  intro K
  induction K with
  | zero => intro _; rfl
  | succ K ih =>
    intro hK
    show (jS f (shV v s) K + f ((shV v s).getD K [])) % 1019 = _
    rw [ih (by omega), shV_at h (by omega), hf K (by omega)]
    rfl
theorem join_sums (hv : fvec v = true) (c : Int) : tA c (shV v s) = kA c v ∧ tB c (shV v s) = kB c v ∧ tM (shV v s) = kM v := by
  refine ⟨?_, ?_, ?_⟩
  · unfold kA; rw [if_pos hv]
    exact jS_rows h _ _ fun k hk => by unfold kA; rw [if_pos (vrow_fvec h hk), vrow_len]; rfl
  · unfold kB; rw [if_pos hv]
    exact jS_rows h _ _ fun k hk => by unfold kB; rw [if_pos (vrow_fvec h hk), vrow_len]; rfl
  · unfold kM; rw [if_pos hv]
    exact jS_rows h _ _ fun k hk => by unfold kM; rw [if_pos (vrow_fvec h hk), vrow_len]; rfl
end

/-! ### One or two nonzero components -/

/-- x at place i, y at place k, zero elsewhere. -/
def Two (v : List Int) (i k : Nat) (x y : Int) : Prop := ∀ j, v.getD j 0 = if j = i then x else if j = k then y else 0
theorem wS_two {v : List Int} {i k : Nat} {x y : Int} (h : Two v i k x y) (hik : i ≠ k) (r : Nat → Int) (j : Nat) :
    wS r v j = ((if i < j then r i * x else 0) + (if k < j then r k * y else 0)) % 1019 := by
  induction j with
  | zero => rfl
  | succ j ih =>
    show (wS r v j + r j * v.getD j 0) % 1019 = _
    rw [ih, h j]
    by_cases h1 : j = i
    · subst h1
      rw [if_pos rfl, if_neg (Nat.lt_irrefl _), if_pos (Nat.lt_succ_self _)]
      by_cases h2 : k < j
      · rw [if_pos h2, if_pos (by omega)]
        generalize r j * x = p
        generalize r k * y = q
        omega
      · rw [if_neg h2, if_neg (by omega)]
        generalize r j * x = p
        omega
    · rw [if_neg h1]
      by_cases h2 : j = k
      · subst h2
        rw [if_pos rfl, if_neg (Nat.lt_irrefl j), if_pos (Nat.lt_succ_self j)]
        by_cases h3 : i < j
        · rw [if_pos h3, if_pos (by omega)]
          generalize r j * y = p
          generalize r i * x = q
          omega
        · rw [if_neg h3, if_neg (by omega)]
          generalize r j * y = p
          omega
      · rw [if_neg h2, Int.mul_zero, Int.add_zero, Int.emod_emod]
        have e1 : (i < j + 1) = (i < j) := propext ⟨fun _ => by omega, fun _ => by omega⟩
        have e2 : (k < j + 1) = (k < j) := propext ⟨fun _ => by omega, fun _ => by omega⟩
        simp only [e1, e2]
theorem two_fvec {v : List Int} {i k : Nat} {x y : Int} (h : Two v i k x y) (hl : v.length ≤ 64) (hx : 0 ≤ x ∧ x ≤ 1018) (hy : 0 ≤ y ∧ y ≤ 1018) : fvec v = true := by
  refine fvec_iff.2 ⟨hl, fun j _ => ?_⟩
  rw [h j]
  split
  · exact hx
  · split
    · exact hy
    · omega
section
variable {v : List Int} {i k : Nat} {x y : Int} (h : Two v i k x y) (hik : i ≠ k) (hi : i < v.length) (hl : v.length ≤ 64) (hx : 0 ≤ x ∧ x ≤ 1018) (hy : 0 ≤ y ∧ y ≤ 1018)
include h hik hi hl hx hy
theorem k_two (hk : k < v.length) (c : Int) : kA c v = (chal c i * x + chal c k * y) % 1019 ∧ kB c v = (chal c i * chal c i * x + chal c k * chal c k * y) % 1019 ∧ kM v = (x + y) % 1019 := by
  have hf := two_fvec h hl hx hy
  unfold kA kB kM
  rw [if_pos hf, if_pos hf, if_pos hf]
  unfold sA sB sM
  rw [wS_two h hik, wS_two h hik, wS_two h hik]
  simp only [if_pos hi, if_pos hk, Int.one_mul, and_self]
theorem k_one (hy0 : y = 0) (c : Int) : kA c v = (chal c i * x) % 1019 ∧ kB c v = (chal c i * chal c i * x) % 1019 ∧ kM v = x % 1019 := by
  have hf := two_fvec h hl hx hy
  unfold kA kB kM
  rw [if_pos hf, if_pos hf, if_pos hf]
  unfold sA sB sM
  rw [wS_two h hik, wS_two h hik, wS_two h hik]
  subst hy0
  simp only [if_pos hi, Int.one_mul, Int.mul_zero, ite_self, Int.add_zero, and_self]
theorem acc_one (hy0 : y = 0) (c : Int) : acc (kA c v) (kB c v) (kM v) = true := by
  obtain ⟨e1, e2, e3⟩ := k_one h hik hi hl hx hy hy0 c
  rw [e1, e2, e3]
  unfold acc
  rw [beq_iff_eq]
  simp only [Int.emod_emod, mm2]
  congr 1
  generalize chal c i = r
  simp only [Int.mul_comm, Int.mul_left_comm]
end

def copr : Nat → Bool
  | 0 => true
  | n + 1 => cond (Nat.beq (Nat.gcd 1019 (Nat.succ n)) 1) (copr n) false
theorem copr_all : copr 1018 = true := by kernel_rfl
theorem copr_of {n x : Nat} (h : copr n = true) (h0 : 0 < x) (hx : x ≤ n) : Nat.gcd 1019 x = 1 := by
  induction n with
  | zero => omega
  | succ n ih =>
    rw [copr] at h
    cases hb : Nat.beq (Nat.gcd 1019 (Nat.succ n)) 1 with
    | false => rw [hb] at h; cases h
    | true =>
      rw [hb] at h
      by_cases hn : x = n + 1
      · rw [hn]; exact Nat.eq_of_beq_eq_true hb
      · exact ih h (by omega)
theorem dvd_small {x m : Nat} (h : 1019 ∣ x * m) (h0 : 0 < x) (hx : x ≤ 1018) : 1019 ∣ m := Nat.Coprime.dvd_of_dvd_mul_left (copr_of copr_all h0 hx) h
theorem sq_key (r q x y : Int) : (r * r * x + q * q * y) * (x + y) - (r * x + q * y) * (r * x + q * y) = x * (y * ((r - q) * (r - q))) := by grind
theorem two_acc {r q x y : Int} (hx : 1 ≤ x ∧ x ≤ 1018) (hy : 1 ≤ y ∧ y ≤ 1018) (hr : 1 ≤ r ∧ r ≤ 1018) (hq : 1 ≤ q ∧ q ≤ 1018)
    (h : acc ((r * x + q * y) % 1019) ((r * r * x + q * q * y) % 1019) ((x + y) % 1019) = true) : r = q := by
  unfold acc at h
  rw [beq_iff_eq] at h
  simp only [Int.emod_emod, mm2] at h
  have h1 : (1019 : Int) ∣ x * (y * ((r - q) * (r - q))) := by
    rw [← sq_key]
    exact Int.dvd_of_emod_eq_zero (by rw [Int.sub_emod, h, Int.sub_self]; rfl)
  have h2 : 1019 ∣ x.natAbs * (y.natAbs * ((r - q).natAbs * (r - q).natAbs)) := by
    have := Int.natAbs_dvd_natAbs.2 h1
    rw [Int.natAbs_mul, Int.natAbs_mul, Int.natAbs_mul] at this
    exact this
  have h3 := dvd_small h2 (by omega) (by omega)
  have h4 := dvd_small h3 (by omega) (by omega)
  by_cases hd : (r - q).natAbs = 0
  · omega
  · have h5 := dvd_small h4 (by omega) (by omega)
    have := Nat.le_of_dvd (by omega) h5
    omega

/-! ### How many seeds -/

theorem cnA_all {v : List Int} {f : Int} {n : Nat} (h : ∀ c, acc (kA c v) (kB c v) (kM v) = true) : cnA v f n = n := by
  induction n with
  | zero => rfl
  | succ n ih => rw [cnA, ih, if_pos (h _)]
theorem cnA_few {v : List Int} {f : Int} {n : Nat} (h : ∀ i j, i < j → j < n → acc (kA (wrap64 (f + (i : Int))) v) (kB (wrap64 (f + (i : Int))) v) (kM v) = true → acc (kA (wrap64 (f + (j : Int))) v) (kB (wrap64 (f + (j : Int))) v) (kM v) = true → False) : cnA v f n ≤ 1 := by
  suffices hs : ∀ m, m ≤ n → cnA v f m ≤ 1 ∧ (cnA v f m ≠ 0 → ∃ i, i < m ∧ acc (kA (wrap64 (f + (i : Int))) v) (kB (wrap64 (f + (i : Int))) v) (kM v) = true) from (hs n (Nat.le_refl _)).1
  intro m
  induction m with
  | zero => intro _; exact ⟨Nat.zero_le _, fun e => absurd rfl e⟩
  | succ m ih =>
    intro hm
    obtain ⟨h1, h2⟩ := ih (by omega)
    rw [cnA]
    by_cases ha : acc (kA (wrap64 (f + (m : Int))) v) (kB (wrap64 (f + (m : Int))) v) (kM v) = true
    · rw [if_pos ha]
      by_cases hz : cnA v f m = 0
      · rw [hz]; exact ⟨Nat.le_refl _, fun _ => ⟨m, by omega, ha⟩⟩
      · obtain ⟨i, hi, hai⟩ := h2 hz
        exact absurd (h i m hi (by omega) hai ha) id
    · rw [if_neg ha]
      exact ⟨h1, fun e => by obtain ⟨i, hi, hai⟩ := h2 e; exact ⟨i, by omega, hai⟩⟩

end Go.Proofs.Ytckhmjdhdoomdaa
