/- Shares as lists: of byte strings and of numbers. No program. -/
import Derived.Test.YtlhpjfhglkngfaaDoorBcX
import Derived.Test.YtlhpjfhglkngfaaDoorBbR
namespace Go.Proofs.YtlhpjfhglkngfaaDoor
open Go Go.RowKit
set_option linter.unusedVariables false
attribute [local irreducible] kh

theorem xorl_assoc (xs ys zs : List Int) : xorl (xorl xs ys) zs = xorl xs (xorl ys zs) := by
  refine list_eq (by simp only [xorl_len]; omega) fun i _ => ?_
  simp only [xorl_getD, bx_assoc]
theorem xorl_right (xs ys zs : List Int) : xorl (xorl xs ys) zs = xorl (xorl xs zs) ys := by rw [xorl_assoc, xorl_comm ys zs, ← xorl_assoc]

/-! ### Byte strings -/

/-- The streams of the seeds. -/
def strs (n : Int) (s : List Int) : List (List Int) := s.map fun x => strm x n
theorem strs_len (n : Int) (s : List Int) : (strs n s).length = s.length := by simp [strs]
theorem strs_get {n : Int} {s : List Int} {j : Nat} (hj : j < s.length) : (strs n s)[j]? = some (strm (s.getD j 0) n) := by
  simp [strs, List.getElem?_map, List.getD_eq_getElem?_getD, List.getElem?_eq_getElem hj]
theorem strs_fl (n : Int) (s : List Int) : fl (strs n s) ≤ 400 * s.length := by
  induction s with
  | nil => simp [strs, fl_nil]
  | cons x s ih =>
    have h1 := strm_len x n
    have e : strs n (x :: s) = strm x n :: strs n s := rfl
    rw [e, fl_cons, List.length_cons]
    omega
theorem strs_tot (n : Int) (s : List Int) : tot (strs n s) ≤ 401 * s.length := by
  have := strs_fl n s
  unfold tot
  rw [strs_len]; omega
theorem strm_u8 (s n : Int) : U8s (strm s n) := by
  unfold strm
  split
  · intro z hz
    obtain ⟨i, _, rfl⟩ := List.mem_map.1 hz
    exact sbyte_wf _ _
  · intro z hz; cases hz
theorem strm_len_eq (s : Int) {n : Nat} (hn : n ≤ 400) : (strm s (n : Int)).length = n := by
  unfold strm
  rw [if_pos (inR_yes (by omega))]
  simp

/-- The last share. -/
def lastB (b s : List Int) : List Int := xorl (xorAll (strs b.length s)) b
/-- The last share, with the first j streams alone. -/
def lastTo (b s : List Int) (j : Nat) : List Int := xorl (xorAll ((strs b.length s).take j)) b
theorem lastTo_zero {b s : List Int} (hb : U8s b) : lastTo b s 0 = b := by unfold lastTo; rw [List.take_zero, xorAll_nil, xorl_nil hb]
theorem lastTo_succ {b s : List Int} {j : Nat} (hj : j < s.length) : xorl (lastTo b s j) (strm (s.getD j 0) b.length) = lastTo b s (j + 1) := by
  unfold lastTo
  rw [xorl_right, xorAll_take (strs_get hj)]
theorem lastTo_full (b s : List Int) : lastTo b s s.length = lastB b s := by unfold lastTo lastB; rw [List.take_of_length_le (by rw [strs_len]; exact Nat.le_refl _)]
theorem lastTo_len (b s : List Int) (j : Nat) : (lastTo b s j).length ≤ 400 * s.length + b.length := by
  unfold lastTo
  have h1 := xorl_len_le (xorAll ((strs b.length s).take j)) b
  have h2 := xorAll_len ((strs b.length s).take j)
  have h3 := fl_take_le (strs b.length s) j
  have h4 := strs_fl b.length s
  omega

/-- ShareBytes's answer. -/
def shB (b s : List Int) : List (List Int) := if b.length ≤ 400 ∧ 1 ≤ s.length ∧ s.length ≤ 3 then strs b.length s ++ [lastB b s] else []
theorem shB_yes {b s : List Int} (h : b.length ≤ 400 ∧ 1 ≤ s.length ∧ s.length ≤ 3) : shB b s = strs b.length s ++ [lastB b s] := if_pos h
theorem shB_no {b s : List Int} (h : ¬ (b.length ≤ 400 ∧ 1 ≤ s.length ∧ s.length ≤ 3)) : shB b s = [] := if_neg h
theorem lastB_len (b s : List Int) : (lastB b s).length ≤ 400 * s.length + b.length := by rw [← lastTo_full]; exact lastTo_len _ _ _
theorem shB_len (b s : List Int) : (shB b s).length ≤ 4 := by
  unfold shB
  split
  · rw [List.length_append, strs_len, List.length_singleton]; omega
  · simp
theorem shB_fl (b s : List Int) : fl (shB b s) ≤ 2800 := by
  unfold shB
  split
  · rw [fl_append, fl_cons, fl_nil]
    have h1 := strs_fl b.length s
    have h2 := lastB_len b s
    omega
  · simp [fl_nil]
theorem shB_tot (b s : List Int) : tot (shB b s) ≤ 2804 := by
  have h1 := shB_fl b s
  have h2 := shB_len b s
  unfold tot; omega
theorem shB_at {b s : List Int} (h : b.length ≤ 400 ∧ 1 ≤ s.length ∧ s.length ≤ 3) {j : Nat} (hj : j < s.length) : (shB b s)[j]? = some (strm (s.getD j 0) b.length) := by
  rw [shB_yes h, List.getElem?_append_left (by rw [strs_len]; exact hj), strs_get hj]
theorem shB_last {b s : List Int} (h : b.length ≤ 400 ∧ 1 ≤ s.length ∧ s.length ≤ 3) : (shB b s)[s.length]? = some (lastB b s) := by
  rw [shB_yes h, List.getElem?_append_right (by rw [strs_len]; exact Nat.le_refl _), strs_len, Nat.sub_self]; rfl
theorem shB_take {b s : List Int} (h : b.length ≤ 400 ∧ 1 ≤ s.length ∧ s.length ≤ 3) : (shB b s).take s.length = strs b.length s := by
  rw [shB_yes h, List.take_left' (strs_len _ _)]

/-- Whether no row is longer than another. -/
def same (zss : List (List Int)) : Bool := decide (∀ i, i < zss.length → (zss.getD i []).length = (zss.getD 0 []).length)
/-- Whether they can be joined. -/
def okS (zss : List (List Int)) : Bool := inR (zss.length : Int) 2 4 && same zss
/-- JoinShares's answer. -/
def jsh (zss : List (List Int)) : List Int := if okS zss = true then xorAll zss else []
theorem jsh_yes {zss : List (List Int)} (h : okS zss = true) : jsh zss = xorAll zss := if_pos h
theorem jsh_no {zss : List (List Int)} (h : okS zss = false) : jsh zss = [] := if_neg (by rw [h]; exact Bool.false_ne_true)
theorem jsh_len (zss : List (List Int)) : (jsh zss).length ≤ fl zss := by
  unfold jsh
  split
  · exact xorAll_len _
  · exact Nat.zero_le _
theorem okS_bounds {zss : List (List Int)} (h : okS zss = true) : 2 ≤ zss.length ∧ zss.length ≤ 4 := by
  unfold okS inR at h
  simp at h
  omega
theorem okS_same {zss : List (List Int)} (h : okS zss = true) : ∀ i, i < zss.length → (zss.getD i []).length = (zss.getD 0 []).length := by
  unfold okS at h
  rw [Bool.and_eq_true] at h
  exact of_decide_eq_true h.2

theorem xorAll_len_same {n : Nat} : ∀ {zss : List (List Int)}, (∀ z ∈ zss, z.length = n) → zss ≠ [] → (xorAll zss).length = n := by
  suffices h : ∀ (l : List (List Int)) (acc : List Int), (∀ z ∈ l, z.length = n) → acc.length = n → (l.foldl xorl acc).length = n by
    intro zss hz hne
    cases zss with
    | nil => exact absurd rfl hne
    | cons x l =>
      unfold xorAll
      rw [List.foldl_cons]
      exact h l _ (fun z hm => hz z (List.mem_cons_of_mem _ hm)) (by rw [xorl_len, hz x (List.mem_cons_self ..)]; simp)
  intro l
  induction l with
  | nil => intro acc _ h; exact h
  | cons x l ih =>
    intro acc hz ha
    rw [List.foldl_cons]
    exact ih _ (fun z hm => hz z (List.mem_cons_of_mem _ hm)) (by rw [xorl_len, ha, hz x (List.mem_cons_self ..)]; simp)
theorem jsh_len_same {zss : List (List Int)} (h : okS zss = true) : (jsh zss).length = (zss.getD 0 []).length := by
  rw [jsh_yes h]
  have hb := okS_bounds h
  refine xorAll_len_same (fun z hz => ?_) (fun e => by rw [e] at hb; simp at hb)
  obtain ⟨i, hi, rfl⟩ := List.mem_iff_getElem.1 hz
  have := okS_same h i hi
  rwa [List.getD_eq_getElem?_getD, List.getElem?_eq_getElem hi] at this

/-- Whether the shares can be refreshed. -/
def refOk (zss : List (List Int)) (s : List Int) : Bool := okS zss && (decide (s.length + 1 = zss.length) && decide ((zss.getD 0 []).length ≤ 400))
/-- Zero bytes. -/
def zrs (n : Nat) : List Int := List.replicate n 0
/-- The rows with the shares of zero bytes. -/
def refL (zss : List (List Int)) (s : List Int) : List (List Int) := (List.range zss.length).map fun i => xorl (zss.getD i []) ((shB (zrs (zss.getD 0 []).length) s).getD i [])
/-- RefreshShares's answer. -/
def ref (zss : List (List Int)) (s : List Int) : List (List Int) := if refOk zss s = true then refL zss s else zss
theorem ref_yes {zss : List (List Int)} {s : List Int} (h : refOk zss s = true) : ref zss s = refL zss s := if_pos h
theorem ref_no {zss : List (List Int)} {s : List Int} (h : refOk zss s = false) : ref zss s = zss := if_neg (by rw [h]; exact Bool.false_ne_true)
theorem refOk_parts {zss : List (List Int)} {s : List Int} (h : refOk zss s = true) : okS zss = true ∧ s.length + 1 = zss.length ∧ (zss.getD 0 []).length ≤ 400 := by
  unfold refOk at h
  simp only [Bool.and_eq_true, decide_eq_true_eq] at h
  exact ⟨h.1, h.2.1, h.2.2⟩
theorem refOk_of {zss : List (List Int)} {s : List Int} (h1 : okS zss = true) (h2 : s.length + 1 = zss.length) (h3 : (zss.getD 0 []).length ≤ 400) : refOk zss s = true := by
  unfold refOk
  simp only [Bool.and_eq_true, decide_eq_true_eq]
  exact ⟨h1, h2, h3⟩
theorem refL_len (zss : List (List Int)) (s : List Int) : (refL zss s).length = zss.length := by simp [refL]
theorem refL_get {zss : List (List Int)} {s : List Int} {j : Nat} (hj : j < zss.length) : (refL zss s)[j]? = some (xorl (zss.getD j []) ((shB (zrs (zss.getD 0 []).length) s).getD j [])) := by
  simp [refL, hj]
theorem zrs_len (n : Nat) : (zrs n).length = n := by simp [zrs]
theorem zrs_sh {zss : List (List Int)} {s : List Int} (h : refOk zss s = true) : (shB (zrs (zss.getD 0 []).length) s).length = zss.length := by
  obtain ⟨h1, h2, h3⟩ := refOk_parts h
  have h4 := okS_bounds h1
  rw [shB_yes (by rw [zrs_len]; omega), List.length_append, strs_len, List.length_singleton, h2]
theorem row_le {zss : List (List Int)} {j : Nat} (hj : j < zss.length) : (zss.getD j []).length ≤ fl zss := by
  have := fl_at (List.getElem?_eq_getElem hj)
  rw [List.getD_eq_getElem?_getD, List.getElem?_eq_getElem hj]
  simp only [Option.getD_some]
  omega
theorem fl_get_le {zss : List (List Int)} (j : Nat) : (zss.getD j []).length ≤ fl zss := by
  by_cases hj : j < zss.length
  · exact row_le hj
  · rw [List.getD_eq_getElem?_getD, List.getElem?_eq_none (by omega)]; simp
theorem sum_le {n : Nat} : ∀ {zss : List (List Int)}, (∀ z ∈ zss, z.length ≤ n) → fl zss ≤ n * zss.length
  | [], _ => by simp [fl_nil]
  | x :: l, h => by
    have h1 := h x (List.mem_cons_self ..)
    have h2 := sum_le (zss := l) (fun z hz => h z (List.mem_cons_of_mem _ hz))
    rw [fl_cons, List.length_cons, Nat.mul_succ]
    omega
theorem ref_fl (zss : List (List Int)) (s : List Int) : fl (ref zss s) ≤ 4 * (fl zss + 2800) + fl zss ∧ (ref zss s).length ≤ zss.length := by
  unfold ref
  split
  · rename_i h
    obtain ⟨h1, h2, h3⟩ := refOk_parts h
    have h4 := okS_bounds h1
    refine ⟨?_, by rw [refL_len]; exact Nat.le_refl _⟩
    have h5 : fl (refL zss s) ≤ (fl zss + 2800) * (refL zss s).length := sum_le fun z hz => by
      obtain ⟨i, _, rfl⟩ := List.mem_map.1 hz
      have q1 := xorl_len_le (zss.getD i []) ((shB (zrs (zss.getD 0 []).length) s).getD i [])
      have q2 := fl_get_le (zss := zss) i
      have q3 := fl_get_le (zss := shB (zrs (zss.getD 0 []).length) s) i
      have q4 := shB_fl (zrs (zss.getD 0 []).length) s
      omega
    have h6 : (fl zss + 2800) * (refL zss s).length ≤ (fl zss + 2800) * 4 := Nat.mul_le_mul_left _ (by rw [refL_len]; omega)
    omega
  · exact ⟨by omega, Nat.le_refl _⟩

/-! ### Numbers -/

/-- The field elements of the seeds. -/
def fes (s : List Int) : List Int := s.map fun x => x % 1019
/-- The last share, with the first j alone. -/
def lastN (x : Int) (s : List Int) (j : Nat) : Int := (x - ((fes s).take j).sum) % 1019
theorem fes_len (s : List Int) : (fes s).length = s.length := by simp [fes]
theorem fes_getD {s : List Int} {j : Nat} (hj : j < s.length) : (fes s).getD j 0 = s.getD j 0 % 1019 := by
  simp [fes, List.getD_eq_getElem?_getD, List.getElem?_map, List.getElem?_eq_getElem hj]
theorem sum_take_succ {s : List Int} {j : Nat} (hj : j < s.length) : (s.take (j + 1)).sum = (s.take j).sum + s.getD j 0 := by
  rw [List.take_add_one, List.sum_append, List.getElem?_eq_getElem hj, List.getD_eq_getElem?_getD, List.getElem?_eq_getElem hj]
  simp
theorem lastN_zero (x : Int) (s : List Int) : lastN x s 0 = x % 1019 := by simp [lastN]
theorem lastN_succ (x : Int) {s : List Int} {j : Nat} (hj : j < s.length) : (lastN x s j - s.getD j 0 % 1019) % 1019 = lastN x s (j + 1) := by
  unfold lastN
  rw [sum_take_succ (by rw [fes_len]; exact hj), fes_getD hj]
  omega
theorem lastN_bound (x : Int) (s : List Int) (j : Nat) : 0 ≤ lastN x s j ∧ lastN x s j ≤ 1018 := by unfold lastN; omega
/-- ShareNumber's answer. -/
def shN (x : Int) (s : List Int) : List Int := if 1 ≤ s.length ∧ s.length ≤ 3 then fes s ++ [lastN x s s.length] else []
theorem shN_yes {x : Int} {s : List Int} (h : 1 ≤ s.length ∧ s.length ≤ 3) : shN x s = fes s ++ [lastN x s s.length] := if_pos h
theorem shN_no {x : Int} {s : List Int} (h : ¬ (1 ≤ s.length ∧ s.length ≤ 3)) : shN x s = [] := if_neg h
theorem shN_len (x : Int) (s : List Int) : (shN x s).length ≤ 4 := by
  unfold shN
  split
  · rw [List.length_append, fes_len, List.length_singleton]; omega
  · simp
theorem shN_at {x : Int} {s : List Int} (h : 1 ≤ s.length ∧ s.length ≤ 3) {j : Nat} (hj : j < s.length) : (shN x s).getD j 0 = s.getD j 0 % 1019 := by
  rw [shN_yes h, List.getD_eq_getElem?_getD, List.getElem?_append_left (by rw [fes_len]; exact hj), ← List.getD_eq_getElem?_getD, fes_getD hj]
theorem shN_last {x : Int} {s : List Int} (h : 1 ≤ s.length ∧ s.length ≤ 3) : (shN x s).getD s.length 0 = lastN x s s.length := by
  rw [shN_yes h, List.getD_eq_getElem?_getD, List.getElem?_append_right (by rw [fes_len]; exact Nat.le_refl _), fes_len, Nat.sub_self]; rfl
theorem shN_take {x : Int} {s : List Int} (h : 1 ≤ s.length ∧ s.length ≤ 3) : (shN x s).take s.length = fes s := by
  rw [shN_yes h, List.take_left' (fes_len _)]
theorem shN_len_yes {x : Int} {s : List Int} (h : 1 ≤ s.length ∧ s.length ≤ 3) : (shN x s).length = s.length + 1 := by
  rw [shN_yes h, List.length_append, fes_len]; rfl
theorem fes_bound {s : List Int} {z : Int} (h : z ∈ fes s) : 0 ≤ z ∧ z ≤ 1018 := by
  obtain ⟨y, _, rfl⟩ := List.mem_map.1 h
  omega
theorem fes_wf {s : List Int} : ∀ z ∈ fes s, (Lit.int .i64 z).wf = true := fun z hz => by
  have := fes_bound hz
  exact wf_i64_of (by omega) (by omega)

/-- The sum as it wraps. -/
def wsum (s : List Int) : Int := s.foldl (fun a x => wrap64 (a + x)) 0
theorem wsum_succ {s : List Int} {j : Nat} (hj : j < s.length) : wrap64 (wsum (s.take j) + s.getD j 0) = wsum (s.take (j + 1)) := by
  unfold wsum
  rw [List.take_add_one, List.foldl_append, List.getElem?_eq_getElem hj, List.getD_eq_getElem?_getD, List.getElem?_eq_getElem hj]
  rfl
theorem wrap64_bound (x : Int) : -9223372036854775808 ≤ wrap64 x ∧ wrap64 x ≤ 9223372036854775807 := by unfold wrap64; omega
theorem wsum_bound (s : List Int) : -9223372036854775808 ≤ wsum s ∧ wsum s ≤ 9223372036854775807 := by
  suffices h : ∀ (l : List Int) (a : Int), (-9223372036854775808 ≤ a ∧ a ≤ 9223372036854775807) → (-9223372036854775808 ≤ l.foldl (fun a x => wrap64 (a + x)) a ∧ l.foldl (fun a x => wrap64 (a + x)) a ≤ 9223372036854775807) from h s 0 (by omega)
  intro l
  induction l with
  | nil => intro a h; exact h
  | cons x l ih => intro a h; exact ih _ (wrap64_bound _)
/-- JoinNumber's answer. -/
def jn (s : List Int) : Int := wsum s % 1019
theorem jn_bound (s : List Int) : 0 ≤ jn s ∧ jn s ≤ 1018 := by unfold jn; omega
theorem wsum_small {l : List Int} (h : ∀ z ∈ l, 0 ≤ z ∧ z ≤ 1018) (hl : l.length ≤ 1000) : wsum l = l.sum := by
  suffices h : ∀ (l : List Int) (a : Int), (∀ z ∈ l, 0 ≤ z ∧ z ≤ 1018) → 0 ≤ a → a + 1018 * l.length ≤ 1000000000 → l.foldl (fun a x => wrap64 (a + x)) a = a + l.sum by
    have := h l 0 ‹_› (by omega) (by omega)
    unfold wsum
    rw [this]; omega
  intro l
  induction l with
  | nil => intro a _ _ _; simp
  | cons x l ih =>
    intro a hz ha hb
    have hx := hz x (List.mem_cons_self ..)
    rw [List.length_cons] at hb
    have e : wrap64 (a + x) = a + x := by unfold wrap64; omega
    rw [List.foldl_cons, e, ih _ (fun z hm => hz z (List.mem_cons_of_mem _ hm)) (by omega) (by push_cast at hb; omega), List.sum_cons]
    omega
theorem miss_num (x : Int) {s : List Int} (h : s.length ≤ 3) : (x % 1019 - jn (fes s)) % 1019 = lastN x s s.length := by
  unfold jn lastN
  rw [wsum_small (fun z hz => fes_bound hz) (by rw [fes_len]; omega), List.take_of_length_le (by rw [fes_len]; exact Nat.le_refl _)]
  omega

end Go.Proofs.YtlhpjfhglkngfaaDoor
