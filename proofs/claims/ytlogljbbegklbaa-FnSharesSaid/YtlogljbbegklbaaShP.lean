/- Shares as lists: what joins to the secret, refreshed shares, a missing share. No program. -/
import Derived.Test.YtlogljbbegklbaaShN
namespace Go.Proofs.Ytlogljbbegklbaa
open Go Go.RowKit
set_option linter.unusedVariables false
attribute [local irreducible] kh

theorem foldl_xorl_right (r : List (List Int)) (a x : List Int) : r.foldl xorl (xorl a x) = xorl (r.foldl xorl a) x := by
  induction r generalizing a with
  | nil => rfl
  | cons y r ih =>
    rw [List.foldl_cons, List.foldl_cons, xorl_right, ih]
theorem xorAll_mid (l r : List (List Int)) (x : List Int) : xorAll (l ++ x :: r) = xorl (xorAll (l ++ r)) x := by
  unfold xorAll
  rw [List.foldl_append, List.foldl_cons, foldl_xorl_right, List.foldl_append]
theorem xorl_cancel {xs ys : List Int} (hy : U8s ys) (hl : xs.length ≤ ys.length) : xorl xs (xorl xs ys) = ys := by
  refine list_eq (by rw [xorl_len, xorl_len]; omega) fun i _ => ?_
  rw [xorl_getD, xorl_getD, ← bx_assoc, bx_self, zero_bx (hy.get i).1]
theorem xorAll_len_le {n : Nat} {l : List (List Int)} (h : ∀ z ∈ l, z.length ≤ n) : (xorAll l).length ≤ n := by
  suffices g : ∀ (l : List (List Int)) (acc : List Int), (∀ z ∈ l, z.length ≤ n) → acc.length ≤ n → (l.foldl xorl acc).length ≤ n from g l [] h (by simp)
  intro l
  induction l with
  | nil => intro acc _ h; exact h
  | cons x l ih =>
    intro acc hz ha
    rw [List.foldl_cons]
    exact ih _ (fun z hm => hz z (List.mem_cons_of_mem _ hm)) (by have := hz x (List.mem_cons_self ..); rw [xorl_len]; omega)

theorem strs_mem {n : Nat} (hn : n ≤ 400) {s : List Int} {z : List Int} (h : z ∈ strs (n : Int) s) : z.length = n := by
  obtain ⟨x, _, rfl⟩ := List.mem_map.1 h
  exact strm_len_eq x hn
theorem lastB_len_eq {b s : List Int} (hb : b.length ≤ 400) : (lastB b s).length = b.length := by
  unfold lastB
  rw [xorl_len]
  have := xorAll_len_le (n := b.length) (l := strs b.length s) (fun z hz => by rw [strs_mem hb hz]; exact Nat.le_refl _)
  omega
theorem lastB_u8 {b s : List Int} (hb : U8s b) : U8s (lastB b s) := by
  unfold lastB
  refine xorl_u8 ?_ hb
  suffices h : ∀ (l : List (List Int)) (acc : List Int), (∀ z ∈ l, U8s z) → U8s acc → U8s (l.foldl xorl acc) from h _ [] (fun z hz => by obtain ⟨x, _, rfl⟩ := List.mem_map.1 hz; exact strm_u8 _ _) (fun z hz => by cases hz)
  intro l
  induction l with
  | nil => intro acc _ h; exact h
  | cons x l ih => intro acc hz ha; exact ih _ (fun z hm => hz z (List.mem_cons_of_mem _ hm)) (xorl_u8 ha (hz x (List.mem_cons_self ..)))

section
variable {b s : List Int} (h : b.length ≤ 400 ∧ 1 ≤ s.length ∧ s.length ≤ 3)
include h
theorem shB_length : (shB b s).length = s.length + 1 := by rw [shB_yes h, List.length_append, strs_len]; rfl
theorem shB_row {z : List Int} (hz : z ∈ shB b s) : z.length = b.length := by
  rw [shB_yes h] at hz
  rcases List.mem_append.1 hz with hz | hz
  · exact strs_mem h.1 hz
  · rw [List.mem_singleton.1 hz]; exact lastB_len_eq h.1
theorem shB_u8 (hb : U8s b) {z : List Int} (hz : z ∈ shB b s) : U8s z := by
  rw [shB_yes h] at hz
  rcases List.mem_append.1 hz with hz | hz
  · obtain ⟨x, _, rfl⟩ := List.mem_map.1 hz; exact strm_u8 _ _
  · rw [List.mem_singleton.1 hz]; exact lastB_u8 hb
theorem shB_all (hb : U8s b) : xorAll (shB b s) = b := by
  rw [shB_yes h, xorAll_snoc]
  unfold lastB
  exact xorl_cancel hb (xorAll_len_le (fun z hz => by rw [strs_mem h.1 hz]; exact Nat.le_refl _))
end

theorem getD_mem {α : Type} {l : List α} {i : Nat} {d : α} (hi : i < l.length) : l.getD i d ∈ l := by
  rw [List.getD_eq_getElem?_getD, List.getElem?_eq_getElem hi]
  simp
/-- Rows of one length can be joined. -/
theorem okS_of {l : List (List Int)} {n : Nat} (h : 2 ≤ l.length ∧ l.length ≤ 4) (hz : ∀ z ∈ l, z.length = n) : okS l = true := by
  unfold okS
  rw [inR_yes (by omega), Bool.true_and]
  exact decide_eq_true fun i hi => by rw [hz _ (getD_mem hi), hz _ (getD_mem (by omega))]

theorem shB_ok {b s : List Int} (h : b.length ≤ 400 ∧ 1 ≤ s.length ∧ s.length ≤ 3) : okS (shB b s) = true :=
  okS_of (by rw [shB_length h]; omega) (fun z hz => shB_row h hz)
theorem shB_join {b s : List Int} (h : b.length ≤ 400 ∧ 1 ≤ s.length ∧ s.length ≤ 3) (hb : U8s b) : jsh (shB b s) = b := by
  rw [jsh_yes (shB_ok h), shB_all h hb]

/-! ### Refreshed shares -/

theorem xorl_swap4 (a b c d : List Int) : xorl (xorl a b) (xorl c d) = xorl (xorl a c) (xorl b d) := by
  rw [xorl_assoc, ← xorl_assoc b c d, xorl_comm b c, xorl_assoc c b d, ← xorl_assoc]
theorem xorAll_zip (p q : Nat → List Int) : ∀ n, xorAll ((List.range n).map fun i => xorl (p i) (q i)) = xorl (xorAll ((List.range n).map p)) (xorAll ((List.range n).map q))
  | 0 => by simp [xorAll, xorl]
  | n + 1 => by
    rw [List.range_succ, List.map_append, List.map_append, List.map_append, List.map_singleton, List.map_singleton, List.map_singleton, xorAll_snoc, xorAll_snoc, xorAll_snoc, xorAll_zip p q n, xorl_swap4]
theorem range_rows (l : List (List Int)) {n : Nat} (hn : n = l.length) : (List.range n).map (fun i => l.getD i []) = l := by
  subst hn
  refine List.ext_getElem? fun i => ?_
  rw [List.getElem?_map]
  by_cases hi : i < l.length
  · rw [List.getElem?_range hi]
    simp [List.getD_eq_getElem?_getD, List.getElem?_eq_getElem hi]
  · rw [List.getElem?_eq_none (by simpa using hi), List.getElem?_eq_none (by omega)]
    rfl
theorem zrs_u8 (n : Nat) : U8s (zrs n) := fun z hz => by rw [List.eq_of_mem_replicate hz]; decide
theorem xorl_zrs {b : List Int} (hb : U8s b) : xorl b (zrs b.length) = b := by
  refine list_eq (by rw [xorl_len, zrs_len]; omega) fun i _ => ?_
  rw [xorl_getD]
  have : (zrs b.length).getD i 0 = 0 := by
    unfold zrs
    rw [List.getD_eq_getElem?_getD, List.getElem?_replicate]
    split <;> rfl
  rw [this, bx_zero (hb.get i).1]

section
variable {b s f : List Int} (h : b.length ≤ 400 ∧ 1 ≤ s.length ∧ s.length ≤ 3) (hf : f.length = s.length)
include h hf
theorem shB_first : ((shB b s).getD 0 []).length = b.length := shB_row h (getD_mem (by rw [shB_length h]; omega))
theorem fresh_ok : refOk (shB b s) f = true := refOk_of (shB_ok h) (by rw [shB_length h, hf]) (by rw [shB_first h hf]; exact h.1)
theorem fresh_z : (zrs b.length).length ≤ 400 ∧ 1 ≤ f.length ∧ f.length ≤ 3 := by rw [zrs_len, hf]; exact h
theorem fresh_eq : ref (shB b s) f = (List.range (shB b s).length).map fun i => xorl ((shB b s).getD i []) ((shB (zrs b.length) f).getD i []) := by
  rw [ref_yes (fresh_ok h hf)]
  unfold refL
  rw [shB_first h hf]
theorem fresh_row {z : List Int} (hz : z ∈ ref (shB b s) f) : z.length = b.length := by
  rw [fresh_eq h hf] at hz
  obtain ⟨i, hi, rfl⟩ := List.mem_map.1 hz
  have hi' := List.mem_range.1 hi
  rw [xorl_len, shB_row h (getD_mem hi'), shB_row (fresh_z h hf) (getD_mem (by rw [shB_length (fresh_z h hf), hf, ← shB_length h]; exact hi')), zrs_len]
  omega
theorem fresh_length : (ref (shB b s) f).length = s.length + 1 := by rw [fresh_eq h hf, List.length_map, List.length_range, shB_length h]
theorem fresh_okS : okS (ref (shB b s) f) = true := okS_of (by rw [fresh_length h hf]; omega) (fun z hz => fresh_row h hf hz)
theorem fresh_join (hb : U8s b) : jsh (ref (shB b s) f) = b := by
  rw [jsh_yes (fresh_okS h hf), fresh_eq h hf, xorAll_zip, range_rows _ rfl, range_rows (shB (zrs b.length) f) (by rw [shB_length h, shB_length (fresh_z h hf), hf]), shB_all h hb, shB_all (fresh_z h hf) (zrs_u8 _), xorl_zrs hb]
theorem fresh_tot : tot (ref (shB b s) f) ≤ 100000 := by
  have h1 := (ref_fl (shB b s) f).1
  have h2 := shB_fl b s
  have h3 := fresh_length h hf
  unfold tot
  omega
end

/-! ### A missing share -/

/-- All shares but one. -/
def del (l : List (List Int)) (k : Nat) : List (List Int) := l.take k ++ l.drop (k + 1)
theorem del_split {l : List (List Int)} {k : Nat} (hk : k < l.length) : l = l.take k ++ l.getD k [] :: l.drop (k + 1) := by
  conv => lhs; rw [← List.take_append_drop k l, List.drop_eq_getElem_cons hk]
  rw [List.getD_eq_getElem?_getD, List.getElem?_eq_getElem hk]
  rfl
theorem del_length {l : List (List Int)} {k : Nat} (hk : k < l.length) : (del l k).length = l.length - 1 := by
  unfold del
  rw [List.length_append, List.length_take, List.length_drop]; omega
theorem del_mem {l : List (List Int)} {k : Nat} {z : List Int} (hz : z ∈ del l k) : z ∈ l := by
  rcases List.mem_append.1 hz with hz | hz
  · exact List.mem_of_mem_take hz
  · exact List.mem_of_mem_drop hz
theorem xorAll_del {l : List (List Int)} {k : Nat} (hk : k < l.length) : xorAll l = xorl (xorAll (del l k)) (l.getD k []) := by
  conv => lhs; rw [del_split hk]
  rw [xorAll_mid]; rfl
section
variable {b s o : List Int} {k : Nat} (h : b.length ≤ 400 ∧ 1 ≤ s.length ∧ s.length ≤ 3)
include h
theorem del_rows {z : List Int} (hz : z ∈ del (shB b s) k) : z.length = b.length := shB_row h (del_mem hz)
theorem del_len_le : (xorAll (del (shB b s) k)).length ≤ b.length := by
  refine xorAll_len_le (n := b.length) (l := del (shB b s) k) ?_
  intro z hz
  have := del_rows h hz
  omega
variable (hk : k < s.length + 1)
include hk
theorem del_back (hb : U8s b) : xorl (xorAll (del (shB b s) k)) b = (shB b s).getD k [] := by
  have hk' : k < (shB b s).length := by rw [shB_length h]; exact hk
  have h1 := xorAll_del hk'
  rw [shB_all h hb] at h1
  have h2 : (shB b s).getD k [] ∈ shB b s := getD_mem hk'
  have h3 := shB_u8 h hb h2
  have h4 := shB_row h h2
  have h5 := del_len_le (k := k) h
  revert h1 h3 h4 h5
  generalize (shB b s).getD k [] = y
  generalize xorAll (del (shB b s) k) = x
  intro h1 h3 h4 h5
  rw [h1]
  exact xorl_cancel h3 (by omega)
theorem del_joined (ho : o.length = b.length) : okS (del (shB b s) k ++ [xorl (xorAll (del (shB b s) k)) o]) = true := by
  have hk' : k < (shB b s).length := by rw [shB_length h]; exact hk
  have hl := del_len_le (k := k) h
  refine okS_of (n := b.length) ?_ fun z hz => ?_
  · rw [List.length_append, del_length hk', shB_length h, List.length_singleton]; omega
  · rcases List.mem_append.1 hz with hz | hz
    · exact del_rows h hz
    · rw [List.mem_singleton.1 hz, xorl_len]; omega
theorem del_other (ho : o.length = b.length) (hu : U8s o) : jsh (del (shB b s) k ++ [xorl (xorAll (del (shB b s) k)) o]) = o := by
  rw [jsh_yes (del_joined h hk ho), xorAll_snoc]
  exact xorl_cancel hu (by rw [ho]; exact del_len_le h)
theorem del_tot : tot (del (shB b s) k) ≤ 2804 := by
  have hk' : k < (shB b s).length := by rw [shB_length h]; exact hk
  have h1 := sum_le (n := b.length) (zss := del (shB b s) k) (fun z hz => by rw [del_rows h hz]; exact Nat.le_refl _)
  have h2 := del_length hk'
  rw [shB_length h] at h2
  have h3 : b.length * (del (shB b s) k).length ≤ b.length * 3 := Nat.mul_le_mul_left _ (by omega)
  unfold tot
  omega
theorem del_tot2 (ho : o.length = b.length) : tot (del (shB b s) k ++ [xorl (xorAll (del (shB b s) k)) o]) ≤ 4000 := by
  have h1 := del_tot h hk
  have h2 := del_len_le (k := k) h
  unfold tot at h1 ⊢
  rw [List.length_append, fl_append, fl_cons, fl_nil, xorl_len]
  simp only [List.length_singleton]
  omega
end

/-! ### Numbers -/

theorem shN_join {x : Int} {s : List Int} (h : 1 ≤ s.length ∧ s.length ≤ 3) : jn (shN x s) = x % 1019 := by
  have hb : ∀ z ∈ shN x s, 0 ≤ z ∧ z ≤ 1018 := fun z hz => by
    rw [shN_yes h] at hz
    rcases List.mem_append.1 hz with hz | hz
    · exact fes_bound hz
    · rw [List.mem_singleton.1 hz]; exact lastN_bound _ _ _
  have hl := shN_len x s
  unfold jn
  rw [wsum_small hb (by omega), shN_yes h, List.sum_append]
  unfold lastN
  rw [List.take_of_length_le (by rw [fes_len]; exact Nat.le_refl _)]
  simp only [List.sum_cons, List.sum_nil]
  omega
theorem shN_bound {x : Int} {s : List Int} {j : Nat} (hj : j < (shN x s).length) : 0 ≤ (shN x s).getD j 0 ∧ (shN x s).getD j 0 ≤ 1018 := by
  have hz : (shN x s).getD j 0 ∈ shN x s := getD_mem hj
  revert hz
  generalize (shN x s).getD j 0 = z
  intro hz
  unfold shN at hz
  split at hz
  · rcases List.mem_append.1 hz with hz | hz
    · exact fes_bound hz
    · rw [List.mem_singleton.1 hz]; exact lastN_bound _ _ _
  · cases hz

end Go.Proofs.Ytlogljbbegklbaa
