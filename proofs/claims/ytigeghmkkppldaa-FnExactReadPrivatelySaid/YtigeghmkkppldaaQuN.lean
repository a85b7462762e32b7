/- Queries as lists of selections. No program. -/
import Derived.Test.YtigeghmkkppldaaSelN
import Derived.Test.YtigeghmkkppldaaSel4
import Derived.Test.YtigeghmkkppldaaSel5
import Derived.Test.YtigeghmkkppldaaBbD
import Derived.Test.YtigeghmkkppldaaShN
namespace Go.Proofs.Ytigeghmkkppldaa
open Go Go.RowKit
set_option linter.unusedVariables false
attribute [local irreducible] kh

/-- The random selections of the seeds. -/
def rnds (n : Int) (s : List Int) : List (List Int) := s.map fun x => rsl x n
/-- A selection and others, added up. -/
def xsAll (u : List Int) (l : List (List Int)) : List Int := l.foldl xs2 u
theorem rnds_len (n : Int) (s : List Int) : (rnds n s).length = s.length := by simp [rnds]
theorem rnds_get {n : Int} {s : List Int} {j : Nat} (hj : j < s.length) : (rnds n s)[j]? = some (rsl (s.getD j 0) n) := by
  simp [rnds, List.getElem?_map, List.getD_eq_getElem?_getD, List.getElem?_eq_getElem hj]
theorem rnds_fl (n : Int) (s : List Int) : fl (rnds n s) ≤ 64 * s.length := by
  induction s with
  | nil => simp [rnds, fl_nil]
  | cons x s ih =>
    have h1 := rsl_len x n
    have e : rnds n (x :: s) = rsl x n :: rnds n s := rfl
    rw [e, fl_cons, List.length_cons]
    omega
theorem xsAll_nil (u : List Int) : xsAll u [] = u := rfl
theorem xsAll_cons (u z : List Int) (l : List (List Int)) : xsAll u (z :: l) = xsAll (xs2 u z) l := rfl
theorem xsAll_take {u : List Int} {l : List (List Int)} {j : Nat} {zs : List Int} (h : l[j]? = some zs) : xs2 (xsAll u (l.take j)) zs = xsAll u (l.take (j + 1)) := by
  unfold xsAll
  rw [List.take_add_one, h, List.foldl_append]
  rfl
theorem xs2_nil (b : List Int) : xs2 [] b = [] := by unfold xs2; split <;> rfl
theorem xsAll_of_nil (l : List (List Int)) : xsAll [] l = [] := by
  induction l with
  | nil => rfl
  | cons z l ih => rw [xsAll_cons, xs2_nil, ih]
theorem xs2_len (a b : List Int) : (xs2 a b).length ≤ a.length := by
  unfold xs2
  split
  · rw [xors_len]; exact Nat.le_refl _
  · exact Nat.zero_le _
theorem xsAll_len (u : List Int) (l : List (List Int)) : (xsAll u l).length ≤ u.length := by
  induction l generalizing u with
  | nil => exact Nat.le_refl _
  | cons z l ih => rw [xsAll_cons]; exact Nat.le_trans (ih _) (xs2_len _ _)
/-- Bits alone, so many. -/
def Sel (n : Nat) (u : List Int) : Prop := u.length = n ∧ ∀ i, i < u.length → 0 ≤ u.getD i 0 ∧ u.getD i 0 ≤ 1
theorem isel_len {zs : List Int} {n : Int} (h : isel zs n = true) : (zs.length : Int) = n ∧ n ≤ 64 := (isel_iff.1 h).2
theorem Sel.is {n : Nat} {u : List Int} (h : Sel n u) (hn : (n : Int) ≤ 64) : isel u (n : Int) = true := isel_iff.2 ⟨h.2, by rw [h.1], hn⟩
theorem xs2_yes {n : Nat} {u z : List Int} (h : Sel n u) (hz : isel z (n : Int) = true) : xs2 u z = xors u z ∧ Sel n (xors u z) := by
  have h64 := (isel_len hz).2
  have hu := h.is h64
  have hz' := isel_iff.1 hz
  refine ⟨if_pos (by rw [h.1]; exact ⟨hu, hz⟩), by rw [xors_len]; exact h.1, xors_bits h.2 hz'.1 (by have := h.1; omega)⟩
theorem xs2_no {n : Nat} {u z : List Int} (h : u.length = n) (hz : isel z (n : Int) = false) : xs2 u z = [] := by
  refine if_neg (fun hh => ?_)
  rw [h] at hh
  rw [hh.2] at hz
  cases hz
theorem xsAll_stop {n : Nat} {u z : List Int} {l : List (List Int)} {j : Nat} (hs : (xsAll u (l.take j)).length = n) (h : l[j]? = some z) (hz : isel z (n : Int) = false) : xsAll u l = [] := by
  have e : l = l.take (j + 1) ++ l.drop (j + 1) := (List.take_append_drop _ _).symm
  have e2 : xsAll u (l.take (j + 1)) = [] := by rw [← xsAll_take h, xs2_no hs hz]
  rw [e]
  unfold xsAll at e2 ⊢
  rw [List.foldl_append, e2]
  exact xsAll_of_nil _
theorem Sel.step {n : Nat} {u z : List Int} {l : List (List Int)} {j : Nat} (hs : Sel n (xsAll u (l.take j))) (h : l[j]? = some z) (hz : isel z (n : Int) = true) : Sel n (xsAll u (l.take (j + 1))) := by
  rw [← xsAll_take h, (xs2_yes hs hz).1]
  exact (xs2_yes hs hz).2

theorem unitV_len (r x : Int) : (unitV r x).length ≤ 64 := by
  unfold unitV
  split
  · simp; omega
  · exact Nat.zero_le _
theorem unitV_sel {r x : Int} (h : (unitV r x).length ≠ 0) : Sel r.toNat (unitV r x) ∧ 1 ≤ r ∧ r ≤ 64 ∧ 0 ≤ x ∧ x ≤ r - 1 := by
  unfold unitV at h ⊢
  split
  · rename_i hh
    refine ⟨⟨by simp, fun i hi => ?_⟩, hh.1, hh.2.1, hh.2.2.1, hh.2.2.2⟩
    simp at hi
    rw [List.getD_eq_getElem?_getD, List.getElem?_set]
    split
    · simp; split <;> simp
    · simp [hi]
  · rename_i hh
    rw [if_neg hh] at h
    exact absurd rfl h

/-- The selections of a query. -/
def mkq (r x : Int) (s : List Int) : List (List Int) :=
  if (unitV r x).length ≠ 0 ∧ 1 ≤ s.length ∧ s.length ≤ 3 then rnds r s ++ [xsAll (unitV r x) (rnds r s)] else []
theorem mkq_yes {r x : Int} {s : List Int} (h : (unitV r x).length ≠ 0 ∧ 1 ≤ s.length ∧ s.length ≤ 3) : mkq r x s = rnds r s ++ [xsAll (unitV r x) (rnds r s)] := if_pos h
theorem mkq_no {r x : Int} {s : List Int} (h : ¬ ((unitV r x).length ≠ 0 ∧ 1 ≤ s.length ∧ s.length ≤ 3)) : mkq r x s = [] := if_neg h
theorem mkq_len (r x : Int) (s : List Int) : (mkq r x s).length ≤ 4 := by
  unfold mkq
  split
  · rw [List.length_append, rnds_len, List.length_singleton]; omega
  · exact Nat.zero_le _
theorem mkq_fl (r x : Int) (s : List Int) : fl (mkq r x s) ≤ 256 := by
  unfold mkq
  split
  · have h1 := rnds_fl r s
    have h2 := xsAll_len (unitV r x) (rnds r s)
    have h3 := unitV_len r x
    rw [fl_append, fl_cons, fl_nil]; omega
  · simp [fl_nil]
theorem mkq_tot (r x : Int) (s : List Int) : tot (mkq r x s) ≤ 260 := by
  have h1 := mkq_fl r x s
  have h2 := mkq_len r x s
  unfold tot; omega
theorem mkq_at {r x : Int} {s : List Int} (h : (unitV r x).length ≠ 0 ∧ 1 ≤ s.length ∧ s.length ≤ 3) {j : Nat} (hj : j < s.length) : (mkq r x s)[j]? = some (rsl (s.getD j 0) r) := by
  rw [mkq_yes h, List.getElem?_append_left (by rw [rnds_len]; exact hj), rnds_get hj]
theorem mkq_last {r x : Int} {s : List Int} (h : (unitV r x).length ≠ 0 ∧ 1 ≤ s.length ∧ s.length ≤ 3) : (mkq r x s)[s.length]? = some (xsAll (unitV r x) (rnds r s)) := by
  rw [mkq_yes h, List.getElem?_append_right (by rw [rnds_len]; exact Nat.le_refl _), rnds_len, Nat.sub_self]; rfl
theorem mkq_take {r x : Int} {s : List Int} (h : (unitV r x).length ≠ 0 ∧ 1 ≤ s.length ∧ s.length ≤ 3) : (mkq r x s).take s.length = rnds r s := by
  rw [mkq_yes h, List.take_left' (rnds_len _ _)]

/-- What a query joins to. -/
def jnq (l : List (List Int)) : List Int := if l.length = 0 then [] else xsAll (List.replicate (l.getD 0 []).length 0) l
theorem jnq_no {l : List (List Int)} (h : l.length = 0) : jnq l = [] := if_pos h
theorem jnq_yes {l : List (List Int)} (h : 0 < l.length) : jnq l = xsAll (List.replicate (l.getD 0 []).length 0) l := if_neg (by omega)
theorem zeros_sel (n : Nat) : Sel n (List.replicate n 0) := by
  refine ⟨by simp, fun i hi => ?_⟩
  simp at hi
  simp [List.getD_eq_getElem?_getD, hi]
theorem jnq_len (l : List (List Int)) : (jnq l).length ≤ fl l := by
  unfold jnq
  split
  · exact Nat.zero_le _
  · refine Nat.le_trans (xsAll_len _ _) ?_
    rw [List.length_replicate]
    exact fl_get_le 0

/-- The selection that is missing. -/
def exq (l : List (List Int)) (r x : Int) : List Int := xsAll (unitV r x) l
theorem exq_len (l : List (List Int)) (r x : Int) : (exq l r x).length ≤ 64 := Nat.le_trans (xsAll_len _ _) (unitV_len _ _)

/-- What a server answers. -/
def ansK (d : List (List Int)) (v : List Int) : Bool := vd d && isel v (d.length : Int)
def ans (d : List (List Int)) (v : List Int) : List Int := if ansK d v = true then xorl (List.replicate 24 0) (sx d v) else []
theorem ans_yes {d : List (List Int)} {v : List Int} (h : ansK d v = true) : ans d v = xorl (List.replicate 24 0) (sx d v) := if_pos h
theorem ans_no {d : List (List Int)} {v : List Int} (h : ansK d v = false) : ans d v = [] := if_neg (by rw [h]; exact Bool.false_ne_true)

/-- What the answers give. -/
def caK (l : List (List Int)) : Bool := inR (l.length : Int) 2 4 && vrows l
def ca (l : List (List Int)) : List Int := if caK l = true then xorAll l else []
theorem ca_yes {l : List (List Int)} (h : caK l = true) : ca l = xorAll l := if_pos h
theorem ca_no {l : List (List Int)} (h : caK l = false) : ca l = [] := if_neg (by rw [h]; exact Bool.false_ne_true)
theorem ca_len (l : List (List Int)) : (ca l).length ≤ fl l := by
  unfold ca
  split
  · exact xorAll_len _
  · exact Nat.zero_le _
theorem ca_join (l : List (List Int)) : caK l = (okS l && ((jsh l).length == 24)) := by
  unfold caK
  cases hk : okS l
  · rw [Bool.false_and]
    cases hi : inR (l.length : Int) 2 4
    · rfl
    · cases hv : vrows l
      · rfl
      · have hs : same l = true := decide_eq_true fun i hi => by
          have h1 := vrows_iff.1 hv i hi
          have h2 := vrows_iff.1 hv 0 (by omega)
          rw [h1, h2]
        unfold okS at hk
        rw [hi, hs] at hk
        cases hk
  · have hb := okS_bounds hk
    have hl := jsh_len_same hk
    have hs := okS_same hk
    have hi : inR (l.length : Int) 2 4 = true := inR_yes (by omega)
    rw [hi, Bool.true_and, Bool.true_and, hl]
    cases hv : vrows l
    · refine (beq_eq_false_iff_ne.2 fun h => ?_).symm
      have : vrows l = true := vrows_iff.2 fun i hi => by rw [hs i hi, h]
      rw [this] at hv; cases hv
    · exact (beq_iff_eq.2 (vrows_iff.1 hv 0 (by omega))).symm

/-- The answers of the servers to a query. -/
def answers (d q : List (List Int)) : List (List Int) := q.map (ans d)
theorem answers_take {d q : List (List Int)} {j : Nat} {z : List Int} (h : q[j]? = some z) : answers d (q.take j) ++ [ans d z] = answers d (q.take (j + 1)) := by
  unfold answers
  rw [List.take_add_one, h]
  simp
theorem answers_len (d q : List (List Int)) : (answers d q).length = q.length := by simp [answers]
theorem ans_len (d : List (List Int)) (v : List Int) : (ans d v).length ≤ 24 + fl d := by
  unfold ans
  split
  · have h1 := xorl_len_le (List.replicate 24 (0 : Int)) (sx d v)
    have h2 := sx_len d v
    rw [List.length_replicate] at h1
    omega
  · exact Nat.zero_le _
theorem answers_tot (d q : List (List Int)) (hq : q.length ≤ 4) : tot (answers d q) ≤ 4 + (24 + fl d) * 4 := by
  have h := sum_le (n := 24 + fl d) (zss := answers d q) (fun z hz => by
    unfold answers at hz
    obtain ⟨y, _, rfl⟩ := List.mem_map.1 hz
    exact ans_len d y)
  rw [answers_len] at h
  unfold tot
  rw [answers_len]
  have h2 : (24 + fl d) * q.length ≤ (24 + fl d) * 4 := Nat.mul_le_mul_left _ hq
  omega
/-- The row that is read. -/
def rpL (d : List (List Int)) (x : Int) (s : List Int) : List (List Int) := answers d (mkq (d.length : Int) x s)
def rp (d : List (List Int)) (x : Int) (s : List Int) : List Int := ca (rpL d x s)
theorem rp_len (d : List (List Int)) (x : Int) (s : List Int) : (rp d x s).length ≤ 4 + (24 + fl d) * 4 := by
  have h1 := ca_len (rpL d x s)
  have h2 := answers_tot d (mkq (d.length : Int) x s) (mkq_len _ _ _)
  unfold tot at h2
  unfold rp
  unfold rpL at h1 ⊢
  omega
def rpK (d : List (List Int)) (x : Int) (s : List Int) : Bool := caK (rpL d x s)

end Go.Proofs.Ytigeghmkkppldaa
