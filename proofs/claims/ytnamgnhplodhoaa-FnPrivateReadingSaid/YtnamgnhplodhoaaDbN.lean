/- Databases as lists of rows. No program. -/
import Derived.Test.YtnamgnhplodhoaaBa5
import Derived.Test.YtnamgnhplodhoaaEnc
import Derived.Test.YtnamgnhplodhoaaBa7
import Derived.Test.YtnamgnhplodhoaaXor2
import Derived.Test.YtnamgnhplodhoaaBa9
import Derived.Test.YtnamgnhplodhoaaCry3
namespace Go.Proofs.Ytnamgnhplodhoaa
open Go Go.RowKit
set_option linter.unusedVariables false

/-- Whether there is such a row. -/
def hasR (zss : List (List Int)) (i : Int) : Bool := inR i 0 ((zss.length : Int) - 1)
/-- Whether all rows are cells. -/
def vrows (zss : List (List Int)) : Bool := zss.all fun r => r.length == 24
/-- Whether it is a database. -/
def vd (zss : List (List Int)) : Bool := decide (zss.length ≤ 64) && vrows zss
def newR (n : Int) : List (List Int) := if 0 ≤ n ∧ n ≤ 64 then List.replicate n.toNat (List.replicate 24 0) else []
def rdR (zss : List (List Int)) (i : Int) : List Int := if hasR zss i = true then zss.getD i.toNat [] else []
def repK (zss : List (List Int)) (i : Int) (c : List Int) : Bool := hasR zss i && decide (c.length = 24)
def rep (zss : List (List Int)) (i : Int) (c : List Int) : List (List Int) := if repK zss i c = true then zss.set i.toNat c else zss
def xrK (zss : List (List Int)) (i : Int) (c : List Int) : Bool := hasR zss i && decide ((zss.getD i.toNat []).length = 24) && decide (c.length = 24)
def xr (zss : List (List Int)) (i : Int) (c : List Int) : List (List Int) := if xrK zss i c = true then zss.set i.toNat (xorl (zss.getD i.toNat []) c) else zss
def xdK (a b : List (List Int)) : Bool := vd a && vd b && decide (a.length = b.length)
def xdL (a b : List (List Int)) : List (List Int) := (List.range a.length).map fun i => xorl (a.getD i []) (b.getD i [])
def xd (a b : List (List Int)) : List (List Int) := if xdK a b = true then xdL a b else a
/-- What the digest is the hash of. -/
def digL (zss : List (List Int)) : List Int := (zss.length : Int) :: (zss.map bti).flatten
def dig (zss : List (List Int)) : Int := hsh (digL zss)

theorem hasR_iff {zss : List (List Int)} {i : Int} : hasR zss i = true ↔ ∃ k : Nat, i = (k : Int) ∧ k < zss.length := by
  unfold hasR inR
  simp only [Bool.and_eq_true, decide_eq_true_eq]
  constructor
  · intro ⟨h1, h2⟩
    exact ⟨i.toNat, by omega, by omega⟩
  · rintro ⟨k, rfl, h⟩
    omega
theorem hasR_yes {zss : List (List Int)} {k : Nat} (h : k < zss.length) : hasR zss (k : Int) = true := hasR_iff.2 ⟨k, rfl, h⟩
theorem inR_hasR (zss : List (List Int)) (i : Int) : inR i 0 ((zss.length : Int) - 1) = hasR zss i := rfl
theorem rdR_yes {zss : List (List Int)} {k : Nat} (h : k < zss.length) : rdR zss (k : Int) = zss.getD k [] := by unfold rdR; rw [if_pos (hasR_yes h)]; rfl
theorem rdR_no {zss : List (List Int)} {i : Int} (h : hasR zss i = false) : rdR zss i = [] := by unfold rdR; rw [if_neg (by rw [h]; exact Bool.false_ne_true)]
theorem vrows_iff {zss : List (List Int)} : vrows zss = true ↔ ∀ i, i < zss.length → (zss.getD i []).length = 24 := by
  unfold vrows
  rw [List.all_eq_true]
  constructor
  · intro h i hi
    have := h _ (List.getElem_mem hi)
    rw [List.getD_eq_getElem?_getD, List.getElem?_eq_getElem hi]
    simpa using this
  · intro h x hx
    obtain ⟨i, hi, rfl⟩ := List.mem_iff_getElem.1 hx
    have := h i hi
    rw [List.getD_eq_getElem?_getD, List.getElem?_eq_getElem hi] at this
    simpa using this
theorem vrows_no {zss : List (List Int)} {i : Nat} (hi : i < zss.length) (h : (zss.getD i []).length ≠ 24) : vrows zss = false := by
  cases hv : vrows zss
  · rfl
  · exact absurd (vrows_iff.1 hv i hi) h
theorem xdL_len (a b : List (List Int)) : (xdL a b).length = a.length := by simp [xdL]
theorem xdL_get {a b : List (List Int)} {i : Nat} (hi : i < a.length) : (xdL a b)[i]? = some (xorl (a.getD i []) (b.getD i [])) := by simp [xdL, hi]
theorem xdL_snoc {a b : List (List Int)} {j : Nat} (hj : j < a.length) : (xdL a b).take j ++ [xorl (a.getD j []) (b.getD j [])] = (xdL a b).take (j + 1) := by
  rw [List.take_add_one, xdL_get hj]; rfl
theorem newR_no {n : Int} (h : ¬ (0 ≤ n ∧ n ≤ 64)) : newR n = [] := if_neg h
theorem newR_yes {n : Nat} (h : n ≤ 64) : newR (n : Int) = List.replicate n (List.replicate 24 0) := by unfold newR; rw [if_pos (by omega)]; rfl
theorem fl_replicate (n : Nat) (r : List Int) : fl (List.replicate n r) = n * r.length := by unfold fl; simp
theorem newR_fl (n : Int) : fl (newR n) ≤ 1536 := by
  unfold newR
  split
  · rw [fl_replicate, List.length_replicate]; omega
  · simp [fl]
theorem digL_take {zss : List (List Int)} {j : Nat} {zs : List Int} (h : zss[j]? = some zs) : ((zss.take j).map bti).flatten ++ bti zs = ((zss.take (j + 1)).map bti).flatten := by
  rw [List.take_add_one, h]; simp
theorem digL_len (zss : List (List Int)) : ((zss.map bti).flatten).length = tot zss := by
  unfold tot
  induction zss with
  | nil => simp [fl]
  | cons x r ih =>
    simp only [List.map_cons, List.flatten_cons, List.length_append, List.length_cons, bti_len, ih, fl_cons]
    omega
theorem fl_set (zss : List (List Int)) (i : Nat) (c : List Int) : fl (zss.set i c) ≤ fl zss + c.length := by
  induction zss generalizing i with
  | nil => simp [fl]
  | cons x r ih =>
    cases i with
    | zero => simp [fl_cons]; omega
    | succ i => have := ih i; simp [fl_cons]; omega
theorem fl_getD (zss : List (List Int)) (i : Nat) : (zss.getD i []).length ≤ fl zss := by
  rcases h : zss[i]? with _ | zs
  · rw [List.getD_eq_getElem?_getD, h]; simp
  · rw [getD_of h]; have := fl_at h; omega
theorem rep_fl (zss : List (List Int)) (i : Int) (c : List Int) : fl (rep zss i c) ≤ fl zss + c.length := by
  unfold rep
  split
  · exact fl_set _ _ _
  · omega
theorem rdR_len (zss : List (List Int)) (i : Int) : (rdR zss i).length ≤ fl zss := by
  unfold rdR
  split
  · exact fl_getD _ _
  · simp
theorem xr_fl (zss : List (List Int)) (i : Int) (c : List Int) : fl (xr zss i c) ≤ 2 * fl zss + c.length := by
  unfold xr
  split
  · have h1 := fl_set zss i.toNat (xorl (zss.getD i.toNat []) c)
    have h2 := xorl_len_le (zss.getD i.toNat []) c
    have h3 := fl_getD zss i.toNat
    omega
  · omega
theorem fl_map_le (l : List Nat) (f g h : Nat → List Int) (hf : ∀ i, (f i).length ≤ (g i).length + (h i).length) : fl (l.map f) ≤ fl (l.map g) + fl (l.map h) := by
  induction l with
  | nil => simp [fl]
  | cons x r ih => have := hf x; simp only [List.map_cons, fl_cons]; omega
theorem map_getD (zss : List (List Int)) : (List.range zss.length).map (fun i => zss.getD i []) = zss := by
  refine List.ext_getElem (by simp) fun i h1 h2 => ?_
  simp [List.getD_eq_getElem?_getD, h2]
theorem map_getD_le (n : Nat) (zss : List (List Int)) : fl ((List.range n).map (fun i => zss.getD i [])) ≤ fl zss := by
  induction n generalizing zss with
  | zero => simp [fl]
  | succ n ih =>
    rw [List.range_succ_eq_map, List.map_cons, fl_cons, List.map_map]
    cases zss with
    | nil => have := ih []; simpa [Function.comp_def, fl] using this
    | cons x r => have := ih r; simp only [Function.comp_def, List.getD_cons_succ, List.getD_cons_zero, fl_cons] at *; omega
theorem xd_fl (a b : List (List Int)) : fl (xd a b) ≤ fl a + fl b := by
  unfold xd
  split
  · have h1 := fl_map_le (List.range a.length) (fun i => xorl (a.getD i []) (b.getD i [])) (fun i => a.getD i []) (fun i => b.getD i []) (fun i => xorl_len_le _ _)
    have h2 := map_getD_le a.length a
    have h3 := map_getD_le a.length b
    unfold xdL
    omega
  · omega
theorem hsh_digL (zss : List (List Int)) : hsh (digL zss) = dig zss := rfl
theorem dig_bound (zss : List (List Int)) : 0 ≤ dig zss ∧ dig zss ≤ 2147483646 := hsh_bound _

end Go.Proofs.Ytnamgnhplodhoaa
