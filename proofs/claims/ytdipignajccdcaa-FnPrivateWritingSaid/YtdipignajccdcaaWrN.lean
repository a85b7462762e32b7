/- Writes as lists of rows. No program. -/
import Derived.Test.YtdipignajccdcaaDb7
import Derived.Test.YtdipignajccdcaaBbR
import Derived.Test.YtdipignajccdcaaHpDb
namespace Go.Proofs.Ytdipignajccdcaa
open Go Go.RowKit
set_option linter.unusedVariables false
attribute [local irreducible] kh

/-- The stream of row i of a seed. -/
def srow (s : Int) (i : Nat) : List Int := strm (wrap64 (s + 1000 * (i : Int))) 24
def sdb (s r : Int) : List (List Int) := (List.range r.toNat).map (srow s)
def sdbs (r : Int) (ss : List Int) : List (List (List Int)) := ss.map fun s => sdb s r
/-- Whether there is such a row and such a cell. -/
def rowOk (r x : Int) (c : List Int) : Bool := inR r 1 64 && inR x 0 (r - 1) && decide (c.length = 24)
def whole (r x : Int) (c : List Int) : List (List Int) := (newR r).set x.toNat c
/-- A database and others, added up; whether it can be done. -/
def adF (u : List (List Int)) (l : List (List (List Int))) : List (List Int) := l.foldl xd u
def adK : List (List Int) → List (List (List Int)) → Bool
  | _, [] => true
  | u, z :: l => xdK u z && adK (xd u z) l
def ad (u : List (List Int)) (l : List (List (List Int))) : List (List Int) := if adK u l = true then adF u l else []
theorem ad_yes {u : List (List Int)} {l : List (List (List Int))} (h : adK u l = true) : ad u l = adF u l := if_pos h
theorem ad_no {u : List (List Int)} {l : List (List (List Int))} (h : adK u l = false) : ad u l = [] := if_neg (by rw [h]; exact Bool.false_ne_true)
theorem adF_append (u : List (List Int)) (l m : List (List (List Int))) : adF u (l ++ m) = adF (adF u l) m := List.foldl_append
theorem adF_snoc (u z : List (List Int)) (l : List (List (List Int))) : adF u (l ++ [z]) = xd (adF u l) z := by rw [adF_append]; rfl
theorem adK_append (u : List (List Int)) (l m : List (List (List Int))) : adK u (l ++ m) = (adK u l && adK (adF u l) m) := by
  induction l generalizing u with
  | nil => simp [adK, adF]
  | cons z l ih =>
    have : adF u (z :: l) = adF (xd u z) l := rfl
    rw [List.cons_append, adK, adK, ih, this, Bool.and_assoc]
theorem adK_snoc (u z : List (List Int)) (l : List (List (List Int))) : adK u (l ++ [z]) = (adK u l && xdK (adF u l) z) := by
  rw [adK_append]
  simp [adK]
theorem adF_take {u z : List (List Int)} {l : List (List (List Int))} {j : Nat} (h : l[j]? = some z) : xd (adF u (l.take j)) z = adF u (l.take (j + 1)) := by
  rw [List.take_add_one, h]
  exact (adF_snoc _ _ _).symm
theorem adK_take {u z : List (List Int)} {l : List (List (List Int))} {j : Nat} (h : l[j]? = some z) (hk : adK u (l.take j) = true) : adK u (l.take (j + 1)) = xdK (adF u (l.take j)) z := by
  rw [List.take_add_one, h]
  have := adK_snoc u z (l.take j)
  rw [hk, Bool.true_and] at this
  exact this
theorem adK_stop {u : List (List Int)} {l : List (List (List Int))} {j : Nat} (h : adK u (l.take j) = false) : adK u l = false := by
  have := adK_append u (l.take j) (l.drop j)
  rw [List.take_append_drop, h, Bool.false_and] at this
  exact this
/-- Rows of a sum. -/
theorem xd_len (a b : List (List Int)) : (xd a b).length = a.length := by
  unfold xd
  split
  · exact xdL_len a b
  · rfl
theorem xd_tot {a b : List (List Int)} : tot (xd a b) ≤ tot a + tot b := by
  have h1 := xd_fl a b
  have h2 := xd_len a b
  unfold tot; omega
theorem vd_fl {a : List (List Int)} (h : vd a = true) : tot a ≤ 1600 := by
  obtain ⟨h1, h2⟩ := vd_rows h
  have : ∀ l : List (List Int), (∀ z ∈ l, z.length = 24) → fl l = 24 * l.length := fun l => by
    induction l with
    | nil => intro _; rfl
    | cons z l ih =>
      intro hz
      rw [fl_cons, ih (fun y hy => hz y (List.mem_cons_of_mem _ hy)), hz z List.mem_cons_self, List.length_cons]; omega
  have := this a (fun z hz => by
    obtain ⟨i, hi, rfl⟩ := List.mem_iff_getElem.1 hz
    have := h2 i hi
    rwa [List.getD_eq_getElem?_getD, List.getElem?_eq_getElem hi] at this)
  unfold tot; omega
theorem xd_vd {a b : List (List Int)} (h : xdK a b = true) : vd (xd a b) = true := by
  have hk := h
  unfold xdK at h
  simp only [Bool.and_eq_true, decide_eq_true_eq] at h
  obtain ⟨⟨ha, hb⟩, hl⟩ := h
  obtain ⟨a1, a2⟩ := vd_rows ha
  obtain ⟨b1, b2⟩ := vd_rows hb
  rw [xd_yes hk]
  unfold vd
  rw [decide_eq_true (by rw [xdL_len]; exact a1), Bool.true_and]
  refine vrows_iff.2 fun i hi => ?_
  rw [xdL_len] at hi
  rw [List.getD_eq_getElem?_getD, xdL_get hi, Option.getD_some, xorl_len, a2 i hi, b2 i (by omega)]
  exact Nat.max_self _
/-- A sum of one at least is small. -/
theorem adF_tot {u : List (List Int)} {l : List (List (List Int))} (h : adK u l = true) (hl : l ≠ []) : tot (adF u l) ≤ 1600 := by
  obtain ⟨m, z, rfl⟩ : ∃ m z, l = m ++ [z] := ⟨l.dropLast, l.getLast hl, (List.dropLast_concat_getLast hl).symm⟩
  rw [adK_snoc, Bool.and_eq_true] at h
  rw [adF_snoc]
  exact vd_fl (xd_vd h.2)
theorem adF_tot_le {u : List (List Int)} {l : List (List (List Int))} {N : Nat} (h : adK u l = true) (hN : 1600 ≤ N) (hu : tot u ≤ N) : tot (adF u l) ≤ N := by
  by_cases hl : l = []
  · subst hl; exact hu
  · exact Nat.le_trans (adF_tot h hl) hN
theorem ad_tot {u : List (List Int)} {l : List (List (List Int))} {N : Nat} (hN : 1600 ≤ N) (hu : tot u ≤ N) : tot (ad u l) ≤ N := by
  by_cases h : adK u l = true
  · rw [ad_yes h]; exact adF_tot_le h hN hu
  · rw [ad_no (by simpa using h)]; exact Nat.zero_le _

/-- The databases of a write. -/
def mkwK (r x : Int) (c ss : List Int) : Bool := rowOk r x c && inR ((ss.length : Int) + 1) 2 4
def mkw (r x : Int) (c ss : List Int) : List (List (List Int)) := if mkwK r x c ss = true then sdbs r ss ++ [adF (whole r x c) (sdbs r ss)] else []
theorem mkw_no {r x : Int} {c ss : List Int} (h : mkwK r x c ss = false) : mkw r x c ss = [] := if_neg (by rw [h]; exact Bool.false_ne_true)
theorem mkw_yes {r x : Int} {c ss : List Int} (h : mkwK r x c ss = true) : mkw r x c ss = sdbs r ss ++ [adF (whole r x c) (sdbs r ss)] := if_pos h
theorem sdbs_len (r : Int) (ss : List Int) : (sdbs r ss).length = ss.length := by simp [sdbs]
theorem sdbs_get {r : Int} {ss : List Int} {j : Nat} (hj : j < ss.length) : (sdbs r ss)[j]? = some (sdb (ss.getD j 0) r) := by
  simp [sdbs, List.getElem?_map, List.getD_eq_getElem?_getD, List.getElem?_eq_getElem hj]
theorem sdbs_take (r : Int) (ss : List Int) (j : Nat) : (sdbs r ss).take j = sdbs r (ss.take j) := by simp [sdbs, List.map_take]
theorem rowOk_iff {r x : Int} {c : List Int} : rowOk r x c = true ↔ (1 ≤ r ∧ r ≤ 64) ∧ (0 ≤ x ∧ x ≤ r - 1) ∧ c.length = 24 := by
  unfold rowOk inR
  simp only [Bool.and_eq_true, decide_eq_true_eq]
  constructor
  · rintro ⟨⟨h1, h2⟩, h3⟩; exact ⟨h1, h2, h3⟩
  · rintro ⟨h1, h2, h3⟩; exact ⟨⟨h1, h2⟩, h3⟩
theorem strm24_len (s : Int) : (strm s 24).length = 24 := by
  unfold strm
  rw [if_pos (by decide)]
  simp
theorem srow_len (s : Int) (i : Nat) : (srow s i).length = 24 := strm24_len _
theorem sdb_len (s r : Int) : (sdb s r).length = r.toNat := by simp [sdb]
theorem sdb_get {s r : Int} {i : Nat} (hi : i < r.toNat) : (sdb s r)[i]? = some (srow s i) := by simp [sdb, hi]
theorem vd_of_rows {a : List (List Int)} (h1 : a.length ≤ 64) (h2 : ∀ z ∈ a, z.length = 24) : vd a = true := by
  unfold vd
  rw [decide_eq_true h1, Bool.true_and]
  refine vrows_iff.2 fun i hi => ?_
  rw [List.getD_eq_getElem?_getD, List.getElem?_eq_getElem hi]
  exact h2 _ (List.getElem_mem hi)
theorem sdb_vd {r : Int} (h : r ≤ 64) (s : Int) : vd (sdb s r) = true := vd_of_rows (by rw [sdb_len]; omega) fun z hz => by
  simp only [sdb, List.mem_map] at hz
  obtain ⟨i, _, rfl⟩ := hz
  exact srow_len _ _
theorem newR_len {r : Int} (h : 0 ≤ r ∧ r ≤ 64) : (newR r).length = r.toNat := by unfold newR; rw [if_pos h]; simp
theorem whole_len {r x : Int} {c : List Int} (h : rowOk r x c = true) : (whole r x c).length = r.toNat := by
  have h := rowOk_iff.1 h
  unfold whole
  rw [List.length_set, newR_len (by omega)]
theorem whole_vd {r x : Int} {c : List Int} (h : rowOk r x c = true) : vd (whole r x c) = true := by
  have h' := rowOk_iff.1 h
  refine vd_of_rows (by rw [whole_len h]; omega) fun z hz => ?_
  unfold whole newR at hz
  rw [if_pos (by omega)] at hz
  rcases List.mem_or_eq_of_mem_set hz with hz | hz
  · rw [List.eq_of_mem_replicate hz]; simp
  · rw [hz]; exact h'.2.2
/-- Sums of valid databases of one size. -/
theorem adK_all {n : Nat} {u : List (List Int)} {l : List (List (List Int))} (hu : vd u = true) (hn : u.length = n) (h : ∀ z ∈ l, vd z = true ∧ z.length = n) : adK u l = true := by
  induction l generalizing u with
  | nil => rfl
  | cons z l ih =>
    have hz := h z List.mem_cons_self
    have hk := xdK_yes hu hz.1 (by rw [hn, hz.2])
    rw [adK, hk, Bool.true_and]
    exact ih (xd_vd hk) (by rw [xd_len, hn]) fun y hy => h y (List.mem_cons_of_mem _ hy)
theorem adK_sdbs {r x : Int} {c : List Int} (h : rowOk r x c = true) (ss : List Int) : adK (whole r x c) (sdbs r ss) = true := by
  have h' := rowOk_iff.1 h
  refine adK_all (n := r.toNat) (whole_vd h) (whole_len h) fun z hz => ?_
  simp only [sdbs, List.mem_map] at hz
  obtain ⟨s, _, rfl⟩ := hz
  exact ⟨sdb_vd (by omega) s, sdb_len _ _⟩
theorem mkw_len_le (r x : Int) (c ss : List Int) : (mkw r x c ss).length ≤ 4 := by
  unfold mkw
  split
  · rename_i h
    unfold mkwK at h
    rw [Bool.and_eq_true] at h
    have := h.2
    unfold inR at this
    simp only [Bool.and_eq_true, decide_eq_true_eq] at this
    rw [List.length_append, sdbs_len, List.length_singleton]; omega
  · exact Nat.zero_le _

/-- What a write joins to. -/
def jwK (l : List (List (List Int))) : Bool := inR (l.length : Int) 2 4 && adK (l.getD 0 []) (l.drop 1)
def jw (l : List (List (List Int))) : List (List Int) := if jwK l = true then adF (l.getD 0 []) (l.drop 1) else []
theorem jw_no {l : List (List (List Int))} (h : jwK l = false) : jw l = [] := if_neg (by rw [h]; exact Bool.false_ne_true)
theorem jw_yes {l : List (List (List Int))} (h : jwK l = true) : jw l = adF (l.getD 0 []) (l.drop 1) := if_pos h
/-- The database that is missing. -/
def exwK (l : List (List (List Int))) (r x : Int) (c : List Int) : Bool := rowOk r x c && decide (l.length ≠ 0) && adK (whole r x c) l
def exw (l : List (List (List Int))) (r x : Int) (c : List Int) : List (List Int) := if exwK l r x c = true then adF (whole r x c) l else []
theorem exw_no {l : List (List (List Int))} {r x : Int} {c : List Int} (h : exwK l r x c = false) : exw l r x c = [] := if_neg (by rw [h]; exact Bool.false_ne_true)
theorem exw_yes {l : List (List (List Int))} {r x : Int} {c : List Int} (h : exwK l r x c = true) : exw l r x c = adF (whole r x c) l := if_pos h
/-- Rows that are not zero. -/
def crw (d : List (List Int)) : Nat := (d.filter fun z => !isz z).length
theorem crw_le (d : List (List Int)) : crw d ≤ d.length := List.length_filter_le _ _
theorem crw_take {d : List (List Int)} {j : Nat} {z : List Int} (h : d[j]? = some z) : crw (d.take (j + 1)) = crw (d.take j) + (if isz z = true then 0 else 1) := by
  unfold crw
  rw [List.take_add_one, h, List.filter_append, List.length_append]
  cases hz : isz z <;> simp [hz]

/-- Elements of a list of databases, one cell each. -/
theorem tot_mem {xs : List VDatabase} {j : Nat} {x : VDatabase} (h : xs[j]? = some x) : tot x ≤ totL tyDatabase xs := by
  have h1 := etot_take (T := tyDatabase) h
  have h2 := etot_le tyDatabase xs (j + 1)
  have h3 : tyDatabase.tot x = tot x := totL2 _ _ _ _ x
  rw [totL_eq]; omega
end Go.Proofs.Ytdipignajccdcaa
