/- Kept keys in a map: what it holds, one key put, one struck; the last keys of what ascends. Pure; no conditions but those that are named. -/
import Derived.Test.YtlbijjifeaimjaaRtN
import Derived.Test.YtlbijjifeaimjaaSpD
namespace Go.Proofs.Ytlbijjifeaimjaa
open Go Go.RowKit Go.Maps Go.Sort
set_option linter.unusedVariables false
set_option maxRecDepth 20000
attribute [local irreducible] kh kid

/-- All keys are integers. -/
def IntK (D : DataW Unit) : Prop := ∃ es, D = .map es ∧ ∀ p ∈ es, ∃ x, p.1 = .int .i64 x
theorem IntK.put {D : DataW Unit} (h : IntK D) (x : Int) (d : DataW Unit) : IntK (D.put (.int .i64 x) d) := by
  obtain ⟨es, rfl, h⟩ := h
  refine ⟨_, rfl, fun p hp => ?_⟩
  rcases List.mem_cons.1 ((WideShapes.insert_perm (.int .i64 x, d) (es.filter fun p => !p.1.sameKey (.int .i64 x))).mem_iff.1 hp) with rfl | hp
  · exact ⟨x, rfl⟩
  · exact h p (List.mem_filter.1 hp).1
theorem IntK.del {D : DataW Unit} (h : IntK D) (k : Lit) : IntK (D.del k) := by
  obtain ⟨es, rfl, h⟩ := h
  exact ⟨_, rfl, fun p hp => h p (List.mem_filter.1 hp).1⟩
/-- The map holds just the keys of this list. -/
def MapK (D : DataW Unit) (L : Kept) : Prop :=
  Tidy D ∧ (∀ x, Maps.has D (.int .i64 x) = hasK L x) ∧ (∀ x, hasK L x = true → ∀ z, D.atKey (.int .i64 x) z = .lit (.int .i64 (getK L x))) ∧ IntK D
theorem hasK_cons (x : Int × Int) (l : Kept) (t : Int) : hasK (x :: l) t = (x.1 == t || hasK l t) := rfl
theorem hasK_append (a b : Kept) (t : Int) : hasK (a ++ b) t = (hasK a t || hasK b t) := by unfold hasK; rw [List.any_append]
theorem hasK_iff {l : Kept} {t : Int} : hasK l t = true ↔ ∃ x ∈ l, x.1 = t := by
  unfold hasK
  rw [List.any_eq_true]
  constructor
  · rintro ⟨x, h1, h2⟩; exact ⟨x, h1, by simpa using h2⟩
  · rintro ⟨x, h1, h2⟩; exact ⟨x, h1, by simpa using h2⟩
theorem getK_append_no {a b : Kept} {t : Int} (h : hasK a t = false) : getK (a ++ b) t = getK b t := by
  induction a with
  | nil => rfl
  | cons x l ih =>
    rw [hasK_cons, Bool.or_eq_false_iff] at h
    show (if x.1 = t then x.2 else getK (l ++ b) t) = _
    rw [if_neg (by simpa using h.1), ih h.2]
theorem getK_append_yes {a b : Kept} {t : Int} (h : hasK a t = true) : getK (a ++ b) t = getK a t := by
  induction a with
  | nil => cases h
  | cons x l ih =>
    show (if x.1 = t then x.2 else getK (l ++ b) t) = (if x.1 = t then x.2 else getK l t)
    by_cases hx : x.1 = t
    · rw [if_pos hx, if_pos hx]
    · rw [if_neg hx, if_neg hx]
      rw [hasK_cons, Bool.or_eq_true] at h
      rcases h with h | h
      · exact absurd (by simpa using h) hx
      · exact ih h
theorem hasK_one (s m t : Int) : hasK [(s, m)] t = (s == t) := by simp [hasK]
theorem hasK_del (l : Kept) (t x : Int) : hasK (delK l t) x = (hasK l x && !(x == t)) := by
  rw [Bool.eq_iff_iff, Bool.and_eq_true, hasK_iff, hasK_iff]
  unfold delK
  constructor
  · rintro ⟨y, hy, rfl⟩
    obtain ⟨h1, h2⟩ := List.mem_filter.1 hy
    exact ⟨⟨y, h1, rfl⟩, h2⟩
  · rintro ⟨⟨y, hy, rfl⟩, h2⟩
    exact ⟨y, List.mem_filter.2 ⟨hy, h2⟩, rfl⟩
theorem getK_del {t x : Int} (hx : x ≠ t) : ∀ l : Kept, getK (delK l t) x = getK l x
  | [] => rfl
  | y :: l => by
    unfold delK
    by_cases hy : y.1 = t
    · rw [List.filter_cons_of_neg (by simp [hy])]
      show getK (delK l t) x = (if y.1 = x then y.2 else getK l x)
      rw [if_neg (by omega), getK_del hx l]
    · rw [List.filter_cons_of_pos (by simp [hy])]
      show (if y.1 = x then y.2 else getK (delK l t) x) = (if y.1 = x then y.2 else getK l x)
      rw [getK_del hx l]
theorem MapK.start : MapK (.map []) [] := ⟨tidy_empty, fun _ => rfl, (fun _ h => by cases h), [], rfl, fun _ h => by cases h⟩
theorem MapK.put {D : DataW Unit} {L : Kept} (h : MapK D L) {s m : Int} (hn : hasK L s = false) : MapK (D.put (.int .i64 s) (.lit (.int .i64 m))) (L ++ [(s, m)]) := by
  obtain ⟨ht, hh, hg, hi⟩ := h
  refine ⟨ht.put (show WideAt.IsKeyLit (.int .i64 s) from trivial) _, fun x => ?_, fun x hx z => ?_, hi.put _ _⟩
  · rw [hasK_append, hasK_one]
    by_cases e : x = s
    · subst e
      rw [has_put_same ht.isMap (show WideAt.IsKeyLit (.int .i64 x) from trivial)]; simp
    · rw [has_put_other (by intro e'; injection e' with _ e'; exact e e'), hh]
      rw [beq_eq_false_iff_ne.2 (fun e' => e e'.symm), Bool.or_false]
  · by_cases e : x = s
    · subst e
      rw [atKey_put_same ht.isMap (show WideAt.IsKeyLit (.int .i64 x) from trivial), getK_append_no hn]
      show _ = DataW.lit (.int .i64 (if x = x then m else 0))
      rw [if_pos rfl]
    · have hx' : hasK L x = true := by
        rw [hasK_append, hasK_one, beq_eq_false_iff_ne.2 (fun e' => e e'.symm), Bool.or_false] at hx
        exact hx
      rw [atKey_put_other (by intro e'; injection e' with _ e'; exact e e'), hg x hx', getK_append_yes hx']
theorem MapK.del {D : DataW Unit} {L : Kept} (h : MapK D L) (t : Int) : MapK (D.del (.int .i64 t)) (delK L t) := by
  obtain ⟨ht, hh, hg, hi⟩ := h
  refine ⟨ht.del _, fun x => ?_, fun x hx z => ?_, hi.del _⟩
  · rw [hasK_del]
    by_cases e : x = t
    · subst e
      rw [has_del_same]; simp
    · rw [has_del_other (by intro e'; injection e' with _ e'; exact e e'), hh, beq_eq_false_iff_ne.2 e]; simp
  · rw [hasK_del, Bool.and_eq_true] at hx
    have e : x ≠ t := by simpa using hx.2
    rw [atKey_del_other (by intro e'; injection e' with _ e'; exact e e'), hg x hx.1, getK_del e]
theorem MapK.atNo {D : DataW Unit} {L : Kept} (h : MapK D L) {t : Int} (ht : hasK L t = false) (z : DataW Unit) : D.atKey (.int .i64 t) z = z := atKey_of_not_has (by rw [h.2.1, ht]) z

/-! ### Ascending steps -/
def Asc (l : Kept) : Prop := l.Pairwise fun x y => x.1 < y.1
theorem asc_of : ∀ {l : Kept}, ascK l = true → Asc l
  | [], _ => List.Pairwise.nil
  | x :: l, h => by
    unfold ascK at h
    rw [Bool.and_eq_true] at h
    have ih := asc_of h.2
    refine List.pairwise_cons.2 ⟨fun y hy => ?_, ih⟩
    cases l with
    | nil => cases hy
    | cons z l =>
      have h1 : x.1 < z.1 := by simpa using h.1
      rcases List.mem_cons.1 hy with rfl | hy
      · exact h1
      · have := (List.pairwise_cons.1 ih).1 y hy
        omega
theorem of_asc : ∀ {l : Kept}, Asc l → ascK l = true
  | [], _ => rfl
  | [x], _ => rfl
  | x :: y :: l, h => by
    have h1 := List.pairwise_cons.1 h
    have h2 := h1.1 y (by simp)
    have h3 := of_asc h1.2
    have e : ascK (x :: y :: l) = (decide (x.1 < y.1) && ascK (y :: l)) := rfl
    rw [e, decide_eq_true h2, h3]
    rfl
theorem Asc.map {l : Kept} (h : Asc l) : (l.map Prod.fst).Pairwise (· < ·) := by
  rw [List.pairwise_map]; exact h
theorem Asc.del {l : Kept} (h : Asc l) (t : Int) : Asc (delK l t) := h.sublist List.filter_sublist
theorem Asc.drop {l : Kept} (h : Asc l) (k : Nat) : Asc (l.drop k) := h.sublist (List.drop_sublist _ _)
theorem Asc.get {l : Kept} (h : Asc l) {i : Nat} {x : Int × Int} (hx : l[i]? = some x) : hasK l x.1 = true ∧ getK l x.1 = x.2 := by
  induction l generalizing i with
  | nil => simp at hx
  | cons y l ih =>
    have hp := List.pairwise_cons.1 h
    cases i with
    | zero =>
      obtain rfl : y = x := by simpa using hx
      constructor
      · rw [hasK_cons]; simp
      · show (if y.1 = y.1 then y.2 else _) = _
        rw [if_pos rfl]
    | succ i =>
      have hx' : l[i]? = some x := by simpa using hx
      have hlt := hp.1 x (List.mem_of_getElem? hx')
      obtain ⟨h1, h2⟩ := ih hp.2 hx'
      constructor
      · rw [hasK_cons, h1]; simp
      · show (if y.1 = x.1 then y.2 else getK l x.1) = _
        rw [if_neg (by omega), h2]
theorem Asc.snoc {l : Kept} (h : Asc l) {s m : Int} (hs : ∀ x ∈ l, x.1 < s) : Asc (l ++ [(s, m)]) := by
  unfold Asc
  rw [List.pairwise_append]
  refine ⟨h, List.pairwise_singleton _ _, fun a ha b hb => ?_⟩
  obtain rfl := List.mem_singleton.1 hb
  exact hs a ha
theorem memS_fst (l : Kept) (t : Int) : t ∈ l.map Prod.fst ↔ hasK l t = true := by
  rw [hasK_iff, List.mem_map]
theorem keyK_lt {s : Int} {l : Kept} (h : keyK s l = true) : ∀ x ∈ l, (1 ≤ x.2 ∧ x.2 ≤ 2147483646) ∧ 0 ≤ x.1 ∧ x.1 < s := by
  intro x hx
  have := List.all_eq_true.1 h x hx
  unfold inR at this
  simp only [Bool.and_eq_true, decide_eq_true_eq] at this
  omega
theorem hasK_no {l : Kept} {s : Int} (h : ∀ x ∈ l, x.1 < s) : hasK l s = false := by
  cases hh : hasK l s with
  | false => rfl
  | true =>
    obtain ⟨x, hx, e⟩ := hasK_iff.1 hh
    have := h x hx
    omega
theorem delK_no {l : Kept} {s : Int} (h : ∀ x ∈ l, x.1 < s) : delK l s = l := by
  unfold delK
  refine List.filter_eq_self.2 fun x hx => ?_
  have := h x hx
  simp; omega
theorem skp_lt (c s : Int) (n : Nat) : ∀ x ∈ skp c s n, s ≤ x.1 ∧ x.1 < s + (n : Int) ∧ 1 ≤ x.2 ∧ x.2 ≤ 2147483646 := by
  induction n generalizing c s with
  | zero => intro x hx; cases hx
  | succ n ih =>
    intro x hx
    rcases List.mem_cons.1 hx with rfl | hx
    · have := mky_bound c
      refine ⟨Int.le_refl _, ?_, this.1, this.2⟩
      show s < _
      push_cast; omega
    · have := ih _ _ x hx
      push_cast at this ⊢
      omega
/-- Kept and skipped ones, before the step s + n. -/
theorem ks_lt {c s : Int} {l : Kept} (h : keyK s l = true) (n : Nat) : ∀ x ∈ l ++ skp c s n, x.1 < s + (n : Int) := by
  intro x hx
  rcases List.mem_append.1 hx with hx | hx
  · have := keyK_lt h x hx; omega
  · have := skp_lt c s n x hx; omega
theorem ks_wf {c s : Int} {l : Kept} (hs : s ≤ 100000) (h : keyK s l = true) {n : Nat} (hn : n ≤ 9) : ∀ x ∈ l ++ skp c s n, (0 ≤ x.1 ∨ s ≤ x.1) ∧ x.1 ≤ 200000 ∧ 1 ≤ x.2 ∧ x.2 ≤ 2147483646 := by
  intro x hx
  rcases List.mem_append.1 hx with hx | hx
  · have := keyK_lt h x hx; omega
  · have := skp_lt c s n x hx; omega
theorem ks_asc {c s : Int} {l : Kept} (h : keyK s l = true) (ha : Asc l) : ∀ n, Asc (l ++ skp c s n)
  | 0 => by rw [show skp c s 0 = [] from rfl, List.append_nil]; exact ha
  | n + 1 => by
    rw [skp_snoc, ← List.append_assoc]
    exact (ks_asc h ha n).snoc (ks_lt h n)
theorem ks_del {c s : Int} {l : Kept} (h : keyK s l = true) (n : Nat) : delK (l ++ skp c s (n + 1)) (s + (n : Int)) = l ++ skp c s n := by
  rw [skp_snoc, ← List.append_assoc]
  have e : delK ((l ++ skp c s n) ++ [(s + (n : Int), mky (chn c n))]) (s + (n : Int)) = delK (l ++ skp c s n) (s + (n : Int)) ++ delK [(s + (n : Int), mky (chn c n))] (s + (n : Int)) := by
    unfold delK; rw [List.filter_append]
  rw [e, delK_no (ks_lt h n)]
  simp [delK]
theorem ks_get {c s : Int} {l : Kept} (h : keyK s l = true) (n : Nat) : hasK (l ++ skp c s (n + 1)) (s + (n : Int)) = true ∧ getK (l ++ skp c s (n + 1)) (s + (n : Int)) = mky (chn c n) := by
  rw [skp_snoc, ← List.append_assoc]
  constructor
  · rw [hasK_append, hasK_one]; simp
  · rw [getK_append_no (hasK_no (ks_lt h n))]
    show (if s + (n : Int) = s + (n : Int) then mky (chn c n) else 0) = _
    rw [if_pos rfl]
theorem getK_in {l : Kept} {t : Int} (h : hasK l t = true) : ∃ (i : Nat) (x : Int × Int), l[i]? = some x ∧ x.1 = t ∧ (∀ (j : Nat) (y : Int × Int), j < i → l[j]? = some y → y.1 ≠ t) ∧ getK l t = x.2 := by
  induction l with
  | nil => cases h
  | cons y l ih =>
    by_cases hy : y.1 = t
    · refine ⟨0, y, rfl, hy, fun j z hj => by omega, ?_⟩
      show (if y.1 = t then y.2 else _) = _
      rw [if_pos hy]
    · rw [hasK_cons, Bool.or_eq_true] at h
      rcases h with h | h
      · exact absurd (by simpa using h) hy
      · obtain ⟨i, x, h1, h2, h3, h4⟩ := ih h
        refine ⟨i + 1, x, by simpa using h1, h2, fun j z hj hz => ?_, ?_⟩
        · cases j with
          | zero =>
            obtain rfl : y = z := by simpa using hz
            exact hy
          | succ j => exact h3 j z (by omega) (by simpa using hz)
        · show (if y.1 = t then y.2 else getK l t) = _
          rw [if_neg hy, h4]
/-- What is left when the one at place i is struck. -/
theorem delK_at {l : Kept} (ha : Asc l) {i : Nat} {x : Int × Int} (hx : l[i]? = some x) : delK l x.1 = l.take i ++ l.drop (i + 1) := by
  induction l generalizing i with
  | nil => simp at hx
  | cons y l ih =>
    have hp := List.pairwise_cons.1 ha
    unfold delK
    cases i with
    | zero =>
      obtain rfl : y = x := by simpa using hx
      rw [List.filter_cons_of_neg (by simp)]
      simp only [List.take_zero, List.nil_append, List.drop_succ_cons, List.drop_zero]
      refine List.filter_eq_self.2 fun z hz => ?_
      have := hp.1 z hz
      simp; omega
    | succ i =>
      have hx' : l[i]? = some x := by simpa using hx
      have hlt := hp.1 x (List.mem_of_getElem? hx')
      rw [List.filter_cons_of_pos (by simp; omega)]
      simp only [List.take_succ_cons, List.drop_succ_cons, List.cons_append, List.cons.injEq, true_and]
      exact ih hp.2 hx'

/-! ### The map's keys as a range finds them -/
theorem collI_len {D : DataW Unit} {L : Kept} (hM : MapK D L) {left : Lit → Bool} {ss : List Int} (h : CollI D left ss) : ss.length ≤ L.length := by
  have := h.len (L := L.map Prod.fst) (fun x hx => (memS_fst L x).2 (by rw [← hM.2.1]; exact hx))
  rwa [List.length_map] at this
theorem collI_done {D : DataW Unit} {L : Kept} (hM : MapK D L) (hA : Asc L) {left : Lit → Bool} {ss : List Int} (h : CollI D left ss) (hl : ∀ z, left z = false) : ss.mergeSort (fun x y => decide (x ≤ y)) = L.map Prod.fst :=
  sorted_is h.1 (fun x => by rw [h.full hl, hM.2.1, memS_fst]) hA.map

theorem Asc.take_lt {l : Kept} (h : Asc l) {j : Nat} {x : Int × Int} (hx : l[j]? = some x) : ∀ y ∈ l.take j, y.1 < x.1 := by
  intro y hy
  obtain ⟨i, hi, rfl⟩ := List.mem_iff_getElem.1 hy
  rw [List.length_take] at hi
  have hj := (List.getElem?_eq_some_iff.1 hx).1
  have := List.pairwise_iff_getElem.1 h i j (by omega) hj (by omega)
  rw [List.getElem_take]
  rw [List.getElem?_eq_getElem hj] at hx
  injection hx with hx
  rw [← hx]
  exact this
theorem take_snocK {l : Kept} {j : Nat} {x : Int × Int} (hx : l[j]? = some x) : l.take (j + 1) = l.take j ++ [x] := by
  rw [List.take_add_one, hx]
  rfl

end Go.Proofs.Ytlbijjifeaimjaa
