/- Spent lists as numbers and lists: what is valid, insertion, spending, merging, what is left of a budget. Pure. No conditions but those that are named. -/
import Derived.Test.YtlbijjifeaimjaaBcP
namespace Go.Proofs.Ytlbijjifeaimjaa
open Go Go.RowKit
set_option linter.unusedVariables false
set_option maxRecDepth 20000
attribute [local irreducible] kh kid pwm tcm pw

/-- IsValidSpentList, the list alone; and whole. -/
def okSl (zs : List Int) : Bool := decide (∀ i, i < zs.length → (0 ≤ zs.getD i 0 ∧ zs.getD i 0 ≤ 100000) ∧ (0 < i → zs.getD (i - 1) 0 < zs.getD i 0))
def slv (e : Int) (zs : List Int) : Bool := okSl zs && (inR e 0 1000000000000 && decide (zs.length ≤ 40))
def epN (e : Int) : Int := if inR e 0 1000000000000 = true then e else 0
/-- IsSpent. -/
def memS (zs : List Int) (n : Int) : Bool := zs.contains n
theorem memS_iff {zs : List Int} {n : Int} : memS zs n = true ↔ n ∈ zs := by unfold memS; simp
theorem memS_no {zs : List Int} {n : Int} : memS zs n = false ↔ n ∉ zs := by
  rw [← memS_iff]; cases memS zs n <;> simp
/-- A serial number put into its place. -/
def insK (zs : List Int) (n : Int) : Nat := (zs.takeWhile (fun z => decide (z < n))).length
def insS (zs : List Int) (n : Int) : List Int := zs.take (insK zs n) ++ n :: zs.drop (insK zs n)
theorem insK_le (zs : List Int) (n : Int) : insK zs n ≤ zs.length := List.Sublist.length_le (List.takeWhile_sublist _)
theorem insS_len (zs : List Int) (n : Int) : (insS zs n).length = zs.length + 1 := by
  have := insK_le zs n
  unfold insS; simp; omega
theorem insS_mem {zs : List Int} {n m : Int} : m ∈ insS zs n ↔ m = n ∨ m ∈ zs := by
  unfold insS
  have h : m ∈ zs ↔ m ∈ zs.take (insK zs n) ∨ m ∈ zs.drop (insK zs n) := by rw [← List.mem_append, List.take_append_drop]
  rw [List.mem_append, List.mem_cons, h]
  constructor
  · rintro (h | h | h)
    · exact Or.inr (Or.inl h)
    · exact Or.inl h
    · exact Or.inr (Or.inr h)
  · rintro (h | h | h)
    · exact Or.inr (Or.inl h)
    · exact Or.inl h
    · exact Or.inr (Or.inr h)
theorem take_insK (zs : List Int) (n : Int) : zs.take (insK zs n) = zs.takeWhile (fun z => decide (z < n)) := by
  have h := congrArg (List.take (insK zs n)) (List.takeWhile_append_dropWhile (p := fun z => decide (z < n)) (l := zs)).symm
  rw [h]
  exact List.take_left' rfl
theorem drop_insK (zs : List Int) (n : Int) : zs.drop (insK zs n) = zs.dropWhile (fun z => decide (z < n)) := by
  have h := congrArg (List.drop (insK zs n)) (List.takeWhile_append_dropWhile (p := fun z => decide (z < n)) (l := zs)).symm
  rw [h]
  exact List.drop_left' rfl
/-- The place, as a loop finds it. -/
theorem insK_below {zs : List Int} {n : Int} {i : Nat} (h : i < insK zs n) : zs.getD i 0 < n := by
  have h1 : i < (zs.takeWhile (fun z => decide (z < n))).length := h
  have h2 : i < zs.length := Nat.lt_of_lt_of_le h (insK_le zs n)
  have h3 := List.getElem_mem h1
  have h4 := List.all_eq_true.1 (List.all_takeWhile (p := fun z => decide (z < n)) (l := zs)) _ h3
  have h5 : (zs.takeWhile (fun z => decide (z < n)))[i] = zs[i] := by
    have h6 := List.getElem_take (xs := zs) (j := insK zs n) (i := i) (h := by rw [List.length_take]; omega)
    rw [← h6]
    congr 1
    exact (take_insK zs n).symm
  rw [h5] at h4
  rw [List.getD_eq_getElem?_getD, List.getElem?_eq_getElem h2]
  simpa using h4
theorem insK_stop {zs : List Int} {n : Int} (h : insK zs n < zs.length) : ¬ zs.getD (insK zs n) 0 < n := by
  have h1 : zs.drop (insK zs n) = zs[insK zs n] :: zs.drop (insK zs n + 1) := List.drop_eq_getElem_cons h
  rw [drop_insK] at h1
  have h2 : ¬ (fun z => decide (z < n)) zs[insK zs n] = true := by
    have h3 := List.head?_dropWhile_not (fun z => decide (z < n)) zs
    rw [h1] at h3
    simp only [List.head?_cons] at h3
    simpa using h3
  rw [List.getD_eq_getElem?_getD, List.getElem?_eq_getElem h]
  simpa using h2
theorem insK_is {zs : List Int} {n : Int} {k : Nat} (hk : k ≤ zs.length) (h1 : ∀ i, i < k → zs.getD i 0 < n) (h2 : k < zs.length → ¬ zs.getD k 0 < n) : insK zs n = k := by
  rcases Nat.lt_trichotomy (insK zs n) k with h | h | h
  · exact absurd (h1 _ h) (insK_stop (by omega))
  · exact h
  · have := insK_le zs n
    exact absurd (insK_below h) (h2 (by omega))

theorem okSl_iff {zs : List Int} : okSl zs = true ↔ (∀ z ∈ zs, 0 ≤ z ∧ z ≤ 100000) ∧ zs.Pairwise (· < ·) := by
  unfold okSl
  rw [decide_eq_true_iff]
  have hg : ∀ i (h : i < zs.length), zs.getD i 0 = zs[i] := fun i h => by rw [List.getD_eq_getElem?_getD, List.getElem?_eq_getElem h]; rfl
  constructor
  · intro h
    refine ⟨fun z hz => ?_, ?_⟩
    · obtain ⟨i, hi, rfl⟩ := List.mem_iff_getElem.1 hz
      have := (h i hi).1
      rwa [hg i hi] at this
    · rw [List.pairwise_iff_getElem]
      intro i j hi hj hij
      have key : ∀ d, ∀ j (hj : j < zs.length), i + 1 + d = j → zs[i] < zs[j] := by
        intro d
        induction d with
        | zero =>
          intro j hj e
          have := (h j hj).2 (by omega)
          rw [hg j hj, hg (j - 1) (by omega)] at this
          have e2 : j - 1 = i := by omega
          simpa [e2] using this
        | succ d ih =>
          intro j hj e
          have h1 := ih (j - 1) (by omega) (by omega)
          have := (h j hj).2 (by omega)
          rw [hg j hj, hg (j - 1) (by omega)] at this
          exact Int.lt_trans h1 this
      exact key (j - (i + 1)) j hj (by omega)
  · rintro ⟨h1, h2⟩ i hi
    rw [List.pairwise_iff_getElem] at h2
    refine ⟨by rw [hg i hi]; exact h1 _ (List.getElem_mem hi), fun h0 => ?_⟩
    rw [hg i hi, hg (i - 1) (by omega)]
    exact h2 (i - 1) i (by omega) hi (by omega)
/-- Insertion keeps the order. -/
theorem insS_ok {zs : List Int} {n : Int} (h : okSl zs = true) (h0 : 0 ≤ n) (h1 : n ≤ 100000) (hn : n ∉ zs) : okSl (insS zs n) = true := by
  obtain ⟨hr, hp⟩ := okSl_iff.1 h
  refine okSl_iff.2 ⟨fun z hz => ?_, ?_⟩
  · rcases insS_mem.1 hz with rfl | hz
    · exact ⟨h0, h1⟩
    · exact hr z hz
  · unfold insS
    have hsplit : (zs.take (insK zs n) ++ zs.drop (insK zs n)).Pairwise (· < ·) := by rw [List.take_append_drop]; exact hp
    rw [List.pairwise_append] at hsplit
    obtain ⟨p1, p2, p3⟩ := hsplit
    have hlt : ∀ z ∈ zs.take (insK zs n), z < n := by
      intro z hz
      rw [take_insK] at hz
      have := List.all_eq_true.1 (List.all_takeWhile (p := fun z => decide (z < n)) (l := zs)) z hz
      simpa using this
    have hgt : ∀ z ∈ zs.drop (insK zs n), n < z := by
      intro z hz
      have hne : z ≠ n := fun e => hn (by rw [← e]; exact List.mem_of_mem_drop hz)
      rcases Nat.lt_or_ge (insK zs n) zs.length with hk | hk
      · have hd : zs.drop (insK zs n) = zs[insK zs n] :: zs.drop (insK zs n + 1) := List.drop_eq_getElem_cons hk
        have hs := insK_stop hk
        rw [List.getD_eq_getElem?_getD, List.getElem?_eq_getElem hk] at hs
        rw [hd] at hz p2
        rw [List.pairwise_cons] at p2
        have hs' : n ≤ zs[insK zs n] := by simpa using hs
        rcases List.mem_cons.1 hz with rfl | hz
        · omega
        · have := p2.1 z hz
          omega
      · rw [List.drop_of_length_le hk] at hz
        cases hz
    rw [List.pairwise_append]
    refine ⟨p1, ?_, fun x hx y hy => ?_⟩
    · rw [List.pairwise_cons]
      exact ⟨hgt, p2⟩
    · rcases List.mem_cons.1 hy with rfl | hy
      · exact hlt x hx
      · exact Int.lt_trans (hlt x hx) (hgt y hy)

/-- SpendToken: what is told, and the list. -/
def spR (e : Int) (zs : List Int) (s n v : Int) : Int :=
  if (slv e zs && vtok s n v) = false then 1 else if memS zs n = true then 2 else if 40 ≤ zs.length then 3 else 0
def spL (e : Int) (zs : List Int) (s n v : Int) : List Int := if spR e zs s n v = 0 then insS zs n else zs
theorem sp_bad {e : Int} {zs : List Int} {s n v : Int} (h : (slv e zs && vtok s n v) = false) : spR e zs s n v = 1 ∧ spL e zs s n v = zs := by
  have h1 : spR e zs s n v = 1 := if_pos h
  exact ⟨h1, if_neg (by rw [h1]; decide)⟩
theorem sp_twice {e : Int} {zs : List Int} {s n v : Int} (h : (slv e zs && vtok s n v) = true) (hm : memS zs n = true) : spR e zs s n v = 2 ∧ spL e zs s n v = zs := by
  have h1 : spR e zs s n v = 2 := by unfold spR; rw [if_neg (by rw [h]; decide), if_pos hm]
  exact ⟨h1, if_neg (by rw [h1]; decide)⟩
theorem sp_full {e : Int} {zs : List Int} {s n v : Int} (h : (slv e zs && vtok s n v) = true) (hm : memS zs n = false) (hl : 40 ≤ zs.length) : spR e zs s n v = 3 ∧ spL e zs s n v = zs := by
  have h1 : spR e zs s n v = 3 := by unfold spR; rw [if_neg (by rw [h]; decide), if_neg (by rw [hm]; decide), if_pos hl]
  exact ⟨h1, if_neg (by rw [h1]; decide)⟩
theorem sp_ok {e : Int} {zs : List Int} {s n v : Int} (h : (slv e zs && vtok s n v) = true) (hm : memS zs n = false) (hl : ¬ 40 ≤ zs.length) : spR e zs s n v = 0 ∧ spL e zs s n v = insS zs n := by
  have h1 : spR e zs s n v = 0 := by unfold spR; rw [if_neg (by rw [h]; decide), if_neg (by rw [hm]; decide), if_neg hl]
  exact ⟨h1, if_pos h1⟩
theorem spR_bound (e : Int) (zs : List Int) (s n v : Int) : 0 ≤ spR e zs s n v ∧ spR e zs s n v ≤ 3 := by
  unfold spR; repeat' split
  all_goals omega
theorem spL_len (e : Int) (zs : List Int) (s n v : Int) : (spL e zs s n v).length ≤ zs.length + 1 := by
  unfold spL; split
  · rw [insS_len]; omega
  · omega
/-- A list that has no more than forty numbers: where a token was spent. -/
theorem sp_parts {e : Int} {zs : List Int} {s n v : Int} (h : spR e zs s n v = 0) : (slv e zs = true ∧ vtok s n v = true) ∧ memS zs n = false ∧ zs.length < 40 ∧ spL e zs s n v = insS zs n := by
  have hL : spL e zs s n v = insS zs n := if_pos h
  unfold spR at h
  split at h
  · omega
  · next h1 =>
    have h1' : (slv e zs && vtok s n v) = true := by cases hh : (slv e zs && vtok s n v) with
      | true => rfl
      | false => exact absurd hh h1
    split at h
    · omega
    · next h2 =>
      split at h
      · omega
      · next h3 =>
        refine ⟨by simpa using h1', ?_, by omega, hL⟩
        cases hh : memS zs n with
        | true => exact absurd hh h2
        | false => rfl
theorem vtok_in {s n v : Int} (h : vtok s n v = true) : 0 ≤ n ∧ n ≤ 100000 := by
  unfold vtok okNr at h
  rw [Bool.and_eq_true] at h
  have := h.1
  unfold inR at this
  simpa using this
theorem slv_ins {e : Int} {zs : List Int} {n : Int} (h : slv e zs = true) (h0 : 0 ≤ n) (h1 : n ≤ 100000) (hn : memS zs n = false) (hl : zs.length < 40) : slv e (insS zs n) = true := by
  unfold slv at h ⊢
  simp only [Bool.and_eq_true] at h ⊢
  refine ⟨insS_ok h.1 h0 h1 (memS_no.1 hn), h.2.1, ?_⟩
  rw [insS_len]
  exact decide_eq_true (by omega)

/-- MergeSpent: one number of the second list. -/
def mstep (zs : List Int) (o : List Int × Nat) (y : Int) : List Int × Nat :=
  if memS zs y = true then (o.1, o.2 + 1) else if o.1.length < 40 then (insS o.1 y, o.2) else o
def mgs (zs ys : List Int) : List Int × Nat := ys.foldl (mstep zs) (zs, 0)
theorem mgs_nil (zs : List Int) : mgs zs [] = (zs, 0) := rfl
theorem mgs_snoc (zs ys : List Int) (y : Int) : mgs zs (ys ++ [y]) = mstep zs (mgs zs ys) y := by unfold mgs; rw [List.foldl_append]; rfl
theorem mgs_take {zs ys : List Int} {j : Nat} (h : j < ys.length) : mgs zs (ys.take (j + 1)) = mstep zs (mgs zs (ys.take j)) (ys.getD j 0) := by
  rw [List.take_add_one, List.getElem?_eq_getElem h, List.getD_eq_getElem?_getD, List.getElem?_eq_getElem h]
  exact mgs_snoc _ _ _
def mgq (e f : Int) (zs ys : List Int) : Bool := slv e zs && (slv f ys && (e == f))
def mgL (e f : Int) (zs ys : List Int) : List Int := if mgq e f zs ys = true then (mgs zs ys).1 else zs
def mgN (e f : Int) (zs ys : List Int) : Int := if mgq e f zs ys = true then ((mgs zs ys).2 : Int) else 0
theorem mg_no {e f : Int} {zs ys : List Int} (h : mgq e f zs ys = false) : mgL e f zs ys = zs ∧ mgN e f zs ys = 0 := ⟨if_neg (by rw [h]; decide), if_neg (by rw [h]; decide)⟩
theorem mg_yes {e f : Int} {zs ys : List Int} (h : mgq e f zs ys = true) : mgL e f zs ys = (mgs zs ys).1 ∧ mgN e f zs ys = ((mgs zs ys).2 : Int) := ⟨if_pos h, if_pos h⟩
theorem mgs_n (zs ys : List Int) : (mgs zs ys).2 ≤ ys.length := by
  have key : ∀ j, j ≤ ys.length → (mgs zs (ys.take j)).2 ≤ j := by
    intro j
    induction j with
    | zero => intro _; rw [List.take_zero, mgs_nil]; exact Nat.le_refl _
    | succ j ih =>
      intro hj
      have h1 := ih (by omega)
      rw [mgs_take (by omega)]
      unfold mstep
      split
      · show _ + 1 ≤ _; omega
      · split <;> omega
  have := key ys.length (Nat.le_refl _)
  rwa [List.take_length] at this
/-- What the merged list is: all of the first, nothing but theirs, valid, as long as there is room. -/
theorem mgs_inv {zs ys : List Int} (hz : okSl zs = true) (hy : okSl ys = true) (hl : zs.length ≤ 40) : ∀ j, j ≤ ys.length →
    okSl (mgs zs (ys.take j)).1 = true ∧ (∀ z ∈ zs, z ∈ (mgs zs (ys.take j)).1) ∧ (∀ z ∈ (mgs zs (ys.take j)).1, z ∈ zs ∨ z ∈ ys.take j) ∧ (mgs zs (ys.take j)).1.length = min 40 (zs.length + j - (mgs zs (ys.take j)).2) ∧ (mgs zs (ys.take j)).2 ≤ j := by
  intro j
  induction j with
  | zero => intro _; rw [List.take_zero, mgs_nil]; exact ⟨hz, fun z h => h, fun z h => Or.inl h, by show zs.length = _; simp; omega, Nat.le_refl _⟩
  | succ j ih =>
    intro hj
    obtain ⟨h1, h2, h3, h4, h5⟩ := ih (by omega)
    have hg : ys.getD j 0 = ys[j] := by rw [List.getD_eq_getElem?_getD, List.getElem?_eq_getElem (by omega)]; rfl
    have hmem : ∀ z, z ∈ ys.take j → z ∈ ys.take (j + 1) := fun z hz => by
      rw [List.take_add_one]; exact List.mem_append_left _ hz
    have hyj : ys[j] ∈ ys.take (j + 1) := by
      rw [List.take_add_one, List.getElem?_eq_getElem (by omega)]
      exact List.mem_append_right _ (by simp)
    rw [mgs_take (by omega), hg]
    unfold mstep
    split
    · next hm =>
      refine ⟨h1, h2, fun z hz => (h3 z hz).imp id (hmem z), ?_, ?_⟩
      · show (mgs zs (ys.take j)).1.length = min 40 (zs.length + (j + 1) - ((mgs zs (ys.take j)).2 + 1))
        rw [h4]; congr 1; omega
      · show _ + 1 ≤ _; omega
    · next hm =>
      have hm' : ys[j] ∉ zs := by
        intro hc
        exact hm (memS_iff.2 hc)
      split
      · next hlt =>
        have hnot : ys[j] ∉ (mgs zs (ys.take j)).1 := by
          intro hc
          rcases h3 _ hc with hc | hc
          · exact hm' hc
          · obtain ⟨i, hi, he⟩ := List.mem_iff_getElem.1 hc
            rw [List.length_take] at hi
            have hp := (okSl_iff.1 hy).2
            rw [List.pairwise_iff_getElem] at hp
            have := hp i j (by omega) (by omega) (by omega)
            rw [List.getElem_take] at he
            omega
        have hr := (okSl_iff.1 hy).1 _ (List.getElem_mem (show j < ys.length by omega))
        refine ⟨insS_ok h1 hr.1 hr.2 hnot, fun z hz => insS_mem.2 (Or.inr (h2 z hz)), fun z hz => ?_, ?_, by show (mgs zs (ys.take j)).2 ≤ j + 1; omega⟩
        · rcases insS_mem.1 hz with rfl | hz
          · exact Or.inr hyj
          · exact (h3 z hz).imp id (hmem z)
        · show (insS (mgs zs (ys.take j)).1 ys[j]).length = min 40 (zs.length + (j + 1) - (mgs zs (ys.take j)).2)
          rw [insS_len]; omega
      · next hlt =>
        refine ⟨h1, h2, fun z hz => (h3 z hz).imp id (hmem z), ?_, by omega⟩
        omega
/-- A list merged with itself. -/
theorem mgs_self (zs : List Int) : mgs zs zs = (zs, zs.length) := by
  have key : ∀ j, j ≤ zs.length → mgs zs (zs.take j) = (zs, j) := by
    intro j
    induction j with
    | zero => intro _; rw [List.take_zero, mgs_nil]
    | succ j ih =>
      intro hj
      rw [mgs_take (by omega), ih (by omega)]
      unfold mstep
      have hm : memS zs (zs.getD j 0) = true := memS_iff.2 (by rw [List.getD_eq_getElem?_getD, List.getElem?_eq_getElem (by omega)]; exact List.getElem_mem _)
      rw [if_pos hm]
  have := key zs.length (Nat.le_refl _)
  rwa [List.take_length] at this

/-- BudgetLeft. -/
def budAt (zs ys : List Int) (i : Nat) : Bool := !memS (ys.take i) (ys.getD i 0) && !memS zs (ys.getD i 0)
def budL (zs ys : List Int) : Nat → Nat
  | 0 => 0
  | k + 1 => budL zs ys k + (if budAt zs ys k = true then 1 else 0)
theorem budL_le (zs ys : List Int) : ∀ k, budL zs ys k ≤ k
  | 0 => Nat.le_refl _
  | k + 1 => by
    have := budL_le zs ys k
    unfold budL
    split <;> omega
theorem bud_two {zs : List Int} {n : Int} (h : memS zs n = false) : budL zs [n, n] 2 = 1 := by
  have h0 : budAt zs [n, n] 0 = true := by unfold budAt; show (!memS [] n && !memS zs n) = true; rw [h]; rfl
  have h1 : budAt zs [n, n] 1 = false := by
    unfold budAt
    show (!memS [n] n && !memS zs n) = false
    rw [memS_iff.2 (List.mem_singleton.2 rfl)]
    rfl
  unfold budL budL budL
  rw [h0, h1]; rfl
theorem bud_one {zs : List Int} {n : Int} (h : memS zs n = true) : budL zs [n] 1 = 0 := by
  have h0 : budAt zs [n] 0 = false := by unfold budAt; show (!memS [] n && !memS zs n) = false; rw [h]; rfl
  unfold budL budL
  rw [h0]; rfl

/-- EpochSecret. -/
def epS (m e : Int) : Int := 1 + kid (kh m [103, e]) 0 % 1018
theorem epS_bound (m e : Int) : 1 ≤ epS m e ∧ epS m e ≤ 1018 := by unfold epS; omega

end Go.Proofs.Ytlbijjifeaimjaa
