/- Mailboxes as numbers and lists: rows, keys of directions, what a mailbox sends and receives, collisions, free rounds. Pure. No conditions but those that are named. -/
import Derived.Test.YtlhpjfhglkngfaaDoorClN
namespace Go.Proofs.YtlhpjfhglkngfaaDoor
open Go Go.RowKit
set_option linter.unusedVariables false
attribute [local irreducible] kh kid

/-- The key of a direction. -/
def dkey (k d : Int) : Int := mx (kh k [83, d]) 1
/-- Are the number of rows and the round in range? -/
def rowq (r n : Int) : Bool := inR n 1 64 && inR r 0 1000000000000
/-- The row. -/
def mrow (k r d n : Int) : Int := if rowq r n = true then kid (kh k [79, r, d]) 0 % n else -1
/-- Is it a valid mailbox? -/
def okM (k s r : Int) : Bool := inR k 1 2147483646 && (inR s 0 1000000000000 && inR r 0 1000000000000)
/-- Can it be sent? -/
def sdok (k s r d : Int) (b : List Int) : Bool := okM k s r && (!(s == 1000000000000) && sok (dkey k d) s 1 b)
def sdS (k s r d : Int) (b : List Int) : Int := if sdok k s r d b = true then s + 1 else s
def sdL (k s r d : Int) (b : List Int) : List Int := if sdok k s r d b = true then sealL (dkey k d) s 1 b else []
/-- Is it received? -/
def rvok (k s r d : Int) (c : List Int) : Bool := okM k s r && (!(r == 1000000000000) && (ook (dkey k d) r c && (ocK (dkey k d) r c == 1)))
def rvR (k s r d : Int) (c : List Int) : Int := if rvok k s r d c = true then r + 1 else r
def rvL (k s r d : Int) (c : List Int) : List Int := if rvok k s r d c = true then ocB (dkey k d) r c else []
/-- How many of the first i elements occur earlier? -/
def cfn (zs : List Int) : Nat → Nat
  | 0 => 0
  | i + 1 => if (zs.take i).contains (zs.getD i 0) = true then cfn zs i + 1 else cfn zs i
def col (zs : List Int) : Nat := cfn zs zs.length
/-- The rows of the keys in one round. -/
def rowsAt (ks : List Int) (r n : Int) : List Int := ks.map fun k => mrow k r 0 n
/-- The first free round, m of them tried from r + i on. -/
def frn (ks : List Int) (r n : Int) : Nat → Nat → Int
  | 0, _ => -1
  | m + 1, i => if col (rowsAt ks (r + i) n) = 0 then r + i else frn ks r n m (i + 1)
def frq (r n : Int) : Bool := inR n 1 64 && inR r 0 999999999980
def fr (ks : List Int) (r n : Int) : Int := if frq r n = true then frn ks r n 20 0 else -1

theorem dkey_bound (k d : Int) : 1 ≤ dkey k d ∧ dkey k d ≤ 2147483646 := by
  unfold dkey mx
  have := kh_bound k [83, d]
  split <;> omega
theorem dkey_wf (k d : Int) : (Lit.int .i64 (dkey k d)).wf = true := by
  have := dkey_bound k d
  revert this
  generalize dkey k d = q
  intro h
  exact wf_i64_of (by omega) (by omega)
theorem inR_iff {x a b : Int} : inR x a b = true ↔ a ≤ x ∧ x ≤ b := by unfold inR; simp
theorem rowq_iff {r n : Int} : rowq r n = true ↔ (1 ≤ n ∧ n ≤ 64) ∧ 0 ≤ r ∧ r ≤ 1000000000000 := by unfold rowq; rw [Bool.and_eq_true, inR_iff, inR_iff]
theorem mrow_yes {k r d n : Int} (h : rowq r n = true) : mrow k r d n = kid (kh k [79, r, d]) 0 % n := if_pos h
theorem mrow_no {k r d n : Int} (h : rowq r n = false) : mrow k r d n = -1 := if_neg (by rw [h]; decide)
theorem mrow_in {k r d n : Int} (h : rowq r n = true) : 0 ≤ mrow k r d n ∧ mrow k r d n < n := by
  obtain ⟨h1, _⟩ := rowq_iff.1 h
  rw [mrow_yes h]
  generalize kid (kh k [79, r, d]) 0 = q
  exact ⟨Int.emod_nonneg _ (by omega), Int.emod_lt_of_pos _ (by omega)⟩
theorem mrow_bound (k r d n : Int) : -1 ≤ mrow k r d n ∧ mrow k r d n ≤ 63 := by
  cases h : rowq r n with
  | false => rw [mrow_no h]; omega
  | true =>
    have := mrow_in (k := k) (d := d) h
    obtain ⟨h1, _⟩ := rowq_iff.1 h
    omega
theorem mrow_wf (k r d n : Int) : (Lit.int .i64 (mrow k r d n)).wf = true := by
  have := mrow_bound k r d n
  revert this
  generalize mrow k r d n = q
  intro h
  exact wf_i64_of (by omega) (by omega)
theorem okM_iff {k s r : Int} : okM k s r = true ↔ (1 ≤ k ∧ k ≤ 2147483646) ∧ (0 ≤ s ∧ s ≤ 1000000000000) ∧ 0 ≤ r ∧ r ≤ 1000000000000 := by
  unfold okM
  rw [Bool.and_eq_true, Bool.and_eq_true, inR_iff, inR_iff, inR_iff]
theorem tmod_pos {p n : Int} (hp : 0 ≤ p) : p.tmod n = p % n := Int.tmod_eq_emod_of_nonneg hp

/-- The first that occurs earlier is counted: the step. -/
theorem cfn_hit {zs : List Int} {i k : Nat} (hk : k < i) (hi : i < zs.length) (h : zs.getD k 0 = zs.getD i 0) : cfn zs (i + 1) = cfn zs i + 1 := by
  show (if _ then _ else _) = _
  rw [if_pos]
  rw [List.contains_iff_mem, ← h]
  rw [List.getD_eq_getElem?_getD, List.getElem?_eq_getElem (by omega)]
  exact List.mem_take_iff_getElem.2 ⟨k, by omega, rfl⟩
theorem cfn_miss {zs : List Int} {i : Nat} (hi : i < zs.length) (h : ∀ k, k < i → zs.getD k 0 ≠ zs.getD i 0) : cfn zs (i + 1) = cfn zs i := by
  show (if _ then _ else _) = _
  rw [if_neg]
  intro hc
  rw [List.contains_iff_mem] at hc
  obtain ⟨k, hk, he⟩ := List.mem_take_iff_getElem.1 hc
  apply h k (by omega)
  rw [← he, List.getD_eq_getElem?_getD, List.getElem?_eq_getElem (by omega)]
  rfl
theorem cfn_le (zs : List Int) : ∀ i, cfn zs i ≤ i
  | 0 => Nat.le_refl _
  | i + 1 => by
    have h := cfn_le zs i
    have e : cfn zs (i + 1) = (if (zs.take i).contains (zs.getD i 0) = true then cfn zs i + 1 else cfn zs i) := rfl
    rw [e]
    split <;> omega
theorem col_le (zs : List Int) : col zs ≤ zs.length := cfn_le _ _

/-- No collision: all are different. -/
theorem cfn_nodup {zs : List Int} : ∀ i, i ≤ zs.length → cfn zs i = 0 → (zs.take i).Nodup
  | 0, _, _ => by simp
  | i + 1, hi, h => by
    have h' : (if (zs.take i).contains (zs.getD i 0) = true then cfn zs i + 1 else cfn zs i) = 0 := h
    split at h'
    · omega
    · rename_i hc
      have ih := cfn_nodup i (by omega) h'
      rw [List.take_add_one, List.getElem?_eq_getElem (by omega)]
      rw [List.getD_eq_getElem?_getD, List.getElem?_eq_getElem (by omega), List.contains_iff_mem] at hc
      rw [List.nodup_append]
      exact ⟨ih, by simp, fun a ha b hb e => by simp at hb; subst hb; subst e; exact hc ha⟩
theorem col_nodup {zs : List Int} (h : col zs = 0) : zs.Nodup := by
  have := cfn_nodup zs.length (Nat.le_refl _) h
  rwa [List.take_length] at this
theorem nodup_le : ∀ (n : Nat) (zs : List Int), zs.Nodup → (∀ z ∈ zs, 0 ≤ z ∧ z < n) → zs.length ≤ n
  | 0, zs, _, h => by
    cases zs with
    | nil => simp
    | cons z r => have := h z (by simp); omega
  | n + 1, zs, hd, h => by
    by_cases hm : (n : Int) ∈ zs
    · have h1 := nodup_le n (zs.erase (n : Int)) (hd.erase _) (fun z hz => by
        rw [hd.mem_erase_iff] at hz
        have := h z hz.2
        have := hz.1
        omega)
      rw [List.length_erase_of_mem hm] at h1
      omega
    · have := nodup_le n zs hd (fun z hz => by
        have := h z hz
        have : z ≠ (n : Int) := fun e => hm (e ▸ hz)
        omega)
      omega
/-- More keys than rows: never free. -/
theorem frn_many {ks : List Int} {r n : Int} (h : frq r n = true) (hk : n < (ks.length : Int)) : ∀ m i, i + m ≤ 20 → frn ks r n m i = -1
  | 0, _, _ => rfl
  | m + 1, i, hi => by
    show (if _ then _ else _) = _
    unfold frq at h
    rw [Bool.and_eq_true, inR_iff, inR_iff] at h
    rw [if_neg, frn_many (by unfold frq; rw [Bool.and_eq_true, inR_iff, inR_iff]; exact h) hk m (i + 1) (by omega)]
    intro hc
    have := nodup_le n.toNat _ (col_nodup hc) (fun z hz => by
      obtain ⟨k, _, rfl⟩ := List.mem_map.1 hz
      have := mrow_in (k := k) (r := r + i) (d := 0) (n := n) (rowq_iff.2 ⟨h.1, by omega, by omega⟩)
      omega)
    unfold rowsAt at this
    rw [List.length_map] at this
    omega
theorem fr_many {ks : List Int} {r n : Int} (h : frq r n = true) (hk : n < (ks.length : Int)) : fr ks r n = -1 := by
  unfold fr
  rw [if_pos h]
  exact frn_many h hk 20 0 (by omega)
theorem fr_no {ks : List Int} {r n : Int} (h : frq r n = false) : fr ks r n = -1 := if_neg (by rw [h]; decide)
theorem frn_found {ks : List Int} {r n : Int} : ∀ (m i d : Nat), d < m → (∀ t, t < d → col (rowsAt ks (r + ((i + t : Nat) : Int)) n) ≠ 0) → col (rowsAt ks (r + ((i + d : Nat) : Int)) n) = 0 → frn ks r n m i = r + ((i + d : Nat) : Int) := by
  intro m
  induction m with
  | zero => intro i d h; omega
  | succ m ih =>
    intro i d hd hn hy
    show (if col (rowsAt ks (r + (i : Int)) n) = 0 then r + (i : Int) else frn ks r n m (i + 1)) = _
    cases d with
    | zero => rw [Nat.add_zero] at hy; rw [if_pos hy, Nat.add_zero]
    | succ d =>
      have h0 := hn 0 (by omega)
      rw [Nat.add_zero] at h0
      rw [if_neg h0]
      have := ih (i + 1) d (by omega) (fun t ht => by have := hn (t + 1) (by omega); rwa [show i + (t + 1) = i + 1 + t by omega] at this) (by rwa [show i + 1 + d = i + (d + 1) by omega])
      rw [this, show i + 1 + d = i + (d + 1) by omega]
theorem frn_none {ks : List Int} {r n : Int} : ∀ (m i : Nat), (∀ t, t < m → col (rowsAt ks (r + ((i + t : Nat) : Int)) n) ≠ 0) → frn ks r n m i = -1 := by
  intro m
  induction m with
  | zero => intro i _; rfl
  | succ m ih =>
    intro i hn
    show (if col (rowsAt ks (r + (i : Int)) n) = 0 then r + (i : Int) else frn ks r n m (i + 1)) = _
    have h0 := hn 0 (by omega)
    rw [Nat.add_zero] at h0
    rw [if_neg h0]
    exact ih (i + 1) (fun t ht => by have := hn (t + 1) (by omega); rwa [show i + (t + 1) = i + 1 + t by omega] at this)
theorem fr_found {ks : List Int} {r n : Int} {j : Nat} (h : frq r n = true) (hj : j < 20) (hn : ∀ t : Nat, t < j → col (rowsAt ks (r + (t : Int)) n) ≠ 0) (hy : col (rowsAt ks (r + (j : Int)) n) = 0) : fr ks r n = r + (j : Int) := by
  unfold fr
  rw [if_pos h]
  have := frn_found (ks := ks) (r := r) (n := n) 20 0 j hj (fun t ht => by rw [Nat.zero_add]; exact hn t ht) (by rw [Nat.zero_add]; exact hy)
  rwa [Nat.zero_add] at this
theorem fr_none {ks : List Int} {r n : Int} (h : frq r n = true) (hn : ∀ t : Nat, t < 20 → col (rowsAt ks (r + (t : Int)) n) ≠ 0) : fr ks r n = -1 := by
  unfold fr
  rw [if_pos h]
  exact frn_none 20 0 (fun t ht => by rw [Nat.zero_add]; exact hn t ht)
theorem frq_iff {r n : Int} : frq r n = true ↔ (1 ≤ n ∧ n ≤ 64) ∧ 0 ≤ r ∧ r ≤ 999999999980 := by unfold frq; rw [Bool.and_eq_true, inR_iff, inR_iff]
theorem rowsAt_len (ks : List Int) (r n : Int) : (rowsAt ks r n).length = ks.length := by simp [rowsAt]
theorem rowsAt_get {ks : List Int} {j : Nat} (r n : Int) (h : j < ks.length) : (rowsAt ks r n).getD j 0 = mrow (ks.getD j 0) r 0 n := by
  unfold rowsAt
  rw [List.getD_eq_getElem?_getD, List.getElem?_map, List.getD_eq_getElem?_getD, List.getElem?_eq_getElem h]
  rfl

theorem sdS_bound {k s r d : Int} {b : List Int} (hs : (Lit.int .i64 s).wf = true) : (Lit.int .i64 (sdS k s r d b)).wf = true := by
  unfold sdS
  split
  · rename_i h
    unfold sdok at h
    rw [Bool.and_eq_true, okM_iff] at h
    exact wf_i64_of (by omega) (by omega)
  · exact hs
theorem rvR_bound {k s r d : Int} {c : List Int} (hr : (Lit.int .i64 r).wf = true) : (Lit.int .i64 (rvR k s r d c)).wf = true := by
  unfold rvR
  split
  · rename_i h
    unfold rvok at h
    rw [Bool.and_eq_true, okM_iff] at h
    exact wf_i64_of (by omega) (by omega)
  · exact hr
theorem sdL_len (k s r d : Int) (b : List Int) : (sdL k s r d b).length ≤ 24 := by
  unfold sdL
  split
  · exact sealL_len _ _ _ _
  · simp
theorem rvL_len (k s r d : Int) (c : List Int) : (rvL k s r d c).length ≤ 14 := by
  unfold rvL
  split
  · exact ocB_len _ _ _
  · simp

end Go.Proofs.YtlhpjfhglkngfaaDoor
