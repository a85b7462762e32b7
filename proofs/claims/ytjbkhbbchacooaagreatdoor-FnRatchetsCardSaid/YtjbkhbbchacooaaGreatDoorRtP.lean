/- Ratchets: what FnRatchets asks: eight messages, opened in whatever order, each once; the state holds no key of a message that was opened. Pure. No conditions but those that are named. -/
import Derived.Test.YtjbkhbbchacooaaGreatDoorRtN
import Derived.KernelRfl
namespace Go.Proofs.YtjbkhbbchacooaaGreatDoor
open Go Go.RowKit
set_option linter.unusedVariables false
set_option maxRecDepth 20000
attribute [local irreducible] kh kid

theorem chn_add (c : Int) (a b : Nat) : chn (chn c a) b = chn c (a + b) := by
  induction b with
  | zero => rfl
  | succ b ih => rw [chn_succ, ih, ← chn_succ]; rfl
/-- The key of the message i, and its entry among the kept keys. -/
def entK (c : Int) (i : Nat) : Int × Int := ((i : Int), mky (chn c i))
/-- The kept keys: n steps were made, those seen were opened. -/
def kpt (c : Int) (n : Nat) (seen : List Int) : Kept := ((List.range n).filter fun i : Nat => !seen.contains (i : Int)).map (entK c)

section
variable {c : Int} {n : Nat} {seen : List Int}
theorem kpt_len : (kpt c n seen).length ≤ n := by
  unfold kpt
  rw [List.length_map]
  exact Nat.le_trans (List.length_filter_le _ _) (by simp)
theorem kpt_mem {x : Int × Int} : x ∈ kpt c n seen ↔ ∃ i : Nat, i < n ∧ seen.contains (i : Int) = false ∧ entK c i = x := by
  unfold kpt
  simp only [List.mem_map, List.mem_filter, List.mem_range, Bool.not_eq_true']
  constructor
  · rintro ⟨i, ⟨h1, h2⟩, h3⟩; exact ⟨i, h1, h2, h3⟩
  · rintro ⟨i, h1, h2, h3⟩; exact ⟨i, ⟨h1, h2⟩, h3⟩
theorem ascK_of : ∀ {l : Kept}, l.Pairwise (fun x y => x.1 < y.1) → ascK l = true
  | [], _ => rfl
  | [x], _ => rfl
  | x :: y :: l, h => by
    have h1 := List.pairwise_cons.1 h
    have h2 := h1.1 y (by simp)
    have h3 := ascK_of h1.2
    have e : ascK (x :: y :: l) = (decide (x.1 < y.1) && ascK (y :: l)) := rfl
    rw [e, decide_eq_true h2, h3]
    rfl
theorem kpt_asc : (kpt c n seen).Pairwise (fun x y => x.1 < y.1) := by
  unfold kpt
  rw [List.pairwise_map]
  refine List.Pairwise.imp ?_ ((List.pairwise_lt_range (n := n)).sublist List.filter_sublist)
  intro a b h
  show ((a : Int) < (b : Int))
  omega
theorem kpt_ok (hc : 1 ≤ c ∧ c ≤ 2147483646) (hn : n ≤ 8) : okR (chn c n) (n : Int) (kpt c n seen) = true := by
  have h8 := kpt_len (c := c) (n := n) (seen := seen)
  refine okR_iff.2 ⟨chn_bound hc n, by omega, by omega, ?_, ascK_of kpt_asc⟩
  unfold keyK
  rw [List.all_eq_true]
  intro x hx
  obtain ⟨i, h1, _, rfl⟩ := kpt_mem.1 hx
  have h2 := mky_bound (chn c i)
  unfold entK inR
  simp only [Bool.and_eq_true, decide_eq_true_eq]
  omega
theorem has_iff {l : Kept} {t : Int} : hasK l t = true ↔ ∃ x ∈ l, x.1 = t := by
  unfold hasK
  rw [List.any_eq_true]
  constructor
  · rintro ⟨x, h1, h2⟩; exact ⟨x, h1, by simpa using h2⟩
  · rintro ⟨x, h1, h2⟩; exact ⟨x, h1, by simpa using h2⟩
theorem get_is : ∀ {l : Kept} {t v : Int}, (∀ x ∈ l, x.1 = t → x.2 = v) → hasK l t = true → getK l t = v
  | [], t, v, _, h => by cases h
  | x :: l, t, v, hv, h => by
    unfold getK
    split
    · exact hv x (by simp) (by assumption)
    · refine get_is (fun y hy => hv y (by simp [hy])) ?_
      unfold hasK at h ⊢
      rw [List.any_cons, Bool.or_eq_true] at h
      rcases h with h | h
      · exact absurd (by simpa using h) (by assumption)
      · exact h
/-- A message that was opened is not opened again. -/
theorem rt_seen {k : Nat} (hk : k < n) (hs : seen.contains (k : Int) = true) : kfq (chn c n) (n : Int) (kpt c n seen) (k : Int) = false := by
  have h1 : hasK (kpt c n seen) (k : Int) = false := by
    cases h : hasK (kpt c n seen) (k : Int) with
    | false => rfl
    | true =>
      obtain ⟨x, hx, he⟩ := has_iff.1 h
      obtain ⟨i, _, h3, rfl⟩ := kpt_mem.1 hx
      have : (i : Int) = (k : Int) := he
      rw [this, hs] at h3
      cases h3
  unfold kfq kfo kfn
  rw [h1, decide_eq_false (show ¬ (n : Int) ≤ (k : Int) by omega)]
  simp
/-- One that was skipped is opened with its kept key, which is then gone. -/
theorem rt_old {k : Nat} (hc : 1 ≤ c ∧ c ≤ 2147483646) (hn : n ≤ 8) (hk : k < n) (hs : seen.contains (k : Int) = false) :
    kfo (chn c n) (n : Int) (kpt c n seen) (k : Int) = true ∧ delK (kpt c n seen) (k : Int) = kpt c n (seen ++ [(k : Int)]) ∧ getK (kpt c n seen) (k : Int) = mky (chn c k) := by
  have hh : hasK (kpt c n seen) (k : Int) = true := has_iff.2 ⟨entK c k, kpt_mem.2 ⟨k, hk, hs, rfl⟩, rfl⟩
  refine ⟨?_, ?_, get_is (fun x hx he => ?_) hh⟩
  · unfold kfo
    rw [kpt_ok hc hn, hh, decide_eq_true (show (k : Int) < 100000 by omega), decide_eq_true (show (k : Int) < (n : Int) by omega)]
    rfl
  · unfold delK kpt
    rw [List.filter_map, List.filter_filter]
    congr 1
    apply List.filter_congr
    intro i hi
    show (!((i : Int) == (k : Int)) && !seen.contains (i : Int)) = !(seen ++ [(k : Int)]).contains (i : Int)
    rw [List.contains_append, Bool.not_or, Bool.and_comm]
    congr 1
    by_cases h9 : (i : Int) = (k : Int)
    · simp [h9]
    · simp [h9, beq_eq_false_iff_ne.2 h9]
  · obtain ⟨i, _, _, rfl⟩ := kpt_mem.1 hx
    have : i = k := by have : (i : Int) = (k : Int) := he; omega
    rw [this]; rfl
theorem kpt_more (hs : ∀ x ∈ seen, x < (n : Int)) : ∀ m : Nat, kpt c (n + m) seen = kpt c n seen ++ skp (chn c n) (n : Int) m := by
  intro m
  induction m with
  | zero => simp [skp]
  | succ m ih =>
    have hm : seen.contains ((n + m : Nat) : Int) = false := by
      cases h : seen.contains ((n + m : Nat) : Int) with
      | false => rfl
      | true => have := hs _ (by simpa using h); omega
    rw [skp_snoc, ← List.append_assoc, ← ih]
    show kpt c (n + m + 1) seen = _
    unfold kpt
    rw [List.range_succ, List.filter_append, List.map_append]
    congr 1
    rw [List.filter_cons, hm]
    simp [entK, chn_add]
theorem kpt_seen_more {k : Nat} : kpt c (k + 1) (seen ++ [(k : Int)]) = kpt c k seen := by
  unfold kpt
  rw [List.range_succ, List.filter_append, List.map_append]
  have e1 : ([k].filter fun i : Nat => !(seen ++ [(k : Int)]).contains (i : Int)) = [] := by simp
  rw [e1, List.map_nil, List.append_nil]
  congr 1
  apply List.filter_congr
  intro i hi
  have hlt := List.mem_range.1 hi
  rw [List.contains_append, Bool.not_or]
  have : (!([(k : Int)].contains (i : Int))) = true := by simp; omega
  rw [this, Bool.and_true]
/-- One ahead is opened, the keys between are kept. -/
theorem rt_new {k : Nat} (hc : 1 ≤ c ∧ c ≤ 2147483646) (hnk : n ≤ k) (hk : k < 8) (hs : ∀ x ∈ seen, x < (n : Int)) :
    kfn (chn c n) (n : Int) (kpt c n seen) (k : Int) = true ∧ chn (chn c n) (((k : Int) - (n : Int)).toNat + 1) = chn c (k + 1) ∧ lastK (kpt c n seen ++ skp (chn c n) (n : Int) ((k : Int) - (n : Int)).toNat) = kpt c (k + 1) (seen ++ [(k : Int)]) ∧ mky (chn (chn c n) ((k : Int) - (n : Int)).toNat) = mky (chn c k) := by
  have e : ((k : Int) - (n : Int)).toNat = k - n := by omega
  rw [e]
  refine ⟨?_, ?_, ?_, ?_⟩
  · unfold kfn
    rw [kpt_ok hc (by omega), decide_eq_true (show (k : Int) < 100000 by omega), decide_eq_true (show (n : Int) ≤ (k : Int) by omega), decide_eq_true (show (k : Int) - (n : Int) ≤ 8 by omega)]
    rfl
  · rw [chn_add, show n + (k - n + 1) = k + 1 by omega]
  · rw [kpt_seen_more, ← kpt_more hs, show n + (k - n) = k by omega]
    exact lastK_short (by have := kpt_len (c := c) (n := k) (seen := seen); omega)
  · rw [chn_add, show n + (k - n) = k by omega]
end

/-- The cell of the message k opens with its key. -/
theorem rt_cell {c : Int} {k : Nat} (hk : k < 8) : sok (mky (chn c k)) (k : Int) 1 [(k : Int)] = true ∧ U8s [(k : Int)] := by
  have h := mky_bound (chn c k)
  constructor
  · unfold sok okPlain inR
    simp only [Bool.and_eq_true, decide_eq_true_eq]
    exact ⟨h, by omega, by omega, show (1 : Nat) ≤ 14 by decide⟩
  · intro z hz
    obtain rfl := List.mem_singleton.1 hz
    exact wf_u8_of (by omega) (by omega)
/-- A step of the receiver. -/
theorem rt_step {c : Int} {n k : Nat} {seen : List Int} (hc : 1 ≤ c ∧ c ≤ 2147483646) (hn : n ≤ 8) (hk : k < 8) (hs : ∀ x ∈ seen, x < (n : Int)) :
    (seen.contains (k : Int) = true ∧ osq (chn c n) (n : Int) (kpt c n seen) (k : Int) (sealL (mky (chn c k)) (k : Int) 1 [(k : Int)]) = false) ∨
    (seen.contains (k : Int) = false ∧ osq (chn c n) (n : Int) (kpt c n seen) (k : Int) (sealL (mky (chn c k)) (k : Int) 1 [(k : Int)]) = true ∧
      ocB (kfM (chn c n) (n : Int) (kpt c n seen) (k : Int)) (k : Int) (sealL (mky (chn c k)) (k : Int) 1 [(k : Int)]) = [(k : Int)] ∧
      ∃ m : Nat, m ≤ 8 ∧ kfC (chn c n) (n : Int) (kpt c n seen) (k : Int) = chn c m ∧ kfS (chn c n) (n : Int) (kpt c n seen) (k : Int) = (m : Int) ∧ kfL (chn c n) (n : Int) (kpt c n seen) (k : Int) = kpt c m (seen ++ [(k : Int)]) ∧ ∀ x ∈ seen ++ [(k : Int)], x < (m : Int)) := by
  obtain ⟨h1, h2⟩ := rt_cell (c := c) hk
  cases hq : seen.contains (k : Int) with
  | true =>
    left
    refine ⟨rfl, ?_⟩
    have hlt := hs (k : Int) (by simpa using hq)
    unfold osq
    rw [rt_seen (c := c) (n := n) (seen := seen) (by omega) hq]
    rfl
  | false =>
    right
    refine ⟨rfl, ?_⟩
    by_cases hlt : k < n
    · obtain ⟨a1, a2, a3⟩ := rt_old hc hn hlt hq
      obtain ⟨b1, b2, b3, b4, b5⟩ := kf_old a1
      have hM : kfM (chn c n) (n : Int) (kpt c n seen) (k : Int) = mky (chn c k) := b5.trans a3
      refine ⟨?_, ?_, n, hn, b2, b3, b4.trans a2, ?_⟩
      · unfold osq
        rw [b1, hM, ook_seal h1 h2, ocK_seal h1 h2]
        rfl
      · rw [hM]; exact ocB_seal h1 h2
      · intro x hx
        rcases List.mem_append.1 hx with h | h
        · exact hs x h
        · obtain rfl := List.mem_singleton.1 h; omega
    · obtain ⟨a1, a2, a3, a4⟩ := rt_new (seen := seen) hc (show n ≤ k by omega) hk hs
      obtain ⟨b1, b2, b3, b4, b5⟩ := kf_new a1
      have hM : kfM (chn c n) (n : Int) (kpt c n seen) (k : Int) = mky (chn c k) := b5.trans a4
      refine ⟨?_, ?_, k + 1, by omega, b2.trans a2, by rw [b3]; push_cast; rfl, b4.trans a3, ?_⟩
      · unfold osq
        rw [b1, hM, ook_seal h1 h2, ocK_seal h1 h2]
        rfl
      · rw [hM]; exact ocB_seal h1 h2
      · intro x hx
        rcases List.mem_append.1 hx with h | h
        · have := hs x h; omega
        · obtain rfl := List.mem_singleton.1 h; omega
/-- A message is sealed. -/
theorem rt_seal {c : Int} {i : Nat} (hc : 1 ≤ c ∧ c ≤ 2147483646) (hi : i < 8) : ssq (chn c i) (i : Int) [] [(i : Int)] = true ∧ ssC (chn c i) (i : Int) [] [(i : Int)] = chn c (i + 1) ∧ ssS (chn c i) (i : Int) [] [(i : Int)] = (i : Int) + 1 ∧ ssN (chn c i) (i : Int) [] [(i : Int)] = (i : Int) ∧ ssB (chn c i) (i : Int) [] [(i : Int)] = sealL (mky (chn c i)) (i : Int) 1 [(i : Int)] := by
  have h : ssq (chn c i) (i : Int) [] [(i : Int)] = true := by
    unfold ssq adq
    rw [(rt_cell (c := c) hi).1, okR_iff.2 ⟨chn_bound hc i, by omega, by simp, rfl, rfl⟩, beq_eq_false_iff_ne.2 (show (i : Int) ≠ 100000 by omega)]
    rfl
  obtain ⟨h1, h2, h3, h4⟩ := ss_yes h
  exact ⟨h, h1.trans (chn_succ _ _).symm, h2, h3, h4⟩

/-! ### The last chain's two keys differ: a look at all 256 -/
def rkt (n : Nat) : Bool := Nat.rec true (fun i ih => cond (decide (mky (chn (1 + (i : Int) * 3) 8) = nxc (chn (1 + (i : Int) * 3) 8))) false ih) n
theorem rkt_all : rkt 256 = true := by kernel_rfl
theorem rkt_succ (n : Nat) : rkt (n + 1) = cond (decide (mky (chn (1 + (n : Int) * 3) 8) = nxc (chn (1 + (n : Int) * 3) 8))) false (rkt n) := rfl
theorem rkt_sound {n x : Nat} (h : rkt n = true) (hx : x < n) : mky (chn (1 + (x : Int) * 3) 8) ≠ nxc (chn (1 + (x : Int) * 3) 8) := by
  induction n with
  | zero => omega
  | succ n ih =>
    rw [rkt_succ] at h
    by_cases e : mky (chn (1 + (n : Int) * 3) 8) = nxc (chn (1 + (n : Int) * 3) 8)
    · rw [decide_eq_true e] at h
      cases h
    · rw [decide_eq_false e] at h
      by_cases ex : x = n
      · rw [ex]; exact e
      · exact ih h (by omega)
theorem rt_apart {x : Int} (h0 : 0 ≤ x) (h1 : x ≤ 255) : mky (chn (1 + x * 3) 8) ≠ nxc (chn (1 + x * 3) 8) := by
  obtain ⟨n, rfl⟩ : ∃ n : Nat, x = (n : Int) := ⟨x.toNat, by omega⟩
  exact rkt_sound rkt_all (by omega)

end Go.Proofs.YtjbkhbbchacooaaGreatDoor
