/- Keys of a map of integers collected in whatever order, and sorted; a row of the call's own behind the sort. No program; no conditions but those that are named. -/
import Derived.Test.YtdlbpeippmibcaaSpN
import Derived.Test.YtdlbpeippmibcaaBa1
import Derived.Maps.Own
import Derived.Maps.RangeWalk
import Derived.Maps.Views
import Derived.Maps.OwnSet
import Derived.Sort.OwnSortedInts
namespace Go.Proofs.Ytdlbpeippmibcaa
open Go Go.RowKit Go.Maps Go.Sort
set_option linter.unusedVariables false

theorem nodup_len {ss L : List Int} (hn : ss.Nodup) (hs : ∀ x ∈ ss, x ∈ L) : ss.length ≤ L.length := by
  induction ss generalizing L with
  | nil => exact Nat.zero_le _
  | cons a t ih =>
    rw [List.nodup_cons] at hn
    have ha := hs a (by simp)
    have h1 := ih (L := L.erase a) hn.2 (fun x hx => (List.mem_erase_of_ne (by intro e; subst e; exact hn.1 hx)).2 (hs x (by simp [hx])))
    have h2 := List.length_erase_of_mem ha
    have h3 := List.length_pos_of_mem ha
    simp only [List.length_cons]
    omega
/-- What has been met so far: no key twice, and just those that are no longer to come. -/
def CollI {H : Type} (D : DataW H) (left : Lit → Bool) (ss : List Int) : Prop :=
  ss.Nodup ∧ ∀ x, x ∈ ss ↔ Maps.has D (.int .i64 x) = true ∧ left (.int .i64 x) = false
section
variable {H : Type} {D : DataW H} {left : Lit → Bool} {ss : List Int}
theorem CollI.start (D : DataW H) : CollI D (Maps.has D) [] :=
  ⟨List.nodup_nil, fun x => by cases Maps.has D (.int .i64 x) <;> simp⟩
theorem CollI.step (h : CollI D left ss) {x : Int} {y : DataW H} (hl : left (.int .i64 x) = true) (hat : ∀ z, D.atKey (.int .i64 x) z = y) : CollI D (fun z => left z && !z.sameKey (.int .i64 x)) (ss ++ [x]) := by
  have h1 : Maps.has D (.int .i64 x) = true := has_true_of_atKey hat
  have h2 : x ∉ ss := fun hx => by
    have h3 := ((h.2 x).1 hx).2
    rw [hl] at h3
    cases h3
  refine ⟨List.nodup_append.2 ⟨h.1, by simp, fun a ha b hb => ?_⟩, fun z => ?_⟩
  · have hbx : b = x := by simpa using hb
    subst hbx
    exact fun e => h2 (e ▸ ha)
  · rw [List.mem_append, h.2 z]
    by_cases hz : z = x
    · subst hz
      simp [h1, hl, Lit.sameKey]
    · simp [hz, Lit.sameKey]
theorem CollI.full (h : CollI D left ss) (hl : ∀ z, left z = false) (x : Int) : x ∈ ss ↔ Maps.has D (.int .i64 x) = true := by
  rw [h.2 x, hl]; simp
theorem CollI.len (h : CollI D left ss) {L : List Int} (hD : ∀ x, Maps.has D (.int .i64 x) = true → x ∈ L) : ss.length ≤ L.length :=
  nodup_len h.1 (fun x hx => hD x ((h.2 x).1 hx).1)
end

/-- What is collected and sorted is the list that the map was made of, if that ascends. -/
theorem sorted_is {ss L : List Int} (hn : ss.Nodup) (hm : ∀ x, x ∈ ss ↔ x ∈ L) (hL : L.Pairwise (· < ·)) : ss.mergeSort (fun x y => decide (x ≤ y)) = L := by
  have hLn : L.Nodup := hL.imp (fun h => by omega)
  have hp : ss.Perm L := (List.perm_ext_iff_of_nodup hn hLn).2 hm
  have tr : ∀ a b c : Int, decide (a ≤ b) = true → decide (b ≤ c) = true → decide (a ≤ c) = true := fun a b c h1 h2 => by
    simp only [decide_eq_true_eq] at *; omega
  have to : ∀ a b : Int, (decide (a ≤ b) || decide (b ≤ a)) = true := fun a b => by
    simp only [Bool.or_eq_true, decide_eq_true_eq]; omega
  refine List.Perm.eq_of_pairwise (le := fun a b => decide (a ≤ b) = true) (fun a b _ _ h1 h2 => ?_) (List.pairwise_mergeSort tr to ss) (hL.imp (fun h => by simp only [decide_eq_true_eq]; omega)) ((List.mergeSort_perm ss _).trans hp)
  simp only [decide_eq_true_eq] at h1 h2
  omega
theorem sort_len (ss : List Int) : (ss.mergeSort (fun x y => decide (x ≤ y))).length = ss.length := (List.mergeSort_perm ss _).length_eq

/-- A row of the call's own, sorted in place. -/
theorem sort_own {e : TypeId} {B : Nat} {w : World} {v : Value} {zs : List Int} (h : Own e .i64 B w v zs) (hn : 0 < zs.length) :
    ∃ g cap, v = .slice (some ⟨g, 0, none⟩) zs.length cap ∧ Holds (Value.int .i64) w g 0 zs.toArray ∧ g < w.heap.size ∧ B ≤ g ∧
      ∀ (n : Nat) (os : Array Obj) (ts : List Int), ts.length = zs.length → (∀ t ∈ ts, t ∈ zs) →
        Own e .i64 B (grow (putRow (Value.int .i64) (Sort.ahead w n) g 0 ts.toArray) os) v ts ∧ w.grownBy (grow (putRow (Value.int .i64) (Sort.ahead w n) g 0 ts.toArray) os) (some g) := by
  obtain ⟨hw, hB, h1, h2⟩ := h
  rcases h2 with ⟨h0, h3⟩ | ⟨g, cap, cur, hv, hg, hb, hc, hcm, hsz, ht⟩
  · exfalso
    omega
  · subst hv
    have ht' : cur.toList.take zs.length = zs.map (Value.int .i64) := by rw [Nat.mul_one] at ht; exact ht
    have hlt := (Array.getElem?_eq_some_iff.1 hb).1
    refine ⟨g, cap, rfl, holds_of_blockI hb ht', hlt, hg, fun n os ts hl hts => ⟨?_, grownBy_sortedI _⟩⟩
    refine ⟨fun t ht => hw t (hts t ht), Nat.le_trans hB (grownBy_sortedI (n := n) (os := os) ts.toArray).size, ?_⟩
    have key := ownsRow_sortedI (n := n) (os := os) hl hg hb hc hcm hsz
    rw [← hl] at key ⊢
    exact key

end Go.Proofs.Ytdlbpeippmibcaa
