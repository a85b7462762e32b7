/- Rows in which one or two places are set. No program. -/
import Derived.Test.YtckhmjdhdoomdaaSkP
import Derived.Test.YtckhmjdhdoomdaaBa2
namespace Go.Proofs.Ytckhmjdhdoomdaa
open Go Go.RowKit
set_option linter.unusedVariables false
attribute [local irreducible] kh kid chl

theorem own_setn {e : TypeId} {k : IntKind} {B : Nat} {w : World} {g cap n : Nat} {zs : List Int} {x : Int} (h : Own e k B w (.slice (some ⟨g, 0, none⟩) n cap) zs) (hn : zs.length = n) (hx : (Lit.int k x).wf = true) (j : Nat) :
    Own e k B (w.setCell ⟨g, j, none⟩ (.int k x)) (.slice (some ⟨g, 0, none⟩) n cap) (zs.set j x) ∧ w.grownBy (w.setCell ⟨g, j, none⟩ (.int k x)) (some g) := by
  subst hn
  have := h.set hx j
  exact this
theorem place2 {n i d : Nat} (hi : i < n) (hd : d + 1 < n) : (i + 1 + d) % n < n ∧ (i + 1 + d) % n ≠ i := by
  refine ⟨Nat.mod_lt _ (by omega), ?_⟩
  by_cases h : i + 1 + d < n
  · rw [Nat.mod_eq_of_lt h]; omega
  · rw [Nat.mod_eq_sub_mod (by omega), Nat.mod_eq_of_lt (by omega)]; omega
theorem two_sets {n i k : Nat} {x y : Int} (hi : i < n) (hk : k < n) (hik : i ≠ k) : Two (((List.replicate n (0 : Int)).set i x).set k y) i k x y := by
  intro j
  rw [List.getD_eq_getElem?_getD]
  by_cases h2 : j = k
  · subst h2
    rw [List.getElem?_set_self (by rw [List.length_set, List.length_replicate]; exact hk), if_neg (Ne.symm hik), if_pos rfl]; rfl
  · rw [List.getElem?_set_ne (Ne.symm h2)]
    by_cases h1 : j = i
    · subst h1
      rw [List.getElem?_set_self (by rw [List.length_replicate]; exact hi), if_pos rfl]; rfl
    · rw [List.getElem?_set_ne (Ne.symm h1), if_neg h1, if_neg h2, List.getElem?_replicate]
      split <;> rfl
theorem one_set {n i : Nat} {x : Int} (hi : i < n) : Two ((List.replicate n (0 : Int)).set i x) i n x 0 := by
  intro j
  rw [List.getD_eq_getElem?_getD]
  by_cases h1 : j = i
  · subst h1
    rw [List.getElem?_set_self (by rw [List.length_replicate]; exact hi), if_pos rfl]; rfl
  · rw [List.getElem?_set_ne (Ne.symm h1), if_neg h1, List.getElem?_replicate]
    split <;> split <;> rfl

end Go.Proofs.Ytckhmjdhdoomdaa
