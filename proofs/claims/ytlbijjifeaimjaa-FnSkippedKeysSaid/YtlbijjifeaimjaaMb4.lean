/- Mailboxes: CountCollisions of the program (a set of the rows) and of the document. No conditions but a length that a machine holds. -/
import Derived.Test.YtlbijjifeaimjaaBdN
import Derived.Test.YtlbijjifeaimjaaBa6
import Derived.Maps.Own
import Derived.Maps.OwnSet
import Derived.BigQuiet
namespace Go.Proofs.Ytlbijjifeaimjaa
open Go Go.RowKit Go.Maps
set_option linter.unusedVariables false
attribute [local irreducible] kh kid

/-- The first k rows as keys of a map; the map that holds them. -/
def mkeys (zs : List Int) (k : Nat) : List Lit := (zs.take k).map (Lit.int .i64)
def mset (zs : List Int) (k : Nat) : DataW Unit := setOf (.lit (.bool true)) (mkeys zs k)
theorem mkeys_lit (zs : List Int) (k : Nat) : ∀ x ∈ mkeys zs k, WideAt.IsKeyLit x := by
  intro x hx
  obtain ⟨z, _, rfl⟩ := List.mem_map.1 hx
  trivial
theorem mset_zero (zs : List Int) : mset zs 0 = .map [] := by simp [mset, mkeys, setOf]
theorem mset_succ {zs : List Int} {k : Nat} (hk : k < zs.length) : mset zs (k + 1) = (mset zs k).put (.int .i64 (zs.getD k 0)) (.lit (.bool true)) := by
  have : mkeys zs (k + 1) = mkeys zs k ++ [.int .i64 (zs.getD k 0)] := by
    unfold mkeys
    rw [List.take_add_one, List.map_append, List.getD_eq_getElem?_getD, List.getElem?_eq_getElem hk]
    rfl
  unfold mset
  rw [this, setOf_snoc]
theorem mset_has (zs : List Int) (k : Nat) (z : Int) : Maps.has (mset zs k) (.int .i64 z) = (zs.take k).contains z := by
  unfold mset
  rw [has_setOf _ _ _ (mkeys_lit zs k)]
  unfold mkeys
  rw [List.any_map, Bool.eq_iff_iff, List.any_eq_true, List.contains_iff_mem]
  constructor
  · rintro ⟨x, hx, he⟩
    have he' : (Lit.int .i64 x).sameKey (.int .i64 z) = true := he
    have := WideAt.sameKey_eq he'
    injection this with _ e
    exact e ▸ hx
  · intro h
    exact ⟨z, h, WideAt.sameKey_self (a := .int .i64 z) trivial⟩
/-- How many different ones there are: what does not occur earlier. -/
theorem mset_size (zs : List Int) : ∀ k, k ≤ zs.length → Maps.size (mset zs k) + cfn zs k = k
  | 0, _ => by rw [mset_zero]; rfl
  | k + 1, hk => by
    have ih := mset_size zs k (by omega)
    have ht : Tidy (mset zs k) := tidy_setOf _ _ (mkeys_lit zs k)
    have e : cfn zs (k + 1) = (if (zs.take k).contains (zs.getD k 0) = true then cfn zs k + 1 else cfn zs k) := rfl
    rw [mset_succ (by omega), size_put ht, mset_has, e]
    split <;> omega

theorem lawInt : Keyed Try.prog 3 := int_keyed Try.underlying3

theorem mset_le (zs : List Int) : Maps.size (mset zs zs.length) ≤ zs.length := by
  have := mset_size zs zs.length (Nat.le_refl _)
  omega
end Go.Proofs.Ytlbijjifeaimjaa
