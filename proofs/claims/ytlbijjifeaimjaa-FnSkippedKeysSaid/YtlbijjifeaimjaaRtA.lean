/- Rows of the call's own: no box of another type, no row of another. No program. -/
import Derived.Test.YtlbijjifeaimjaaBbT
namespace Go.Proofs.Ytlbijjifeaimjaa
open Go Go.RowKit
set_option linter.unusedVariables false

/-- A row of structs of the call's own is no box of another type. -/
theorem owns_ne_box {α : Type} {E : Enc α} {e T : TypeId} {B G : Nat} {w : World} {v : Value} {xs : List α} {C : Array Value} {fr : Nat × Nat} (hT : e ≠ T) (h : OwnS E e B w v xs) (hE : w.heap[G]? = some (.cells C T fr)) : ∀ r, v.ownBlock = some r → r ≠ G := by
  intro r hr hG
  obtain ⟨_, _, _, h2⟩ := h
  rcases h2 with ⟨rfl, _⟩ | ⟨g, cap, cur, rfl, _, hg, _⟩
  · cases hr
  · have : g = r := by injection hr
    subst this hG
    rw [hg] at hE
    injection hE with hE
    injection hE with _ h1
    exact hT h1
theorem own_ne_boxR {e T : TypeId} {k : IntKind} {B G : Nat} {w : World} {v : Value} {zs : List Int} {C : Array Value} {fr : Nat × Nat} (hT : e ≠ T) (h : Own e k B w v zs) (hE : w.heap[G]? = some (.cells C T fr)) : ∀ r, v.ownBlock = some r → r ≠ G := by
  intro r hr hG
  obtain ⟨_, _, _, h2⟩ := h
  rcases h2 with ⟨rfl, _⟩ | ⟨g, cap, cur, rfl, _, hg, _⟩
  · cases hr
  · have : g = r := by injection hr
    subst this hG
    rw [hg] at hE
    injection hE with hE
    injection hE with _ h1
    exact hT h1
/-- Rows of different types share no block. -/
theorem rows_apart {α : Type} {E : Enc α} {e e' : TypeId} {k : IntKind} {B B' : Nat} {w : World} {v u : Value} {xs : List α} {zs : List Int} (hT : e ≠ e') (h : OwnS E e B w v xs) (h' : Own e' k B' w u zs) : ∀ r, v.ownBlock = some r → u.ownBlock ≠ some r := by
  intro r hr hu
  obtain ⟨_, _, _, h2⟩ := h'
  rcases h2 with ⟨rfl, _⟩ | ⟨g, cap, cur, rfl, _, hg, _⟩
  · cases hu
  · have : g = r := by injection hu
    subst this
    exact owns_ne_box hT h hg _ hr rfl

end Go.Proofs.Ytlbijjifeaimjaa
