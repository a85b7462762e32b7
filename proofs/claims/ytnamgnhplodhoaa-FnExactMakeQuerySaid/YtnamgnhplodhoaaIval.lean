/- Rows that lie in intervals of blocks. No program. -/
import Derived.Test.YtnamgnhplodhoaaDeep
import Derived.Test.YtnamgnhplodhoaaDeepN
import Derived.Test.YtnamgnhplodhoaaOwnC
namespace Go.Proofs.Ytnamgnhplodhoaa
open Go Go.RowKit

theorem apart_ival {u v : Value} {l h l' h' : Nat} (hu : ∀ r, u.ownBlock = some r → l ≤ r ∧ r < h) (hv : ∀ r, v.ownBlock = some r → l' ≤ r ∧ r < h') (hd : h ≤ l' ∨ h' ≤ l) : Apart u v := fun r hr he => by
  have := hu r hr
  have := hv r he
  omega
theorem ival_of {v : Value} {l h : Nat} (hv : ∀ r, v.ownBlock = some r → l ≤ r ∧ r < h) : ∀ b, v.ownBlock = some b → ival l h b := hv
theorem ival_disj {l h l' h' : Nat} (hd : h ≤ l' ∨ h' ≤ l) : ∀ b, ival l h b → ¬ ival l' h' b := fun b hb hb' => by
  unfold ival at hb hb'
  omega
theorem not_ival {v : Value} {l h l' h' : Nat} (hv : ∀ r, v.ownBlock = some r → l ≤ r ∧ r < h) (hd : h ≤ l' ∨ h' ≤ l) : ∀ r, v.ownBlock = some r → ¬ ival l' h' r := fun r hr hb => by
  have := hv r hr
  unfold ival at hb
  omega
theorem OwnC.keptF {e : TypeId} {k : IntKind} {B : Nat} {F : Nat → Prop} {w w' : World} {v : Value} {zs : List Int} (h : OwnC e k B w v zs) (hk : KeptF F w w') (hn : ∀ r, v.ownBlock = some r → ¬ F r) : OwnC e k B w' v zs := by
  have hl := h.lt
  obtain ⟨hw, hB, h⟩ := h
  refine ⟨hw, Nat.le_trans hB hk.size, ?_⟩
  rcases h with h | ⟨g, cap, cur, rfl, h4, h5, h6⟩
  · exact .inl h
  · exact .inr ⟨g, cap, cur, rfl, h4, (hk.block g (hl g rfl).2 (hn g rfl)).trans h5, h6⟩
theorem fl_tot (zss : List (List Int)) : fl zss ≤ tot zss := by unfold tot; omega

end Go.Proofs.Ytnamgnhplodhoaa
