/- What the laws of properties with a cursor share. No conditions. -/
import Derived.Test.YtdeahjinnnhfkaaLawAt
import Derived.Test.YtdeahjinnnhfkaaDraw
namespace Go.Proofs.Ytdeahjinnnhfkaa
open Go Go.RowKit
set_option linter.unusedVariables false

theorem row_own {k : IntKind} {w : World} {a : Option Addr} {len cap : Nat} {zs : List Int} (h : IsRow k w a len cap zs) : RowB w.heap.size k w a len cap zs ∧ len ≤ maxLen := by
  rcases h with h | ⟨x, h1, h2, h3, h4, h5, h6, h7⟩
  · exact ⟨.inl h, by rw [h.2.1]; unfold maxLen; omega⟩
  · exact ⟨.inr ⟨x, h1, h2, h3, h4, h5, h6, h7⟩, by omega⟩

theorem RowB.mono {B B' : Nat} {k : IntKind} {w : World} {a : Option Addr} {len cap : Nat} {zs : List Int} (h : RowB B k w a len cap zs) (hB : B ≤ B') : RowB B' k w a len cap zs := by
  rcases h with h | ⟨x, h1, h2, h3, h4, h5, h6, h7⟩
  · exact .inl h
  · exact .inr ⟨x, h1, h2, h3, h4, h5, h6, by omega⟩

end Go.Proofs.Ytdeahjinnnhfkaa
