/- A struct of one field, a slice of slices of integers, that came in: what its reading tells. No program. -/
import Derived.Test.YtdeahjinnnhfkaaOpen2
import Derived.ChangeSame
namespace Go.Proofs.Ytdeahjinnnhfkaa
open Go Go.RowKit Go.Deep Go.ChangeShapes Go.WideShapes

theorem open_db {H : Type} {enc : TypeId × Value → H} {P : Program} {w : World} {base : Nat} {held : Bool} {t0 t e q : TypeId} {f0 : Field} {k : IntKind} {fuel : Nat} {cs : Array Value} {x : DataW H × List MemPlace}
    (h0 : P.underlying t0 = some (.struct #[f0])) (hty : f0.type = t) (hoff : f0.offset = 0) (c0 : P.cellsOf t0 = 1) (ct : P.cellsOf t = 1)
    (ht : P.underlying t = some (.slice e)) (he : P.underlying e = some (.slice q)) (hq : P.underlying q = some (.int k)) (ce : P.cellsOf e = 1) (cq : P.cellsOf q = 1)
    (h : DataW.trod enc P w base (fun _ => true) held fuel t0 cs.toList = some x) : ∃ a len cap zss, cs = #[.slice a len cap] ∧ Rd2 w.heap.size k w (.slice a len cap) zss := by
  obtain ⟨y0, n, _, hl, hf⟩ := trod_struct1 h0 h
  rw [hty, hoff, ct, List.drop_zero] at hf
  rw [c0] at hl
  obtain ⟨u, hu⟩ : ∃ u, cs.toList = [u] := List.length_eq_one_iff.1 hl
  rw [hu] at hf
  have hcs : cs = #[u] := by rw [← Array.toArray_toList (xs := cs), hu]
  have hf' := hf
  rw [show ([u] : List Value).take 1 = [u] from rfl] at hf'
  have key : ∃ a len cap, u = .slice a len cap := by
    rcases open_int_rows ht he hq ce cq hf' with ⟨hq, _⟩ | ⟨ad, l, c, A, L, C, Z, hq, _⟩
    · injection hq with h1; exact ⟨_, _, _, h1⟩
    · injection hq with h1; exact ⟨_, _, _, h1⟩
  obtain ⟨a, len, cap, rfl⟩ := key
  obtain ⟨zss, hz⟩ := open_rd2 ht he hq ce cq hf'
  exact ⟨a, len, cap, zss, hcs, hz⟩

end Go.Proofs.Ytdeahjinnnhfkaa
