/- A slice of slices of integers that came in: what its reading tells. No program. A struct of one field, a slice of slices of integers, that came in: what its reading tells. No program. -/
import Derived.Test.YtckhmjdhdoomdaaBa5
import Derived.Deep.Matrix
import Derived.ChangeSame

/-! Open2 -/
namespace Go.Proofs.Ytckhmjdhdoomdaa
open Go Go.RowKit Go.Deep Go.ChangeShapes Go.WideShapes

theorem open_rd2 {H : Type} {enc : TypeId × Value → H} {P : Program} {w : World} {base : Nat} {held : Bool} {t e q : TypeId} {k : IntKind} {fuel : Nat} {a : Option Addr} {len cap : Nat} {x : DataW H × List MemPlace}
    (ht : P.underlying t = some (.slice e)) (he : P.underlying e = some (.slice q)) (hq : P.underlying q = some (.int k)) (ce : P.cellsOf e = 1) (cq : P.cellsOf q = 1)
    (h : DataW.trod enc P w base (fun _ => true) held fuel t [.slice a len cap] = some x) : ∃ zss, Rd2 w.heap.size k w (.slice a len cap) zss := by
  rcases open_int_rows ht he hq ce cq h with ⟨hcs, _⟩ | ⟨ad, l, c, A, L, C, Z, hcs, _, hl, hm, _, hr⟩
  · injection hcs with h1
    injection h1 with h1 h2 h3
    subst h1; subst h2; subst h3
    exact ⟨[], [], rfl, ⟨none, 0, rfl, by simp, by unfold maxLen; omega, .inl ⟨rfl, rfl⟩⟩, fun i u zs hu => by simp at hu⟩
  · injection hcs with h1
    injection h1 with h1 h2 h3
    subst h1; subst h2; subst h3
    refine ⟨(List.range len).map fun r => (Z r).take (L r), (List.range len).map fun r => .slice (A r) (L r) (C r), by simp, ⟨some ad, cap, by simp, by simpa using hl, hm, .inr ⟨ad, rfl, fun i u hu => ?_, ?_⟩⟩, fun i u zs hu hz => ?_⟩
    · have hi : i < len := by have := (List.getElem?_eq_some_iff.1 hu).1; simpa using this
      simp [hi] at hu
      subst hu
      exact (hr i (by omega)).1
    · by_cases h0 : len = 0
      · right; simp [h0]
      · left
        have := block_lt_of_cell (hr 0 (by omega)).1
        simpa [addr_add_block] using this
    · have hi : i < len := by have := (List.getElem?_eq_some_iff.1 hu).1; simpa using this
      simp [hi] at hu hz
      subst hu; subst hz
      obtain ⟨_, r1, r2, r3, r4, r5, r6⟩ := hr i (by omega)
      have hlen : ((Z i).take (L i)).length = L i := by simp; omega
      refine ⟨fun n hn => r4 n (List.mem_of_mem_take hn), A i, C i, by rw [hlen], by omega, r2, ?_⟩
      cases hA : A i with
      | none => exact .inl ⟨rfl, r5 hA⟩
      | some a' =>
        obtain ⟨_, hc⟩ := r6 a' hA
        refine .inr ⟨a', rfl, fun j hj => ?_, ?_⟩
        · rw [hlen] at hj
          rw [hc j (by omega)]
          simp [List.getD_eq_getElem?_getD, hj]
        · rw [hlen]
          by_cases h0 : L i = 0
          · exact .inr h0
          · left
            have := block_lt_of_cell (hc 0 (by omega))
            simpa [addr_add_block] using this

end Go.Proofs.Ytckhmjdhdoomdaa


/-! OpenDb -/
namespace Go.Proofs.Ytckhmjdhdoomdaa
open Go Go.RowKit Go.Deep Go.ChangeShapes Go.WideShapes

theorem open_db {H : Type} {enc : TypeId × Value → H} {P : Program} {w : World} {base : Nat} {held : Bool} {t0 t e q : TypeId} {f0 : Field} {k : IntKind} {fuel : Nat} {cs : Array Value} {x : DataW H × List MemPlace}
    (h0 : P.underlying t0 = some (.struct #[f0])) (hty : f0.type = t) (hoff : f0.offset = 0) (c0 : P.cellsOf t0 = 1) (ct : P.cellsOf t = 1)
    (ht : P.underlying t = some (.slice e)) (he : P.underlying e = some (.slice q)) (hq : P.underlying q = some (.int k)) (ce : P.cellsOf e = 1) (cq : P.cellsOf q = 1)
    (h : DataW.trod enc P w base (fun _ => true) held fuel t0 cs.toList = some x) : ∃ a len cap zss, cs = #[.slice a len cap] ∧ Rd2 w.heap.size k w (.slice a len cap) zss := by
  obtain ⟨y0, n, _, hl, hf⟩ := trod_struct1 h0 h
  rw [hty, hoff, ct, List.drop_zero] at hf
  rw [c0] at hl
  obtain ⟨u, hu⟩ : ∃ u, cs.toList = [u] := List.length_eq_one_iff.1 hl
  rw [hu] at hf
  have hcs : cs = #[u] := by rw [← Array.toArray_toList (xs := cs), hu]
  have hf' := hf
  rw [show ([u] : List Value).take 1 = [u] from rfl] at hf'
  have key : ∃ a len cap, u = .slice a len cap := by
    rcases open_int_rows ht he hq ce cq hf' with ⟨hq, _⟩ | ⟨ad, l, c, A, L, C, Z, hq, _⟩
    · injection hq with h1; exact ⟨_, _, _, h1⟩
    · injection hq with h1; exact ⟨_, _, _, h1⟩
  obtain ⟨a, len, cap, rfl⟩ := key
  obtain ⟨zss, hz⟩ := open_rd2 ht he hq ce cq hf'
  exact ⟨a, len, cap, zss, hcs, hz⟩

end Go.Proofs.Ytckhmjdhdoomdaa
