/- Kept keys in a map: its keys as the library collects them. Pure; no conditions but those that are named. -/
import Derived.Test.YtlbijjifeaimjaaRtM
import Derived.Lib.SlKeysI
namespace Go.Proofs.Ytlbijjifeaimjaa
open Go Go.RowKit Go.Maps Go.Sort
set_option linter.unusedVariables false
set_option maxRecDepth 20000
attribute [local irreducible] kh kid

/-- The keys as the library collects them. -/
theorem intKeys_is {D : DataW Unit} {L : Kept} (hM : MapK D L) (hA : Asc L) {ss : List Int} (h : ss.Perm (intKeys D)) : ss.mergeSort (fun x y => decide (x ≤ y)) = L.map Prod.fst := by
  obtain ⟨⟨es, rfl, hp⟩, hh, _, es', he, hi⟩ := hM
  injection he with he
  subst he
  have e1 : intKeys (.map es : DataW Unit) = es.map fun p => intOf p.1 := rfl
  rw [e1] at h
  refine sorted_is (h.nodup_iff.2 ?_) (fun x => ?_) hA.map
  · unfold List.Nodup
    rw [List.pairwise_map]
    refine List.Pairwise.imp_of_mem ?_ hp
    intro p q hp hq hne e
    obtain ⟨x, hx⟩ := hi p hp
    obtain ⟨y, hy⟩ := hi q hq
    rw [hx, hy] at e hne
    have e' : x = y := e
    exact hne (by rw [e'])
  · rw [h.mem_iff, memS_fst, ← hh x, has_eq, List.any_eq_true, List.mem_map]
    constructor
    · rintro ⟨p, hp, e⟩
      obtain ⟨y, hy⟩ := hi p hp
      rw [hy] at e
      have e' : y = x := e
      refine ⟨p, hp, ?_⟩
      rw [hy, e']
      exact WideAt.sameKey_self (a := .int .i64 x) trivial
    · rintro ⟨p, hp, e⟩
      refine ⟨p, hp, ?_⟩
      rw [WideAt.sameKey_eq e]
      rfl

end Go.Proofs.Ytlbijjifeaimjaa
