/- MakePointKeys, the document's. No conditions but numbers that a machine holds. -/
import Derived.Test.YtaekjnacigicoaaPk4
namespace Go.Proofs.Ytaekjnacigicoaa
open Go Go.RowKit
set_option linter.unusedVariables false
attribute [local irreducible] kh

/-- Corrections in their cells. -/
def corE : Enc Cor where
  sz := 3
  en c := [.int .i64 c.1, .int .i64 c.2.1, .int .i64 c.2.2]
  ok := cok
  pos := by decide
  len _ := rfl
  one c u hu := by simp at hu; rcases hu with rfl | rfl | rfl <;> rfl
theorem cor_flat : FlatAs tyCorrection corE := by
  refine ⟨rfl, fun l w cs x => ⟨fun h => ?_, fun h => ?_⟩, fun F w cs x => ⟨fun h => ?_, fun h => ?_⟩⟩
  · obtain ⟨rfl, h1, h2, h3⟩ := rd_Correction h
    exact ⟨rfl, h1, h2, h3⟩
  · obtain ⟨rfl, h1, h2, h3⟩ := h
    exact rd_mkCorrection h1 h2 h3
  · obtain ⟨rfl, h1, h2, h3⟩ := own_Correction h
    exact ⟨rfl, h1, h2, h3⟩
  · obtain ⟨rfl, h1, h2, h3⟩ := h
    exact own_mkCorrection h1 h2 h3

theorem pk_no {d p ra rb : Int} (h : pkOk d p ra rb = false) : pcs d p ra rb = [] ∧ ∀ r, prt d p ra rb r = 0 := by
  unfold pcs prt; rw [h]; exact ⟨rfl, fun _ => rfl⟩
theorem pk_yes {D I : Nat} {ra rb : Int} (h : pkOk (D : Int) (I : Int) ra rb = true) : pcs (D : Int) (I : Int) ra rb = mkc D I (ra, 0) (rb, 1) ∧ ∀ r, prt (D : Int) (I : Int) ra rb r = r := by
  unfold pcs prt; rw [h]; exact ⟨rfl, fun _ => rfl⟩
theorem bt01 (i L : Nat) : bt i L = 0 ∨ bt i L = 1 := by unfold bt; omega
theorem mkc_succ (d p : Nat) (a b : Int × Int) : mkc (d + 1) p a b = cor1 a.1 b.1 (bt p d) :: mkc d p (evN a.1 a.2 (bt p d) (cor1 a.1 b.1 (bt p d))) (evN b.1 b.2 (bt p d) (cor1 a.1 b.1 (bt p d))) := rfl
theorem lits1 {B : Nat} {w : World} {c : Cor} (hB : B ≤ w.heap.size) (hc : cok c) : OwnS corE 47 B (w.alloc (.cells #[.int .i64 c.1, .int .i64 c.2.1, .int .i64 c.2.2] 47)) (.slice (some ⟨w.heap.size, 0, none⟩) 1 1) [c] :=
  OwnS.lits corE _ hB (by intro x hx; simp at hx; subst hx; exact hc) (by simp [corE]) rfl (by unfold maxLen; omega)

/-- The correction as the document makes it. -/
theorem cor1_0 (a b : Int) : cor1 a b 0 = (bits .xor .i64 (kid a 1) (kid b 1), bits .xor .i64 (bits .xor .i64 (ctl a 0) (ctl b 0)) 1, bits .xor .i64 (ctl a 1) (ctl b 1)) := by
  unfold cor1
  rw [show xo (xo (ctl a 1) (ctl b 1)) 0 = xo (ctl a 1) (ctl b 1) from xo_zero (xo_wf _ _)]
  rfl
theorem cor1_1 (a b : Int) : cor1 a b 1 = (bits .xor .i64 (kid a 0) (kid b 0), bits .xor .i64 (ctl a 0) (ctl b 0), bits .xor .i64 (bits .xor .i64 (ctl a 1) (ctl b 1)) 1) := by
  unfold cor1
  rw [show xo (xo (ctl a 0) (ctl b 0)) (1 - 1) = xo (ctl a 0) (ctl b 0) from xo_zero (xo_wf _ _)]
  rfl

end Go.Proofs.Ytaekjnacigicoaa
