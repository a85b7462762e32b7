/- The small group: proofs of equal exponents checked; the program's and the document's. No conditions but numbers that a machine holds. -/
import Derived.Test.YtdlbpeippmibcaaGr3
namespace Go.Proofs.Ytdlbpeippmibcaa
open Go Go.RowKit
set_option linter.unusedVariables false
attribute [local irreducible] kh kid pwm tcm pw chl

theorem arr4 (a b c d : Int) {j : Nat} (h : j < 4) : (#[Value.int .i64 a, .int .i64 b, .int .i64 c, .int .i64 d] : Array Value)[j]? = some (.int .i64 ([a, b, c, d].getD j 0)) := by
  have : j = 0 ∨ j = 1 ∨ j = 2 ∨ j = 3 := by omega
  rcases this with rfl | rfl | rfl | rfl <;> rfl
theorem wf4 {a b c d : Int} (ha : (Lit.int .i64 a).wf = true) (hb : (Lit.int .i64 b).wf = true) (hc : (Lit.int .i64 c).wf = true) (hd : (Lit.int .i64 d).wf = true) {j : Nat} (h : j < 4) : (Lit.int .i64 ([a, b, c, d].getD j 0)).wf = true := by
  have : j = 0 ∨ j = 1 ∨ j = 2 ∨ j = 3 := by omega
  rcases this with rfl | rfl | rfl | rfl <;> assumption
theorem vrq_el {g h u v : Int} (c r : Int) {j : Nat} (hj : j < 4) (hn : isG ([g, h, u, v].getD j 0) = false) : vrf g h u v c r = false := by
  apply vrf_no
  have hq : isG g = false ∨ isG h = false ∨ isG u = false ∨ isG v = false := by
    have : j = 0 ∨ j = 1 ∨ j = 2 ∨ j = 3 := by omega
    rcases this with rfl | rfl | rfl | rfl
    · exact Or.inl hn
    · exact Or.inr (Or.inl hn)
    · exact Or.inr (Or.inr (Or.inl hn))
    · exact Or.inr (Or.inr (Or.inr hn))
  unfold vrq
  rcases hq with h | h | h | h <;> simp [h]
theorem vrf_c {g h u v c r : Int} (hn : inR c 0 1018 = false) : vrf g h u v c r = false := by
  apply vrf_no; unfold vrq; simp [hn]
theorem vrf_r {g h u v c r : Int} (hn : inR r 0 1018 = false) : vrf g h u v c r = false := by
  apply vrf_no; unfold vrq; simp [hn]
theorem vrf_yes {g h u v c r : Int} (h1 : isG g = true) (h2 : isG h = true) (h3 : isG u = true) (h4 : isG v = true) (h5 : inR c 0 1018 = true) (h6 : inR r 0 1018 = true) : vrf g h u v c r = (c == chl g h u v (mulG (pwG g r) (pwG u c)) (mulG (pwG h r) (pwG v c))) := by
  unfold vrf vrq; simp [h1, h2, h3, h4, h5, h6]


end Go.Proofs.Ytdlbpeippmibcaa
