/- EqualPointKeys, the program's and the document's. No conditions but numbers that a machine holds. -/
import Derived.Test.YtaekjnacigicoaaPk5
import Derived.Laws.StructEq
import Derived.ChangeKeysEq
namespace Go.Proofs.Ytaekjnacigicoaa
open Go Go.RowKit
set_option linter.unusedVariables false
attribute [local irreducible] kh

theorem cor_eq {x y : Cor} : ((x.1 == y.1) && (x.2.1 == y.2.1) && (x.2.2 == y.2.2)) = decide (x = y) := by
  obtain ⟨a, b, c⟩ := x
  obtain ⟨d, e, f⟩ := y
  rw [Bool.eq_iff_iff]
  simp [Prod.ext_iff, and_assoc]
theorem eq_cor (w : World) (x y : Cor) : (Op.equalIn 10000 47 (.agg #[.int .i64 x.1, .int .i64 x.2.1, .int .i64 x.2.2]) (.agg #[.int .i64 y.1, .int .i64 y.2.1, .int .i64 y.2.2])).run Try.prog w = .ok (decide (x = y)) w := by
  have pp : ∀ (a b c v : Value) (i : Nat), (#[a, b, c] : Array Value)[i]? = some v → (part 3 #[a, b, c] i).run Try.prog w = .ok v w := fun a b c v i h => run_part_plain (P := Try.prog) w (e := 3) (by kernel_rfl) h
  have p0 := fun a b c => pp a b c a 0 rfl
  have p1 := fun a b c => pp a b c b 1 rfl
  have p2 := fun a b c => pp a b c c 2 rfl
  have q := fun m n : Int => run_equalIn_int (P := Try.prog) w 9998 3 .i64 .i64 m n Try.underlying3
  rw [run_equalIn_agg (P := Try.prog) w 9999 47 _ _ (by kernel_rfl) (by kernel_rfl), ← cor_eq]
  have hf : (Program.fieldsOf Try.prog 47).toList.map (fun f => (f.type, f.offset, f.name == "_")) = [(3, 0, false), (3, 1, false), (3, 2, false)] := by kernel_rfl
  generalize (Program.fieldsOf Try.prog 47).toList = fs at hf ⊢
  obtain ⟨f0, r0, rfl, e0, hf⟩ := List.map_eq_cons_iff.1 hf
  obtain ⟨f1, r1, rfl, e1, hf⟩ := List.map_eq_cons_iff.1 hf
  obtain ⟨f2, r2, rfl, e2, hf⟩ := List.map_eq_cons_iff.1 hf
  obtain rfl := List.map_eq_nil_iff.1 hf
  simp only [Prod.mk.injEq, beq_eq_false_iff_ne] at e0 e1 e2
  obtain ⟨a0, b0, c0⟩ := e0
  obtain ⟨a1, b1, c1⟩ := e1
  obtain ⟨a2, b2, c2⟩ := e2
  have q' : ∀ m n : Int, (Op.equalIn 9999 3 (.int .i64 m) (.int .i64 n)).run Try.prog w = .ok (m == n) w := q
  simp only [Op.eqFields, a0, b0, c0, a1, b1, c1, a2, b2, c2, ne_eq, not_false_eq_true, if_true, Sem.run_bind, Sem.run_ite, Sem.run_pure, p0, p1, p2, Result.andThen_ok, q']
  generalize (x.1 == y.1) = u1
  generalize (x.2.1 == y.2.1) = u2
  generalize (x.2.2 == y.2.2) = u3
  cases u1 <;> cases u2 <;> cases u3 <;> rfl
theorem cors_ne {xs ys : List Cor} {j : Nat} {x y : Cor} (hx : xs[j]? = some x) (hy : ys[j]? = some y) (h : x ≠ y) : decide (xs = ys) = false := by
  rw [decide_eq_false_iff_not]
  intro e
  rw [e, hy] at hx
  exact h (Option.some.inj hx).symm
theorem cors_eq {xs ys : List Cor} (hl : xs.length = ys.length) (h : ∀ i, i < xs.length → xs[i]? = ys[i]?) : xs = ys := by
  apply List.ext_getElem?
  intro i
  by_cases hi : i < xs.length
  · exact h i hi
  · rw [List.getElem?_eq_none (by omega), List.getElem?_eq_none (by omega)]

end Go.Proofs.Ytaekjnacigicoaa
