/- EqualPointKeys, the program's and the document's. No conditions but numbers that a machine holds. -/
import Derived.Test.YtheefkhhafefoaaPk5
import Derived.Laws.StructEq
import Derived.ChangeKeysEq
namespace Go.Proofs.Ytheefkhhafefoaa
open Go Go.RowKit
set_option linter.unusedVariables false
attribute [local irreducible] kh

theorem cor_eq {x y : Cor} : ((x.1 == y.1) && (x.2.1 == y.2.1) && (x.2.2 == y.2.2)) = decide (x = y) := by
  obtain ⟨a, b, c⟩ := x
  obtain ⟨d, e, f⟩ := y
  rw [Bool.eq_iff_iff]
  simp [Prod.ext_iff, and_assoc]
theorem eq_cor (w : World) (x y : Cor) : (Op.equalIn 10000 52 (.agg #[.int .i64 x.1, .int .i64 x.2.1, .int .i64 x.2.2]) (.agg #[.int .i64 y.1, .int .i64 y.2.1, .int .i64 y.2.2])).run Try.prog w = .ok (decide (x = y)) w := by
  have pp : ∀ (a b c v : Value) (i : Nat), (#[a, b, c] : Array Value)[i]? = some v → (part 3 #[a, b, c] i).run Try.prog w = .ok v w := fun a b c v i h => run_part_plain (P := Try.prog) w (e := 3) (by kernel_rfl) h
  have p0 := fun a b c => pp a b c a 0 rfl
  have p1 := fun a b c => pp a b c b 1 rfl
  have p2 := fun a b c => pp a b c c 2 rfl
  have q := fun m n : Int => run_equalIn_int (P := Try.prog) w 9998 3 .i64 .i64 m n Try.underlying3
  rw [run_equalIn_agg (P := Try.prog) w 9999 52 _ _ (by kernel_rfl) (by kernel_rfl), ← cor_eq]
  have hf : (Program.fieldsOf Try.prog 52).toList.map (fun f => (f.type, f.offset, f.name == "_")) = [(3, 0, false), (3, 1, false), (3, 2, false)] := by kernel_rfl
  generalize (Program.fieldsOf Try.prog 52).toList = fs at hf ⊢
  obtain ⟨f0, r0, rfl, e0, hf⟩ := List.map_eq_cons_iff.1 hf
  obtain ⟨f1, r1, rfl, e1, hf⟩ := List.map_eq_cons_iff.1 hf
  obtain ⟨f2, r2, rfl, e2, hf⟩ := List.map_eq_cons_iff.1 hf
  obtain rfl := List.map_eq_nil_iff.1 hf
  simp only [Prod.mk.injEq, beq_eq_false_iff_ne] at e0 e1 e2
  obtain ⟨a0, b0, c0⟩ := e0
  obtain ⟨a1, b1, c1⟩ := e1
  obtain ⟨a2, b2, c2⟩ := e2
  have q' : ∀ m n : Int, (Op.equalIn 9999 3 (.int .i64 m) (.int .i64 n)).run Try.prog w = .ok (m == n) w := q
  simp only [Op.eqFields, a0, b0, c0, a1, b1, c1, a2, b2, c2, ne_eq, not_false_eq_true, if_true, Sem.run_bind, Sem.run_ite, Sem.run_pure, p0, p1, p2, Result.andThen_ok, q']
  generalize (x.1 == y.1) = u1
  generalize (x.2.1 == y.2.1) = u2
  generalize (x.2.2 == y.2.2) = u3
  cases u1 <;> cases u2 <;> cases u3 <;> rfl
theorem cors_ne {xs ys : List Cor} {j : Nat} {x y : Cor} (hx : xs[j]? = some x) (hy : ys[j]? = some y) (h : x ≠ y) : decide (xs = ys) = false := by
  rw [decide_eq_false_iff_not]
  intro e
  rw [e, hy] at hx
  exact h (Option.some.inj hx).symm
theorem cors_eq {xs ys : List Cor} (hl : xs.length = ys.length) (h : ∀ i, i < xs.length → xs[i]? = ys[i]?) : xs = ys := by
  apply List.ext_getElem?
  intro i
  by_cases hi : i < xs.length
  · exact h i hi
  · rw [List.getElem?_eq_none (by omega), List.getElem?_eq_none (by omega)]

set_option maxHeartbeats 4000000 in
/-- slices.Equal on corrections -/
theorem eqC_any {l1 l2 : Nat} {w : World} {e1 e2 : TypeId} {a a' : Option Addr} {cap cap' : Nat} {xs ys : List Cor} (hu : (sliceT e1 tyCorrection).rd l1 w [.slice a xs.length cap] xs) (hv : (sliceT e2 tyCorrection).rd l2 w [.slice a' ys.length cap'] ys) (hl1 : l1 ≤ w.heap.size) (hl2 : l2 ≤ w.heap.size) :
    Calls Try.prog 62 #[.slice a xs.length cap, .slice a' ys.length cap'] w fun e w' => e = .returned (.bool (decide (xs = ys))) ∧ Below w.heap.size w w' := by
  have hm1 := sl_len hu
  have hm2 := sl_len hv
  obtain ⟨_, _, hq1, h1, h2, hc⟩ := sl_open hu
  injection hq1 with hq1
  injection hq1 with p1 p2 p3
  subst p1
  subst p3
  obtain ⟨_, _, hq1, h1', h2', hc'⟩ := sl_open hv
  injection hq1 with hq1
  injection hq1 with p1 p2' p3
  subst p1
  subst p3
  have Hc := Lib.hid hc
  have Hc' := Lib.hid hc'
  unfold maxLen at h2 h2' hm1 hm2
  obtain ⟨q, hq⟩ : ∃ q, q = decide (xs = ys) := ⟨_, rfl⟩
  rw [← hq]
  have HQ := Lib.hid hq
  clear hu hv hc hc' hq p2 p2'
  by_cases hn : xs.length = ys.length
  · have HN := Lib.hid hn
    have e0 : ((xs.length : Int) != (ys.length : Int)) = false := by simp; omega
    have hle : xs.length ≤ ys.length := by omega
    clear hn
    go_enter Try.func62, Try.ntmps62
    go_wp2_with fail
    go_loopw [13] (fun i wr => ∃ j : Nat, i = .int .i64 j ∧ j ≤ xs.length ∧ (∀ i, i < j → xs[i]? = ys[i]?) ∧ Below w.heap.size w wr) (fun i _ => xs.length - (intOf i).toNat)
    case atStart => exact ⟨0, rfl, Nat.zero_le _, fun i hi => by omega, Below.refl _ _⟩
    case round =>
      obtain ⟨j, rfl, hj, hall, hB⟩ := hrel
      have HB := Lib.hid hB
      have HA := Lib.hid hall
      clear hB hall
      by_cases hlt : j < xs.length
      · have e1 : decide ((j : Int) < (xs.length : Int)) = true := by simp; omega
        have hlt2 : j < ys.length := by omega
        have ej1 : (j : Int) < (xs.length : Int) := by omega
        have ej2 : (j : Int) < (ys.length : Int) := by omega
        obtain ⟨b, o, rfl, hbl, hcell⟩ := Hc.out (by omega)
        obtain ⟨b', o', rfl, hbl', hcell'⟩ := Hc'.out (by omega)
        obtain ⟨x, hx⟩ : ∃ x, xs[j]? = some x := ⟨_, List.getElem?_eq_getElem hlt⟩
        obtain ⟨y, hy⟩ : ∃ y, ys[j]? = some y := ⟨_, List.getElem?_eq_getElem hlt2⟩
        obtain ⟨c, hr, hcl⟩ := hcell wr (HB.out.mono hl1) j x hx
        obtain ⟨c', hr', hcl'⟩ := hcell' wr (HB.out.mono hl2) j y hy
        obtain rfl := (rd_Correction hr).1
        obtain rfl := (rd_Correction hr').1
        have c0 : wr.cell? ⟨b, o + j * 3, none⟩ = _ := hcl 0 _ rfl
        have c1 : wr.cell? ⟨b, o + j * 3 + 1, none⟩ = _ := hcl 1 _ rfl
        have c2 : wr.cell? ⟨b, o + j * 3 + 2, none⟩ = _ := hcl 2 _ rfl
        have d0 : wr.cell? ⟨b', o' + j * 3, none⟩ = _ := hcl' 0 _ rfl
        have d1 : wr.cell? ⟨b', o' + j * 3 + 1, none⟩ = _ := hcl' 1 _ rfl
        have d2 : wr.cell? ⟨b', o' + j * 3 + 2, none⟩ = _ := hcl' 2 _ rfl
        have HX := Lib.hid hx
        have HY := Lib.hid hy
        clear hcell hcell' hr hr' hcl hcl' hx hy
        have hq := fun w' => eq_cor w' x y
        by_cases hxy : x = y
        · have e9 : decide (x = y) = true := by simpa using hxy
          have HXY := Lib.hid hxy
          clear hxy
          go_wp2_with fail
          go_quiet (fail)
          go_wp2_with fail
          go_roundw
          case rel => exact ⟨j + 1, by simp, hlt, fun i hi => by
            by_cases hij : i = j
            · rw [hij, HX.out, HY.out, HXY.out]
            · exact HA.out i (by omega), HB.out.trans (below_drewN ⟨_, rfl⟩)⟩
          case measure => simp [intOf]; omega
        · have e9 : decide (x = y) = false := by simpa using hxy
          have HE : Hid (q = false) := Lib.hid (by rw [HQ.out]; exact cors_ne HX.out HY.out hxy)
          clear hxy
          go_wp2_with fail
          go_quiet (fail)
          go_wp2_with fail
          go_ret
          exact ⟨by rw [HE.out]; rfl, HB.out.trans (below_drewN ⟨_, rfl⟩)⟩
      · have e1 : decide ((j : Int) < (xs.length : Int)) = false := by simp; omega
        have HE : Hid (q = true) := Lib.hid (by rw [HQ.out, decide_eq_true]; exact cors_eq HN.out (fun i hi => HA.out i (by omega)))
        go_wp2_with fail
        go_ret
        exact ⟨by rw [HE.out]; rfl, HB.out⟩
  · have e0 : ((xs.length : Int) != (ys.length : Int)) = true := by simp; omega
    have HE : Hid (q = false) := Lib.hid (by rw [HQ.out, decide_eq_false_iff_not]; exact fun e => hn (by rw [e]))
    clear hn
    go_enter Try.func62, Try.ntmps62
    go_wp2_with fail
    go_ret
    exact ⟨by rw [HE.out]; rfl, Below.refl _ _⟩

end Go.Proofs.Ytheefkhhafefoaa
