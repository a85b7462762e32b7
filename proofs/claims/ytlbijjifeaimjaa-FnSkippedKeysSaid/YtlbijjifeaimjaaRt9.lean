/- Ratchets: EqualRatchets, the program's and the document's. No conditions but numbers that a machine holds. -/
import Derived.Test.YtlbijjifeaimjaaRt1
import Derived.Laws.StructEq
import Derived.ChangeKeysEq
namespace Go.Proofs.Ytlbijjifeaimjaa
open Go Go.RowKit
set_option linter.unusedVariables false
set_option maxRecDepth 20000
attribute [local irreducible] kh kid

/-- EqualRatchets. -/
def eqRt (c1 s1 : Int) (xs : Kept) (c2 s2 : Int) (ys : Kept) : Bool := (c1 == c2) && ((s1 == s2) && decide (xs = ys))
theorem kep_eqB {x y : Int × Int} : ((x.1 == y.1) && (x.2 == y.2)) = decide (x = y) := by
  obtain ⟨a, b⟩ := x
  obtain ⟨d, e⟩ := y
  rw [Bool.eq_iff_iff]
  simp [Prod.ext_iff]
theorem eq_kep (w : World) (x y : Int × Int) : (Op.equalIn 10000 40 (.agg #[.int .i64 x.1, .int .i64 x.2]) (.agg #[.int .i64 y.1, .int .i64 y.2])).run Try.prog w = .ok (decide (x = y)) w := by
  have pp : ∀ (a b v : Value) (i : Nat), (#[a, b] : Array Value)[i]? = some v → (part 3 #[a, b] i).run Try.prog w = .ok v w := fun a b v i h => run_part_plain (P := Try.prog) w (e := 3) (by kernel_rfl) h
  have p0 := fun a b => pp a b a 0 rfl
  have p1 := fun a b => pp a b b 1 rfl
  have q := fun m n : Int => run_equalIn_int (P := Try.prog) w 9998 3 .i64 .i64 m n Try.underlying3
  rw [run_equalIn_agg (P := Try.prog) w 9999 40 _ _ (by kernel_rfl) (by kernel_rfl), ← kep_eqB]
  have hf : (Program.fieldsOf Try.prog 40).toList.map (fun f => (f.type, f.offset, f.name == "_")) = [(3, 0, false), (3, 1, false)] := by kernel_rfl
  generalize (Program.fieldsOf Try.prog 40).toList = fs at hf ⊢
  obtain ⟨f0, r0, rfl, e0, hf⟩ := List.map_eq_cons_iff.1 hf
  obtain ⟨f1, r1, rfl, e1, hf⟩ := List.map_eq_cons_iff.1 hf
  obtain rfl := List.map_eq_nil_iff.1 hf
  simp only [Prod.mk.injEq, beq_eq_false_iff_ne] at e0 e1
  obtain ⟨a0, b0, c0⟩ := e0
  obtain ⟨a1, b1, c1⟩ := e1
  have q' : ∀ m n : Int, (Op.equalIn 9999 3 (.int .i64 m) (.int .i64 n)).run Try.prog w = .ok (m == n) w := q
  simp only [Op.eqFields, a0, b0, c0, a1, b1, c1, ne_eq, not_false_eq_true, if_true, Sem.run_bind, Sem.run_ite, Sem.run_pure, p0, p1, Result.andThen_ok, q']
  generalize (x.1 == y.1) = u1
  generalize (x.2 == y.2) = u2
  cases u1 <;> cases u2 <;> rfl
theorem kep_ne {xs ys : Kept} {j : Nat} {x y : Int × Int} (hx : xs[j]? = some x) (hy : ys[j]? = some y) (h : x ≠ y) : decide (xs = ys) = false := by
  rw [decide_eq_false_iff_not]
  intro e
  rw [e, hy] at hx
  exact h (Option.some.inj hx).symm
theorem kep_all {xs ys : Kept} (hl : xs.length = ys.length) (h : ∀ i, i < xs.length → xs[i]? = ys[i]?) : xs = ys := by
  apply List.ext_getElem?
  intro i
  by_cases hi : i < xs.length
  · exact h i hi
  · rw [List.getElem?_eq_none (by omega), List.getElem?_eq_none (by omega)]

set_option maxHeartbeats 4000000 in
/-- slices.Equal on kept keys. -/
theorem kseq_any {l1 l2 : Nat} {w : World} {u v : Value} {xs ys : Kept} (hu : RdS kepE l1 w u xs) (hv : RdS kepE l2 w v ys) (hl1 : l1 ≤ w.heap.size) (hl2 : l2 ≤ w.heap.size) :
    Calls Try.prog 23 #[u, v] w fun e w' => e = .returned (.bool (decide (xs = ys))) ∧ Below w.heap.size w w' := by
  obtain ⟨a, cap, rfl, h1, h2, hc⟩ := hu.open
  obtain ⟨a', cap', rfl, h1', h2', hc'⟩ := hv.open
  have Hc := Lib.hid hc
  have Hc' := Lib.hid hc'
  unfold maxLen at h2 h2'
  obtain ⟨q, hq⟩ : ∃ q, q = decide (xs = ys) := ⟨_, rfl⟩
  rw [← hq]
  have HQ := Lib.hid hq
  clear hu hv hc hc' hq
  by_cases hn : xs.length = ys.length
  · have HN := Lib.hid hn
    have e0 : ((xs.length : Int) != (ys.length : Int)) = false := by simp; omega
    have hle : xs.length ≤ ys.length := by omega
    clear hn
    go_enter Try.func23, Try.ntmps23
    go_wp2_with fail
    go_loopw [13] (fun i wr => ∃ j : Nat, i = .int .i64 j ∧ j ≤ xs.length ∧ (∀ i, i < j → xs[i]? = ys[i]?) ∧ Below w.heap.size w wr) (fun i _ => xs.length - (intOf i).toNat)
    case atStart => exact ⟨0, rfl, Nat.zero_le _, fun i hi => by omega, Below.refl _ _⟩
    case round =>
      obtain ⟨j, rfl, hj, hall, hB⟩ := hrel
      have HB := Lib.hid hB
      have HA := Lib.hid hall
      clear hB hall
      by_cases hlt : j < xs.length
      · have e1 : decide ((j : Int) < (xs.length : Int)) = true := by simp; omega
        have hlt2 : j < ys.length := by omega
        have ej1 : (j : Int) < (xs.length : Int) := by omega
        have ej2 : (j : Int) < (ys.length : Int) := by omega
        obtain ⟨b, o, rfl, hbl, hcell⟩ := Hc.out (by omega)
        obtain ⟨b', o', rfl, hbl', hcell'⟩ := Hc'.out (by omega)
        obtain ⟨x, hx⟩ : ∃ x, xs[j]? = some x := ⟨_, List.getElem?_eq_getElem hlt⟩
        obtain ⟨y, hy⟩ : ∃ y, ys[j]? = some y := ⟨_, List.getElem?_eq_getElem hlt2⟩
        have c0 : wr.cell? ⟨b, o + j * 2, none⟩ = some (.int .i64 x.1) := hcell wr (HB.out.mono hl1) j x hx 0 _ rfl
        have c1 : wr.cell? ⟨b, o + j * 2 + 1, none⟩ = some (.int .i64 x.2) := hcell wr (HB.out.mono hl1) j x hx 1 _ rfl
        have d0 : wr.cell? ⟨b', o' + j * 2, none⟩ = some (.int .i64 y.1) := hcell' wr (HB.out.mono hl2) j y hy 0 _ rfl
        have d1 : wr.cell? ⟨b', o' + j * 2 + 1, none⟩ = some (.int .i64 y.2) := hcell' wr (HB.out.mono hl2) j y hy 1 _ rfl
        have HX := Lib.hid hx
        have HY := Lib.hid hy
        clear hcell hcell' hx hy
        have hq := fun w' => eq_kep w' x y
        by_cases hxy : x = y
        · have e9 : decide (x = y) = true := by simpa using hxy
          have HXY := Lib.hid hxy
          clear hxy
          go_wp2_with fail
          go_quiet (fail)
          go_wp2_with fail
          go_roundw
          case rel => exact ⟨j + 1, by simp, hlt, fun i hi => by
            by_cases hij : i = j
            · rw [hij, HX.out, HY.out, HXY.out]
            · exact HA.out i (by omega), HB.out.trans (below_drewN ⟨_, rfl⟩)⟩
          case measure => simp [intOf]; omega
        · have e9 : decide (x = y) = false := by simpa using hxy
          have HE : Hid (q = false) := Lib.hid (by rw [HQ.out]; exact kep_ne HX.out HY.out hxy)
          clear hxy
          go_wp2_with fail
          go_quiet (fail)
          go_wp2_with fail
          go_ret
          exact ⟨by rw [HE.out]; rfl, HB.out.trans (below_drewN ⟨_, rfl⟩)⟩
      · have e1 : decide ((j : Int) < (xs.length : Int)) = false := by simp; omega
        have HE : Hid (q = true) := Lib.hid (by rw [HQ.out, decide_eq_true]; exact kep_all HN.out (fun i hi => HA.out i (by omega)))
        go_wp2_with fail
        go_ret
        exact ⟨by rw [HE.out]; rfl, HB.out⟩
  · have e0 : ((xs.length : Int) != (ys.length : Int)) = true := by simp; omega
    have HE : Hid (q = false) := Lib.hid (by rw [HQ.out, decide_eq_false_iff_not]; exact fun e => hn (by rw [e]))
    clear hn
    go_enter Try.func23, Try.ntmps23
    go_wp2_with fail
    go_ret
    exact ⟨by rw [HE.out]; rfl, Below.refl _ _⟩

set_option maxHeartbeats 4000000 in
/-- impl.EqualRatchets. -/
theorem impl_er {l1 l2 : Nat} {w : World} {u v : Value} {xs ys : Kept} {c1 s1 c2 s2 : Int} (hu : RdS kepE l1 w u xs) (hv : RdS kepE l2 w v ys) (hl1 : l1 ≤ w.heap.size) (hl2 : l2 ≤ w.heap.size) :
    Calls Try.prog 9 #[.agg #[.int .i64 c1, .int .i64 s1, u], .agg #[.int .i64 c2, .int .i64 s2, v]] w fun e w' => e = .returned (.bool (eqRt c1 s1 xs c2 s2 ys)) ∧ Below w.heap.size w w' := by
  have HU0 := Lib.hid hu
  have HV0 := Lib.hid hv
  obtain ⟨a, cap, rfl, h1, h2, hc⟩ := hu.open
  obtain ⟨a', cap', rfl, h1', h2', hc'⟩ := hv.open
  have Hc := Lib.hid hc
  have Hc' := Lib.hid hc'
  unfold maxLen at h2 h2'
  have K := blocks2T w (.cells #[.int .i64 c1, .int .i64 s1, .slice a xs.length cap] 26) (.cells #[.int .i64 c2, .int .i64 s2, .slice a' ys.length cap'] 26)
  obtain ⟨W, hW⟩ : ∃ W, W = (w.alloc (.cells #[.int .i64 c1, .int .i64 s1, .slice a xs.length cap] 26)).alloc (.cells #[.int .i64 c2, .int .i64 s2, .slice a' ys.length cap'] 26) := ⟨_, rfl⟩
  have HB : Hid (Below w.heap.size w W) := Lib.hid (by rw [hW]; exact ((Below.refl _ _).alloc (Nat.le_refl _) _).alloc (by simp) _)
  rw [← hW] at K
  have HW := Lib.hid hW
  have KA := Lib.hid K.1
  have KB := Lib.hid K.2
  have HU := Lib.hid (HU0.out.behind (HB.out.mono hl1))
  have HV := Lib.hid (HV0.out.behind (HB.out.mono hl2))
  obtain ⟨q, hq⟩ : ∃ q, q = eqRt c1 s1 xs c2 s2 ys := ⟨_, rfl⟩
  rw [← hq]
  obtain ⟨v1, hv1⟩ : ∃ v, (c1 == c2) = v := ⟨_, rfl⟩
  obtain ⟨v2, hv2⟩ : ∃ v, (s1 == s2) = v := ⟨_, rfl⟩
  have HE : Hid (q = (v1 && (v2 && decide (xs = ys)))) := Lib.hid (by rw [hq, ← hv1, ← hv2]; rfl)
  have n1 : (c1 != c2) = !v1 := by rw [← hv1]; rfl
  have n2 : (s1 != s2) = !v2 := by rw [← hv2]; rfl
  obtain ⟨x0, x1, x2⟩ := rcs KA.out
  obtain ⟨y0, y1, y2⟩ := rcs KB.out
  rw [HW.out] at x0 x1 x2 y0 y1 y2
  clear hu hv hq hc hc' K hW HU0 HV0
  cases v1 with
  | false =>
    go_enter Try.func9, Try.ntmps9
    go_wp2_with fail
    go_ret
    exact ⟨by rw [HE.out]; rfl, by rw [← HW.out]; exact HB.out⟩
  | true =>
  cases v2 with
  | false =>
    go_enter Try.func9, Try.ntmps9
    go_wp2_with fail
    go_ret
    exact ⟨by rw [HE.out]; rfl, by rw [← HW.out]; exact HB.out⟩
  | true =>
    have HQ2 : Hid (q = decide (xs = ys)) := Lib.hid (by rw [HE.out]; rfl)
    clear n1 n2
    go_enter Try.func9, Try.ntmps9
    go_wp2_with fail
    rw [← HW.out]
    refine (kseq_any HU.out HV.out (Nat.le_trans hl1 HB.out.size) (Nat.le_trans hl2 HB.out.size)).mono ?_
    rw [← HQ2.out]
    rintro e w1 ⟨rfl, hb⟩
    replace HB := Lib.hid (HB.out.trans (hb.mono HB.out.size))
    clear hb
    go_wp2_with fail
    go_ret
    exact ⟨rfl, HB.out⟩

end Go.Proofs.Ytlbijjifeaimjaa
