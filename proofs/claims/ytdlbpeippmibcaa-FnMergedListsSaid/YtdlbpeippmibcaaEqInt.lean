/- EqualInts, the program's and the document's: whether the elements are the same. No conditions. -/
import Derived.Test.YtdlbpeippmibcaaBa4
import Derived.WalkKit
namespace Go.Proofs.Ytdlbpeippmibcaa
open Go Go.RowKit
set_option linter.unusedVariables false

set_option maxHeartbeats 1000000 in
/-- spec.EqualInts: whether the elements are the same. -/
theorem spec_eqi {l1 l2 : Nat} {w : World} {u v : Value} {xs ys : List Int} (hu : Rd l1 .i64 w u xs) (hv : Rd l2 .i64 w v ys) (hl1 : l1 ≤ w.heap.size) (hl2 : l2 ≤ w.heap.size) :
    Calls Try.prog 68 #[u, v] w fun e w' => e = .returned (.bool (decide (xs = ys))) ∧ Below w.heap.size w w' := by
  obtain ⟨a, cap, rfl, h1, h2, hc⟩ := hu.open
  obtain ⟨a', cap', rfl, h1', h2', hc'⟩ := hv.open
  have Hc := Lib.hid hc
  have Hc' := Lib.hid hc'
  unfold maxLen at h2 h2'
  clear hu hv hc hc'
  by_cases hlen : xs.length = ys.length
  · have e0 : ((xs.length : Int) != (ys.length : Int)) = false := by simp [hlen]
    go_enter Try.func68, Try.ntmps68
    go_wp2_with fail
    go_loopw [5] (fun i wr => ∃ j : Nat, i = .int .i64 j ∧ j ≤ xs.length ∧ (∀ i, i < j → xs.getD i 0 = ys.getD i 0) ∧ Below w.heap.size w wr) (fun i _ => xs.length - (intOf i).toNat)
    case atStart => exact ⟨0, rfl, Nat.zero_le _, fun i hi => by omega, Below.refl _ _⟩
    case round =>
      obtain ⟨j, rfl, hj, hsame, hB⟩ := hrel
      have HB := Lib.hid hB
      have HS := Lib.hid hsame
      have HL := Lib.hid hlen
      clear hB hsame
      by_cases hlt : j < xs.length
      · have e1 : decide ((j : Int) < (xs.length : Int)) = true := by simp; omega
        have hlt' : (j : Int) < (ys.length : Int) := by omega
        have hlt'' : j < ys.length := by omega
        clear hlen
        obtain ⟨b, o, rfl, hbl, hcell⟩ := Hc.out (by omega)
        obtain ⟨b', o', rfl, hbl', hcell'⟩ := Hc'.out (by omega)
        have c1 := hcell wr (HB.out.mono hl1) j hlt
        have c2 := hcell' wr (HB.out.mono hl2) j hlt''
        obtain ⟨z, hz⟩ : ∃ z, z = xs.getD j 0 := ⟨_, rfl⟩
        obtain ⟨z', hz'⟩ : ∃ z, z = ys.getD j 0 := ⟨_, rfl⟩
        rw [← hz] at c1
        rw [← hz'] at c2
        have Hz := Lib.hid hz
        have Hz' := Lib.hid hz'
        clear hcell hcell' hz hz'
        by_cases he : z = z'
        · have e2 : (z != z') = false := by simp [he]
          have He := Lib.hid he
          clear he
          go_wp2
          go_quiet (fail)
          go_wp2
          go_roundw
          case rel =>
            refine ⟨j + 1, by simp, hlt, ?_, ?_⟩
            · intro i hi
              by_cases hij : i = j
              · subst hij
                rw [← Hz.out, ← Hz'.out, He.out]
              · exact HS.out i (by omega)
            · exact HB.out.grown (grown_drewN _ _ none) HB.out.size (fun k hk => by cases hk)
          case measure => simp [intOf]; omega
        · have e2 : (z != z') = true := by simp [he]
          have He := Lib.hid he
          clear he
          go_wp2
          go_quiet (fail)
          go_wp2
          go_ret
          refine ⟨?_, ?_⟩
          · have e : decide (xs = ys) = false := decide_eq_false fun h => He.out (by rw [Hz.out, Hz'.out, h])
            rw [e]
            rfl
          · exact HB.out.grown (grown_drewN _ _ none) HB.out.size (fun k hk => by cases hk)
      · have e1 : decide ((j : Int) < (xs.length : Int)) = false := by simp; omega
        clear hlen
        go_wp2
        go_ret
        refine ⟨?_, HB.out⟩
        have e : decide (xs = ys) = true := by
          refine decide_eq_true (List.ext_getElem HL.out fun i h1 h2 => ?_)
          have := HS.out i (by omega)
          simpa [List.getD_eq_getElem?_getD, List.getElem?_eq_getElem h1, List.getElem?_eq_getElem h2] using this
        rw [e]
        rfl
  · have e0 : ((xs.length : Int) != (ys.length : Int)) = true := by simp; omega
    have HL := Lib.hid hlen
    clear hlen
    go_enter Try.func68, Try.ntmps68
    go_wp2_with fail
    go_ret
    have e : decide (xs = ys) = false := decide_eq_false fun h => HL.out (by rw [h])
    rw [e]
    exact ⟨rfl, Below.refl _ _⟩

set_option maxHeartbeats 1000000 in
/-- slices.Equal: whether the elements are the same. -/
theorem slices_eqi {l1 l2 : Nat} {w : World} {u v : Value} {xs ys : List Int} (hu : Rd l1 .i64 w u xs) (hv : Rd l2 .i64 w v ys) (hl1 : l1 ≤ w.heap.size) (hl2 : l2 ≤ w.heap.size) :
    Calls Try.prog 81 #[u, v] w fun e w' => e = .returned (.bool (decide (xs = ys))) ∧ Below w.heap.size w w' := by
  obtain ⟨a, cap, rfl, h1, h2, hc⟩ := hu.open
  obtain ⟨a', cap', rfl, h1', h2', hc'⟩ := hv.open
  have Hc := Lib.hid hc
  have Hc' := Lib.hid hc'
  unfold maxLen at h2 h2'
  clear hu hv hc hc'
  by_cases hlen : xs.length = ys.length
  · have e0 : ((xs.length : Int) != (ys.length : Int)) = false := by simp [hlen]
    have HL := Lib.hid hlen
    clear hlen
    go_enter Try.func81, Try.ntmps81
    go_wp2_with fail
    go_loopw [13] (fun i wr => ∃ j : Nat, i = .int .i64 j ∧ j ≤ xs.length ∧ (∀ i, i < j → xs.getD i 0 = ys.getD i 0) ∧ Below w.heap.size w wr) (fun i _ => xs.length - (intOf i).toNat)
    case atStart => exact ⟨0, rfl, Nat.zero_le _, fun i hi => by omega, Below.refl _ _⟩
    case round =>
      obtain ⟨j, rfl, hj, hsame, hB⟩ := hrel
      have HB := Lib.hid hB
      have HS := Lib.hid hsame
      clear hB hsame
      by_cases hlt : j < xs.length
      · have e1 : decide ((j : Int) < (xs.length : Int)) = true := by simp; omega
        have hlt' : (j : Int) < (ys.length : Int) := by have := HL.out; omega
        have hlt'' : j < ys.length := by omega
        obtain ⟨b, o, rfl, hbl, hcell⟩ := Hc.out (by omega)
        obtain ⟨b', o', rfl, hbl', hcell'⟩ := Hc'.out (by omega)
        have c1 := hcell wr (HB.out.mono hl1) j hlt
        have c2 := hcell' wr (HB.out.mono hl2) j hlt''
        obtain ⟨z, hz⟩ : ∃ z, z = xs.getD j 0 := ⟨_, rfl⟩
        obtain ⟨z', hz'⟩ : ∃ z, z = ys.getD j 0 := ⟨_, rfl⟩
        rw [← hz] at c1
        rw [← hz'] at c2
        have Hz := Lib.hid hz
        have Hz' := Lib.hid hz'
        clear hcell hcell' hz hz'
        by_cases he : z = z'
        · have e2 : (z != z') = false := by simp [he]
          have He := Lib.hid he
          clear he
          go_wp2
          go_quiet (fail)
          go_wp2
          go_roundw
          case rel =>
            refine ⟨j + 1, by simp, hlt, ?_, ?_⟩
            · intro i hi
              by_cases hij : i = j
              · subst hij
                rw [← Hz.out, ← Hz'.out, He.out]
              · exact HS.out i (by omega)
            · exact HB.out.grown (grown_drewN _ _ none) HB.out.size (fun k hk => by cases hk)
          case measure => simp [intOf]; omega
        · have e2 : (z != z') = true := by simp [he]
          have He := Lib.hid he
          clear he
          go_wp2
          go_quiet (fail)
          go_wp2
          go_ret
          refine ⟨?_, ?_⟩
          · have e : decide (xs = ys) = false := decide_eq_false fun h => He.out (by rw [Hz.out, Hz'.out, h])
            rw [e]
            rfl
          · exact HB.out.grown (grown_drewN _ _ none) HB.out.size (fun k hk => by cases hk)
      · have e1 : decide ((j : Int) < (xs.length : Int)) = false := by simp; omega
        go_wp2
        go_ret
        refine ⟨?_, HB.out⟩
        have e : decide (xs = ys) = true := by
          refine decide_eq_true (List.ext_getElem HL.out fun i h1 h2 => ?_)
          have := HS.out i (by omega)
          simpa [List.getD_eq_getElem?_getD, List.getElem?_eq_getElem h1, List.getElem?_eq_getElem h2] using this
        rw [e]
        rfl
  · have e0 : ((xs.length : Int) != (ys.length : Int)) = true := by simp; omega
    have HL := Lib.hid hlen
    clear hlen
    go_enter Try.func81, Try.ntmps81
    go_wp2_with fail
    go_ret
    have e : decide (xs = ys) = false := decide_eq_false fun h => HL.out (by rw [h])
    rw [e]
    exact ⟨rfl, Below.refl _ _⟩

/-- impl.EqualInts. -/
theorem impl_eqi {l1 l2 : Nat} {w : World} {u v : Value} {xs ys : List Int} (hu : Rd l1 .i64 w u xs) (hv : Rd l2 .i64 w v ys) (hl1 : l1 ≤ w.heap.size) (hl2 : l2 ≤ w.heap.size) :
    Calls Try.prog 56 #[u, v] w fun e w' => e = .returned (.bool (decide (xs = ys))) ∧ Below w.heap.size w w' := by
  have Hu := Lib.hid hu
  have Hv := Lib.hid hv
  clear hu hv
  go_enter Try.func56, Try.ntmps56
  go_wp2_with fail
  refine (slices_eqi Hu.out Hv.out hl1 hl2).mono ?_
  rintro e w1 ⟨rfl, hb⟩
  have HB := Lib.hid hb
  clear hb
  go_wp2_with fail
  go_ret
  exact ⟨rfl, HB.out⟩

end Go.Proofs.Ytdlbpeippmibcaa
