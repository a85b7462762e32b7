/- Whether two slices of u8 have the same elements. No conditions but a length that a machine holds. Whether two slices of i64 have the same elements. No conditions but a length that a machine holds. -/
import Derived.Test.YtjbkhbbchacooaaGreatDoorRows
import Derived.Test.YtjbkhbbchacooaaGreatDoorBa1
import Derived.Test.YtjbkhbbchacooaaGreatDoorBa3
import Derived.WalkKit
import Derived.Handy
import Derived.Outline
import Derived.WalkSpells
import Derived.Deep.QuietTactic
import Derived.BigQuiet
import Derived.Lib.Hide

/-! SameByte -/
namespace Go.Proofs.YtjbkhbbchacooaaGreatDoor
open Go Go.RowKit
set_option linter.unusedVariables false

set_option maxHeartbeats 1000000 in
/-- laws.sameBytes: whether the elements are the same. -/
theorem sameBytes_any {l1 l2 : Nat} {w : World} {u v : Value} {xs ys : List Int} (hu : Rd l1 .u8 w u xs) (hv : Rd l2 .u8 w v ys) (hl1 : l1 ≤ w.heap.size) (hl2 : l2 ≤ w.heap.size) :
    Calls Tryz.prog 11 #[u, v] w fun e w' => e = .returned (.bool (decide (xs = ys))) ∧ Below w.heap.size w w' := by
  obtain ⟨a, cap, rfl, h1, h2, hc⟩ := hu.open
  obtain ⟨a', cap', rfl, h1', h2', hc'⟩ := hv.open
  have Hc := Lib.hid hc
  have Hc' := Lib.hid hc'
  unfold maxLen at h2 h2'
  clear hu hv hc hc'
  by_cases hlen : xs.length = ys.length
  · have e0 : ((xs.length : Int) != (ys.length : Int)) = false := by simp [hlen]
    go_enter Tryz.func11, Tryz.ntmps11
    go_wp2_with fail
    go_loopw [5] (fun i wr => ∃ j : Nat, i = .int .i64 j ∧ j ≤ xs.length ∧ (∀ i, i < j → xs.getD i 0 = ys.getD i 0) ∧ Below w.heap.size w wr) (fun i _ => xs.length - (intOf i).toNat)
    case atStart => exact ⟨0, rfl, Nat.zero_le _, fun i hi => by omega, Below.refl _ _⟩
    case round =>
      obtain ⟨j, rfl, hj, hsame, hB⟩ := hrel
      have HB := Lib.hid hB
      have HS := Lib.hid hsame
      have HL := Lib.hid hlen
      clear hB hsame
      by_cases hlt : j < xs.length
      · have e1 : decide ((j : Int) < (xs.length : Int)) = true := by simp; omega
        have hlt' : (j : Int) < (ys.length : Int) := by omega
        have hlt'' : j < ys.length := by omega
        clear hlen
        obtain ⟨b, o, rfl, hbl, hcell⟩ := Hc.out (by omega)
        obtain ⟨b', o', rfl, hbl', hcell'⟩ := Hc'.out (by omega)
        have c1 := hcell wr (HB.out.mono hl1) j hlt
        have c2 := hcell' wr (HB.out.mono hl2) j hlt''
        obtain ⟨z, hz⟩ : ∃ z, z = xs.getD j 0 := ⟨_, rfl⟩
        obtain ⟨z', hz'⟩ : ∃ z, z = ys.getD j 0 := ⟨_, rfl⟩
        rw [← hz] at c1
        rw [← hz'] at c2
        have Hz := Lib.hid hz
        have Hz' := Lib.hid hz'
        clear hcell hcell' hz hz'
        by_cases he : z = z'
        · have e2 : (z != z') = false := by simp [he]
          have He := Lib.hid he
          clear he
          go_wp2
          go_quiet (fail)
          go_wp2
          go_roundw
          case rel =>
            refine ⟨j + 1, by simp, hlt, ?_, ?_⟩
            · intro i hi
              by_cases hij : i = j
              · subst hij
                rw [← Hz.out, ← Hz'.out, He.out]
              · exact HS.out i (by omega)
            · exact HB.out.grown (grown_drewN _ _ none) HB.out.size (fun k hk => by cases hk)
          case measure => simp [intOf]; omega
        · have e2 : (z != z') = true := by simp [he]
          have He := Lib.hid he
          clear he
          go_wp2
          go_quiet (fail)
          go_wp2
          go_ret
          refine ⟨?_, ?_⟩
          · have e : decide (xs = ys) = false := decide_eq_false fun h => He.out (by rw [Hz.out, Hz'.out, h])
            rw [e]
            rfl
          · exact HB.out.grown (grown_drewN _ _ none) HB.out.size (fun k hk => by cases hk)
      · have e1 : decide ((j : Int) < (xs.length : Int)) = false := by simp; omega
        clear hlen
        go_wp2
        go_ret
        refine ⟨?_, HB.out⟩
        have e : decide (xs = ys) = true := by
          refine decide_eq_true (List.ext_getElem HL.out fun i h1 h2 => ?_)
          have := HS.out i (by omega)
          simpa [List.getD_eq_getElem?_getD, List.getElem?_eq_getElem h1, List.getElem?_eq_getElem h2] using this
        rw [e]
        rfl
  · have e0 : ((xs.length : Int) != (ys.length : Int)) = true := by simp; omega
    have HL := Lib.hid hlen
    clear hlen
    go_enter Tryz.func11, Tryz.ntmps11
    go_wp2_with fail
    go_ret
    have e : decide (xs = ys) = false := decide_eq_false fun h => HL.out (by rw [h])
    rw [e]
    exact ⟨rfl, Below.refl _ _⟩

theorem sameBytes_same {l1 l2 : Nat} {w : World} {u v : Value} {xs : List Int} (hu : Rd l1 .u8 w u xs) (hv : Rd l2 .u8 w v xs) (hl1 : l1 ≤ w.heap.size) (hl2 : l2 ≤ w.heap.size) :
    Calls Tryz.prog 11 #[u, v] w fun e w' => e = .returned (.bool true) ∧ Below w.heap.size w w' := by
  have := sameBytes_any hu hv hl1 hl2
  rwa [decide_eq_true rfl] at this

end Go.Proofs.YtjbkhbbchacooaaGreatDoor


/-! SameInt -/
namespace Go.Proofs.YtjbkhbbchacooaaGreatDoor
open Go Go.RowKit
set_option linter.unusedVariables false

end Go.Proofs.YtjbkhbbchacooaaGreatDoor
