import Derived.Test.YtjbkhbbchacooaaGreatDoorRows
import Derived.Test.YtjbkhbbchacooaaGreatDoorBa1
import Derived.Test.YtjbkhbbchacooaaGreatDoorBa3
import Derived.WalkKit
import Derived.Handy
import Derived.Outline
import Derived.WalkSpells
import Derived.Deep.QuietTactic
import Derived.BigQuiet
import Derived.Lib.Hide
import Derived.Test.YtjbkhbbchacooaaGreatDoorBbT
import Derived.Test.YtjbkhbbchacooaaGreatDoorJ3

/- Whether two slices of u8 have the same elements. No conditions but a length that a machine holds. Whether two slices of i64 have the same elements. No conditions but a length that a machine holds. -/
section

/-! SameByte -/
namespace Go.Proofs.YtjbkhbbchacooaaGreatDoor
open Go Go.RowKit
set_option linter.unusedVariables false

set_option maxHeartbeats 1000000 in
/-- laws.sameBytes: whether the elements are the same. -/
theorem sameBytes_any {l1 l2 : Nat} {w : World} {u v : Value} {xs ys : List Int} (hu : Rd l1 .u8 w u xs) (hv : Rd l2 .u8 w v ys) (hl1 : l1 ≤ w.heap.size) (hl2 : l2 ≤ w.heap.size) :
    Calls Tryz.prog 11 #[u, v] w fun e w' => e = .returned (.bool (decide (xs = ys))) ∧ Below w.heap.size w w' := by
  obtain ⟨a, cap, rfl, h1, h2, hc⟩ := hu.open
  obtain ⟨a', cap', rfl, h1', h2', hc'⟩ := hv.open
  have Hc := Lib.hid hc
  have Hc' := Lib.hid hc'
  unfold maxLen at h2 h2'
  clear hu hv hc hc'
  by_cases hlen : xs.length = ys.length
  · have e0 : ((xs.length : Int) != (ys.length : Int)) = false := by simp [hlen]
    go_enter Tryz.func11, Tryz.ntmps11
    go_wp2_with fail
    go_loopw [5] (fun i wr => ∃ j : Nat, i = .int .i64 j ∧ j ≤ xs.length ∧ (∀ i, i < j → xs.getD i 0 = ys.getD i 0) ∧ Below w.heap.size w wr) (fun i _ => xs.length - (intOf i).toNat)
    case atStart => exact ⟨0, rfl, Nat.zero_le _, fun i hi => by omega, Below.refl _ _⟩
    case round =>
      obtain ⟨j, rfl, hj, hsame, hB⟩ := hrel
      have HB := Lib.hid hB
      have HS := Lib.hid hsame
      have HL := Lib.hid hlen
      clear hB hsame
      by_cases hlt : j < xs.length
      · have e1 : decide ((j : Int) < (xs.length : Int)) = true := by simp; omega
        have hlt' : (j : Int) < (ys.length : Int) := by omega
        have hlt'' : j < ys.length := by omega
        clear hlen
        obtain ⟨b, o, rfl, hbl, hcell⟩ := Hc.out (by omega)
        obtain ⟨b', o', rfl, hbl', hcell'⟩ := Hc'.out (by omega)
        have c1 := hcell wr (HB.out.mono hl1) j hlt
        have c2 := hcell' wr (HB.out.mono hl2) j hlt''
        obtain ⟨z, hz⟩ : ∃ z, z = xs.getD j 0 := ⟨_, rfl⟩
        obtain ⟨z', hz'⟩ : ∃ z, z = ys.getD j 0 := ⟨_, rfl⟩
        rw [← hz] at c1
        rw [← hz'] at c2
        have Hz := Lib.hid hz
        have Hz' := Lib.hid hz'
        clear hcell hcell' hz hz'
        by_cases he : z = z'
        · have e2 : (z != z') = false := by simp [he]
          have He := Lib.hid he
          clear he
          go_wp2
          go_quiet (fail)
          go_wp2
          go_roundw
          case rel =>
            refine ⟨j + 1, by simp, hlt, ?_, ?_⟩
            · intro i hi
              by_cases hij : i = j
              · subst hij
                rw [← Hz.out, ← Hz'.out, He.out]
              · exact HS.out i (by omega)
            · exact HB.out.grown (grown_drewN _ _ none) HB.out.size (fun k hk => by cases hk)
          case measure => simp [intOf]; omega
        · have e2 : (z != z') = true := by simp [he]
          have He := Lib.hid he
          clear he
          go_wp2
          go_quiet (fail)
          go_wp2
          go_ret
          refine ⟨?_, ?_⟩
          · have e : decide (xs = ys) = false := decide_eq_false fun h => He.out (by rw [Hz.out, Hz'.out, h])
            rw [e]
            rfl
          · exact HB.out.grown (grown_drewN _ _ none) HB.out.size (fun k hk => by cases hk)
      · have e1 : decide ((j : Int) < (xs.length : Int)) = false := by simp; omega
        clear hlen
        go_wp2
        go_ret
        refine ⟨?_, HB.out⟩
        have e : decide (xs = ys) = true := by
          refine decide_eq_true (List.ext_getElem HL.out fun i h1 h2 => ?_)
          have := HS.out i (by omega)
          simpa [List.getD_eq_getElem?_getD, List.getElem?_eq_getElem h1, List.getElem?_eq_getElem h2] using this
        rw [e]
        rfl
  · have e0 : ((xs.length : Int) != (ys.length : Int)) = true := by simp; omega
    have HL := Lib.hid hlen
    clear hlen
    go_enter Tryz.func11, Tryz.ntmps11
    go_wp2_with fail
    go_ret
    have e : decide (xs = ys) = false := decide_eq_false fun h => HL.out (by rw [h])
    rw [e]
    exact ⟨rfl, Below.refl _ _⟩

theorem sameBytes_same {l1 l2 : Nat} {w : World} {u v : Value} {xs : List Int} (hu : Rd l1 .u8 w u xs) (hv : Rd l2 .u8 w v xs) (hl1 : l1 ≤ w.heap.size) (hl2 : l2 ≤ w.heap.size) :
    Calls Tryz.prog 11 #[u, v] w fun e w' => e = .returned (.bool true) ∧ Below w.heap.size w w' := by
  have := sameBytes_any hu hv hl1 hl2
  rwa [decide_eq_true rfl] at this

end Go.Proofs.YtjbkhbbchacooaaGreatDoor


/-! SameInt -/
namespace Go.Proofs.YtjbkhbbchacooaaGreatDoor
open Go Go.RowKit
set_option linter.unusedVariables false

end Go.Proofs.YtjbkhbbchacooaaGreatDoor
end

/- The laws' helpers on []byte, []int, [][]byte, [][]int, in the words of BaT. No conditions but a size that a machine holds. -/
section
namespace Go.Proofs.YtjbkhbbchacooaaGreatDoor
open Go Go.RowKit
set_option linter.unusedVariables false

section
variable {F : Nat → Prop} {w : World} {u v : Value} {zs : List Int} {zss : List (List Int)} {l l1 l2 : Nat} {e e1 e2 t t1 t2 : TypeId} {k0 left : Int}

/-! ### []byte -/

theorem toByteS_t (h : (sliceT e u8T).rd l w [v] zs) (hl : l ≤ w.heap.size) (hn : (sliceT e u8T).tot zs ≤ 1073741824) :
    Calls Tryz.prog 20 #[v] w fun e w' => ∃ v', e = .returned v' ∧ (sliceT 5 u8T).own (ival w.heap.size w'.heap.size) w' [v'] zs ∧ Below w.heap.size w w' := by
  have h2 : totL u8T zs ≤ 1073741824 := hn
  rw [show totL u8T zs = zs.length from totL_int _ _ _ _] at h2
  refine (toByteS_any (rd_of_sl h) hl (by omega)).mono ?_
  rintro e w' ⟨v', he, hO, hb⟩
  exact ⟨v', he, slo_of_own hO (fun b h1 h2 => ⟨h1, h2⟩), hb⟩
theorem eqByteS_same_t (hu : (sliceT e1 u8T).rd l1 w [u] zs) (hv : (sliceT e2 u8T).rd l2 w [v] zs) (hl1 : l1 ≤ w.heap.size) (hl2 : l2 ≤ w.heap.size) :
    Calls Tryz.prog 22 #[u, v] w fun e w' => e = .returned (.bool true) ∧ Below w.heap.size w w' := eqByteS_same (rd_of_sl hu) (rd_of_sl hv) hl1 hl2
theorem markByteS_t (h : (sliceT e u8T).own F w [v] zs) (h0 : 0 ≤ k0) (hk : k0 + (sliceT e u8T).vcnt zs ≤ 9223372036854775807) :
    Calls Tryz.prog 24 #[v, .int .i64 k0] w fun e' w' => e' = .returned (.int .i64 (k0 + (sliceT e u8T).vcnt zs)) ∧ (sliceT e u8T).own F w' [v] ((sliceT e u8T).vmrk k0 zs) ∧ KeptF F w w' := by
  have hc : (sliceT e u8T).vcnt zs = zs.length := cntL_int _ _ _ _
  have hm : (sliceT e u8T).vmrk k0 zs = marksByte k0 zs.length := mkL_u8 k0 zs
  rw [hc] at hk ⊢
  rw [hm]
  obtain ⟨hO, hI⟩ := own_of_slo h
  refine (markByteS_any hO h0 hk).mono ?_
  rintro e w' ⟨he, h1, hg⟩
  exact ⟨he, slo_of_own_in h1 hI, KeptF.of_grown hg (fun b hb => hI b hb)⟩
theorem heldByteS_t {x : List Int} (h : (sliceT e u8T).rd l w [v] ((sliceT e u8T).vmrk k0 x)) (hl : l ≤ w.heap.size) (h0 : 0 ≤ k0) (hk : k0 + (sliceT e u8T).vcnt x ≤ 9223372036854775807) :
    Calls Tryz.prog 26 #[v, .int .i64 k0] w fun e' w' => e' = .returned (.int .i64 (k0 + (sliceT e u8T).vcnt x)) ∧ Below w.heap.size w w' := by
  have hc : (sliceT e u8T).vcnt x = x.length := cntL_int _ _ _ _
  have hm : (sliceT e u8T).vmrk k0 x = marksByte k0 x.length := mkL_u8 k0 x
  rw [hc] at hk ⊢
  rw [hm] at h
  exact heldByteS_any (rd_of_sl h) hl h0 hk

/-! ### []int -/

/-! ### [][]byte -/

/-! ### [][]int -/

end

end Go.Proofs.YtjbkhbbchacooaaGreatDoor
end
