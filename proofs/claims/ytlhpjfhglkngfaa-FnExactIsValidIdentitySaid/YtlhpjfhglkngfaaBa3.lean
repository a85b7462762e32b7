/- The helpers of the exact laws on slices of u8: a copy, whether two are equal, marks. No conditions but a length that a machine holds. The helpers of the exact laws on slices of i64: a copy, whether two are equal, marks. No conditions but a length that a machine holds. -/
import Derived.Test.YtlhpjfhglkngfaaRows
import Derived.Test.YtlhpjfhglkngfaaBa1
import Derived.WalkKit
import Derived.Handy
import Derived.Outline
import Derived.WalkSpells
import Derived.Deep.QuietTactic
import Derived.BigQuiet
import Derived.Lib.Hide

/-! CopyByte -/
namespace Go.Proofs.Ytlhpjfhglkngfaa
open Go Go.RowKit
set_option linter.unusedVariables false

theorem infou8 : (Try.prog.info? 5).map (fun i => (i.zero, i.size, i.bytes)) = some (some (.int .u8 0), 1, 1) := by kernel_rfl

theorem below_drewN {B : Nat} {w w' : World} (h : ∃ m, w' = w.drewN m) : Below B w w' := by
  obtain ⟨m, rfl⟩ := h
  exact ⟨rfl, rfl, rfl, Nat.le_refl _, fun _ _ => rfl⟩
theorem Rd.drewN {l : Nat} {k : IntKind} {w : World} {v : Value} {zs : List Int} (h : Rd l k w v zs) (n : Nat) : Rd l k (w.drewN n) v zs := h.behind (below_drewN ⟨n, rfl⟩)
theorem drewN_more {w w' : World} (h : ∃ m, w' = w.drewN m) (n : Nat) : ∃ m, w'.drewN n = w.drewN m := by
  obtain ⟨m, rfl⟩ := h
  exact ⟨m + n, by rw [World.drewN_drewN]⟩

set_option maxHeartbeats 1000000 in
/-- laws.eqByteS: whether the elements are the same. -/
theorem eqByteS_drew {l1 l2 : Nat} {w : World} {u v : Value} {xs ys : List Int} (hu : Rd l1 .u8 w u xs) (hv : Rd l2 .u8 w v ys) (hl1 : l1 ≤ w.heap.size) (hl2 : l2 ≤ w.heap.size) :
    Calls Try.prog 21 #[u, v] w fun e w' => e = .returned (.bool (decide (xs = ys))) ∧ ∃ m, w' = w.drewN m := by
  obtain ⟨a, cap, rfl, h1, h2, hc⟩ := hu.open
  obtain ⟨a', cap', rfl, h1', h2', hc'⟩ := hv.open
  have Hc := Lib.hid hc
  have Hc' := Lib.hid hc'
  unfold maxLen at h2 h2'
  clear hu hv hc hc'
  by_cases hlen : xs.length = ys.length
  · have e0 : ((xs.length : Int) != (ys.length : Int)) = false := by simp [hlen]
    go_enter Try.func21, Try.ntmps21
    go_wp2_with fail
    go_loopw [5] (fun i wr => ∃ j : Nat, i = .int .i64 j ∧ j ≤ xs.length ∧ (∀ i, i < j → xs.getD i 0 = ys.getD i 0) ∧ ∃ m, wr = w.drewN m) (fun i _ => xs.length - (intOf i).toNat)
    case atStart => exact ⟨0, rfl, Nat.zero_le _, fun i hi => by omega, 0, rfl⟩
    case round =>
      obtain ⟨j, rfl, hj, hsame, hB⟩ := hrel
      have HB := Lib.hid (below_drewN (B := w.heap.size) hB)
      have HD := Lib.hid hB
      have HS := Lib.hid hsame
      have HL := Lib.hid hlen
      clear hB hsame
      by_cases hlt : j < xs.length
      · have e1 : decide ((j : Int) < (xs.length : Int)) = true := by simp; omega
        have hlt' : (j : Int) < (ys.length : Int) := by omega
        have hlt'' : j < ys.length := by omega
        clear hlen
        obtain ⟨b, o, rfl, hbl, hcell⟩ := Hc.out (by omega)
        obtain ⟨b', o', rfl, hbl', hcell'⟩ := Hc'.out (by omega)
        have c1 := hcell wr (HB.out.mono hl1) j hlt
        have c2 := hcell' wr (HB.out.mono hl2) j hlt''
        obtain ⟨z, hz⟩ : ∃ z, z = xs.getD j 0 := ⟨_, rfl⟩
        obtain ⟨z', hz'⟩ : ∃ z, z = ys.getD j 0 := ⟨_, rfl⟩
        rw [← hz] at c1
        rw [← hz'] at c2
        have Hz := Lib.hid hz
        have Hz' := Lib.hid hz'
        clear hcell hcell' hz hz'
        by_cases he : z = z'
        · have e2 : (z != z') = false := by simp [he]
          have He := Lib.hid he
          clear he
          go_wp2
          go_quiet (fail)
          go_wp2
          go_roundw
          case rel =>
            refine ⟨j + 1, by simp, hlt, ?_, ?_⟩
            · intro i hi
              by_cases hij : i = j
              · subst hij
                rw [← Hz.out, ← Hz'.out, He.out]
              · exact HS.out i (by omega)
            · exact drewN_more HD.out _
          case measure => simp [intOf]; omega
        · have e2 : (z != z') = true := by simp [he]
          have He := Lib.hid he
          clear he
          go_wp2
          go_quiet (fail)
          go_wp2
          go_ret
          refine ⟨?_, ?_⟩
          · have e : decide (xs = ys) = false := decide_eq_false fun h => He.out (by rw [Hz.out, Hz'.out, h])
            rw [e]
            rfl
          · exact drewN_more HD.out _
      · have e1 : decide ((j : Int) < (xs.length : Int)) = false := by simp; omega
        clear hlen
        go_wp2
        go_ret
        refine ⟨?_, HD.out⟩
        have e : decide (xs = ys) = true := by
          refine decide_eq_true (List.ext_getElem HL.out fun i h1 h2 => ?_)
          have := HS.out i (by omega)
          simpa [List.getD_eq_getElem?_getD, List.getElem?_eq_getElem h1, List.getElem?_eq_getElem h2] using this
        rw [e]
        rfl
  · have e0 : ((xs.length : Int) != (ys.length : Int)) = true := by simp; omega
    have HL := Lib.hid hlen
    clear hlen
    go_enter Try.func21, Try.ntmps21
    go_wp2_with fail
    go_ret
    have e : decide (xs = ys) = false := decide_eq_false fun h => HL.out (by rw [h])
    rw [e]
    exact ⟨rfl, 0, rfl⟩

theorem eqByteS_any {l1 l2 : Nat} {w : World} {u v : Value} {xs ys : List Int} (hu : Rd l1 .u8 w u xs) (hv : Rd l2 .u8 w v ys) (hl1 : l1 ≤ w.heap.size) (hl2 : l2 ≤ w.heap.size) :
    Calls Try.prog 21 #[u, v] w fun e w' => e = .returned (.bool (decide (xs = ys))) ∧ Below w.heap.size w w' :=
  (eqByteS_drew hu hv hl1 hl2).mono fun _ _ ⟨h, hd⟩ => ⟨h, below_drewN hd⟩

theorem eqByteS_same_drew {l1 l2 : Nat} {w : World} {u v : Value} {xs : List Int} (hu : Rd l1 .u8 w u xs) (hv : Rd l2 .u8 w v xs) (hl1 : l1 ≤ w.heap.size) (hl2 : l2 ≤ w.heap.size) :
    Calls Try.prog 21 #[u, v] w fun e w' => e = .returned (.bool true) ∧ ∃ m, w' = w.drewN m := by
  have := eqByteS_drew hu hv hl1 hl2
  rwa [decide_eq_true rfl] at this

theorem eqByteS_same {l1 l2 : Nat} {w : World} {u v : Value} {xs : List Int} (hu : Rd l1 .u8 w u xs) (hv : Rd l2 .u8 w v xs) (hl1 : l1 ≤ w.heap.size) (hl2 : l2 ≤ w.heap.size) :
    Calls Try.prog 21 #[u, v] w fun e w' => e = .returned (.bool true) ∧ Below w.heap.size w w' := by
  have := eqByteS_any hu hv hl1 hl2
  rwa [decide_eq_true rfl] at this

/-- The marks from k0 on. -/
def marksByte (k0 : Int) (n : Nat) : List Int := (List.range n).map fun (i : Nat) => (k0 + i) % 256

set_option maxHeartbeats 1000000 in
/-- laws.markByteS: every element is set to its mark. -/
theorem markByteS_any {e : TypeId} {B : Nat} {w : World} {v : Value} {zs : List Int} {k0 : Int} (h : Own e .u8 B w v zs) (h0 : 0 ≤ k0) (hk : k0 + zs.length ≤ 9223372036854775807) :
    Calls Try.prog 22 #[v, .int .i64 k0] w fun e' w' => e' = .returned (.int .i64 (k0 + zs.length)) ∧ Own e .u8 B w' v (marksByte k0 zs.length) ∧ w.grownBy w' v.ownBlock := by
  obtain ⟨a, cap, rfl, ha⟩ := h.open
  have hlen : zs.length ≤ 9223372036854775807 := by omega
  have HU : Own e .u8 B w (.slice a zs.length cap) (upt (fun i => (k0 + i) % 256) (fun i => zs.getD i 0) 0 zs.length) := by rw [upt_zero, range_getD]; exact h
  have HO := Lib.hid HU
  have Ha := Lib.hid ha
  clear h HU ha
  go_enter Try.func22, Try.ntmps22
  go_wp2_with fail
  go_loopw [1, 5] (fun k i wr => ∃ j : Nat, i = .int .i64 j ∧ k = .int .i64 (k0 + j) ∧ j ≤ zs.length ∧ Own e .u8 B wr (.slice a zs.length cap) (upt (fun i => (k0 + i) % 256) (fun i => zs.getD i 0) j zs.length) ∧ w.grownBy wr (Value.slice a zs.length cap).ownBlock) (fun _ i _ => zs.length - (intOf i).toNat)
  case atStart => exact ⟨0, rfl, by simp, Nat.zero_le _, HO.out, World.grownBy.refl _ _⟩
  case round =>
    obtain ⟨j, rfl, rfl, hj, hO, hG⟩ := hrel
    have HO := Lib.hid hO
    have HG := Lib.hid hG
    clear hO hG
    by_cases hlt : j < zs.length
    · have e1 : decide ((j : Int) < (zs.length : Int)) = true := by simp; omega
      obtain ⟨g, rfl⟩ := Ha.out (by omega)
      have c2 := HO.out.cellAt (upt_length _ _ _ _) hlt
      have f2 := HO.out.free (upt_length _ _ _ _) j
      go_wp2
      go_roundw
      case rel =>
        obtain ⟨p1, p2⟩ := HO.out.put (f := fun i => (k0 + i) % 256) (j := j) (wf_u8_of (by omega) (by omega))
        exact ⟨j + 1, by simp, by simp; omega, hlt, p1, grown_trans HG.out p2⟩
      case measure => simp [intOf]; omega
    · have e1 : decide ((j : Int) < (zs.length : Int)) = false := by simp; omega
      have ej : j = zs.length := by omega
      have hO := HO.out
      rw [ej, upt_full] at hO
      have HO' := Lib.hid hO
      have He := Lib.hid ej
      clear hO HO ej
      go_wp2
      go_ret
      exact ⟨by rw [He.out]; rfl, HO'.out, HG.out⟩

theorem marksByte_length (k0 : Int) (n : Nat) : (marksByte k0 n).length = n := by simp [marksByte]
theorem marksByte_get (k0 : Int) (n j : Nat) (hj : j < n) : (marksByte k0 n).getD j 0 = (k0 + j) % 256 := by
  simp [marksByte, List.getD_eq_getElem?_getD, hj]

set_option maxHeartbeats 1000000 in
/-- laws.heldByteS: the marks still stand. -/
theorem heldByteS_any {lim n : Nat} {w : World} {v : Value} {k0 : Int} (h : Rd lim .u8 w v (marksByte k0 n)) (hlim : lim ≤ w.heap.size) (h0 : 0 ≤ k0) (hk : k0 + n ≤ 9223372036854775807) :
    Calls Try.prog 23 #[v, .int .i64 k0] w fun e' w' => e' = .returned (.int .i64 (k0 + n)) ∧ Below w.heap.size w w' := by
  obtain ⟨a, cap, rfl, h1, h2, hc⟩ := h.open
  rw [marksByte_length] at h1 hc ⊢
  have Hc := Lib.hid hc
  have hlen : n ≤ 9223372036854775807 := by omega
  unfold maxLen at h2
  clear h hc
  go_enter Try.func23, Try.ntmps23
  go_wp2_with fail
  go_loopw [1, 5] (fun k i wr => ∃ j : Nat, i = .int .i64 j ∧ k = .int .i64 (k0 + j) ∧ j ≤ n ∧ Below w.heap.size w wr) (fun _ i _ => n - (intOf i).toNat)
  case atStart => exact ⟨0, rfl, by simp, Nat.zero_le _, Below.refl _ _⟩
  case round =>
    obtain ⟨j, rfl, rfl, hj, hB⟩ := hrel
    have HB := Lib.hid hB
    clear hB
    by_cases hlt : j < n
    · have e1 : decide ((j : Int) < (n : Int)) = true := by simp; omega
      obtain ⟨b, o, rfl, hbl, hcell⟩ := Hc.out (by omega)
      have c1 := hcell wr (HB.out.mono hlim) j hlt
      rw [marksByte_get _ _ _ hlt] at c1
      clear hcell
      go_wp2
      go_roundw
      case rel => exact ⟨j + 1, by simp, by simp; omega, hlt, HB.out⟩
      case measure => simp [intOf]; omega
    · have e1 : decide ((j : Int) < (n : Int)) = false := by simp; omega
      have ej : j = n := by omega
      have He := Lib.hid ej
      clear ej
      go_wp2
      go_ret
      exact ⟨by rw [He.out]; rfl, HB.out⟩

end Go.Proofs.Ytlhpjfhglkngfaa


/-! CopyInt -/
namespace Go.Proofs.Ytlhpjfhglkngfaa
open Go Go.RowKit
set_option linter.unusedVariables false

theorem infoi64 : (Try.prog.info? 3).map (fun i => (i.zero, i.size, i.bytes)) = some (some (.int .i64 0), 1, 8) := by kernel_rfl

/-- The marks from k0 on. -/
def marksInt (k0 : Int) (n : Nat) : List Int := (List.range n).map fun (i : Nat) => k0 + i

theorem marksInt_length (k0 : Int) (n : Nat) : (marksInt k0 n).length = n := by simp [marksInt]
theorem marksInt_get (k0 : Int) (n j : Nat) (hj : j < n) : (marksInt k0 n).getD j 0 = k0 + j := by
  simp [marksInt, List.getD_eq_getElem?_getD, hj]

end Go.Proofs.Ytlhpjfhglkngfaa
