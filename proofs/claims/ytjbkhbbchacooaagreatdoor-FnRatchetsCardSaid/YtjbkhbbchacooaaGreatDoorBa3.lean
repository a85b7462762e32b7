/- The helpers of the exact laws on slices of u8: a copy, whether two are equal, marks. No conditions but a length that a machine holds. The helpers of the exact laws on slices of i64: a copy, whether two are equal, marks. No conditions but a length that a machine holds. -/
import Derived.Test.YtjbkhbbchacooaaGreatDoorRows
import Derived.Test.YtjbkhbbchacooaaGreatDoorBa1
import Derived.WalkKit
import Derived.Handy
import Derived.Outline
import Derived.WalkSpells
import Derived.Deep.QuietTactic
import Derived.BigQuiet
import Derived.Lib.Hide

/-! CopyByte -/
namespace Go.Proofs.YtjbkhbbchacooaaGreatDoor
open Go Go.RowKit
set_option linter.unusedVariables false

theorem infou8 : (Tryz.prog.info? 5).map (fun i => (i.zero, i.size, i.bytes)) = some (some (.int .u8 0), 1, 1) := by kernel_rfl

set_option maxHeartbeats 1000000 in
/-- laws.toByteS: a row of its own with the same elements. -/
theorem toByteS_any {lim : Nat} {w : World} {v : Value} {zs : List Int} (h : Rd lim .u8 w v zs) (hlim : lim ≤ w.heap.size) (hn : 1 * zs.length ≤ 140737488355328) :
    Calls Tryz.prog 20 #[v] w fun e w' => ∃ v', e = .returned v' ∧ Own 5 .u8 w.heap.size w' v' zs ∧ Below w.heap.size w w' := by
  obtain ⟨i0, hi, hz0, hz1, hz2⟩ := info_parts infou8
  have start : ∀ w1 g, w1.ownsRow w.heap.size 5 1 (.slice (some ⟨g, 0, none⟩) zs.length zs.length) zs.length (madeCells #[.int .u8 0] zs.length).toList → w.grownBy w1 none →
      Own 5 .u8 w.heap.size w1 (.slice (some ⟨g, 0, none⟩) zs.length zs.length) (upt (fun i => zs.getD i 0) (fun _ => 0) 0 zs.length) := by
    intro w1 g ho hg
    refine ⟨upt_mem (fun i hi => h.wf hi) (fun i hi => rfl), hg.size, ?_⟩
    rw [upt_length, upt_zero]
    rw [toList_madeCells_one] at ho
    have e : List.map (Value.int .u8) (List.map (fun _ => (0 : Int)) (List.range zs.length)) = List.replicate zs.length (.int .u8 0) := by
      rw [List.map_map, List.eq_replicate_iff]
      refine ⟨by simp, fun x hx => ?_⟩
      obtain ⟨y, _, rfl⟩ := List.mem_map.1 hx
      rfl
    rw [e]
    exact ho
  have hwf : ∀ i, i < zs.length → (Lit.int .u8 (zs.getD i 0)).wf = true := fun i hi => h.wf hi
  obtain ⟨a, cap, rfl, h1, h2, hc⟩ := h.open
  have Hc := Lib.hid hc
  have Hhi := Lib.hid hi
  have Hst := Lib.hid start
  have Hw := Lib.hid hwf
  unfold maxLen at h2
  clear h hc hi start hwf
  go_enter Tryz.func20, Tryz.ntmps20
  go_wp2_with (first | (at_make; refine wpList_make_full _ rfl _ _ 22 rfl w.heap.size 5 i0 (.int .u8 0) 1 Tryz.underlying22 Hhi.out hz0 hz1 .i64 .i64 _ _ zs.length rfl rfl rfl rfl (by rw [hz2]; omega) (by unfold maxLen; omega) (Nat.le_refl _) ?_))
  intro w1 hown hg
  have HO := Lib.hid (Hst.out w1 _ hown hg)
  have Hb := Lib.hid ((Below.refl w.heap.size w).grown hg (Nat.le_refl _) (fun k hk => by cases hk))
  clear hown hg
  go_wp2_with fail
  go_loopw [4] (fun i wr => ∃ j : Nat, i = .int .i64 j ∧ j ≤ zs.length ∧ Own 5 .u8 w.heap.size wr (.slice (some ⟨w.heap.size, 0, none⟩) zs.length zs.length) (upt (fun i => zs.getD i 0) (fun _ => 0) j zs.length) ∧ Below w.heap.size w wr) (fun i _ => zs.length - (intOf i).toNat)
  case atStart => exact ⟨0, rfl, Nat.zero_le _, HO.out, Hb.out⟩
  case round =>
    obtain ⟨j, rfl, hj, hO, hB⟩ := hrel
    have HO := Lib.hid hO
    have HB := Lib.hid hB
    clear hO hB
    by_cases hlt : j < zs.length
    · have e1 : decide ((j : Int) < (zs.length : Int)) = true := by simp; omega
      obtain ⟨b, o, rfl, hbl, hcell⟩ := Hc.out (by omega)
      have c1 := hcell wr (HB.out.mono hlim) j hlt
      have c2 := HO.out.cellAt (upt_length _ _ _ _) hlt
      have f2 := HO.out.free (upt_length _ _ _ _) j
      obtain ⟨z, hz⟩ : ∃ z, z = zs.getD j 0 := ⟨_, rfl⟩
      rw [← hz] at c1
      have Hz := Lib.hid hz
      clear hcell hz
      go_wp2
      go_roundw
      case rel =>
        have hz := Hz.out
        subst hz
        obtain ⟨p1, p2⟩ := HO.out.put (Hw.out j hlt)
        exact ⟨j + 1, by simp, hlt, p1, HB.out.grown p2 (Nat.le_trans (Nat.le_refl _) HB.out.size) (fun k hk => by injection hk with hk; omega)⟩
      case measure => simp [intOf]; omega
    · have e1 : decide ((j : Int) < (zs.length : Int)) = false := by simp; omega
      have ej : j = zs.length := by omega
      have hO := HO.out
      rw [ej, upt_full, range_getD] at hO
      have HO' := Lib.hid hO
      clear hO HO
      go_wp2
      go_ret
      exact ⟨_, rfl, HO'.out, HB.out⟩

theorem below_drewN {B : Nat} {w w' : World} (h : ∃ m, w' = w.drewN m) : Below B w w' := by
  obtain ⟨m, rfl⟩ := h
  exact ⟨rfl, rfl, rfl, Nat.le_refl _, fun _ _ => rfl⟩
theorem Rd.drewN {l : Nat} {k : IntKind} {w : World} {v : Value} {zs : List Int} (h : Rd l k w v zs) (n : Nat) : Rd l k (w.drewN n) v zs := h.behind (below_drewN ⟨n, rfl⟩)
theorem drewN_more {w w' : World} (h : ∃ m, w' = w.drewN m) (n : Nat) : ∃ m, w'.drewN n = w.drewN m := by
  obtain ⟨m, rfl⟩ := h
  exact ⟨m + n, by rw [World.drewN_drewN]⟩

set_option maxHeartbeats 1000000 in
/-- laws.eqByteS: whether the elements are the same. -/
theorem eqByteS_drew {l1 l2 : Nat} {w : World} {u v : Value} {xs ys : List Int} (hu : Rd l1 .u8 w u xs) (hv : Rd l2 .u8 w v ys) (hl1 : l1 ≤ w.heap.size) (hl2 : l2 ≤ w.heap.size) :
    Calls Tryz.prog 22 #[u, v] w fun e w' => e = .returned (.bool (decide (xs = ys))) ∧ ∃ m, w' = w.drewN m := by
  obtain ⟨a, cap, rfl, h1, h2, hc⟩ := hu.open
  obtain ⟨a', cap', rfl, h1', h2', hc'⟩ := hv.open
  have Hc := Lib.hid hc
  have Hc' := Lib.hid hc'
  unfold maxLen at h2 h2'
  clear hu hv hc hc'
  by_cases hlen : xs.length = ys.length
  · have e0 : ((xs.length : Int) != (ys.length : Int)) = false := by simp [hlen]
    go_enter Tryz.func22, Tryz.ntmps22
    go_wp2_with fail
    go_loopw [5] (fun i wr => ∃ j : Nat, i = .int .i64 j ∧ j ≤ xs.length ∧ (∀ i, i < j → xs.getD i 0 = ys.getD i 0) ∧ ∃ m, wr = w.drewN m) (fun i _ => xs.length - (intOf i).toNat)
    case atStart => exact ⟨0, rfl, Nat.zero_le _, fun i hi => by omega, 0, rfl⟩
    case round =>
      obtain ⟨j, rfl, hj, hsame, hB⟩ := hrel
      have HB := Lib.hid (below_drewN (B := w.heap.size) hB)
      have HD := Lib.hid hB
      have HS := Lib.hid hsame
      have HL := Lib.hid hlen
      clear hB hsame
      by_cases hlt : j < xs.length
      · have e1 : decide ((j : Int) < (xs.length : Int)) = true := by simp; omega
        have hlt' : (j : Int) < (ys.length : Int) := by omega
        have hlt'' : j < ys.length := by omega
        clear hlen
        obtain ⟨b, o, rfl, hbl, hcell⟩ := Hc.out (by omega)
        obtain ⟨b', o', rfl, hbl', hcell'⟩ := Hc'.out (by omega)
        have c1 := hcell wr (HB.out.mono hl1) j hlt
        have c2 := hcell' wr (HB.out.mono hl2) j hlt''
        obtain ⟨z, hz⟩ : ∃ z, z = xs.getD j 0 := ⟨_, rfl⟩
        obtain ⟨z', hz'⟩ : ∃ z, z = ys.getD j 0 := ⟨_, rfl⟩
        rw [← hz] at c1
        rw [← hz'] at c2
        have Hz := Lib.hid hz
        have Hz' := Lib.hid hz'
        clear hcell hcell' hz hz'
        by_cases he : z = z'
        · have e2 : (z != z') = false := by simp [he]
          have He := Lib.hid he
          clear he
          go_wp2
          go_quiet (fail)
          go_wp2
          go_roundw
          case rel =>
            refine ⟨j + 1, by simp, hlt, ?_, ?_⟩
            · intro i hi
              by_cases hij : i = j
              · subst hij
                rw [← Hz.out, ← Hz'.out, He.out]
              · exact HS.out i (by omega)
            · exact drewN_more HD.out _
          case measure => simp [intOf]; omega
        · have e2 : (z != z') = true := by simp [he]
          have He := Lib.hid he
          clear he
          go_wp2
          go_quiet (fail)
          go_wp2
          go_ret
          refine ⟨?_, ?_⟩
          · have e : decide (xs = ys) = false := decide_eq_false fun h => He.out (by rw [Hz.out, Hz'.out, h])
            rw [e]
            rfl
          · exact drewN_more HD.out _
      · have e1 : decide ((j : Int) < (xs.length : Int)) = false := by simp; omega
        clear hlen
        go_wp2
        go_ret
        refine ⟨?_, HD.out⟩
        have e : decide (xs = ys) = true := by
          refine decide_eq_true (List.ext_getElem HL.out fun i h1 h2 => ?_)
          have := HS.out i (by omega)
          simpa [List.getD_eq_getElem?_getD, List.getElem?_eq_getElem h1, List.getElem?_eq_getElem h2] using this
        rw [e]
        rfl
  · have e0 : ((xs.length : Int) != (ys.length : Int)) = true := by simp; omega
    have HL := Lib.hid hlen
    clear hlen
    go_enter Tryz.func22, Tryz.ntmps22
    go_wp2_with fail
    go_ret
    have e : decide (xs = ys) = false := decide_eq_false fun h => HL.out (by rw [h])
    rw [e]
    exact ⟨rfl, 0, rfl⟩

theorem eqByteS_any {l1 l2 : Nat} {w : World} {u v : Value} {xs ys : List Int} (hu : Rd l1 .u8 w u xs) (hv : Rd l2 .u8 w v ys) (hl1 : l1 ≤ w.heap.size) (hl2 : l2 ≤ w.heap.size) :
    Calls Tryz.prog 22 #[u, v] w fun e w' => e = .returned (.bool (decide (xs = ys))) ∧ Below w.heap.size w w' :=
  (eqByteS_drew hu hv hl1 hl2).mono fun _ _ ⟨h, hd⟩ => ⟨h, below_drewN hd⟩

theorem eqByteS_same_drew {l1 l2 : Nat} {w : World} {u v : Value} {xs : List Int} (hu : Rd l1 .u8 w u xs) (hv : Rd l2 .u8 w v xs) (hl1 : l1 ≤ w.heap.size) (hl2 : l2 ≤ w.heap.size) :
    Calls Tryz.prog 22 #[u, v] w fun e w' => e = .returned (.bool true) ∧ ∃ m, w' = w.drewN m := by
  have := eqByteS_drew hu hv hl1 hl2
  rwa [decide_eq_true rfl] at this

theorem eqByteS_same {l1 l2 : Nat} {w : World} {u v : Value} {xs : List Int} (hu : Rd l1 .u8 w u xs) (hv : Rd l2 .u8 w v xs) (hl1 : l1 ≤ w.heap.size) (hl2 : l2 ≤ w.heap.size) :
    Calls Tryz.prog 22 #[u, v] w fun e w' => e = .returned (.bool true) ∧ Below w.heap.size w w' := by
  have := eqByteS_any hu hv hl1 hl2
  rwa [decide_eq_true rfl] at this

/-- The marks from k0 on. -/
def marksByte (k0 : Int) (n : Nat) : List Int := (List.range n).map fun (i : Nat) => (k0 + i) % 256

set_option maxHeartbeats 1000000 in
/-- laws.markByteS: every element is set to its mark. -/
theorem markByteS_any {e : TypeId} {B : Nat} {w : World} {v : Value} {zs : List Int} {k0 : Int} (h : Own e .u8 B w v zs) (h0 : 0 ≤ k0) (hk : k0 + zs.length ≤ 9223372036854775807) :
    Calls Tryz.prog 24 #[v, .int .i64 k0] w fun e' w' => e' = .returned (.int .i64 (k0 + zs.length)) ∧ Own e .u8 B w' v (marksByte k0 zs.length) ∧ w.grownBy w' v.ownBlock := by
  obtain ⟨a, cap, rfl, ha⟩ := h.open
  have hlen : zs.length ≤ 9223372036854775807 := by omega
  have HU : Own e .u8 B w (.slice a zs.length cap) (upt (fun i => (k0 + i) % 256) (fun i => zs.getD i 0) 0 zs.length) := by rw [upt_zero, range_getD]; exact h
  have HO := Lib.hid HU
  have Ha := Lib.hid ha
  clear h HU ha
  go_enter Tryz.func24, Tryz.ntmps24
  go_wp2_with fail
  go_loopw [1, 5] (fun k i wr => ∃ j : Nat, i = .int .i64 j ∧ k = .int .i64 (k0 + j) ∧ j ≤ zs.length ∧ Own e .u8 B wr (.slice a zs.length cap) (upt (fun i => (k0 + i) % 256) (fun i => zs.getD i 0) j zs.length) ∧ w.grownBy wr (Value.slice a zs.length cap).ownBlock) (fun _ i _ => zs.length - (intOf i).toNat)
  case atStart => exact ⟨0, rfl, by simp, Nat.zero_le _, HO.out, World.grownBy.refl _ _⟩
  case round =>
    obtain ⟨j, rfl, rfl, hj, hO, hG⟩ := hrel
    have HO := Lib.hid hO
    have HG := Lib.hid hG
    clear hO hG
    by_cases hlt : j < zs.length
    · have e1 : decide ((j : Int) < (zs.length : Int)) = true := by simp; omega
      obtain ⟨g, rfl⟩ := Ha.out (by omega)
      have c2 := HO.out.cellAt (upt_length _ _ _ _) hlt
      have f2 := HO.out.free (upt_length _ _ _ _) j
      go_wp2
      go_roundw
      case rel =>
        obtain ⟨p1, p2⟩ := HO.out.put (f := fun i => (k0 + i) % 256) (j := j) (wf_u8_of (by omega) (by omega))
        exact ⟨j + 1, by simp, by simp; omega, hlt, p1, grown_trans HG.out p2⟩
      case measure => simp [intOf]; omega
    · have e1 : decide ((j : Int) < (zs.length : Int)) = false := by simp; omega
      have ej : j = zs.length := by omega
      have hO := HO.out
      rw [ej, upt_full] at hO
      have HO' := Lib.hid hO
      have He := Lib.hid ej
      clear hO HO ej
      go_wp2
      go_ret
      exact ⟨by rw [He.out]; rfl, HO'.out, HG.out⟩

theorem marksByte_length (k0 : Int) (n : Nat) : (marksByte k0 n).length = n := by simp [marksByte]
theorem marksByte_get (k0 : Int) (n j : Nat) (hj : j < n) : (marksByte k0 n).getD j 0 = (k0 + j) % 256 := by
  simp [marksByte, List.getD_eq_getElem?_getD, hj]

set_option maxHeartbeats 1000000 in
/-- laws.heldByteS: the marks still stand. -/
theorem heldByteS_any {lim n : Nat} {w : World} {v : Value} {k0 : Int} (h : Rd lim .u8 w v (marksByte k0 n)) (hlim : lim ≤ w.heap.size) (h0 : 0 ≤ k0) (hk : k0 + n ≤ 9223372036854775807) :
    Calls Tryz.prog 26 #[v, .int .i64 k0] w fun e' w' => e' = .returned (.int .i64 (k0 + n)) ∧ Below w.heap.size w w' := by
  obtain ⟨a, cap, rfl, h1, h2, hc⟩ := h.open
  rw [marksByte_length] at h1 hc ⊢
  have Hc := Lib.hid hc
  have hlen : n ≤ 9223372036854775807 := by omega
  unfold maxLen at h2
  clear h hc
  go_enter Tryz.func26, Tryz.ntmps26
  go_wp2_with fail
  go_loopw [1, 5] (fun k i wr => ∃ j : Nat, i = .int .i64 j ∧ k = .int .i64 (k0 + j) ∧ j ≤ n ∧ Below w.heap.size w wr) (fun _ i _ => n - (intOf i).toNat)
  case atStart => exact ⟨0, rfl, by simp, Nat.zero_le _, Below.refl _ _⟩
  case round =>
    obtain ⟨j, rfl, rfl, hj, hB⟩ := hrel
    have HB := Lib.hid hB
    clear hB
    by_cases hlt : j < n
    · have e1 : decide ((j : Int) < (n : Int)) = true := by simp; omega
      obtain ⟨b, o, rfl, hbl, hcell⟩ := Hc.out (by omega)
      have c1 := hcell wr (HB.out.mono hlim) j hlt
      rw [marksByte_get _ _ _ hlt] at c1
      clear hcell
      go_wp2
      go_roundw
      case rel => exact ⟨j + 1, by simp, by simp; omega, hlt, HB.out⟩
      case measure => simp [intOf]; omega
    · have e1 : decide ((j : Int) < (n : Int)) = false := by simp; omega
      have ej : j = n := by omega
      have He := Lib.hid ej
      clear ej
      go_wp2
      go_ret
      exact ⟨by rw [He.out]; rfl, HB.out⟩

end Go.Proofs.YtjbkhbbchacooaaGreatDoor


/-! CopyInt -/
namespace Go.Proofs.YtjbkhbbchacooaaGreatDoor
open Go Go.RowKit
set_option linter.unusedVariables false

theorem infoi64 : (Tryz.prog.info? 3).map (fun i => (i.zero, i.size, i.bytes)) = some (some (.int .i64 0), 1, 8) := by kernel_rfl

/-- The marks from k0 on. -/
def marksInt (k0 : Int) (n : Nat) : List Int := (List.range n).map fun (i : Nat) => k0 + i

theorem marksInt_length (k0 : Int) (n : Nat) : (marksInt k0 n).length = n := by simp [marksInt]
theorem marksInt_get (k0 : Int) (n j : Nat) (hj : j < n) : (marksInt k0 n).getD j 0 = k0 + j := by
  simp [marksInt, List.getD_eq_getElem?_getD, hj]

end Go.Proofs.YtjbkhbbchacooaaGreatDoor
