/- The stream cipher of the program: what each function gives. No conditions but a length that a machine holds. -/
import Derived.Test.YtgobhaemcmmbgaaDoorBbC
import Derived.Test.YtgobhaemcmmbgaaDoorBa3
import Derived.Deep.RegionWith
namespace Go.Proofs.YtgobhaemcmmbgaaDoor
open Go Go.RowKit
set_option linter.unusedVariables false

theorem upt_at (f g : Nat → Int) {j n : Nat} (h : j < n) : (upt f g j n).getD j 0 = g j := by
  rw [List.getD_eq_getElem?_getD, upt_get _ _ _ _ _ h]; simp

/-- A stream's bytes are added. -/
def adds (f : Nat → Int) (zs : List Int) : List Int := (List.range zs.length).map fun i => (zs.getD i 0 + f i) % 256
theorem adds_len (f : Nat → Int) (zs : List Int) : (adds f zs).length = zs.length := by simp [adds]

theorem wrapU8 (x : Int) : IntKind.u8.wrap x = x % 256 := by
  have e1 : IntKind.u8.min = 0 := rfl
  simp [IntKind.wrap, IntKind.bits, IntKind.signed]

set_option maxHeartbeats 1000000 in
/-- impl.addStream. -/
theorem addStream_enc {lim : Nat} {w : World} {v : Value} {zs : List Int} {c : Value} {f : Nat → Int} (h : Rd lim .u8 w v zs) (hlim : lim ≤ w.heap.size) (hn : zs.length ≤ 140737488355328) (hf : ∀ i, 0 ≤ f i ∧ f i ≤ 255)
    (hF : ∀ (i : Nat) (w1 : World), i < zs.length → Below w.heap.size w w1 → Calls Tryd.prog 72 #[.int .i64 i, c] w1 fun e w2 => e = .returned (.int .u8 (f i)) ∧ Below w1.heap.size w1 w2) :
    Calls Tryd.prog 59 #[v, .func (.func 72) #[] #[c]] w fun e w' => ∃ v', e = .returned v' ∧ Own 5 .u8 w.heap.size w' v' (adds f zs) ∧ Below w.heap.size w w' := by
  have H := Lib.hid h
  have HF := Lib.hid hF
  have Hf := Lib.hid hf
  have HW : Hid (∀ i, i < zs.length → 0 ≤ zs.getD i 0 ∧ zs.getD i 0 ≤ 255) := Lib.hid (fun i hi => wf_u8 (h.wf hi))
  clear h hF hf
  go_enter Tryd.func59, Tryd.ntmps59
  go_wp2_with fail
  refine (copyBytes_any H.out hlim hn).mono ?_
  rintro e w1 ⟨v1, rfl, hO, hB⟩
  obtain ⟨a, cap, rfl, ha⟩ := hO.open
  have HA := Lib.hid ha
  have HB := Lib.hid hB
  have HO : Hid (Own 5 .u8 w.heap.size w1 (.slice a zs.length cap) (upt (fun i => (zs.getD i 0 + f i) % 256) (fun i => zs.getD i 0) 0 zs.length)) := Lib.hid (by rw [upt_zero, range_getD]; exact hO)
  clear ha hO hB
  go_wp2_with fail
  go_loopw [11] (fun i wr => ∃ j : Nat, i = .int .i64 j ∧ j ≤ zs.length ∧ Own 5 .u8 w.heap.size wr (.slice a zs.length cap) (upt (fun i => (zs.getD i 0 + f i) % 256) (fun i => zs.getD i 0) j zs.length) ∧ Below w.heap.size w wr) (fun i _ => zs.length - (intOf i).toNat)
  case atStart => exact ⟨0, rfl, Nat.zero_le _, HO.out, HB.out⟩
  case round =>
    obtain ⟨j, rfl, hj, hO, hB⟩ := hrel
    have HO' := Lib.hid hO
    have HB' := Lib.hid hB
    clear hO hB HO HB
    by_cases hlt : j < zs.length
    · have e1 : decide ((j : Int) < (zs.length : Int)) = true := by simp; omega
      have hlt' : (j : Int) < (zs.length : Int) := by omega
      obtain ⟨g, rfl⟩ := HA.out (by omega)
      have c1 := HO'.out.cellAt (upt_length _ _ _ _) hlt
      rw [upt_at _ _ hlt] at c1
      have f1 := HO'.out.free (upt_length _ _ _ _) j
      have hz := HW.out j hlt
      have hy := Hf.out j
      have hg := HO'.out.lt g rfl
      have hlm : (Lit.int .u8 ((zs.getD j 0 + f j) % 256)).wf = true := wf_u8_of (by omega) (by omega)
      have HLM := Lib.hid hlm
      obtain ⟨z, hz'⟩ : ∃ z, z = zs.getD j 0 := ⟨_, rfl⟩
      obtain ⟨y, hy'⟩ : ∃ y, y = f j := ⟨_, rfl⟩
      rw [← hz'] at c1 hz
      rw [← hy'] at hy
      have HZ : Hid ((fun i => (zs.getD i 0 + f i) % 256) j = (z + y) % 256) := Lib.hid (by rw [hz', hy'])
      have HY := Lib.hid hy'
      have HG := Lib.hid hg
      clear hz' hy' hg hlm
      go_wp2_with fail
      go_region_with ((first
        | (go_at_call 72
           go_loud (refine (HF.out j _ hlt ?_).mono ?_
                    · exact HB'.out.drew
                    rintro e' w4 ⟨he, hb4⟩
                    rw [← HY.out] at he
                    subst he
                    have HB4 := Lib.hid hb4
                    have c4 : w4.cell? ⟨g, j, none⟩ = some (.int .u8 z) := (hb4.cell (p := ⟨g, j, none⟩) HG.out.2).trans c1
                    have f4 : w4.frozen? ⟨g, j, none⟩ = false := (hb4.frozen (p := ⟨g, j, none⟩) HG.out.2).trans f1
                    clear hb4))))
      all_goals
        have gd : wr.grownBy wr.drew none := ⟨rfl, rfl, rfl, Nat.le_refl _, fun _ _ _ => rfl⟩
        have O4 := (HO'.out.kept gd (.inr (by simp [Value.ownBlock]))).next HB4.out
        have B4 := HB'.out.drew.trans (HB4.out.mono HB'.out.drew.size)
        obtain ⟨p1, p2⟩ := O4.put HLM.out
        have ew : IntKind.u8.wrap (z + y) = (z + y) % 256 := by rw [wrapU8]
        rw [ew]
        rw [HZ.out] at p1 p2
        have P1 := Lib.hid p1
        have P2 := Lib.hid (B4.grown p2 B4.size (fun k hk => by injection hk with hk; have := HG.out.1; omega))
        clear gd O4 B4 p1 p2 ew HB4 HO' HB'
        obtain ⟨W5, hW5⟩ : ∃ W5, W5 = w4.setCell ⟨g, j, none⟩ (.int .u8 ((z + y) % 256)) := ⟨_, rfl⟩
        rw [← hW5] at P1 P2 ⊢
        clear hW5
        go_wp2_with fail
        go_roundw
        case rel => exact ⟨j + 1, by simp, hlt, P1.out, P2.out⟩
        case measure => simp [intOf]; omega
    · have e1 : decide ((j : Int) < (zs.length : Int)) = false := by simp; omega
      have ej : j = zs.length := by omega
      have hO := HO'.out
      rw [ej, upt_full] at hO
      have HO2 := Lib.hid hO
      clear hO HO' ej
      go_wp2
      go_ret
      exact ⟨_, rfl, HO2.out, HB'.out⟩

set_option maxHeartbeats 1000000 in
/-- impl.addStream. -/
theorem addStream_dec {lim : Nat} {w : World} {v : Value} {zs : List Int} {c : Value} {f : Nat → Int} (h : Rd lim .u8 w v zs) (hlim : lim ≤ w.heap.size) (hn : zs.length ≤ 140737488355328) (hf : ∀ i, 0 ≤ f i ∧ f i ≤ 255)
    (hF : ∀ (i : Nat) (w1 : World), i < zs.length → Below w.heap.size w w1 → Calls Tryd.prog 74 #[.int .i64 i, c] w1 fun e w2 => e = .returned (.int .u8 (f i)) ∧ Below w1.heap.size w1 w2) :
    Calls Tryd.prog 59 #[v, .func (.func 74) #[] #[c]] w fun e w' => ∃ v', e = .returned v' ∧ Own 5 .u8 w.heap.size w' v' (adds f zs) ∧ Below w.heap.size w w' := by
  have H := Lib.hid h
  have HF := Lib.hid hF
  have Hf := Lib.hid hf
  have HW : Hid (∀ i, i < zs.length → 0 ≤ zs.getD i 0 ∧ zs.getD i 0 ≤ 255) := Lib.hid (fun i hi => wf_u8 (h.wf hi))
  clear h hF hf
  go_enter Tryd.func59, Tryd.ntmps59
  go_wp2_with fail
  refine (copyBytes_any H.out hlim hn).mono ?_
  rintro e w1 ⟨v1, rfl, hO, hB⟩
  obtain ⟨a, cap, rfl, ha⟩ := hO.open
  have HA := Lib.hid ha
  have HB := Lib.hid hB
  have HO : Hid (Own 5 .u8 w.heap.size w1 (.slice a zs.length cap) (upt (fun i => (zs.getD i 0 + f i) % 256) (fun i => zs.getD i 0) 0 zs.length)) := Lib.hid (by rw [upt_zero, range_getD]; exact hO)
  clear ha hO hB
  go_wp2_with fail
  go_loopw [11] (fun i wr => ∃ j : Nat, i = .int .i64 j ∧ j ≤ zs.length ∧ Own 5 .u8 w.heap.size wr (.slice a zs.length cap) (upt (fun i => (zs.getD i 0 + f i) % 256) (fun i => zs.getD i 0) j zs.length) ∧ Below w.heap.size w wr) (fun i _ => zs.length - (intOf i).toNat)
  case atStart => exact ⟨0, rfl, Nat.zero_le _, HO.out, HB.out⟩
  case round =>
    obtain ⟨j, rfl, hj, hO, hB⟩ := hrel
    have HO' := Lib.hid hO
    have HB' := Lib.hid hB
    clear hO hB HO HB
    by_cases hlt : j < zs.length
    · have e1 : decide ((j : Int) < (zs.length : Int)) = true := by simp; omega
      have hlt' : (j : Int) < (zs.length : Int) := by omega
      obtain ⟨g, rfl⟩ := HA.out (by omega)
      have c1 := HO'.out.cellAt (upt_length _ _ _ _) hlt
      rw [upt_at _ _ hlt] at c1
      have f1 := HO'.out.free (upt_length _ _ _ _) j
      have hz := HW.out j hlt
      have hy := Hf.out j
      have hg := HO'.out.lt g rfl
      have hlm : (Lit.int .u8 ((zs.getD j 0 + f j) % 256)).wf = true := wf_u8_of (by omega) (by omega)
      have HLM := Lib.hid hlm
      obtain ⟨z, hz'⟩ : ∃ z, z = zs.getD j 0 := ⟨_, rfl⟩
      obtain ⟨y, hy'⟩ : ∃ y, y = f j := ⟨_, rfl⟩
      rw [← hz'] at c1 hz
      rw [← hy'] at hy
      have HZ : Hid ((fun i => (zs.getD i 0 + f i) % 256) j = (z + y) % 256) := Lib.hid (by rw [hz', hy'])
      have HY := Lib.hid hy'
      have HG := Lib.hid hg
      clear hz' hy' hg hlm
      go_wp2_with fail
      go_region_with ((first
        | (go_at_call 74
           go_loud (refine (HF.out j _ hlt ?_).mono ?_
                    · exact HB'.out.drew
                    rintro e' w4 ⟨he, hb4⟩
                    rw [← HY.out] at he
                    subst he
                    have HB4 := Lib.hid hb4
                    have c4 : w4.cell? ⟨g, j, none⟩ = some (.int .u8 z) := (hb4.cell (p := ⟨g, j, none⟩) HG.out.2).trans c1
                    have f4 : w4.frozen? ⟨g, j, none⟩ = false := (hb4.frozen (p := ⟨g, j, none⟩) HG.out.2).trans f1
                    clear hb4))))
      all_goals
        have gd : wr.grownBy wr.drew none := ⟨rfl, rfl, rfl, Nat.le_refl _, fun _ _ _ => rfl⟩
        have O4 := (HO'.out.kept gd (.inr (by simp [Value.ownBlock]))).next HB4.out
        have B4 := HB'.out.drew.trans (HB4.out.mono HB'.out.drew.size)
        obtain ⟨p1, p2⟩ := O4.put HLM.out
        have ew : IntKind.u8.wrap (z + y) = (z + y) % 256 := by rw [wrapU8]
        rw [ew]
        rw [HZ.out] at p1 p2
        have P1 := Lib.hid p1
        have P2 := Lib.hid (B4.grown p2 B4.size (fun k hk => by injection hk with hk; have := HG.out.1; omega))
        clear gd O4 B4 p1 p2 ew HB4 HO' HB'
        obtain ⟨W5, hW5⟩ : ∃ W5, W5 = w4.setCell ⟨g, j, none⟩ (.int .u8 ((z + y) % 256)) := ⟨_, rfl⟩
        rw [← hW5] at P1 P2 ⊢
        clear hW5
        go_wp2_with fail
        go_roundw
        case rel => exact ⟨j + 1, by simp, hlt, P1.out, P2.out⟩
        case measure => simp [intOf]; omega
    · have e1 : decide ((j : Int) < (zs.length : Int)) = false := by simp; omega
      have ej : j = zs.length := by omega
      have hO := HO'.out
      rw [ej, upt_full] at hO
      have HO2 := Lib.hid hO
      clear hO HO' ej
      go_wp2
      go_ret
      exact ⟨_, rfl, HO2.out, HB'.out⟩

end Go.Proofs.YtgobhaemcmmbgaaDoor
