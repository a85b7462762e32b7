/- Chapter 2's other functions, the program's and the document's: what each gives. No conditions but a length that a machine holds. -/
import Derived.Test.YtheefkhhafefoaaRduI
import Derived.Test.YtheefkhhafefoaaBa3
namespace Go.Proofs.Ytheefkhhafefoaa
open Go Go.RowKit
set_option linter.unusedVariables false

/-- The varints of all values. -/
def enc (zs : List Int) : List Int := zs.flatMap uvz
theorem enc_len (zs : List Int) : (enc zs).length ≤ 6 * zs.length := by
  induction zs with
  | nil => simp [enc]
  | cons z zs ih =>
    have := uvz_len z
    simp only [enc, List.flatMap_cons, List.length_append, List.length_cons] at ih ⊢
    omega
theorem enc_take (zs : List Int) (j : Nat) (hj : j < zs.length) : enc (zs.take j) ++ uvz (zs.getD j 0) = enc (zs.take (j + 1)) := by
  have e : zs.getD j 0 = zs[j] := by simp [List.getD_eq_getElem?_getD, List.getElem?_eq_getElem hj]
  rw [List.take_succ_eq_append_getElem hj, e]
  unfold enc
  rw [List.flatMap_append]
  simp only [List.flatMap_cons, List.flatMap_nil, List.append_nil]
theorem enc_take_len (zs : List Int) (j : Nat) : (enc (zs.take j)).length ≤ 6 * zs.length := by
  have := enc_len (zs.take j)
  have h2 : (zs.take j).length ≤ zs.length := by simp; omega
  omega

set_option maxHeartbeats 1000000 in
/-- impl.EncodeInts. -/
theorem impl_ei {lim : Nat} {w : World} {v : Value} {zs : List Int} (h : Rd lim .i64 w v zs) (hlim : lim ≤ w.heap.size) (hn : zs.length ≤ 1048576) :
    Calls Try.prog 63 #[v] w fun e w' => ∃ v', e = .returned v' ∧ Own 5 .u8 w.heap.size w' v' (enc zs) ∧ Below w.heap.size w w' := by
  have hwf : Hid (∀ i, i < zs.length → (Lit.int .i64 (zs.getD i 0)).wf = true) := Lib.hid fun i hi => h.wf hi
  obtain ⟨a, cap, rfl, h1, h2, hc⟩ := h.open
  have Hc := Lib.hid hc
  have h2' : cap ≤ 9223372036854775807 := by unfold maxLen at h2; omega
  clear h hc h2
  go_enter Try.func63, Try.ntmps63
  go_wp2_with fail
  go_loopw [3, 9] (fun s i wr => ∃ j : Nat, i = .int .i64 j ∧ j ≤ zs.length ∧ Own 5 .u8 w.heap.size wr s (enc (zs.take j)) ∧ Below w.heap.size w wr) (fun _ i _ => zs.length - (intOf i).toNat)
  case atStart => exact ⟨0, rfl, Nat.zero_le _, Own.lit _ _ (Nat.le_refl _), (Below.refl w.heap.size w).alloc (Nat.le_refl _) _⟩
  case round =>
    obtain ⟨j, rfl, hj, hO, hB⟩ := hrel
    have HO := Lib.hid hO
    have HB := Lib.hid hB
    clear hO hB
    by_cases hlt : j < zs.length
    · have e1 : decide ((j : Int) < (zs.length : Int)) = true := by simp; omega
      obtain ⟨b, o, rfl, hbl, hcell⟩ := Hc.out (by omega)
      have c1 := hcell wr (HB.out.mono hlim) j hlt
      have hwz := hwf.out j hlt
      obtain ⟨z, hz⟩ : ∃ z, z = zs.getD j 0 := ⟨_, rfl⟩
      rw [← hz] at c1 hwz
      have Hz := Lib.hid hz
      have Hw := Lib.hid hwz
      clear hcell hz hwz
      have hle := enc_take_len zs j
      go_wp2_with fail
      refine (extend_any HO.out Hw.out (by omega)).mono ?_
      rintro e w2 ⟨v2, rfl, h3, h4⟩
      have H3 := Lib.hid h3
      have H4 := Lib.hid (HB.out.trans h4)
      clear h3 h4
      go_wp2_with fail
      go_roundw
      case rel => exact ⟨j + 1, by simp, hlt, by rw [← enc_take zs j hlt, ← Hz.out]; exact H3.out, H4.out⟩
      case measure => simp [intOf]; omega
    · have e1 : decide ((j : Int) < (zs.length : Int)) = false := by simp; omega
      have hO := HO.out
      rw [List.take_of_length_le (by omega)] at hO
      have HO' := Lib.hid hO
      clear hO HO
      go_wp2_with fail
      go_ret
      exact ⟨_, rfl, HO'.out, HB.out⟩

set_option maxHeartbeats 1000000 in
/-- spec.EncodeInts. -/
theorem spec_ei {lim : Nat} {w : World} {v : Value} {zs : List Int} (h : Rd lim .i64 w v zs) (hlim : lim ≤ w.heap.size) (hn : zs.length ≤ 1048576) :
    Calls Try.prog 80 #[v] w fun e w' => ∃ v', e = .returned v' ∧ Own 5 .u8 w.heap.size w' v' (enc zs) ∧ Below w.heap.size w w' := by
  have hwf : Hid (∀ i, i < zs.length → (Lit.int .i64 (zs.getD i 0)).wf = true) := Lib.hid fun i hi => h.wf hi
  obtain ⟨a, cap, rfl, h1, h2, hc⟩ := h.open
  have Hc := Lib.hid hc
  have h2' : cap ≤ 9223372036854775807 := by unfold maxLen at h2; omega
  clear h hc h2
  go_enter Try.func80, Try.ntmps80
  go_wp2_with fail
  go_loopw [3, 4] (fun s i wr => ∃ j : Nat, i = .int .i64 j ∧ j ≤ zs.length ∧ Own 5 .u8 w.heap.size wr s (enc (zs.take j)) ∧ Below w.heap.size w wr) (fun _ i _ => zs.length - (intOf i).toNat)
  case atStart => exact ⟨0, rfl, Nat.zero_le _, Own.lit _ _ (Nat.le_refl _), (Below.refl w.heap.size w).alloc (Nat.le_refl _) _⟩
  case round =>
    obtain ⟨j, rfl, hj, hO, hB⟩ := hrel
    have HO := Lib.hid hO
    have HB := Lib.hid hB
    clear hO hB
    by_cases hlt : j < zs.length
    · have e1 : decide ((j : Int) < (zs.length : Int)) = true := by simp; omega
      obtain ⟨b, o, rfl, hbl, hcell⟩ := Hc.out (by omega)
      have c1 := hcell wr (HB.out.mono hlim) j hlt
      have hwz := hwf.out j hlt
      obtain ⟨z, hz⟩ : ∃ z, z = zs.getD j 0 := ⟨_, rfl⟩
      rw [← hz] at c1 hwz
      have Hz := Lib.hid hz
      have Hw := Lib.hid hwz
      clear hcell hz hwz
      have hle := enc_take_len zs j
      go_wp2_with fail
      refine (spec_au HO.out.rd (Nat.le_refl _) Hw.out (by omega)).mono ?_
      rintro e w2 ⟨v2, rfl, h3, h4⟩
      have H3 := Lib.hid (h3.mono HB.out.size)
      have H4 := Lib.hid (HB.out.trans (h4.mono HB.out.size))
      clear h3 h4
      go_wp2_with fail
      go_roundw
      case rel => exact ⟨j + 1, by simp, hlt, by rw [← enc_take zs j hlt, ← Hz.out]; exact H3.out, H4.out⟩
      case measure => simp [intOf]; omega
    · have e1 : decide ((j : Int) < (zs.length : Int)) = false := by simp; omega
      have hO := HO.out
      rw [List.take_of_length_le (by omega)] at hO
      have HO' := Lib.hid hO
      clear hO HO
      go_wp2_with fail
      go_ret
      exact ⟨_, rfl, HO'.out, HB.out⟩

end Go.Proofs.Ytheefkhhafefoaa
