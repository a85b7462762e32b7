/- Chapter 2's other functions, the program's and the document's: what each gives. No conditions but a length that a machine holds. -/
import Derived.Test.YtbkmnmjobndpiaaRduI
import Derived.Test.YtbkmnmjobndpiaaCopyInt
namespace Go.Proofs.Ytbkmnmjobndpiaa
open Go Go.RowKit
set_option linter.unusedVariables false

/-- impl.ReadUvarint. -/
theorem impl_ru {lim : Nat} {w : World} {v : Value} {zs : List Int} {n : Int} (h : Rd lim .u8 w v zs) (hlim : lim ≤ w.heap.size) (hw : (Lit.int .i64 n).wf = true) :
    Calls Try.prog 15 #[v, .int .i64 n] w fun e w' => e = .returned (.tuple #[.int .i64 (rvN (rdv zs n)), .int .i64 (rvE (rdv zs n)), .bool (rvB (rdv zs n))]) ∧ w' = w := by
  by_cases h0 : 0 ≤ n ∧ n < zs.length
  · obtain ⟨o, rfl⟩ : ∃ o : Nat, n = (o : Int) := ⟨n.toNat, by omega⟩
    have e : rdv zs (o : Int) = rdu zs o 6 0 0 := by unfold rdv; rw [if_pos h0.1]; rfl
    rw [e]
    exact impl_ru_pos h hlim hw (by omega)
  · have e : rdv zs n = none := by
      unfold rdv
      by_cases h1 : 0 ≤ n
      · rw [if_pos h1, rdu_next, if_neg (by omega)]
      · rw [if_neg h1]
    rw [e]
    have hl := h.len
    obtain ⟨a, cap, rfl, h1, h2, hc⟩ := h.open
    have Hin := inR_no (x := n) (a := 0) (b := (zs.length : Int) - 1) (by omega)
    have h2' : zs.length ≤ 9223372036854775807 := by unfold maxLen at hl; omega
    clear h hc e h2 hl h0
    go_enter Try.func15, Try.ntmps15
    go_wp2_with fail
    refine (impl_in _ _ _ _ hw).mono ?_
    rintro e w1 ⟨rfl, rfl⟩
    go_wp2_with fail
    go_ret3
    exact ⟨rfl, rfl⟩

set_option maxHeartbeats 1000000 in
/-- impl.AppendBytes. -/
theorem impl_ab {l1 l2 : Nat} {w : World} {u v : Value} {zs ys : List Int} (h : Rd l1 .u8 w u zs) (h' : Rd l2 .u8 w v ys) (hl1 : l1 ≤ w.heap.size) (hl2 : l2 ≤ w.heap.size) (hn : zs.length + ys.length + 6 ≤ 140737488355328) :
    Calls Try.prog 20 #[u, v] w fun e w' => ∃ v', e = .returned v' ∧ Own 5 .u8 w.heap.size w' v' (zs ++ (uvz ys.length ++ ys)) ∧ Below w.heap.size w w' := by
  obtain ⟨i0, hi, hz0, hz1, hz2⟩ := info_parts infou8
  have Hhi := Lib.hid hi
  have H := Lib.hid h
  have H' := Lib.hid h'
  have hl := uvz_len (ys.length : Int)
  have hwl : Hid ((Lit.int .i64 (ys.length : Int)).wf = true) := Lib.hid (wf_i64_of (by omega) (by omega))
  obtain ⟨a, cap, rfl, h1, h2, hc⟩ := h'.open
  clear h h' hi h2 hc
  go_enter Try.func20, Try.ntmps20
  go_wp2_with fail
  refine (impl_au H.out hl1 hwl.out (by omega)).mono ?_
  rintro e w1 ⟨v1, rfl, h3, h4⟩
  have H3 := Lib.hid h3
  have H4 := Lib.hid h4
  have H5 : Hid (Rd l2 .u8 w1 (.slice a ys.length cap) ys) := Lib.hid (H'.out.behind (h4.mono hl2))
  clear h3 h4
  go_wp2_with (first | (at_builtin; refine append_rd _ rfl _ _ 22 rfl 5 i0 (.int .u8 0) 1 Try.underlying22 Hhi.out hz0 hz1 hz2 rfl (by omega) rfl H3.out rfl H5.out (by simp; omega) ?_))
  intro v2 w2 h6 h7
  have H6 := Lib.hid h6
  have H7 := Lib.hid (H4.out.trans (H3.out.below (Nat.le_refl _) h7))
  clear h6 h7
  go_wp2
  go_ret
  exact ⟨v2, rfl, H6.out, H7.out⟩

set_option maxHeartbeats 1000000 in
/-- spec.AppendBytes. -/
theorem spec_ab {l1 l2 : Nat} {w : World} {u v : Value} {zs ys : List Int} (h : Rd l1 .u8 w u zs) (h' : Rd l2 .u8 w v ys) (hl1 : l1 ≤ w.heap.size) (hl2 : l2 ≤ w.heap.size) (hn : zs.length + ys.length + 6 ≤ 140737488355328) :
    Calls Try.prog 31 #[u, v] w fun e w' => ∃ v', e = .returned v' ∧ Own 5 .u8 w.heap.size w' v' (zs ++ (uvz ys.length ++ ys)) ∧ Below w.heap.size w w' := by
  obtain ⟨i0, hi, hz0, hz1, hz2⟩ := info_parts infou8
  have Hhi := Lib.hid hi
  have H := Lib.hid h
  have H' := Lib.hid h'
  have hl := uvz_len (ys.length : Int)
  have hwl : Hid ((Lit.int .i64 (ys.length : Int)).wf = true) := Lib.hid (wf_i64_of (by omega) (by omega))
  obtain ⟨a, cap, rfl, h1, h2, hc⟩ := h'.open
  clear h h' hi h2 hc
  go_enter Try.func31, Try.ntmps31
  go_wp2_with fail
  refine (spec_au H.out hl1 hwl.out (by omega)).mono ?_
  rintro e w1 ⟨v1, rfl, h3, h4⟩
  have H3 := Lib.hid h3
  have H4 := Lib.hid h4
  have H5 : Hid (Rd l2 .u8 w1 (.slice a ys.length cap) ys) := Lib.hid (H'.out.behind (h4.mono hl2))
  clear h3 h4
  go_wp2_with (first | (at_builtin; refine append_rd _ rfl _ _ 22 rfl 5 i0 (.int .u8 0) 1 Try.underlying22 Hhi.out hz0 hz1 hz2 rfl (by omega) rfl H3.out rfl H5.out (by simp; omega) ?_))
  intro v2 w2 h6 h7
  have H6 := Lib.hid h6
  have H7 := Lib.hid (H4.out.trans (H3.out.below (Nat.le_refl _) h7))
  clear h6 h7
  go_wp2
  go_ret
  exact ⟨v2, rfl, H6.out, H7.out⟩

/-- The varints of all values. -/
def enc (zs : List Int) : List Int := zs.flatMap uvz
theorem enc_len (zs : List Int) : (enc zs).length ≤ 6 * zs.length := by
  induction zs with
  | nil => simp [enc]
  | cons z zs ih =>
    have := uvz_len z
    simp only [enc, List.flatMap_cons, List.length_append, List.length_cons] at ih ⊢
    omega
theorem enc_take (zs : List Int) (j : Nat) (hj : j < zs.length) : enc (zs.take j) ++ uvz (zs.getD j 0) = enc (zs.take (j + 1)) := by
  have e : zs.getD j 0 = zs[j] := by simp [List.getD_eq_getElem?_getD, List.getElem?_eq_getElem hj]
  rw [List.take_succ_eq_append_getElem hj, e]
  unfold enc
  rw [List.flatMap_append]
  simp only [List.flatMap_cons, List.flatMap_nil, List.append_nil]
theorem enc_take_len (zs : List Int) (j : Nat) : (enc (zs.take j)).length ≤ 6 * zs.length := by
  have := enc_len (zs.take j)
  have h2 : (zs.take j).length ≤ zs.length := by simp; omega
  omega

set_option maxHeartbeats 1000000 in
/-- impl.EncodeInts. -/
theorem impl_ei {lim : Nat} {w : World} {v : Value} {zs : List Int} (h : Rd lim .i64 w v zs) (hlim : lim ≤ w.heap.size) (hn : zs.length ≤ 1048576) :
    Calls Try.prog 23 #[v] w fun e w' => ∃ v', e = .returned v' ∧ Own 5 .u8 w.heap.size w' v' (enc zs) ∧ Below w.heap.size w w' := by
  have hwf : Hid (∀ i, i < zs.length → (Lit.int .i64 (zs.getD i 0)).wf = true) := Lib.hid fun i hi => h.wf hi
  obtain ⟨a, cap, rfl, h1, h2, hc⟩ := h.open
  have Hc := Lib.hid hc
  have h2' : cap ≤ 9223372036854775807 := by unfold maxLen at h2; omega
  clear h hc h2
  go_enter Try.func23, Try.ntmps23
  go_wp2_with fail
  go_loopw [3, 9] (fun s i wr => ∃ j : Nat, i = .int .i64 j ∧ j ≤ zs.length ∧ Own 5 .u8 w.heap.size wr s (enc (zs.take j)) ∧ Below w.heap.size w wr) (fun _ i _ => zs.length - (intOf i).toNat)
  case atStart => exact ⟨0, rfl, Nat.zero_le _, Own.lit _ _ (Nat.le_refl _), (Below.refl w.heap.size w).alloc (Nat.le_refl _) _⟩
  case round =>
    obtain ⟨j, rfl, hj, hO, hB⟩ := hrel
    have HO := Lib.hid hO
    have HB := Lib.hid hB
    clear hO hB
    by_cases hlt : j < zs.length
    · have e1 : decide ((j : Int) < (zs.length : Int)) = true := by simp; omega
      obtain ⟨b, o, rfl, hbl, hcell⟩ := Hc.out (by omega)
      have c1 := hcell wr (HB.out.mono hlim) j hlt
      have hwz := hwf.out j hlt
      obtain ⟨z, hz⟩ : ∃ z, z = zs.getD j 0 := ⟨_, rfl⟩
      rw [← hz] at c1 hwz
      have Hz := Lib.hid hz
      have Hw := Lib.hid hwz
      clear hcell hz hwz
      have hle := enc_take_len zs j
      go_wp2_with fail
      refine (extend_any HO.out Hw.out (by omega)).mono ?_
      rintro e w2 ⟨v2, rfl, h3, h4⟩
      have H3 := Lib.hid h3
      have H4 := Lib.hid (HB.out.trans h4)
      clear h3 h4
      go_wp2_with fail
      go_roundw
      case rel => exact ⟨j + 1, by simp, hlt, by rw [← enc_take zs j hlt, ← Hz.out]; exact H3.out, H4.out⟩
      case measure => simp [intOf]; omega
    · have e1 : decide ((j : Int) < (zs.length : Int)) = false := by simp; omega
      have hO := HO.out
      rw [List.take_of_length_le (by omega)] at hO
      have HO' := Lib.hid hO
      clear hO HO
      go_wp2_with fail
      go_ret
      exact ⟨_, rfl, HO'.out, HB.out⟩

set_option maxHeartbeats 1000000 in
/-- spec.EncodeInts. -/
theorem spec_ei {lim : Nat} {w : World} {v : Value} {zs : List Int} (h : Rd lim .i64 w v zs) (hlim : lim ≤ w.heap.size) (hn : zs.length ≤ 1048576) :
    Calls Try.prog 33 #[v] w fun e w' => ∃ v', e = .returned v' ∧ Own 5 .u8 w.heap.size w' v' (enc zs) ∧ Below w.heap.size w w' := by
  have hwf : Hid (∀ i, i < zs.length → (Lit.int .i64 (zs.getD i 0)).wf = true) := Lib.hid fun i hi => h.wf hi
  obtain ⟨a, cap, rfl, h1, h2, hc⟩ := h.open
  have Hc := Lib.hid hc
  have h2' : cap ≤ 9223372036854775807 := by unfold maxLen at h2; omega
  clear h hc h2
  go_enter Try.func33, Try.ntmps33
  go_wp2_with fail
  go_loopw [3, 4] (fun s i wr => ∃ j : Nat, i = .int .i64 j ∧ j ≤ zs.length ∧ Own 5 .u8 w.heap.size wr s (enc (zs.take j)) ∧ Below w.heap.size w wr) (fun _ i _ => zs.length - (intOf i).toNat)
  case atStart => exact ⟨0, rfl, Nat.zero_le _, Own.lit _ _ (Nat.le_refl _), (Below.refl w.heap.size w).alloc (Nat.le_refl _) _⟩
  case round =>
    obtain ⟨j, rfl, hj, hO, hB⟩ := hrel
    have HO := Lib.hid hO
    have HB := Lib.hid hB
    clear hO hB
    by_cases hlt : j < zs.length
    · have e1 : decide ((j : Int) < (zs.length : Int)) = true := by simp; omega
      obtain ⟨b, o, rfl, hbl, hcell⟩ := Hc.out (by omega)
      have c1 := hcell wr (HB.out.mono hlim) j hlt
      have hwz := hwf.out j hlt
      obtain ⟨z, hz⟩ : ∃ z, z = zs.getD j 0 := ⟨_, rfl⟩
      rw [← hz] at c1 hwz
      have Hz := Lib.hid hz
      have Hw := Lib.hid hwz
      clear hcell hz hwz
      have hle := enc_take_len zs j
      go_wp2_with fail
      refine (spec_au HO.out.rd (Nat.le_refl _) Hw.out (by omega)).mono ?_
      rintro e w2 ⟨v2, rfl, h3, h4⟩
      have H3 := Lib.hid (h3.mono HB.out.size)
      have H4 := Lib.hid (HB.out.trans (h4.mono HB.out.size))
      clear h3 h4
      go_wp2_with fail
      go_roundw
      case rel => exact ⟨j + 1, by simp, hlt, by rw [← enc_take zs j hlt, ← Hz.out]; exact H3.out, H4.out⟩
      case measure => simp [intOf]; omega
    · have e1 : decide ((j : Int) < (zs.length : Int)) = false := by simp; omega
      have hO := HO.out
      rw [List.take_of_length_le (by omega)] at hO
      have HO' := Lib.hid hO
      clear hO HO
      go_wp2_with fail
      go_ret
      exact ⟨_, rfl, HO'.out, HB.out⟩

end Go.Proofs.Ytbkmnmjobndpiaa
