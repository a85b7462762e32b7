/- IsValidKey, BytesToInts and DeriveFromString, the program's and the document's: what each gives. No conditions but a length that a machine holds. -/
import Derived.Test.YtdeahjinnnhfkaaJ7
namespace Go.Proofs.Ytdeahjinnnhfkaa
open Go Go.RowKit
set_option linter.unusedVariables false

/-- The length, then the bytes. -/
def bti (zs : List Int) : List Int := (zs.length : Int) :: zs
theorem bti_len (zs : List Int) : (bti zs).length = zs.length + 1 := rfl

theorem u8_i64 {z : Int} (h : (Lit.int .u8 z).wf = true) : (Lit.int .i64 z).wf = true := by
  have := wf_u8 h
  exact wf_i64_of (by omega) (by omega)

set_option maxHeartbeats 1000000 in
/-- spec.BytesToInts. -/
theorem spec_bti {lim : Nat} {w : World} {v : Value} {zs : List Int} (h : Rd lim .u8 w v zs) (hlim : lim ≤ w.heap.size) (hn : zs.length ≤ 1099511627776) :
    Calls Try.prog 72 #[v] w fun e w' => ∃ v', e = .returned v' ∧ Own 3 .i64 w.heap.size w' v' (bti zs) ∧ Below w.heap.size w w' := by
  obtain ⟨i0, hi, hz0, hz1, hz2⟩ := info_parts infoi64
  obtain ⟨p, cap, rfl, h1, h2, hc⟩ := h.open
  have Hhi := Lib.hid hi
  have Hc := Lib.hid hc
  have H := Lib.hid h
  have hl := h.len
  have b1 := (Below.refl w.heap.size w).alloc (Nat.le_refl _) (.cells #[.int .i64 (zs.length : Int)] 3)
  have HO : Hid (Own 3 .i64 w.heap.size (w.alloc (.cells #[.int .i64 (zs.length : Int)] 3)) (.slice (some ⟨w.heap.size, 0, none⟩) 1 1) [(zs.length : Int)]) := Lib.hid (Own.one 3 .i64 (Nat.le_refl _) (wf_i64_of (by omega) (by omega)))
  have HB := Lib.hid b1
  unfold maxLen at h2 hl
  clear h hc hi b1
  go_enter Try.func72, Try.ntmps72
  go_wp2_with fail
  go_loopw [3, 4] (fun s i wr => ∃ j : Nat, i = .int .i64 j ∧ j ≤ zs.length ∧ Own 3 .i64 w.heap.size wr s ((zs.length : Int) :: zs.take j) ∧ Below w.heap.size w wr) (fun _ i _ => zs.length - (intOf i).toNat)
  case atStart => exact ⟨0, rfl, Nat.zero_le _, HO.out, HB.out⟩
  case round =>
    obtain ⟨j, rfl, hj, hO, hB⟩ := hrel
    have HO' := Lib.hid hO
    have HB' := Lib.hid hB
    clear hO hB HO HB
    by_cases hlt : j < zs.length
    · have e1 : decide ((j : Int) < (zs.length : Int)) = true := by simp; omega
      obtain ⟨b, o, rfl, hb, hcell⟩ := Hc.out (by omega)
      have c1 := hcell _ (HB'.out.mono hlim) j hlt
      have hw := H.out.wf hlt
      obtain ⟨z, hz⟩ : ∃ z, z = zs.getD j 0 := ⟨_, rfl⟩
      rw [← hz] at c1 hw
      have hwb := wf_u8 hw
      have HT : Hid ((zs.length : Int) :: (zs.take j ++ [z]) = (zs.length : Int) :: zs.take (j + 1)) := Lib.hid (by
        rw [hz, List.take_add_one, List.getD_eq_getElem?_getD, List.getElem?_eq_getElem hlt]; rfl)
      have R1 := Lib.hid (Rd.one 3 .i64 wr z (u8_i64 hw))
      have O1 := Lib.hid (HO'.out.alloc (.cells #[.int .i64 z] 3))
      have B1 := Lib.hid (HB'.out.alloc HO'.out.2.1 (.cells #[.int .i64 z] 3))
      have hlen : ((zs.length : Int) :: zs.take j).length ≤ 1099511627777 := by simp; omega
      have HLn := Lib.hid hlen
      clear hcell hz hw hlen
      go_wp2_with (first | (at_builtin; refine append_rd _ rfl _ _ 26 rfl 3 i0 (.int .i64 0) 8 Try.underlying26 Hhi.out hz0 hz1 hz2 rfl (by omega) rfl O1.out rfl R1.out (by have := HLn.out; simp only [List.length_singleton]; omega) ?_))
      intro v' w' h1 h2
      rw [HT.out] at h1
      have H1 := Lib.hid h1
      have H2 := Lib.hid (B1.out.trans (O1.out.below (Nat.le_refl _) h2))
      clear h1 h2
      go_wp2
      go_roundw
      case rel => exact ⟨j + 1, by simp, hlt, H1.out, H2.out⟩
      case measure => simp [intOf]; omega
    · have e1 : decide ((j : Int) < (zs.length : Int)) = false := by simp; omega
      have ej : j = zs.length := by omega
      have HE : Hid ((zs.length : Int) :: zs.take j = bti zs) := Lib.hid (by rw [ej, List.take_length]; rfl)
      clear ej
      go_wp2
      go_ret
      exact ⟨_, rfl, by rw [← HE.out]; exact HO'.out, HB'.out⟩

set_option maxHeartbeats 1000000 in
/-- impl.BytesToInts. -/
theorem impl_bti {lim : Nat} {w : World} {v : Value} {zs : List Int} (h : Rd lim .u8 w v zs) (hlim : lim ≤ w.heap.size) (hn : zs.length ≤ 1099511627776) :
    Calls Try.prog 74 #[v] w fun e w' => ∃ v', e = .returned v' ∧ Own 3 .i64 w.heap.size w' v' (bti zs) ∧ Below w.heap.size w w' := by
  obtain ⟨i0, hi, hz0, hz1, hz2⟩ := info_parts infoi64
  obtain ⟨p, cap, rfl, h1, h2, hc⟩ := h.open
  have Hhi := Lib.hid hi
  have Hc := Lib.hid hc
  have H := Lib.hid h
  have hl := h.len
  have hN : Hid ((Lit.int .i64 (zs.length : Int)).wf = true) := Lib.hid (wf_i64_of (by omega) (by omega))
  unfold maxLen at h2 hl
  clear h hc hi
  go_enter Try.func74, Try.ntmps74
  go_wp2_with (first | (at_make; refine wpList_make_own _ rfl _ _ 26 rfl w.heap.size 3 i0 (.int .i64 0) 1 Try.underlying26 Hhi.out hz0 hz1 .i64 .i64 _ (zs.length + 1) rfl rfl (by simp) (by rw [hz2]; omega) (by unfold maxLen; omega) (Nat.le_refl _) ?_))
  intro w1 hown hg
  have HO : Hid (Own 3 .i64 w.heap.size w1 (.slice (some ⟨w.heap.size, 0, none⟩) 0 (zs.length + 1)) []) := Lib.hid ⟨by simp, hg.size, hown⟩
  have HB := Lib.hid ((Below.refl w.heap.size w).grown hg (Nat.le_refl _) (fun k hk => by cases hk))
  have O1 := Lib.hid (HO.out.alloc (.cells #[.int .i64 (zs.length : Int)] 3))
  have B1 := Lib.hid (HB.out.alloc HO.out.2.1 (.cells #[.int .i64 (zs.length : Int)] 3))
  have R1 := Lib.hid (Rd.one 3 .i64 w1 (zs.length : Int) hN.out)
  clear hown hg HO HB
  go_wp2_with (first | (at_builtin; refine append_rd _ rfl _ _ 26 rfl 3 i0 (.int .i64 0) 8 Try.underlying26 Hhi.out hz0 hz1 hz2 rfl (by omega) rfl O1.out rfl R1.out (by simp) ?_))
  intro v2 w2 h3 h4
  have HO : Hid (Own 3 .i64 w.heap.size w2 v2 [(zs.length : Int)]) := Lib.hid (by simpa using h3)
  have HB := Lib.hid (B1.out.trans (O1.out.below (Nat.le_refl _) h4))
  clear h3 h4 O1 B1 R1
  go_wp2_with fail
  go_loopw [3, 17] (fun s i wr => ∃ j : Nat, i = .int .i64 j ∧ j ≤ zs.length ∧ Own 3 .i64 w.heap.size wr s ((zs.length : Int) :: zs.take j) ∧ Below w.heap.size w wr) (fun _ i _ => zs.length - (intOf i).toNat)
  case atStart => exact ⟨0, rfl, Nat.zero_le _, HO.out, HB.out⟩
  case round =>
    obtain ⟨j, rfl, hj, hO, hB⟩ := hrel
    have HO' := Lib.hid hO
    have HB' := Lib.hid hB
    clear hO hB HO HB
    by_cases hlt : j < zs.length
    · have e1 : decide ((j : Int) < (zs.length : Int)) = true := by simp; omega
      obtain ⟨b, o, rfl, hb, hcell⟩ := Hc.out (by omega)
      have c1 := hcell _ (HB'.out.mono hlim) j hlt
      have hw := H.out.wf hlt
      obtain ⟨z, hz⟩ : ∃ z, z = zs.getD j 0 := ⟨_, rfl⟩
      rw [← hz] at c1 hw
      have hwb := wf_u8 hw
      have HT : Hid ((zs.length : Int) :: (zs.take j ++ [z]) = (zs.length : Int) :: zs.take (j + 1)) := Lib.hid (by
        rw [hz, List.take_add_one, List.getD_eq_getElem?_getD, List.getElem?_eq_getElem hlt]; rfl)
      have R1 := Lib.hid (Rd.one 3 .i64 wr z (u8_i64 hw))
      have O1 := Lib.hid (HO'.out.alloc (.cells #[.int .i64 z] 3))
      have B1 := Lib.hid (HB'.out.alloc HO'.out.2.1 (.cells #[.int .i64 z] 3))
      have hlen : ((zs.length : Int) :: zs.take j).length ≤ 1099511627777 := by simp; omega
      have HLn := Lib.hid hlen
      clear hcell hz hw hlen
      go_wp2_with (first | (at_builtin; refine append_rd _ rfl _ _ 26 rfl 3 i0 (.int .i64 0) 8 Try.underlying26 Hhi.out hz0 hz1 hz2 rfl (by omega) rfl O1.out rfl R1.out (by have := HLn.out; simp only [List.length_singleton]; omega) ?_))
      intro v' w' h1 h2
      rw [HT.out] at h1
      have H1 := Lib.hid h1
      have H2 := Lib.hid (B1.out.trans (O1.out.below (Nat.le_refl _) h2))
      clear h1 h2
      go_wp2
      go_roundw
      case rel => exact ⟨j + 1, by simp, hlt, H1.out, H2.out⟩
      case measure => simp [intOf]; omega
    · have e1 : decide ((j : Int) < (zs.length : Int)) = false := by simp; omega
      have ej : j = zs.length := by omega
      have HE : Hid ((zs.length : Int) :: zs.take j = bti zs) := Lib.hid (by rw [ej, List.take_length]; rfl)
      clear ej
      go_wp2
      go_ret
      exact ⟨_, rfl, by rw [← HE.out]; exact HO'.out, HB'.out⟩

/-- What is derived. -/
def dv (k : Int) (s : ByteArray) : Int := mx (kh k (bti (nums s))) 1
theorem dv_turn (k : Int) (s : ByteArray) : mx 1 (kh k (bti (nums s))) = dv k s := by
  unfold dv mx
  have := kh_bound k (bti (nums s))
  split <;> split <;> omega
theorem dv_bound (k : Int) (s : ByteArray) : 1 ≤ dv k s ∧ dv k s ≤ 2147483646 := by
  unfold dv mx
  have := kh_bound k (bti (nums s))
  split <;> omega

end Go.Proofs.Ytdeahjinnnhfkaa
