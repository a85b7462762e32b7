/- SplitBytes, the document's: what it gives. No conditions but a length that a machine holds. -/
import Derived.Test.YtcemadckgimhhaaXor2
import Derived.Test.YtcemadckgimhhaaDeepByte
namespace Go.Proofs.Ytcemadckgimhhaa
open Go Go.RowKit
set_option linter.unusedVariables false

/-- The first j pieces of n bytes. -/
def pcs (xs : List Int) (n j : Nat) : List (List Int) := (List.range j).map fun t => (xs.drop (t * n)).take n
/-- SplitBytes's answer. -/
def sb (xs : List Int) (n : Int) : List (List Int) := if 1 ≤ n ∧ n ≤ 400 then pcs xs n.toNat ((xs.length + n.toNat - 1) / n.toNat) else []

theorem pcs_len (xs : List Int) (n j : Nat) : (pcs xs n j).length = j := by simp [pcs]
theorem pcs_succ (xs : List Int) (n j : Nat) : pcs xs n j ++ [(xs.drop (j * n)).take n] = pcs xs n (j + 1) := by
  simp [pcs, List.range_succ]
theorem sb_end {xs : List Int} {n j : Nat} (hn : 1 ≤ n ∧ n ≤ 400) (h1 : xs.length ≤ j * n) (h2 : j = 0 ∨ j * n < xs.length + n) : sb xs (n : Int) = pcs xs n j := by
  unfold sb
  rw [if_pos (by omega), Int.toNat_natCast]
  congr 1
  rcases h2 with rfl | h2
  · rw [Nat.zero_mul] at h1
    rw [Nat.div_eq_of_lt (by omega)]
  · have : (xs.length + n - 1) / n = j := by
      have h3 : j * n ≤ xs.length + n - 1 := by omega
      have h4 : xs.length + n - 1 < (j + 1) * n := by rw [Nat.succ_mul]; omega
      exact Nat.div_eq_of_lt_le h3 h4
    exact this
theorem sb_no {xs : List Int} {n : Int} (h : ¬ (1 ≤ n ∧ n ≤ 400)) : sb xs n = [] := if_neg h
theorem take_min {xs : List Int} {i n : Nat} (hi : i ≤ xs.length) : (xs.drop i).take (min xs.length (i + n) - i) = (xs.drop i).take n := by
  have hl : (xs.drop i).length = xs.length - i := by simp
  rcases Nat.le_total xs.length (i + n) with h | h
  · rw [Nat.min_eq_left h, List.take_of_length_le (by omega), List.take_of_length_le (by omega)]
  · rw [Nat.min_eq_right h, Nat.add_sub_cancel_left]
theorem pcs_at {xs : List Int} {n j : Nat} {t : Nat} (h : t < j) : (pcs xs n j)[t]? = some ((xs.drop (t * n)).take n) := by
  simp [pcs, h]

theorem pcs_fl (xs : List Int) (n : Nat) : ∀ j, fl (pcs xs n j) ≤ xs.length ∧ (fl (pcs xs n j) ≤ j * n)
  | 0 => by simp [pcs, fl_nil]
  | j + 1 => by
    have ih := pcs_fl xs n j
    rw [← pcs_succ, fl_append, fl_cons, fl_nil]
    have hl : ((xs.drop (j * n)).take n).length = min n (xs.length - j * n) := by simp
    rw [hl, Nat.succ_mul]
    omega
theorem sb_fl (xs : List Int) (n : Int) : fl (sb xs n) ≤ xs.length := by
  unfold sb
  split
  · exact (pcs_fl _ _ _).1
  · simp [fl_nil]

set_option maxHeartbeats 2000000 in
/-- spec.SplitBytes. -/
theorem spec_sb {lim : Nat} {w : World} {v : Value} {xs : List Int} {n : Int} (h : Rd lim .u8 w v xs) (hlim : lim ≤ w.heap.size) (hw : (Lit.int .i64 n).wf = true) (hn : xs.length ≤ 1048576) :
    Calls Try.prog 36 #[v, .int .i64 n] w fun e w' => ∃ v', e = .returned v' ∧ Own2 22 5 .u8 (ival w.heap.size w'.heap.size) w' v' (sb xs n) ∧ Below w.heap.size w w' := by
  obtain ⟨i0, hi, hz0, hz1, hz2⟩ := info_parts infou8
  obtain ⟨i1, hi', hy0, hy1, hy2⟩ := info_parts infou8s
  have Hhi := Lib.hid hi
  have Hhi' := Lib.hid hi'
  have H := Lib.hid h
  obtain ⟨a, cap, rfl, _⟩ := h.open
  have hwn := wf_i64 hw
  have Hw := Lib.hid hw
  clear h hi hi' hw
  obtain ⟨q, hq⟩ : ∃ q, q = sb xs n := ⟨_, rfl⟩
  rw [← hq]
  have Hq := Lib.hid hq
  clear hq
  by_cases hin : 1 ≤ n ∧ n ≤ 400
  · obtain ⟨m, rfl⟩ : ∃ m : Nat, n = (m : Int) := ⟨n.toNat, by omega⟩
    have hm : 1 ≤ m ∧ m ≤ 400 := by omega
    have HI := Lib.hid (inR_yes hin)
    clear hin
    go_enter Try.func36, Try.ntmps36
    have HO : Hid (Own2 22 5 .u8 (ival w.heap.size (w.alloc (.cells #[] 22)).heap.size) (w.alloc (.cells #[] 22)) (.slice (some ⟨w.heap.size, 0, none⟩) 0 0) (pcs xs m 0)) := Lib.hid (Own2.lit _ _ _ (by unfold ival; simp))
    go_wp2_with fail
    go_loopw [5, 6] (fun s i wr => ∃ j p : Nat, i = .int .i64 p ∧ Hid (p = j * m) ∧ (j = 0 ∨ p < xs.length + m) ∧ p ≤ xs.length + m ∧ j ≤ p ∧ Own2 22 5 .u8 (ival w.heap.size wr.heap.size) wr s (pcs xs m j) ∧ Below w.heap.size w wr) (fun _ i _ => xs.length + m - (intOf i).toNat)
    case atStart => exact ⟨0, 0, rfl, Lib.hid (by omega), .inl rfl, by omega, Nat.le_refl _, HO.out, (Below.refl _ _).alloc (Nat.le_refl _) _⟩
    case round =>
      obtain ⟨j, p, rfl, HP, hor, hple, hjp, hO, hB⟩ := hrel
      have HO' := Lib.hid hO
      have HB := Lib.hid hB
      clear hO hB HO
      by_cases hlt : p < xs.length
      · have e1 : decide ((p : Int) < (xs.length : Int)) = true := by simp; omega
        go_wp2_with fail
        refine (spec_in _ _ _ _ Hw.out).mono ?_
        rw [HI.out]
        rintro e w2 ⟨rfl, hw2⟩
        subst hw2
        obtain ⟨t, ht⟩ : ∃ t, min xs.length (p + m) = p + t := ⟨min xs.length (p + m) - p, by omega⟩
        have Hmn : Hid (mn (xs.length : Int) ((p : Int) + (m : Int)) = ((p + t : Nat) : Int)) := Lib.hid (by
          have := mn_nat xs.length (p + m)
          rw [ht] at this
          rw [← this]; push_cast; rfl)
        have hpt : p + t ≤ xs.length := by omega
        have HPt : Hid ((xs.drop p).take t = (xs.drop (j * m)).take m) := Lib.hid (by
          rw [← HP.out, ← take_min (i := p) (n := m) (by omega), ht, Nat.add_sub_cancel_left])
        have HOl : Hid (Own 5 .u8 w2.heap.size (w2.alloc (.cells #[] 5)) (.slice (some ⟨w2.heap.size, 0, none⟩) 0 0) []) := Lib.hid (Own.lit _ _ (Nat.le_refl _))
        have HBa := Lib.hid (HB.out.alloc HB.out.size (.cells #[] 5))
        have HR := Lib.hid (H.out.behind (HBa.out.mono hlim))
        have HLa : Hid ((([] : List Int).length + ((xs.drop p).take t).length) * 1 ≤ 140737488355328) := Lib.hid (by simp; omega)
        have HLb : Hid (((pcs xs m j).length + 1) * 24 ≤ 140737488355328) := Lib.hid (by rw [pcs_len]; omega)
        have HLt := Lib.hid hlt
        clear ht
        go_wp2_with fail
        refine (spec_mn _ _ _).mono ?_
        rintro e w3 ⟨rfl, hw3⟩
        subst hw3
        rw [Hmn.out]
        go_wp2_with (first
          | (refine slice_rd _ rfl 22 _ 5 i0 Try.underlying22 Hhi.out hz1 rfl HR.out _ _ rfl rfl (by first | rfl | (simp; done)) hpt ?_
             intro u4 hu4
             have HU4 := Lib.hid hu4
             clear hu4)
          | (at_builtin; refine append_rd _ rfl _ _ 22 rfl 5 i0 (.int .u8 0) 1 Try.underlying22 Hhi.out hz0 hz1 hz2 rfl (by omega) rfl HOl.out rfl HU4.out HLa.out ?_
             intro v5 w5 h5 h6
             have h5' := h5
             rw [List.nil_append, HPt.out] at h5'
             obtain ⟨a5, cap5, hv5, _⟩ := h5'.open
             obtain ⟨L5, hL5⟩ : ∃ L5, ((xs.drop (j * m)).take m).length = L5 := ⟨_, rfl⟩
             rw [hL5] at hv5
             subst hv5
             clear hL5
             have H5 := Lib.hid h5'
             have HB5 := Lib.hid ((((Below.refl w2.heap.size w2).alloc (Nat.le_refl _) (.cells #[] 5)).trans (HOl.out.below (Nat.le_refl _) h6)))
             clear h5 h5' h6)
          | (at_builtin; refine append_row _ rfl _ _ 29 rfl 22 5 i1 24 Try.underlying29 Hhi'.out hy0 hy1 hy2 (by omega) rfl (HO'.out.next (HB5.out.alloc HB5.out.size _)) HB.out.size (by have := HB5.out.size; simp; omega) rfl (cell_one_new _ _ _ 0 _ rfl) (H5.out.alloc _) HLb.out ?_
             intro v6 w6 h7 h8
             rw [pcs_succ] at h7
             have H7 := Lib.hid h7
             have HB7 := Lib.hid (KeptF.below (B := w.heap.size) (KeptF.of_grown (F := ival w.heap.size w2.heap.size) h8 (HO'.out.in_)) (fun b hb => hb.1) (by have h1 := HB.out.size; have h2 := HB5.out.size; simp; omega))
             clear h7 h8))
        have hlt := HLt.out
        go_roundw
        case rel =>
          refine ⟨j + 1, p + m, by simp, Lib.hid (by rw [Nat.succ_mul, ← HP.out]), .inr (by omega), by omega, by omega, H7.out, ?_⟩
          exact (HB.out.trans ((HB5.out.alloc HB5.out.size _).mono HB.out.size)).trans HB7.out
        case measure => simp [intOf]; omega
      · have e1 : decide ((p : Int) < (xs.length : Int)) = false := by simp; omega
        have HF : Hid (q = pcs xs m j) := Lib.hid (by
          rw [Hq.out, sb_end hm (by rw [← HP.out]; omega) (by rcases hor with h | h; exact .inl h; exact .inr (by rw [← HP.out]; exact h))])
        go_wp2
        go_ret
        exact ⟨_, rfl, by rw [HF.out]; exact HO'.out, HB.out⟩
  · have HF : Hid (q = []) := Lib.hid (by rw [Hq.out, sb_no hin])
    have HI := Lib.hid (inR_no hin)
    go_enter Try.func36, Try.ntmps36
    have HO : Hid (Own2 22 5 .u8 (ival w.heap.size (w.alloc (.cells #[] 22)).heap.size) (w.alloc (.cells #[] 22)) (.slice (some ⟨w.heap.size, 0, none⟩) 0 0) []) := Lib.hid (Own2.lit _ _ _ (by unfold ival; simp))
    go_wp2_with fail
    go_loopw [5, 6] (fun s i wr => i = .int .i64 0 ∧ s = .slice (some ⟨w.heap.size, 0, none⟩) 0 0 ∧ wr = w.alloc (.cells #[] 22)) (fun _ _ _ => 0)
    case atStart => exact ⟨rfl, rfl, rfl⟩
    case round =>
      obtain ⟨rfl, rfl, rfl⟩ := hrel
      by_cases hlt : 0 < xs.length
      · have e1 : decide ((0 : Int) < (xs.length : Int)) = true := decide_eq_true (by omega)
        go_wp2_with fail
        refine (spec_in _ _ _ _ Hw.out).mono ?_
        rw [HI.out]
        rintro e w2 ⟨rfl, hw2⟩
        subst hw2
        go_wp2_with fail
        go_ret
        exact ⟨_, rfl, by rw [HF.out]; exact HO.out, (Below.refl _ _).alloc (Nat.le_refl _) _⟩
      · have e1 : decide ((0 : Int) < (xs.length : Int)) = false := decide_eq_false (by omega)
        go_wp2
        go_ret
        exact ⟨_, rfl, by rw [HF.out]; exact HO.out, (Below.refl _ _).alloc (Nat.le_refl _) _⟩

end Go.Proofs.Ytcemadckgimhhaa
