/- Chapter 2's appending functions, the program's and the document's: what each gives. No conditions but a length that a machine holds. -/
import Derived.Test.YtheefkhhafefoaaRows
import Derived.Test.YtheefkhhafefoaaBa1
import Derived.Test.YtheefkhhafefoaaBa7
import Derived.Test.YtheefkhhafefoaaBa3
import Derived.WalkKit
import Derived.Handy
import Derived.Outline
import Derived.WalkSpells
import Derived.Deep.QuietTactic
import Derived.BigQuiet
import Derived.Lib.Hide
namespace Go.Proofs.Ytheefkhhafefoaa
open Go Go.RowKit
set_option linter.unusedVariables false

/-- Whether x lies between a and b. -/
def inR (x a b : Int) : Bool := decide (a ≤ x) && decide (x ≤ b)
theorem inR_yes {x a b : Int} (h : a ≤ x ∧ x ≤ b) : inR x a b = true := by simp [inR, h.1, h.2]
theorem inR_no {x a b : Int} (h : ¬ (a ≤ x ∧ x ≤ b)) : inR x a b = false := by
  rw [Bool.eq_false_iff]
  intro h'
  simp [inR] at h'
  exact h h'

theorem impl_in (x a b : Int) (w : World) (hx : (Lit.int .i64 x).wf = true) : Calls Try.prog 64 #[.int .i64 x, .int .i64 a, .int .i64 b] w fun e w' => e = .returned (.bool (inR x a b)) ∧ w' = w := by
  by_cases h1 : a ≤ x
  · have e1 : decide (a ≤ x) = true := by simpa using h1
    go_enter Try.func64, Try.ntmps64
    go_wp2
    go_ret
    unfold inR
    rw [e1]
    exact ⟨rfl, rfl⟩
  · have e1 : decide (a ≤ x) = false := by simpa using h1
    go_enter Try.func64, Try.ntmps64
    go_wp2
    go_ret
    unfold inR
    rw [e1]
    exact ⟨rfl, rfl⟩
theorem spec_in (x a b : Int) (w : World) (hx : (Lit.int .i64 x).wf = true) : Calls Try.prog 61 #[.int .i64 x, .int .i64 a, .int .i64 b] w fun e w' => e = .returned (.bool (inR x a b)) ∧ w' = w := by
  by_cases h1 : a ≤ x
  · have e1 : decide (a ≤ x) = true := by simpa using h1
    go_enter Try.func61, Try.ntmps61
    go_wp2
    go_ret
    unfold inR
    rw [e1]
    exact ⟨rfl, rfl⟩
  · have e1 : decide (a ≤ x) = false := by simpa using h1
    go_enter Try.func61, Try.ntmps61
    go_wp2
    go_ret
    unfold inR
    rw [e1]
    exact ⟨rfl, rfl⟩

set_option maxHeartbeats 1000000 in
/-- impl.extendUvarint: the varint is appended to a row of the call's own. -/
theorem extend_any {B : Nat} {w : World} {v : Value} {xs : List Int} {n : Int} (h : Own 5 .u8 B w v xs) (hw : (Lit.int .i64 n).wf = true) (hn : xs.length + 6 ≤ 140737488355328) :
    Calls Try.prog 84 #[v, .int .i64 n] w fun e w' => ∃ v', e = .returned v' ∧ Own 5 .u8 B w' v' (xs ++ uvz n) ∧ Below B w w' := by
  obtain ⟨i0, hi, hz0, hz1, hz2⟩ := info_parts infou8
  have Hhi := Lib.hid hi
  have HO := Lib.hid h
  clear h hi
  by_cases hin : 0 ≤ n ∧ n ≤ 1000000000000
  · have e1 := inR_yes hin
    have eU : uvz n = uv n.toNat := by unfold uvz; rw [if_pos hin]
    rw [eU]
    obtain ⟨u, rfl⟩ : ∃ u : Nat, n = (u : Int) := ⟨n.toNat, by omega⟩
    have hu : u ≤ 1000000000000 := by omega
    rw [Int.toNat_natCast]
    have HL : Hid ((uv u).length ≤ 6) := Lib.hid (uv_len 5 u (by omega))
    clear eU hin
    go_enter Try.func84, Try.ntmps84
    go_wp2_with fail
    refine (impl_in _ _ _ _ hw).mono ?_
    rintro e w1 ⟨rfl, rfl⟩
    go_wp2_with fail
    go_loopw [0, 1] (fun s x wr => ∃ (m : Nat) (d : List Int), m ≤ u ∧ d ++ uv m = uv u ∧ x = .int .i64 m ∧ Own 5 .u8 B wr s (xs ++ d) ∧ Below B w1 wr) (fun _ x _ => (intOf x).toNat)
    case atStart => exact ⟨u, [], Nat.le_refl _, rfl, rfl, by rw [List.append_nil]; exact HO.out, Below.refl _ _⟩
    case round =>
      obtain ⟨m, d, hm, hd, rfl, hO, hB⟩ := hrel
      have HO' := Lib.hid hO
      have HB := Lib.hid hB
      have HD := Lib.hid hd
      clear hO hB hd HO
      have hdl : d.length + 1 ≤ 6 := by have := congrArg List.length HD.out; have := HL.out; have := uv_pos m; rw [List.length_append] at *; omega
      have HX : Hid (m ≤ 1000000000000) := Lib.hid (by omega)
      by_cases hb : 128 ≤ m
      · have e2 : decide ((128 : Int) ≤ (m : Int)) = true := by simp; omega
        go_wp2_with (first | (at_builtin; refine append_rd _ rfl _ _ 22 rfl 5 i0 (.int .u8 0) 1 Try.underlying22 Hhi.out hz0 hz1 hz2 rfl (by omega) rfl (HO'.out.alloc _) rfl (Rd.one _ _ _ _ (wf_u8_of (by omega) (by omega))) (by simp; omega) ?_))
        intro v' w' h1 h2
        have H1 := Lib.hid h1
        have H2 := Lib.hid (HB.out.trans ((((Below.refl B wr).alloc HO'.out.2.1 _).trans ((HO'.out.alloc _).below (Nat.le_refl _) h2))))
        clear h1 h2
        go_wp2
        go_roundw
        case rel =>
          refine ⟨m / 128, d ++ [(m : Int) % 128 + 128], by omega, ?_, by simp, H1.out, H2.out⟩
          rw [← HD.out, uv_big hb]; simp
        case measure => simp [intOf]; omega
      · have e2 : decide ((128 : Int) ≤ (m : Int)) = false := by simp; omega
        have hm8 : (m : Int) ≤ 127 := by omega
        have hm9 : (m : Int) % 256 = m := by omega
        go_wp2_with (first | (at_builtin; refine append_rd _ rfl _ _ 22 rfl 5 i0 (.int .u8 0) 1 Try.underlying22 Hhi.out hz0 hz1 hz2 rfl (by omega) rfl (HO'.out.alloc _) rfl (Rd.one _ _ _ _ (wf_u8_of (by omega) (by omega))) (by simp; omega) ?_))
        intro v' w' h1 h2
        have H1 := Lib.hid h1
        have H2 := Lib.hid (HB.out.trans ((((Below.refl B wr).alloc HO'.out.2.1 _).trans ((HO'.out.alloc _).below (Nat.le_refl _) h2))))
        clear h1 h2
        go_wp2
        go_ret
        refine ⟨v', rfl, ?_, H2.out⟩
        rw [← HD.out, uv_small (by omega)]
        exact H1.out
  · have e1 := inR_no hin
    have eU : uvz n = [] := by unfold uvz; rw [if_neg hin]
    rw [eU, List.append_nil]
    clear eU hin
    go_enter Try.func84, Try.ntmps84
    go_wp2_with fail
    refine (impl_in _ _ _ _ hw).mono ?_
    rintro e w1 ⟨rfl, rfl⟩
    go_wp2_with fail
    go_ret
    exact ⟨v, rfl, HO.out, Below.refl _ _⟩

set_option maxHeartbeats 1000000 in
/-- spec.AppendUvarint. -/
theorem spec_au {lim : Nat} {w : World} {v : Value} {zs : List Int} {n : Int} (h : Rd lim .u8 w v zs) (hlim : lim ≤ w.heap.size) (hw : (Lit.int .i64 n).wf = true) (hn : zs.length + 6 ≤ 140737488355328) :
    Calls Try.prog 93 #[v, .int .i64 n] w fun e w' => ∃ v', e = .returned v' ∧ Own 5 .u8 w.heap.size w' v' (zs ++ uvz n) ∧ Below w.heap.size w w' := by
  obtain ⟨i0, hi, hz0, hz1, hz2⟩ := info_parts infou8
  have Hhi := Lib.hid hi
  have HR : Hid (Rd lim .u8 (w.alloc (.cells #[] 5)) v zs) := Lib.hid (h.behind (((Below.refl w.heap.size w).alloc (Nat.le_refl _) _).mono hlim))
  have HO : Hid (Own 5 .u8 w.heap.size (w.alloc (.cells #[] 5)) (.slice (some ⟨w.heap.size, 0, none⟩) 0 0) []) := Lib.hid (Own.lit _ _ (Nat.le_refl _))
  clear h hi
  by_cases hin : 0 ≤ n ∧ n ≤ 1000000000000
  · have e1 := inR_yes hin
    have eU : uvz n = uv n.toNat := by unfold uvz; rw [if_pos hin]
    rw [eU]
    obtain ⟨u, rfl⟩ : ∃ u : Nat, n = (u : Int) := ⟨n.toNat, by omega⟩
    have hu : u ≤ 1000000000000 := by omega
    rw [Int.toNat_natCast]
    have HL : Hid ((uv u).length ≤ 6) := Lib.hid (uv_len 5 u (by omega))
    clear eU hin
    go_enter Try.func93, Try.ntmps93
    go_wp2_with (first | (at_builtin; refine append_rd _ rfl _ _ 22 rfl 5 i0 (.int .u8 0) 1 Try.underlying22 Hhi.out hz0 hz1 hz2 rfl (by omega) rfl HO.out rfl HR.out (by simp; omega) ?_))
    intro v1 w1 h1 h2
    have HB := Lib.hid ((((Below.refl w.heap.size w).alloc (Nat.le_refl _) _).trans (HO.out.below (Nat.le_refl _) h2)))
    have H1 := Lib.hid h1
    clear h1 h2
    go_wp2_with fail
    refine (spec_in _ _ _ _ hw).mono ?_
    rintro e w2 ⟨rfl, rfl⟩
    go_wp2_with fail
    go_loopw [5, 1] (fun s x wr => ∃ (m : Nat) (d : List Int), m ≤ u ∧ d ++ uv m = uv u ∧ x = .int .i64 m ∧ Own 5 .u8 w.heap.size wr s (zs ++ d) ∧ Below w.heap.size w wr) (fun _ x _ => (intOf x).toNat)
    case atStart => exact ⟨u, [], Nat.le_refl _, rfl, rfl, by rw [List.append_nil]; exact H1.out, HB.out⟩
    case round =>
      obtain ⟨m, d, hm, hd, rfl, hO, hB⟩ := hrel
      have HO' := Lib.hid hO
      have HB' := Lib.hid hB
      have HD := Lib.hid hd
      clear hO hB hd HO HB H1
      have hdl : d.length + 1 ≤ 6 := by have := congrArg List.length HD.out; have := HL.out; have := uv_pos m; rw [List.length_append] at *; omega
      have HX : Hid (m ≤ 1000000000000) := Lib.hid (by omega)
      by_cases hb : 128 ≤ m
      · have e2 : decide ((127 : Int) < (m : Int)) = true := by simp; omega
        have e3 := i64_and127 (m : Int)
        have e4 := i64_or128 ((m : Int) % 128) (by omega) (by omega)
        go_wp2_with (first | (at_builtin; refine append_rd _ rfl _ _ 22 rfl 5 i0 (.int .u8 0) 1 Try.underlying22 Hhi.out hz0 hz1 hz2 rfl (by omega) rfl (HO'.out.alloc _) rfl (Rd.one _ _ _ _ (wf_u8_of (by omega) (by omega))) (by simp; omega) ?_))
        intro v' w' h1 h2
        have H1 := Lib.hid h1
        have H2 := Lib.hid (HB'.out.trans ((((Below.refl w.heap.size wr).alloc HO'.out.2.1 _).trans ((HO'.out.alloc _).below (Nat.le_refl _) h2))))
        clear h1 h2
        go_wp2
        go_roundw
        case rel =>
          refine ⟨m / 128, d ++ [(m : Int) % 128 + 128], by omega, ?_, by simp, H1.out, H2.out⟩
          rw [← HD.out, uv_big hb]; simp
        case measure => simp [intOf]; omega
      · have e2 : decide ((127 : Int) < (m : Int)) = false := by simp; omega
        have hm8 : (m : Int) ≤ 127 := by omega
        have hm9 : (m : Int) % 256 = m := by omega
        go_wp2_with (first | (at_builtin; refine append_rd _ rfl _ _ 22 rfl 5 i0 (.int .u8 0) 1 Try.underlying22 Hhi.out hz0 hz1 hz2 rfl (by omega) rfl (HO'.out.alloc _) rfl (Rd.one _ _ _ _ (wf_u8_of (by omega) (by omega))) (by simp; omega) ?_))
        intro v' w' h1 h2
        have H1 := Lib.hid h1
        have H2 := Lib.hid (HB'.out.trans ((((Below.refl w.heap.size wr).alloc HO'.out.2.1 _).trans ((HO'.out.alloc _).below (Nat.le_refl _) h2))))
        clear h1 h2
        go_wp2
        go_ret
        refine ⟨v', rfl, ?_, H2.out⟩
        rw [← HD.out, uv_small (by omega)]
        exact H1.out
  · have e1 := inR_no hin
    have eU : uvz n = [] := by unfold uvz; rw [if_neg hin]
    rw [eU, List.append_nil]
    clear eU hin
    go_enter Try.func93, Try.ntmps93
    go_wp2_with (first | (at_builtin; refine append_rd _ rfl _ _ 22 rfl 5 i0 (.int .u8 0) 1 Try.underlying22 Hhi.out hz0 hz1 hz2 rfl (by omega) rfl HO.out rfl HR.out (by simp; omega) ?_))
    intro v1 w1 h1 h2
    have HB := Lib.hid ((((Below.refl w.heap.size w).alloc (Nat.le_refl _) _).trans (HO.out.below (Nat.le_refl _) h2)))
    have H1 := Lib.hid h1
    clear h1 h2
    go_wp2_with fail
    refine (spec_in _ _ _ _ hw).mono ?_
    rintro e w2 ⟨rfl, rfl⟩
    go_wp2_with fail
    go_ret
    exact ⟨v1, rfl, H1.out, HB.out⟩

end Go.Proofs.Ytheefkhhafefoaa
