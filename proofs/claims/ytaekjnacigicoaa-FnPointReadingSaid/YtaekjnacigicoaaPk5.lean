/- EvaluateAll and KeySavings, the program's and the document's. No conditions but numbers that a machine holds. -/
import Derived.Test.YtaekjnacigicoaaPk4
namespace Go.Proofs.Ytaekjnacigicoaa
open Go Go.RowKit
set_option linter.unusedVariables false
attribute [local irreducible] kh

theorem pown {D N : Nat} (h : N = 2 ^ D) : (2 : Int) ^ D = (N : Int) := by rw [h]; simp
theorem natw {n : Nat} (h : n ≤ 1000) : (Lit.int .i64 (n : Int)).wf = true := wf_i64_of (by omega) (by omega)
theorem eall_no {r b : Int} {cs : List Cor} (h : vk r b cs = false) : eall r b cs = [] := by unfold eall; rw [h]; rfl
theorem eall_yes {r b : Int} {cs : List Cor} (h : vk r b cs = true) : eall r b cs = (List.range (2 ^ cs.length)).map (fun i => (lf (r, b) cs i).2) := by unfold eall; rw [h]; rfl

set_option maxHeartbeats 4000000 in
/-- impl.EvaluateAll -/
theorem impl_eall {l : Nat} {w : World} {e0 : TypeId} {a : Option Addr} {cap : Nat} {cs : List Cor} {r b : Int} (h : (sliceT e0 tyCorrection).rd l w [.slice a cs.length cap] cs) (hl : l ≤ w.heap.size) (hr : (Lit.int .i64 r).wf = true) (hb : (Lit.int .i64 b).wf = true) :
    Calls Try.prog 10 #[.agg #[.int .i64 r, .int .i64 b, .slice a cs.length cap]] w fun e w' => ∃ v', e = .returned v' ∧ Own 3 .i64 w.heap.size w' v' (eall r b cs) ∧ Below w.heap.size w w' := by
  obtain ⟨i0, hi, hz0, hz1, hz2⟩ := info_parts infoi64
  have Hhi := Lib.hid hi
  obtain ⟨q, hq⟩ : ∃ q, q = eall r b cs := ⟨_, rfl⟩
  rw [← hq]
  have HQ := Lib.hid hq
  have HR := Lib.hid hr
  have HBi := Lib.hid hb
  have HB := Lib.hid ((Below.refl w.heap.size w).alloc (Nat.le_refl _) (.cells #[.int .i64 r, .int .i64 b, .slice a cs.length cap] 31))
  have H := Lib.hid h
  clear h hr hb hq hi
  go_enter Try.func10, Try.ntmps10
  go_wp2_with fail
  refine (of_any).mono ?_
  rintro e w1 ⟨rfl, hb⟩
  have hB := HB.out.trans (hb.mono HB.out.size)
  have hB2 := hB.alloc hB.size (.cells #[.int .i64 r, .int .i64 b, .slice a cs.length cap] 57)
  have hK := heap_alloc_new w1 (.cells #[.int .i64 r, .int .i64 b, .slice a cs.length cap] 57)
  clear hb hB
  go_wp2_with fail
  obtain ⟨W2, hW2⟩ : ∃ W, W = w1.alloc (.cells #[.int .i64 r, .int .i64 b, .slice a cs.length cap] 57) := ⟨_, rfl⟩
  rw [← hW2] at hB2 hK ⊢
  replace HB := Lib.hid hB2
  have HK := Lib.hid hK
  clear hB2 hK hW2
  refine (isValid_any ((sliceT e0 tyCorrection).behind H.out (HB.out.mono hl)) (Nat.le_trans hl HB.out.size) HR.out HBi.out).mono ?_
  cases hv : vk r b cs with
  | false =>
    have HE : Hid (q = []) := Lib.hid (by rw [HQ.out, eall_no hv])
    clear hv
    rintro e w3 ⟨rfl, hb⟩
    replace HB := Lib.hid (HB.out.trans (hb.mono HB.out.size))
    clear hb
    go_wp2_with fail
    go_ret
    exact ⟨_, rfl, by rw [HE.out]; exact Own.lit _ _ HB.out.size, HB.out.alloc HB.out.size _⟩
  | true =>
    have HV := Lib.hid hv
    obtain ⟨h16a, h16⟩ := vk_len hv
    obtain ⟨N, hN⟩ : ∃ N, N = 2 ^ cs.length := ⟨_, rfl⟩
    have HE : Hid (q = (List.range N).map (fun i => (lf (r, b) cs i).2)) := Lib.hid (by rw [HQ.out, eall_yes hv, hN])
    have hp := (pow_le6 h16).2
    have hp' := (pow_le6 h16).1
    rw [← hN] at hp hp'
    have ep := pown hN
    have H6 := Lib.hid h16
    clear hv hN
    rintro e w3 ⟨rfl, hb⟩
    replace HB := Lib.hid (HB.out.trans (hb.mono HB.out.size))
    replace HK := Lib.hid ((hb.block _ (lt_of_block HK.out)).trans HK.out)
    clear hb
    have k2 := blk_cell HK.out 2
    rw [th2] at k2
    go_wp2_with fail
    refine (depth_any).mono ?_
    rintro e w4 ⟨rfl, hw⟩
    obtain rfl : w3 = w4 := hw.symm
    go_wp2_with (first | (at_make; refine wpList_make_full _ rfl _ _ 37 rfl w3.heap.size 3 i0 (.int .i64 0) 1 Try.underlying37 Hhi.out hz0 hz1 .i64 .i64 _ _ N rfl rfl rfl rfl (by rw [hz2]; omega) (by unfold maxLen; omega) (Nat.le_refl _) ?_))
    intro w5 hown hg
    have hO := own_made hown hg.size (by decide)
    rw [← upt_rep (fun i => (lf (r, b) cs i).2) N] at hO
    have HO := Lib.hid hO
    have HB3 := Lib.hid ((Below.refl w3.heap.size w3).grown hg (Nat.le_refl _) (fun k hk => by cases hk))
    clear hown hg hO k2
    go_wp2_with fail
    go_loopw [19] (fun i wr => ∃ j : Nat, i = .int .i64 j ∧ j ≤ N ∧ Own 3 .i64 w3.heap.size wr (.slice (some ⟨w3.heap.size, 0, none⟩) N N) (upt (fun i => (lf (r, b) cs i).2) (fun _ => 0) j N) ∧ Below w3.heap.size w3 wr) (fun i _ => N - (intOf i).toNat)
    case atStart => exact ⟨0, rfl, Nat.zero_le _, HO.out, HB3.out⟩
    case round =>
      obtain ⟨j, rfl, hj, hO, hB⟩ := hrel
      replace HO := Lib.hid hO
      replace HB3 := Lib.hid hB
      have HKr := Lib.hid ((HB3.out.block _ (lt_of_block HK.out)).trans HK.out)
      have HBr := Lib.hid (HB.out.trans (HB3.out.mono HB.out.size))
      clear hO hB
      by_cases hlt : j < N
      · have e1 : decide ((j : Int) < (N : Int)) = true := by simp; omega
        have hj63 : j ≤ 63 := by omega
        have k0 := blk_cell HKr.out 0
        have k1 := blk_cell HKr.out 1
        have k2 := blk_cell HKr.out 2
        rw [th0] at k0
        rw [th1] at k1
        rw [th2] at k2
        go_wp2_with fail
        refine (bitAt_any ((sliceT e0 tyCorrection).behind H.out (HBr.out.mono hl)) (Nat.le_trans hl HBr.out.size) HR.out HBi.out H6.out hj63).mono ?_
        rintro e w6 ⟨rfl, hb⟩
        replace HB3 := Lib.hid (HB3.out.trans (hb.mono HB3.out.size))
        replace HO := Lib.hid (HO.out.next hb)
        have c2 := HO.out.cellAt (upt_length _ _ _ _) hlt
        have f2 := HO.out.free (upt_length _ _ _ _) j
        obtain ⟨p1, p2⟩ := HO.out.put (f := fun i => (lf (r, b) cs i).2) (j := j) (lf_wf2 HBi.out _ _)
        have P1 := Lib.hid p1
        have P2 := Lib.hid p2
        obtain ⟨x, hx⟩ : ∃ x, x = (lf (r, b) cs j).2 := ⟨_, rfl⟩
        rw [← hx] at P1 P2 ⊢
        clear hb p1 p2 k0 k1 k2 hx
        go_wp2_with fail
        go_roundw
        case rel => exact ⟨j + 1, by simp, hlt, P1.out, HB3.out.grown P2.out HB3.out.size (fun k hk => by injection hk with hk; omega)⟩
        case measure => simp [intOf]; omega
      · have e1 : decide ((j : Int) < (N : Int)) = false := by simp; omega
        have ej : j = N := by omega
        have HE2 : Hid (upt (fun i => (lf (r, b) cs i).2) (fun _ => 0) j N = q) := Lib.hid (by rw [HE.out, ej, upt_full])
        clear ej
        go_wp2_with fail
        go_ret
        exact ⟨_, rfl, by rw [← HE2.out]; exact HO.out.mono HB.out.size, HBr.out⟩

theorem sav_no {d : Int} (h : inR d 1 6 = false) : sav d = 0 := by unfold sav; rw [h]; rfl

end Go.Proofs.Ytaekjnacigicoaa
