/- Chapter 4's draws. No conditions. -/
import Derived.Test.YtabnigjaiheepaaDrawB
import Derived.Test.YtabnigjaiheepaaDeepByte
namespace Go.Proofs.Ytabnigjaiheepaa
open Go Go.RowKit
set_option linter.unusedVariables false

theorem Own2.cur {t e : TypeId} {k : IntKind} {l h b : Nat} {w w' : World} {v : Value} {zss : List (List Int)} (ho : Own2 t e k (ival l h) w v zss) (hb : b < l) (hg : w.grownBy w' (some b)) : Own2 t e k (ival l h) w' v zss :=
  ho.keptF (KeptF.of_grown (F := fun x => x = b) hg (fun x hx => by injection hx with hx; exact hx.symm)) (fun x hx hxb => by unfold ival at hx; omega)

set_option maxHeartbeats 1000000 in
/-- spec.l4List. -/
theorem list_any (B b : Nat) (w : World) (h : Cur B b w) :
    Calls Try.prog 59 #[.pointer (some ⟨b, 0, none⟩)] w fun e w' => ∃ v zss, e = .returned v ∧ Own2 22 5 .u8 (ival w.heap.size w'.heap.size) w' v zss ∧ zss.length ≤ 4 ∧ fl zss ≤ 5 * zss.length ∧ Cur B b w' ∧ w.grownBy w' (some b) := by
  obtain ⟨i1, hi', hy0, hy1, hy2⟩ := info_parts infou8s
  have Hhi' := Lib.hid hi'
  have H := Lib.hid h
  have HLt := Lib.hid h.lt
  clear h hi'
  have HO : Hid (Own2 22 5 .u8 (ival w.heap.size (w.alloc (.cells #[] 22)).heap.size) (w.alloc (.cells #[] 22)) (.slice (some ⟨w.heap.size, 0, none⟩) 0 0) []) := Lib.hid (Own2.lit _ _ _ (by unfold ival; simp))
  go_enter Try.func59, Try.ntmps59
  go_wp2_with fail
  refine (below_any B b 5 _ (H.out.alloc _) (by omega) (by omega)).mono ?_
  rintro e w1 ⟨x, x0, x1, rfl, hc1, hg1⟩
  have HO1 := Lib.hid ((HO.out.cur HLt.out.2 hg1).mono (F := ival w.heap.size (w.alloc (.cells #[] 22)).heap.size) (G := ival w.heap.size w1.heap.size) (fun y hy => by have := hg1.size; unfold ival at hy ⊢; omega))
  have HC1 := Lib.hid hc1
  have HG1 := Lib.hid (grown_trans (World.grownBy_alloc w (.cells #[] 22) (some b)) hg1)
  obtain ⟨n, rfl⟩ : ∃ n : Nat, x = (n : Int) := ⟨x.toNat, by omega⟩
  clear hc1 hg1 HO
  go_wp2_with fail
  go_loopw [3, 4] (fun s i wr => ∃ (j : Nat) (zss : List (List Int)), i = .int .i64 j ∧ zss.length + j ≤ 4 ∧ fl zss ≤ 5 * zss.length ∧ Own2 22 5 .u8 (ival w.heap.size wr.heap.size) wr s zss ∧ Cur B b wr ∧ w.grownBy wr (some b)) (fun _ i _ => (intOf i).toNat)
  case atStart => exact ⟨n, [], rfl, by simp; omega, by simp [fl_nil], HO1.out, HC1.out, HG1.out⟩
  case round =>
    obtain ⟨j, zss, rfl, hl, hfl, hO, hC, hG⟩ := hrel
    have HO := Lib.hid hO
    have HC := Lib.hid hC
    have HG := Lib.hid hG
    have HL := Lib.hid hl
    have HF := Lib.hid hfl
    have hj4 : j ≤ 4 := by omega
    clear hO hC hG hl hfl HO1 HC1 HG1
    by_cases hlt : 0 < j
    · have e1 : decide ((0 : Int) < (j : Int)) = true := decide_eq_true (by omega)
      go_wp2_with fail
      refine (below_any B b 6 _ HC.out (by omega) (by omega)).mono ?_
      rintro e w2 ⟨x, x0, x1, rfl, hc2, hg2⟩
      obtain ⟨m, rfl⟩ : ∃ m : Nat, x = (m : Int) := ⟨x.toNat, by omega⟩
      have HC2 := Lib.hid hc2
      have HG2 := Lib.hid hg2
      clear hc2 hg2
      go_wp2_with fail
      refine (bytes_any B b m _ HC2.out (by omega)).mono ?_
      rintro e w3 ⟨v3, zs, rfl, hO3, l1, l2, hc3, hg3⟩
      obtain ⟨a3, c3, hv3, _⟩ := hO3.open
      obtain ⟨L3, hL3⟩ : ∃ L3, zs.length = L3 := ⟨_, rfl⟩
      have HLz := Lib.hid (show zs.length ≤ 5 by omega)
      rw [hL3] at hv3
      subst hv3
      have HO3 := Lib.hid ((hO3.mono HG2.out.size).alloc (.cells #[.slice a3 L3 c3] 22))
      have hgB := grown_trans HG2.out hg3
      have HOa := Lib.hid ((HO.out.cur HLt.out.2 hgB).alloc (.cells #[.slice a3 L3 c3] 22))
      have HC3 := Lib.hid (hc3.alloc (.cells #[.slice a3 L3 c3] 22))
      have HG3 := Lib.hid (grown_trans HG.out (grown_trans hgB (World.grownBy_alloc w3 (.cells #[.slice a3 L3 c3] 22) (some b))))
      have HS := Lib.hid (show wr.heap.size ≤ (w3.alloc (.cells #[.slice a3 L3 c3] 22)).heap.size by have := hgB.size; simp; omega)
      have HLe : Hid ((zss.length + 1) * 24 ≤ 140737488355328) := Lib.hid (by have := HL.out; omega)
      clear hO3 hc3 hg3 hgB hL3
      go_wp2_with (first | (at_builtin; refine append_row _ rfl _ _ 33 rfl 22 5 i1 24 Try.underlying33 Hhi'.out hy0 hy1 hy2 (by omega) rfl HOa.out HG.out.size HS.out rfl (cell_one_new _ _ _ 0 _ rfl) HO3.out HLe.out ?_))
      intro v4 w4 h3 h4
      have hin := fun r hr => HOa.out.in_ r hr
      have HC4 := Lib.hid (HC3.out.kept h4 (fun e => by have := hin b e; have := HLt.out; unfold ival at this; unfold ival at *; omega) (fun r e => by have := hin r e; have := HLt.out; unfold ival at *; omega))
      have HG4 := Lib.hid (grown_own HG3.out h4 (fun r e => (hin r e).1))
      have H3 := Lib.hid h3
      clear h3 h4 hin
      go_wp2_with fail
      go_roundw
      case rel =>
        refine ⟨j - 1, zss ++ [zs], by simp; omega, by have := HL.out; simp; omega, ?_, H3.out, HC4.out, HG4.out⟩
        have h1 := HF.out
        have h2 := HLz.out
        rw [fl_append, fl_cons, fl_nil, List.length_append]
        simp only [List.length_cons, List.length_nil]
        omega
      case measure => simp [intOf]; omega
    · have hj0 : j = 0 := by omega
      subst hj0
      go_wp2_with fail
      go_ret
      exact ⟨_, zss, rfl, HO.out, by have := HL.out; omega, HF.out, HC.out, HG.out⟩

end Go.Proofs.Ytabnigjaiheepaa
