/- Chapter 4's draws. No conditions. -/
import Derived.Test.YtcemadckgimhhaaDrawB
import Derived.Test.YtcemadckgimhhaaDeepByte
namespace Go.Proofs.Ytcemadckgimhhaa
open Go Go.RowKit
set_option linter.unusedVariables false

theorem Own2.cur {t e : TypeId} {k : IntKind} {l h b : Nat} {w w' : World} {v : Value} {zss : List (List Int)} (ho : Own2 t e k (ival l h) w v zss) (hb : b < l) (hg : w.grownBy w' (some b)) : Own2 t e k (ival l h) w' v zss :=
  ho.keptF (KeptF.of_grown (F := fun x => x = b) hg (fun x hx => by injection hx with hx; exact hx.symm)) (fun x hx hxb => by unfold ival at hx; omega)

set_option maxHeartbeats 1000000 in
/-- spec.l4List. -/
theorem list_any (B b : Nat) (w : World) (h : Cur B b w) :
    Calls Try.prog 45 #[.pointer (some ⟨b, 0, none⟩)] w fun e w' => ∃ v zss, e = .returned v ∧ Own2 22 5 .u8 (ival w.heap.size w'.heap.size) w' v zss ∧ zss.length ≤ 4 ∧ fl zss ≤ 5 * zss.length ∧ Cur B b w' ∧ w.grownBy w' (some b) := by
  obtain ⟨i1, hi', hy0, hy1, hy2⟩ := info_parts infou8s
  have Hhi' := Lib.hid hi'
  have H := Lib.hid h
  have HLt := Lib.hid h.lt
  clear h hi'
  have HO : Hid (Own2 22 5 .u8 (ival w.heap.size (w.alloc (.cells #[] 22)).heap.size) (w.alloc (.cells #[] 22)) (.slice (some ⟨w.heap.size, 0, none⟩) 0 0) []) := Lib.hid (Own2.lit _ _ _ (by unfold ival; simp))
  go_enter Try.func45, Try.ntmps45
  go_wp2_with fail
  refine (below_any B b 5 _ (H.out.alloc _) (by omega) (by omega)).mono ?_
  rintro e w1 ⟨x, x0, x1, rfl, hc1, hg1⟩
  have HO1 := Lib.hid ((HO.out.cur HLt.out.2 hg1).mono (F := ival w.heap.size (w.alloc (.cells #[] 22)).heap.size) (G := ival w.heap.size w1.heap.size) (fun y hy => by have := hg1.size; unfold ival at hy ⊢; omega))
  have HC1 := Lib.hid hc1
  have HG1 := Lib.hid (grown_trans (World.grownBy_alloc w (.cells #[] 22) (some b)) hg1)
  obtain ⟨n, rfl⟩ : ∃ n : Nat, x = (n : Int) := ⟨x.toNat, by omega⟩
  clear hc1 hg1 HO
  go_wp2_with fail
  go_loopw [3, 4] (fun s i wr => ∃ (j : Nat) (zss : List (List Int)), i = .int .i64 j ∧ zss.length + j ≤ 4 ∧ fl zss ≤ 5 * zss.length ∧ Own2 22 5 .u8 (ival w.heap.size wr.heap.size) wr s zss ∧ Cur B b wr ∧ w.grownBy wr (some b)) (fun _ i _ => (intOf i).toNat)
  case atStart => exact ⟨n, [], rfl, by simp; omega, by simp [fl_nil], HO1.out, HC1.out, HG1.out⟩
  case round =>
    obtain ⟨j, zss, rfl, hl, hfl, hO, hC, hG⟩ := hrel
    have HO := Lib.hid hO
    have HC := Lib.hid hC
    have HG := Lib.hid hG
    have HL := Lib.hid hl
    have HF := Lib.hid hfl
    have hj4 : j ≤ 4 := by omega
    clear hO hC hG hl hfl HO1 HC1 HG1
    by_cases hlt : 0 < j
    · have e1 : decide ((0 : Int) < (j : Int)) = true := decide_eq_true (by omega)
      go_wp2_with fail
      refine (below_any B b 6 _ HC.out (by omega) (by omega)).mono ?_
      rintro e w2 ⟨x, x0, x1, rfl, hc2, hg2⟩
      obtain ⟨m, rfl⟩ : ∃ m : Nat, x = (m : Int) := ⟨x.toNat, by omega⟩
      have HC2 := Lib.hid hc2
      have HG2 := Lib.hid hg2
      clear hc2 hg2
      go_wp2_with fail
      refine (bytes_any B b m _ HC2.out (by omega)).mono ?_
      rintro e w3 ⟨v3, zs, rfl, hO3, l1, l2, hc3, hg3⟩
      obtain ⟨a3, c3, hv3, _⟩ := hO3.open
      obtain ⟨L3, hL3⟩ : ∃ L3, zs.length = L3 := ⟨_, rfl⟩
      have HLz := Lib.hid (show zs.length ≤ 5 by omega)
      rw [hL3] at hv3
      subst hv3
      have HO3 := Lib.hid ((hO3.mono HG2.out.size).alloc (.cells #[.slice a3 L3 c3] 22))
      have hgB := grown_trans HG2.out hg3
      have HOa := Lib.hid ((HO.out.cur HLt.out.2 hgB).alloc (.cells #[.slice a3 L3 c3] 22))
      have HC3 := Lib.hid (hc3.alloc (.cells #[.slice a3 L3 c3] 22))
      have HG3 := Lib.hid (grown_trans HG.out (grown_trans hgB (World.grownBy_alloc w3 (.cells #[.slice a3 L3 c3] 22) (some b))))
      have HS := Lib.hid (show wr.heap.size ≤ (w3.alloc (.cells #[.slice a3 L3 c3] 22)).heap.size by have := hgB.size; simp; omega)
      have HLe : Hid ((zss.length + 1) * 24 ≤ 140737488355328) := Lib.hid (by have := HL.out; omega)
      clear hO3 hc3 hg3 hgB hL3
      go_wp2_with (first | (at_builtin; refine append_row _ rfl _ _ 29 rfl 22 5 i1 24 Try.underlying29 Hhi'.out hy0 hy1 hy2 (by omega) rfl HOa.out HG.out.size HS.out rfl (cell_one_new _ _ _ 0 _ rfl) HO3.out HLe.out ?_))
      intro v4 w4 h3 h4
      have hin := fun r hr => HOa.out.in_ r hr
      have HC4 := Lib.hid (HC3.out.kept h4 (fun e => by have := hin b e; have := HLt.out; unfold ival at this; unfold ival at *; omega) (fun r e => by have := hin r e; have := HLt.out; unfold ival at *; omega))
      have HG4 := Lib.hid (grown_own HG3.out h4 (fun r e => (hin r e).1))
      have H3 := Lib.hid h3
      clear h3 h4 hin
      go_wp2_with fail
      go_roundw
      case rel =>
        refine ⟨j - 1, zss ++ [zs], by simp; omega, by have := HL.out; simp; omega, ?_, H3.out, HC4.out, HG4.out⟩
        have h1 := HF.out
        have h2 := HLz.out
        rw [fl_append, fl_cons, fl_nil, List.length_append]
        simp only [List.length_cons, List.length_nil]
        omega
      case measure => simp [intOf]; omega
    · have hj0 : j = 0 := by omega
      subst hj0
      go_wp2_with fail
      go_ret
      exact ⟨_, zss, rfl, HO.out, by have := HL.out; omega, HF.out, HC.out, HG.out⟩

/-- spec.DrawXorAll. -/
theorem draw_xa (B : Nat) (a : Option Addr) (len cap : Nat) (zs : List Int) (w : World) (hB : B ≤ w.heap.size) (hrow : RowB B .u8 w a len cap zs) (hl : len ≤ maxLen) :
    Calls Try.prog 17 #[.slice a len cap] w fun e w' => ∃ v zss, e = .returned v ∧ Own2 22 5 .u8 (ival w.heap.size w'.heap.size) w' v zss ∧ zss.length ≤ 4 ∧ fl zss ≤ 5 * zss.length ∧ Below w.heap.size w w' := by
  have HR := Lib.hid hrow
  clear hrow
  go_enter Try.func17, Try.ntmps17
  go_wp2_with fail
  refine (new_any B a len cap zs _ hB HR.out hl).mono ?_
  rintro e w1 ⟨rfl, hc, hg⟩
  have HC := Lib.hid hc
  have HG := Lib.hid (grown_none (r := some w.heap.size) hg)
  clear hc hg
  go_wp2_with fail
  refine (list_any B w.heap.size _ HC.out).mono ?_
  rintro e w2 ⟨v, zss, rfl, hO, l1, l2, hc2, hg2⟩
  have HO := Lib.hid (hO.mono (G := ival w.heap.size w2.heap.size) (fun y hy => by have := HG.out.size; unfold ival at hy ⊢; omega))
  have HG2 := Lib.hid (below_of_grown (B := w.heap.size) (grown_trans HG.out hg2) (Nat.le_refl _) (Nat.le_refl _))
  have HL2 := Lib.hid l2
  clear hO hc2 hg2 l2
  go_wp2_with fail
  go_ret
  exact ⟨_, zss, rfl, HO.out, l1, HL2.out, HG2.out⟩

/-- spec.DrawXorBytes. -/
theorem draw_xb (B : Nat) (a : Option Addr) (len cap : Nat) (zs : List Int) (w : World) (hB : B ≤ w.heap.size) (hrow : RowB B .u8 w a len cap zs) (hl : len ≤ maxLen) :
    Calls Try.prog 12 #[.slice a len cap] w fun e w' => ∃ v u xs ys, e = .returned (.tuple #[v, u]) ∧ Own 5 .u8 w.heap.size w' v xs ∧ Own 5 .u8 w.heap.size w' u ys ∧ xs.length ≤ 6 ∧ ys.length ≤ 6 ∧ Below w.heap.size w w' := by
  have HR := Lib.hid hrow
  clear hrow
  go_enter Try.func12, Try.ntmps12
  go_wp2_with fail
  refine (new_any B a len cap zs _ hB HR.out hl).mono ?_
  rintro e w1 ⟨rfl, hc, hg⟩
  have HC := Lib.hid hc
  have HG := Lib.hid (grown_none (r := some w.heap.size) hg)
  clear hc hg
  go_wp2_with fail
  refine (below_any B w.heap.size 7 _ HC.out (by omega) (by omega)).mono ?_
  rintro e w2 ⟨x, x0, x1, rfl, hc2, hg2⟩
  obtain ⟨n, rfl⟩ : ∃ n : Nat, x = (n : Int) := ⟨x.toNat, by omega⟩
  have HC2 := Lib.hid hc2
  have HG2 := Lib.hid (grown_trans HG.out hg2)
  have HLt := Lib.hid (show w.heap.size < w2.heap.size from HC2.out.lt.2)
  clear hc2 hg2
  go_wp2_with fail
  refine (bytes_any B w.heap.size n _ HC2.out (by omega)).mono ?_
  rintro e w3 ⟨v, xs, rfl, hO, l1, l2, hc3, hg3⟩
  have HC3 := Lib.hid hc3
  have HO3 := Lib.hid hO
  have HG3 := Lib.hid (grown_trans HG2.out hg3)
  clear hc3 hO hg3
  go_wp2_with fail
  refine (below_any B w.heap.size 7 _ HC3.out (by omega) (by omega)).mono ?_
  rintro e w4 ⟨y, y0, y1, rfl, hc4, hg4⟩
  obtain ⟨m, rfl⟩ : ∃ n : Nat, y = (n : Int) := ⟨y.toNat, by omega⟩
  have HC4 := Lib.hid hc4
  have HO4 := Lib.hid (HO3.out.cur HLt.out hg4)
  have HG4 := Lib.hid (grown_trans HG3.out hg4)
  clear hc4 hg4
  go_wp2_with fail
  refine (bytes_any B w.heap.size m _ HC4.out (by omega)).mono ?_
  rintro e w5 ⟨u, ys, rfl, hO, l3, l4, hc5, hg5⟩
  have HO5 := Lib.hid ((HO4.out.cur HLt.out hg5).mono HG2.out.size)
  have HU5 := Lib.hid (hO.mono HG4.out.size)
  have HG5 := Lib.hid (below_of_grown (B := w.heap.size) (grown_trans HG4.out hg5) (Nat.le_refl _) (Nat.le_refl _))
  clear hc5 hO hg5
  go_wp2_with fail
  go_ret2
  exact ⟨v, u, xs, ys, rfl, HO5.out, HU5.out, by omega, by omega, HG5.out⟩

/-- spec.DrawSplitBytes. -/
theorem draw_sp (B : Nat) (a : Option Addr) (len cap : Nat) (zs : List Int) (w : World) (hB : B ≤ w.heap.size) (hrow : RowB B .u8 w a len cap zs) (hl : len ≤ maxLen) :
    Calls Try.prog 18 #[.slice a len cap] w fun e w' => ∃ v xs n, e = .returned (.tuple #[v, .int .i64 n]) ∧ Own 5 .u8 w.heap.size w' v xs ∧ xs.length ≤ 11 ∧ (-1 ≤ n ∧ n ≤ 401) ∧ Below w.heap.size w w' := by
  have HR := Lib.hid hrow
  clear hrow
  go_enter Try.func18, Try.ntmps18
  go_wp2_with fail
  refine (new_any B a len cap zs _ hB HR.out hl).mono ?_
  rintro e w1 ⟨rfl, hc, hg⟩
  have HC := Lib.hid hc
  have HG := Lib.hid (grown_none (r := some w.heap.size) hg)
  clear hc hg
  go_wp2_with fail
  refine (below_any B w.heap.size 12 _ HC.out (by omega) (by omega)).mono ?_
  rintro e w2 ⟨x, x0, x1, rfl, hc2, hg2⟩
  obtain ⟨n, rfl⟩ : ∃ n : Nat, x = (n : Int) := ⟨x.toNat, by omega⟩
  have HC2 := Lib.hid hc2
  have HG2 := Lib.hid (grown_trans HG.out hg2)
  have HLt := Lib.hid (show w.heap.size < w2.heap.size from HC2.out.lt.2)
  clear hc2 hg2
  go_wp2_with fail
  refine (bytes_any B w.heap.size n _ HC2.out (by omega)).mono ?_
  rintro e w3 ⟨v, xs, rfl, hO, l1, l2, hc3, hg3⟩
  have HC3 := Lib.hid hc3
  have HO3 := Lib.hid hO
  have HG3 := Lib.hid (grown_trans HG2.out hg3)
  clear hc3 hO hg3
  go_wp2_with fail
  refine (int_alloc B w.heap.size (-1) 401 [-1, 0, 1, 3, 5, 400, 401] _ 7 _ HC3.out rfl (by omega) (by omega) (by decide)).mono ?_
  rintro e w4 ⟨y, y0, y1, rfl, hc4, hg4⟩
  have HO4 := Lib.hid ((HO3.out.cur HLt.out hg4).mono HG2.out.size)
  have HG4 := Lib.hid (below_of_grown (B := w.heap.size) (grown_trans HG3.out hg4) (Nat.le_refl _) (Nat.le_refl _))
  clear hc4 hg4
  go_wp2_with fail
  go_ret2
  exact ⟨v, xs, y, rfl, HO4.out, by omega, ⟨y0, y1⟩, HG4.out⟩

end Go.Proofs.Ytcemadckgimhhaa
