/- spec.l1Bent: bytes, mostly with one turned, cut, or with more behind. No conditions but a length that a machine holds. -/
import Derived.Test.YtabnigjaiheepaaDrawB
import Derived.Test.YtabnigjaiheepaaSlc
import Derived.Test.YtabnigjaiheepaaRdG
namespace Go.Proofs.Ytabnigjaiheepaa
open Go Go.RowKit
set_option linter.unusedVariables false

/-- What a bent row is told of. -/
def BentOut (B b hi : Nat) (w : World) (e : Ending) (w' : World) : Prop :=
  ∃ v zs, e = .returned v ∧ Rd w'.heap.size .u8 w' v zs ∧ zs.length ≤ hi ∧ Cur B b w' ∧ w.grownBy w' (some b)

set_option maxHeartbeats 1000000 in
theorem bent_any (B b lim : Nat) (w : World) (v : Value) (ys : List Int) (h : Cur B b w) (hv : Rd lim .u8 w v ys) (hlim : lim ≤ w.heap.size) (hn : ys.length ≤ 1000000) :
    Calls Try.prog 56 #[.pointer (some ⟨b, 0, none⟩), v] w (BentOut B b (ys.length + 1) w) := by
  obtain ⟨i0, hi, hz0, hz1, hz2⟩ := info_parts infou8
  have Hhi := Lib.hid hi
  have HLt := Lib.hid h.lt.2
  have HBb := Lib.hid h.lt.1
  have HC0 := Lib.hid (h.alloc (.cells #[] 5))
  have HG0 := Lib.hid (World.grownBy_alloc w (.cells #[] 5) (some b))
  have HR : Hid (Rd lim .u8 (w.alloc (.cells #[] 5)) v ys) := Lib.hid (hv.behind (((Below.refl w.heap.size w).alloc (Nat.le_refl _) _).mono hlim))
  have HO : Hid (Own 5 .u8 w.heap.size (w.alloc (.cells #[] 5)) (.slice (some ⟨w.heap.size, 0, none⟩) 0 0) []) := Lib.hid (Own.lit _ _ (Nat.le_refl _))
  clear h hi hv
  go_enter Try.func56, Try.ntmps56
  go_wp2_with (first | (at_builtin; refine append_rd _ rfl _ _ 22 rfl 5 i0 (.int .u8 0) 1 Try.underlying22 Hhi.out hz0 hz1 hz2 rfl (by omega) rfl HO.out rfl HR.out (by simp; omega) ?_))
  intro v1 w1 h1 g1
  have HC1 := Lib.hid (HC0.out.kept g1 (fun e => by have := HO.out.lt b e; have := HLt.out; omega) (fun r e => by have := HO.out.lt r e; have := HLt.out; have := HBb.out; omega))
  have HG1 := Lib.hid (grown_own HG0.out g1 (fun r e => (HO.out.lt r e).1))
  have HO1 := Lib.hid h1
  obtain ⟨a1, c1, rfl, hp1⟩ := h1.open
  have Hp1 := Lib.hid hp1
  have hlen : ys.length ≤ 9223372036854775806 := by omega
  clear h1 g1 hp1 HR HO HC0 HG0
  go_wp2_with fail
  refine (below_any B b 6 _ HC1.out (by omega) (by omega)).mono ?_
  rintro e w2 ⟨x, x0, x1, rfl, hc2, hg2⟩
  have HC2 := Lib.hid hc2
  have HO2 := Lib.hid (HO1.out.cur HLt.out hg2)
  have HG2 := Lib.hid (grown_trans HG1.out hg2)
  clear hc2 hg2 HO1 HC1 HG1
  rcases (show x = 0 ∨ x = 1 ∨ x = 2 ∨ 3 ≤ x by omega) with rfl | rfl | rfl | h3
  · by_cases hp : 0 < ys.length
    · have e1 : decide ((0 : Int) < (ys.length : Int)) = true := decide_eq_true (by omega)
      obtain ⟨g, rfl⟩ := Hp1.out hp
      go_wp2_with fail
      refine (below_any B b _ _ HC2.out (by omega) (by omega)).mono ?_
      rintro e w5 ⟨x5, x50, x51, rfl, hc5, hg5⟩
      obtain ⟨j, rfl⟩ : ∃ j : Nat, x5 = (j : Int) := ⟨x5.toNat, by omega⟩
      have hj : j < ys.length := by omega
      have HC5 := Lib.hid hc5
      have HO5 := Lib.hid (HO2.out.cur HLt.out hg5)
      have HG5 := Lib.hid (grown_trans HG2.out hg5)
      clear hc5 hg5
      go_wp2_with fail
      refine (below_any B b 256 _ HC5.out (by omega) (by omega)).mono ?_
      rintro e w6 ⟨y6, y60, y61, rfl, hc6, hg6⟩
      have HO6 := Lib.hid (HO5.out.cur HLt.out hg6)
      have HG6 := Lib.hid (grown_trans HG5.out hg6)
      have HC6 := Lib.hid hc6
      have c6 := HO6.out.cellAt rfl hj
      have f6 := HO6.out.free rfl j
      have y62 : y6 ≤ 255 := by omega
      clear hc6 hg6
      go_wp2_with fail
      obtain ⟨p1, p2⟩ := HO6.out.set (x := y6) (wf_u8_of (by omega) (by omega)) j
      have hgl := HO6.out.lt g rfl
      have HO7 := Lib.hid (show Own 5 .u8 w.heap.size (w6.setCell ⟨g, j, none⟩ (.int .u8 y6)) (.slice (some ⟨g, 0, none⟩) ys.length c1) (ys.set j y6) from p1)
      have HC7 := Lib.hid (HC6.out.kept p2 (fun e => by injection e with e; have := HLt.out; omega) (fun r hr => by injection hr with hr; have := HC6.out.lt; have := HLt.out; omega))
      have HG7 := Lib.hid (grown_own HG6.out p2 (fun r hr => by injection hr with hr; omega))
      obtain ⟨W7, hW7⟩ : ∃ W7, W7 = w6.setCell ⟨g, j, none⟩ (.int .u8 y6) := ⟨_, rfl⟩
      rw [← hW7] at HO7 HC7 HG7 ⊢
      clear hW7 p1 p2 c6 f6 hgl HO6 HC6 HG6
      go_ret
      exact ⟨_, _, rfl, HO7.out.rd, by rw [List.length_set]; omega, HC7.out, HG7.out⟩
    · have e1 : decide ((0 : Int) < (ys.length : Int)) = false := decide_eq_false (by omega)
      go_wp2_with fail
      go_ret
      exact ⟨_, _, rfl, HO2.out.rd, by omega, HC2.out, HG2.out⟩
  · go_wp2_with fail
    refine (below_any B b _ _ HC2.out (by omega) (by omega)).mono ?_
    rintro e w5 ⟨x5, x50, x51, rfl, hc5, hg5⟩
    obtain ⟨j, rfl⟩ : ∃ j : Nat, x5 = (j : Int) := ⟨x5.toNat, by omega⟩
    have hj : j ≤ ys.length := by omega
    have HC5 := Lib.hid hc5
    have HO5 := Lib.hid (HO2.out.cur HLt.out hg5).rd
    have HG5 := Lib.hid (grown_trans HG2.out hg5)
    clear hc5 hg5
    go_wp2_with (first | (refine slice_rd_h _ rfl _ _ _ i0 Try.underlying22 Hhi.out hz1 rfl HO5.out _ rfl rfl hj ?_))
    intro u6 hu6
    have HU := Lib.hid hu6
    clear hu6
    go_wp2_with fail
    go_ret
    exact ⟨_, _, rfl, HU.out, by rw [List.length_take]; omega, HC5.out, HG5.out⟩
  · go_wp2_with fail
    refine (int_alloc B b 0 255 [0, 1, 128, 255] _ 4 _ HC2.out rfl (by omega) (by omega) (by decide)).mono ?_
    rintro e w6 ⟨y6, y60, y61, rfl, hc6, hg6⟩
    have HO6 := Lib.hid ((HO2.out.cur HLt.out hg6).alloc (.cells #[.int .u8 y6] 5))
    have HG6 := Lib.hid (grown_trans HG2.out (grown_trans hg6 (World.grownBy_alloc w6 (.cells #[.int .u8 y6] 5) (some b))))
    have HC6 := Lib.hid (hc6.alloc (.cells #[.int .u8 y6] 5))
    have R6 := Lib.hid (Rd.one 5 .u8 w6 y6 (wf_u8_of (by omega) (by omega)))
    clear hc6 hg6
    go_wp2_with (first | (at_builtin; refine append_rd _ rfl _ _ 22 rfl 5 i0 (.int .u8 0) 1 Try.underlying22 Hhi.out hz0 hz1 hz2 rfl (by omega) rfl HO6.out rfl R6.out (by simp only [List.length_singleton]; omega) ?_))
    intro v7 w7 h7 g7
    have HC7 := Lib.hid (HC6.out.kept g7 (fun e => by have := HO6.out.lt b e; have := HLt.out; omega) (fun r e => by have := HO6.out.lt r e; have := HLt.out; have := HBb.out; omega))
    have HG7 := Lib.hid (grown_own HG6.out g7 (fun r e => (HO6.out.lt r e).1))
    have HO7 := Lib.hid h7
    clear h7 g7
    go_wp2_with fail
    go_ret
    exact ⟨_, _, rfl, HO7.out.rd, by simp, HC7.out, HG7.out⟩
  · have e1 : (x == 0) = false := by rw [beq_eq_false_iff_ne]; omega
    have e2 : (x == 1) = false := by rw [beq_eq_false_iff_ne]; omega
    have e3 : (x == 2) = false := by rw [beq_eq_false_iff_ne]; omega
    go_wp2_with fail
    go_ret
    exact ⟨_, _, rfl, HO2.out.rd, by omega, HC2.out, HG2.out⟩

end Go.Proofs.Ytabnigjaiheepaa
