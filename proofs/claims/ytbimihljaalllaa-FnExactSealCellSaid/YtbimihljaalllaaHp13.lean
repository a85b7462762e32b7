/- The laws' helpers on Plain: size, copy, equality, marks. No conditions but a size that a machine holds. -/
import Derived.Test.YtbimihljaalllaaBaX
import Derived.Test.YtbimihljaalllaaHeldL
import Derived.Deep.RegionHeld3
import Derived.Deep.DeepCutAuto
namespace Go.Proofs.Ytbimihljaalllaa
open Go Go.RowKit
set_option linter.unusedVariables false

abbrev VPlain := Int × (List Int)
def tyPlain : Ty VPlain := iC (sliceT 5 u8T)

theorem rd_Plain {l : Nat} {w : World} {cs : List Value} {x : VPlain} (h : tyPlain.rd l w cs x) : ∃ (a1 : Option Addr) (c1 : Nat), cs = [.int .i64 x.1, .slice a1 x.2.length c1] ∧ (Lit.int .i64 x.1).wf = true ∧ (sliceT 5 u8T).rd l w [.slice a1 x.2.length c1] x.2 := by
  obtain ⟨r0, rfl, h0, h⟩ := rd_int h
  obtain ⟨a1, c1, rfl, _⟩ := sl_open h
  have h1 := h
  exact ⟨a1, c1, rfl, h0, h1⟩
theorem own_Plain {F : Nat → Prop} {w : World} {cs : List Value} {x : VPlain} (h : tyPlain.own F w cs x) : ∃ (a1 : Option Addr) (c1 : Nat) (F1 : Nat → Prop), cs = [.int .i64 x.1, .slice a1 x.2.length c1] ∧ (Lit.int .i64 x.1).wf = true ∧ (sliceT 5 u8T).own F1 w [.slice a1 x.2.length c1] x.2 ∧ (∀ b, F1 b → F b) := by
  obtain ⟨r0, rfl, h0, h⟩ := own_int h
  obtain ⟨a1, c1, rfl, _⟩ := slo_open h
  have h1 := h
  exact ⟨a1, c1, F, rfl, h0, h1, fun b hb => hb⟩
theorem rd_mkPlain {l : Nat} {w : World} {x : VPlain} {a1 : Option Addr} {c1 : Nat} (h0 : (Lit.int .i64 x.1).wf = true) (h1 : (sliceT 5 u8T).rd l w [.slice a1 x.2.length c1] x.2) : tyPlain.rd l w [.int .i64 x.1, .slice a1 x.2.length c1] x :=
  int_rd h0 (h1)
theorem own_mkPlain {F : Nat → Prop} {w : World} {x : VPlain} {a1 : Option Addr} {c1 : Nat} {F1 : Nat → Prop} (h0 : (Lit.int .i64 x.1).wf = true) (h1 : (sliceT 5 u8T).own F1 w [.slice a1 x.2.length c1] x.2) (s1 : ∀ b, F1 b → F b)  : tyPlain.own F w [.int .i64 x.1, .slice a1 x.2.length c1] x := by
  exact tyPlain.omono (F := _) (int_own h0 (h1)) (fun b hb => s1 b hb)

set_option maxRecDepth 20000 in
set_option maxHeartbeats 2000000 in
/-- laws.toPlain -/
theorem toPlain_any {l : Nat} {w : World} {cs : List Value} {x : VPlain} (h : tyPlain.rd l w cs x) (hl : l ≤ w.heap.size) (hn : tyPlain.tot x ≤ 1073741824) :
    Calls Try.prog 9 #[.agg cs.toArray] w fun e w' => ∃ ds, e = .returned (.agg ds.toArray) ∧ tyPlain.own (ival w.heap.size w'.heap.size) w' ds x ∧ Below w.heap.size w w' := by
  obtain ⟨a1, c1, rfl, h0, h1⟩ := rd_Plain h
  have H0 := Lib.hid h0
  have H1 := Lib.hid h1
  have N1 : Hid ((sliceT 5 u8T).tot x.2 ≤ 1073741824) := Lib.hid hn
  have HB := Lib.hid ((((Below.refl w.heap.size w).alloc (Nat.le_refl _) (.cells #[.int .i64 x.1, .slice a1 x.2.length c1] 24)).alloc (by simp) (.cells #[.int .i64 0, .slice none 0 0] 28)).alloc (by simp; omega) (.cells #[.int .i64 x.1, .slice none 0 0] 28))
  have K := blocks3T w (.cells #[.int .i64 x.1, .slice a1 x.2.length c1] 24) (.cells #[.int .i64 0, .slice none 0 0] 28) (.cells #[.int .i64 x.1, .slice none 0 0] 28)
  have KA := Lib.hid K.1
  have KR := Lib.hid K.2.1
  have KO := Lib.hid K.2.2
  obtain ⟨W0, hW0⟩ : ∃ W, W = ((w.alloc (.cells #[.int .i64 x.1, .slice a1 x.2.length c1] 24)).alloc (.cells #[.int .i64 0, .slice none 0 0] 28)).alloc (.cells #[.int .i64 x.1, .slice none 0 0] 28) := ⟨_, rfl⟩
  rw [← hW0] at HB KA KR KO
  have HW0 := Lib.hid hW0
  have HS := Lib.hid (show w.heap.size ≤ W0.heap.size from HB.out.size)
  have HS3 : Hid (w.heap.size + 1 + 1 < W0.heap.size) := Lib.hid (lt_of_block KO.out)
  clear h hn K hW0 h0 h1
  go_enter Try.func9, Try.ntmps9
  go_wp2_with fail
  rw [← HW0.out]
  refine (toByteS_t ((sliceT 5 u8T).behind H1.out (HB.out.mono hl)) (Nat.le_trans hl HB.out.size) N1.out).mono ?_
  rintro e w1 ⟨v1, rfl, ho, hb⟩
  obtain ⟨b1, m1, hv, _⟩ := slo_open ho
  injection hv with hv
  subst hv
  replace KA := Lib.hid ((hb.block _ (lt_of_block KA.out)).trans KA.out)
  replace KR := Lib.hid ((hb.block _ (lt_of_block KR.out)).trans KR.out)
  replace KO := Lib.hid ((hb.block _ (lt_of_block KO.out)).trans KO.out)
  have O1 := Lib.hid ho
  have S1 : Hid (w1.heap.size ≤ w1.heap.size) := Lib.hid (Nat.le_refl _)
  replace HB := Lib.hid (HB.out.trans (hb.mono HB.out.size))
  clear hb ho
  have cA0 := blk_cell KA.out 0
  have cO0 := blk_cell KO.out 0
  have fO0 := blk_free KO.out 0
  have cR0 := blk_cell KR.out 0
  have fR0 := blk_free KR.out 0
  have cA1 := blk_cell KA.out 1
  have cO1 := blk_cell KO.out 1
  have fO1 := blk_free KO.out 1
  have cR1 := blk_cell KR.out 1
  have fR1 := blk_free KR.out 1
  simp only [show ∀ x0 x1 : Value, (#[x0, x1] : Array Value)[0]? = some x0 from fun _ _ => rfl, show ∀ x0 x1 : Value, (#[x0, x1] : Array Value)[1]? = some x1 from fun _ _ => rfl] at cA0 cO0 cR0 cA1 cO1 cR1
  go_wp2_with fail
  clear cA0 cO0 fO0 cR0 fR0 cA1 cO1 fO1 cR1 fR1
  have kk := KeptF.refl (fun b => b = w.heap.size + 1 ∨ b = w.heap.size + 1 + 1) w1
  have hg := grown_set w1 (w.heap.size + 1 + 1) 1 (.slice b1 x.2.length m1)
  have t1 := blk_set KO.out 1 (.slice b1 x.2.length m1)
  have tA := (hg.block (w.heap.size) (lt_of_block KA.out) (by intro e; injection e with e; omega)).trans KA.out
  replace KA := Lib.hid tA
  have tR := (hg.block (w.heap.size + 1) (lt_of_block KR.out) (by intro e; injection e with e; omega)).trans KR.out
  replace KR := Lib.hid tR
  replace KO := Lib.hid t1
  replace kk := kk.trans (KeptF.of_grown hg (fun b hb => by injection hb with hb; omega))
  clear hg t1 tA tR
  have hg := grown_set (w1.setCell ⟨w.heap.size + 1 + 1, 1, none⟩ (.slice b1 x.2.length m1)) (w.heap.size + 1) 0 (.int .i64 x.1)
  have t1 := blk_set KR.out 0 (.int .i64 x.1)
  have tA := (hg.block (w.heap.size) (lt_of_block KA.out) (by intro e; injection e with e; omega)).trans KA.out
  replace KA := Lib.hid tA
  have tO := (hg.block (w.heap.size + 1 + 1) (lt_of_block KO.out) (by intro e; injection e with e; omega)).trans KO.out
  replace KO := Lib.hid tO
  replace KR := Lib.hid t1
  replace kk := kk.trans (KeptF.of_grown hg (fun b hb => by injection hb with hb; omega))
  clear hg t1 tA tO
  have hg := grown_set ((w1.setCell ⟨w.heap.size + 1 + 1, 1, none⟩ (.slice b1 x.2.length m1)).setCell ⟨w.heap.size + 1, 0, none⟩ (.int .i64 x.1)) (w.heap.size + 1) 1 (.slice b1 x.2.length m1)
  have t1 := blk_set KR.out 1 (.slice b1 x.2.length m1)
  have tA := (hg.block (w.heap.size) (lt_of_block KA.out) (by intro e; injection e with e; omega)).trans KA.out
  replace KA := Lib.hid tA
  have tO := (hg.block (w.heap.size + 1 + 1) (lt_of_block KO.out) (by intro e; injection e with e; omega)).trans KO.out
  replace KO := Lib.hid tO
  replace KR := Lib.hid t1
  replace kk := kk.trans (KeptF.of_grown hg (fun b hb => by injection hb with hb; omega))
  clear hg t1 tA tO
  obtain ⟨V0, hV0⟩ : ∃ W, W = (((w1.setCell ⟨w.heap.size + 1 + 1, 1, none⟩ (.slice b1 x.2.length m1)).setCell ⟨w.heap.size + 1, 0, none⟩ (.int .i64 x.1)).setCell ⟨w.heap.size + 1, 1, none⟩ (.slice b1 x.2.length m1)) := ⟨_, rfl⟩
  rw [← hV0] at KA KR KO kk ⊢
  replace O1 := Lib.hid ((sliceT 5 u8T).okept O1.out kk (fun b hb e => by have := HS3.out; unfold ival at hb; omega))
  replace S1 := Lib.hid (Nat.le_trans S1.out kk.size)
  replace HB := Lib.hid (HB.out.trans (kk.below (B := w.heap.size) (fun b hb => by omega) HB.out.size))
  clear kk hV0
  have hlo := HS.out
  have q0 : tyPlain.own (ival w.heap.size V0.heap.size) V0 [.int .i64 x.1, .slice b1 x.2.length m1] x := own_mkPlain H0.out O1.out (fun b hb => by have := S1.out; unfold ival at hb ⊢; omega) 
  have Q0 := Lib.hid q0
  have r0 := blk_cell KR.out 0
  have r1 := blk_cell KR.out 1
  simp [Array.setIfInBounds] at r0 r1
  exact bodyPost_ret (v := .agg #[.int .i64 x.1, .slice b1 x.2.length m1]) (by simp [results, Try.results9, go_sem, r0, r1]) rfl ⟨_, rfl, Q0.out, HB.out⟩

set_option maxRecDepth 20000 in
set_option maxHeartbeats 2000000 in
/-- laws.eqPlain at the same values. -/
theorem eqPlain_same {l1 l2 : Nat} {w : World} {c d : List Value} {x : VPlain} (hu : tyPlain.rd l1 w c x) (hv : tyPlain.rd l2 w d x) (hl1 : l1 ≤ w.heap.size) (hl2 : l2 ≤ w.heap.size) :
    Calls Try.prog 12 #[.agg c.toArray, .agg d.toArray] w fun e w' => e = .returned (.bool true) ∧ Below w.heap.size w w' := by
  obtain ⟨a1, c1, rfl, h0, h1⟩ := rd_Plain hu
  obtain ⟨b1, m1, rfl, k0, k1⟩ := rd_Plain hv
  have H1 := Lib.hid h1
  have G1 := Lib.hid k1
  have HB := Lib.hid (((Below.refl w.heap.size w).alloc (Nat.le_refl _) (.cells #[.int .i64 x.1, .slice a1 x.2.length c1] 28)).alloc (by simp) (.cells #[.int .i64 x.1, .slice b1 x.2.length m1] 28))
  have K := blocks2T w (.cells #[.int .i64 x.1, .slice a1 x.2.length c1] 28) (.cells #[.int .i64 x.1, .slice b1 x.2.length m1] 28)
  have KA := Lib.hid K.1
  have KB := Lib.hid K.2
  obtain ⟨W0, hW0⟩ : ∃ W, W = (w.alloc (.cells #[.int .i64 x.1, .slice a1 x.2.length c1] 28)).alloc (.cells #[.int .i64 x.1, .slice b1 x.2.length m1] 28) := ⟨_, rfl⟩
  rw [← hW0] at HB KA KB
  have HW0 := Lib.hid hW0
  clear hu hv K hW0 h0 k0 h1 k1
  go_enter Try.func12, Try.ntmps12
  go_wp2_with fail
  rw [← HW0.out]
  refine (eqByteS_same_t ((sliceT 5 u8T).behind H1.out (HB.out.mono hl1)) ((sliceT 5 u8T).behind G1.out (HB.out.mono hl2)) (Nat.le_trans hl1 HB.out.size) (Nat.le_trans hl2 HB.out.size)).mono ?_
  rintro e w1 ⟨rfl, hb⟩
  replace KA := Lib.hid ((hb.block _ (lt_of_block KA.out)).trans KA.out)
  replace KB := Lib.hid ((hb.block _ (lt_of_block KB.out)).trans KB.out)
  replace HB := Lib.hid (HB.out.trans (hb.mono HB.out.size))
  clear hb
  go_wp2_with fail
  go_ret
  exact ⟨rfl, HB.out⟩

set_option maxRecDepth 20000 in
set_option maxHeartbeats 2000000 in
/-- laws.szPlain -/
theorem szPlain_any {l : Nat} {w : World} {cs : List Value} {x : VPlain} {left : Int} (h : tyPlain.rd l w cs x) (h0 : 0 ≤ left) (h1 : left ≤ 1048576) (hl : l ≤ w.heap.size) :
    Calls Try.prog 7 #[.agg cs.toArray, .int .i64 left] w fun e w' => e = .returned (.int .i64 (if (tyPlain.tot x : Int) ≤ left then left - tyPlain.tot x else -1)) ∧ Below w.heap.size w w' := by
  obtain ⟨a1, c1, rfl, h0, h1⟩ := rd_Plain h
  have HT : Hid (tyPlain.tot x = (sliceT 5 u8T).tot x.2) := Lib.hid rfl
  obtain ⟨q, hq⟩ : ∃ q : Int, q = (if ((sliceT 5 u8T).tot x.2 : Int) ≤ left then left - (sliceT 5 u8T).tot x.2 else -1) := ⟨_, rfl⟩
  rw [HT.out, ← hq]
  have HQ := Lib.hid hq
  have hqb : (0 ≤ q ∧ q ≤ 1048576) ∨ q = -1 := by rw [hq]; split <;> omega
  have HB := Lib.hid ((Below.refl w.heap.size w).alloc (Nat.le_refl _) (.cells #[.int .i64 x.1, .slice a1 x.2.length c1] 24))
  have H := Lib.hid ((sliceT 5 u8T).behind h1 (HB.out.mono hl))
  clear h hq h0 h1
  rcases hqb with hqb | hqb
  · have e1 : decide (q < 0) = false := by simp; omega
    go_enter Try.func7, Try.ntmps7
    go_wp2_with fail
    refine (szByteS_t H.out h0 h1 (Nat.le_trans hl HB.out.size)).mono ?_
    rintro e w1 ⟨he, hb⟩
    rw [← HQ.out] at he
    subst he
    have HB2 := Lib.hid (HB.out.trans (hb.mono HB.out.size))
    clear hb
    go_wp2_with fail
    go_ret
    exact ⟨rfl, HB2.out⟩
  · subst hqb
    go_enter Try.func7, Try.ntmps7
    go_wp2_with fail
    refine (szByteS_t H.out h0 h1 (Nat.le_trans hl HB.out.size)).mono ?_
    rintro e w1 ⟨he, hb⟩
    rw [← HQ.out] at he
    subst he
    have HB2 := Lib.hid (HB.out.trans (hb.mono HB.out.size))
    clear hb
    go_wp2_with fail
    go_ret
    exact ⟨rfl, HB2.out⟩

set_option maxRecDepth 20000 in
set_option maxHeartbeats 2000000 in
/-- laws.markPlain -/
theorem markPlain_any {F : Nat → Prop} {w : World} {cs : List Value} {x : VPlain} {k0 : Int} (h : tyPlain.own F w cs x) (hF : ∀ b, F b → b < w.heap.size) (h0 : 0 ≤ k0) (hk : k0 + tyPlain.vcnt x ≤ 9223372036854775807) :
    Calls Try.prog 13 #[.agg cs.toArray, .int .i64 k0] w fun e' w' => e' = .returned (.int .i64 (k0 + tyPlain.vcnt x)) ∧ tyPlain.own F w' cs (tyPlain.vmrk k0 x) ∧ KeptF F w w' := by
  obtain ⟨a1, c1, F1, rfl, h0, h1, s1⟩ := own_Plain h
  obtain ⟨q, hq⟩ : ∃ q : Int, q = k0 + tyPlain.vcnt x := ⟨_, rfl⟩
  rw [← hq]
  have hqe : k0 + ((sliceT 5 u8T).vcnt x.2 : Int) = q := by rw [hq]; rfl
  have HQ := Lib.hid hqe
  have HB := Lib.hid ((Below.refl w.heap.size w).alloc (Nat.le_refl _) (.cells #[.int .i64 x.1, .slice a1 x.2.length c1] 28))
  have O := Lib.hid ((sliceT 5 u8T).onext h1 HB.out)
  have H0 := Lib.hid h0
  have hk2 : k0 + (sliceT 5 u8T).vcnt x.2 ≤ 9223372036854775807 := by rw [HQ.out, hq]; exact hk
  have HK2 := Lib.hid hk2
  have SF := Lib.hid s1
  clear h hq hqe hk hk2 s1 h0 h1
  go_enter Try.func13, Try.ntmps13
  go_wp2_with fail
  refine (markByteS_t O.out h0 HK2.out).mono ?_
  rintro e w1 ⟨he, ho, hkf⟩
  have he' := he.trans (congrArg (fun z => Ending.returned (Value.int IntKind.i64 z)) HQ.out)
  clear he
  subst he'
  have O1 := Lib.hid ho
  have KF := Lib.hid ((KeptF.of_below (F := F) HB.out).trans (hkf.mono SF.out))
  clear ho hkf
  go_wp2_with fail
  go_ret
  refine ⟨rfl, ?_, KF.out⟩
  have hln : ((sliceT 5 u8T).vmrk k0 x.2).length = x.2.length := mkL_len _ _ _
  have O2 := O1.out
  rw [← hln] at O2 ⊢
  exact own_mkPlain (x := tyPlain.vmrk k0 x) H0.out O2 SF.out

end Go.Proofs.Ytbimihljaalllaa
