/- The laws' helpers on Plain: size, copy, equality, marks. No conditions but a size that a machine holds. -/
import Derived.Test.YtbimihljaalllaaDoorBaX
import Derived.Test.YtbimihljaalllaaDoorHeldL
import Derived.Deep.RegionHeld3
import Derived.Deep.DeepCutAuto
namespace Go.Proofs.YtbimihljaalllaaDoor
open Go Go.RowKit
set_option linter.unusedVariables false

abbrev VPlain := Int × (List Int)
def tyPlain : Ty VPlain := iC (sliceT 5 u8T)

theorem rd_Plain {l : Nat} {w : World} {cs : List Value} {x : VPlain} (h : tyPlain.rd l w cs x) : ∃ (a1 : Option Addr) (c1 : Nat), cs = [.int .i64 x.1, .slice a1 x.2.length c1] ∧ (Lit.int .i64 x.1).wf = true ∧ (sliceT 5 u8T).rd l w [.slice a1 x.2.length c1] x.2 := by
  obtain ⟨r0, rfl, h0, h⟩ := rd_int h
  obtain ⟨a1, c1, rfl, _⟩ := sl_open h
  have h1 := h
  exact ⟨a1, c1, rfl, h0, h1⟩
theorem own_Plain {F : Nat → Prop} {w : World} {cs : List Value} {x : VPlain} (h : tyPlain.own F w cs x) : ∃ (a1 : Option Addr) (c1 : Nat) (F1 : Nat → Prop), cs = [.int .i64 x.1, .slice a1 x.2.length c1] ∧ (Lit.int .i64 x.1).wf = true ∧ (sliceT 5 u8T).own F1 w [.slice a1 x.2.length c1] x.2 ∧ (∀ b, F1 b → F b) := by
  obtain ⟨r0, rfl, h0, h⟩ := own_int h
  obtain ⟨a1, c1, rfl, _⟩ := slo_open h
  have h1 := h
  exact ⟨a1, c1, F, rfl, h0, h1, fun b hb => hb⟩
theorem rd_mkPlain {l : Nat} {w : World} {x : VPlain} {a1 : Option Addr} {c1 : Nat} (h0 : (Lit.int .i64 x.1).wf = true) (h1 : (sliceT 5 u8T).rd l w [.slice a1 x.2.length c1] x.2) : tyPlain.rd l w [.int .i64 x.1, .slice a1 x.2.length c1] x :=
  int_rd h0 (h1)
theorem own_mkPlain {F : Nat → Prop} {w : World} {x : VPlain} {a1 : Option Addr} {c1 : Nat} {F1 : Nat → Prop} (h0 : (Lit.int .i64 x.1).wf = true) (h1 : (sliceT 5 u8T).own F1 w [.slice a1 x.2.length c1] x.2) (s1 : ∀ b, F1 b → F b)  : tyPlain.own F w [.int .i64 x.1, .slice a1 x.2.length c1] x := by
  exact tyPlain.omono (F := _) (int_own h0 (h1)) (fun b hb => s1 b hb)

set_option maxRecDepth 20000 in
set_option maxHeartbeats 2000000 in
/-- laws.eqPlain at the same values. -/
theorem eqPlain_same {l1 l2 : Nat} {w : World} {c d : List Value} {x : VPlain} (hu : tyPlain.rd l1 w c x) (hv : tyPlain.rd l2 w d x) (hl1 : l1 ≤ w.heap.size) (hl2 : l2 ≤ w.heap.size) :
    Calls Tryd.prog 21 #[.agg c.toArray, .agg d.toArray] w fun e w' => e = .returned (.bool true) ∧ Below w.heap.size w w' := by
  obtain ⟨a1, c1, rfl, h0, h1⟩ := rd_Plain hu
  obtain ⟨b1, m1, rfl, k0, k1⟩ := rd_Plain hv
  have H1 := Lib.hid h1
  have G1 := Lib.hid k1
  have HB := Lib.hid (((Below.refl w.heap.size w).alloc (Nat.le_refl _) (.cells #[.int .i64 x.1, .slice a1 x.2.length c1] 25)).alloc (by simp) (.cells #[.int .i64 x.1, .slice b1 x.2.length m1] 25))
  have K := blocks2T w (.cells #[.int .i64 x.1, .slice a1 x.2.length c1] 25) (.cells #[.int .i64 x.1, .slice b1 x.2.length m1] 25)
  have KA := Lib.hid K.1
  have KB := Lib.hid K.2
  obtain ⟨W0, hW0⟩ : ∃ W, W = (w.alloc (.cells #[.int .i64 x.1, .slice a1 x.2.length c1] 25)).alloc (.cells #[.int .i64 x.1, .slice b1 x.2.length m1] 25) := ⟨_, rfl⟩
  rw [← hW0] at HB KA KB
  have HW0 := Lib.hid hW0
  clear hu hv K hW0 h0 k0 h1 k1
  go_enter Tryd.func21, Tryd.ntmps21
  go_wp2_with fail
  rw [← HW0.out]
  refine (eqByteS_same_t ((sliceT 5 u8T).behind H1.out (HB.out.mono hl1)) ((sliceT 5 u8T).behind G1.out (HB.out.mono hl2)) (Nat.le_trans hl1 HB.out.size) (Nat.le_trans hl2 HB.out.size)).mono ?_
  rintro e w1 ⟨rfl, hb⟩
  replace KA := Lib.hid ((hb.block _ (lt_of_block KA.out)).trans KA.out)
  replace KB := Lib.hid ((hb.block _ (lt_of_block KB.out)).trans KB.out)
  replace HB := Lib.hid (HB.out.trans (hb.mono HB.out.size))
  clear hb
  go_wp2_with fail
  go_ret
  exact ⟨rfl, HB.out⟩

set_option maxRecDepth 20000 in
set_option maxHeartbeats 2000000 in
/-- laws.markPlain -/
theorem markPlain_any {F : Nat → Prop} {w : World} {cs : List Value} {x : VPlain} {k0 : Int} (h : tyPlain.own F w cs x) (hF : ∀ b, F b → b < w.heap.size) (h0 : 0 ≤ k0) (hk : k0 + tyPlain.vcnt x ≤ 9223372036854775807) :
    Calls Tryd.prog 24 #[.agg cs.toArray, .int .i64 k0] w fun e' w' => e' = .returned (.int .i64 (k0 + tyPlain.vcnt x)) ∧ tyPlain.own F w' cs (tyPlain.vmrk k0 x) ∧ KeptF F w w' := by
  obtain ⟨a1, c1, F1, rfl, h0, h1, s1⟩ := own_Plain h
  obtain ⟨q, hq⟩ : ∃ q : Int, q = k0 + tyPlain.vcnt x := ⟨_, rfl⟩
  rw [← hq]
  have hqe : k0 + ((sliceT 5 u8T).vcnt x.2 : Int) = q := by rw [hq]; rfl
  have HQ := Lib.hid hqe
  have HB := Lib.hid ((Below.refl w.heap.size w).alloc (Nat.le_refl _) (.cells #[.int .i64 x.1, .slice a1 x.2.length c1] 25))
  have O := Lib.hid ((sliceT 5 u8T).onext h1 HB.out)
  have H0 := Lib.hid h0
  have hk2 : k0 + (sliceT 5 u8T).vcnt x.2 ≤ 9223372036854775807 := by rw [HQ.out, hq]; exact hk
  have HK2 := Lib.hid hk2
  have SF := Lib.hid s1
  clear h hq hqe hk hk2 s1 h0 h1
  go_enter Tryd.func24, Tryd.ntmps24
  go_wp2_with fail
  refine (markByteS_t O.out h0 HK2.out).mono ?_
  rintro e w1 ⟨he, ho, hkf⟩
  have he' := he.trans (congrArg (fun z => Ending.returned (Value.int IntKind.i64 z)) HQ.out)
  clear he
  subst he'
  have O1 := Lib.hid ho
  have KF := Lib.hid ((KeptF.of_below (F := F) HB.out).trans (hkf.mono SF.out))
  clear ho hkf
  go_wp2_with fail
  go_ret
  refine ⟨rfl, ?_, KF.out⟩
  have hln : ((sliceT 5 u8T).vmrk k0 x.2).length = x.2.length := mkL_len _ _ _
  have O2 := O1.out
  rw [← hln] at O2 ⊢
  exact own_mkPlain (x := tyPlain.vmrk k0 x) H0.out O2 SF.out

set_option maxRecDepth 20000 in
set_option maxHeartbeats 2000000 in
/-- laws.heldPlain -/
theorem heldPlain_any {l : Nat} {w : World} {cs : List Value} {x : VPlain} {k0 : Int} (h : tyPlain.rd l w cs (tyPlain.vmrk k0 x)) (hl : l ≤ w.heap.size) (h0 : 0 ≤ k0) (hk : k0 + tyPlain.vcnt x ≤ 9223372036854775807) :
    Calls Tryd.prog 25 #[.agg cs.toArray, .int .i64 k0] w fun e' w' => e' = .returned (.int .i64 (k0 + tyPlain.vcnt x)) ∧ Below w.heap.size w w' := by
  obtain ⟨a1, c1, rfl, h0, h1⟩ := rd_Plain h
  obtain ⟨q, hq⟩ : ∃ q : Int, q = k0 + tyPlain.vcnt x := ⟨_, rfl⟩
  rw [← hq]
  have hqe : k0 + ((sliceT 5 u8T).vcnt x.2 : Int) = q := by rw [hq]; rfl
  have HQ := Lib.hid hqe
  have hk2 : k0 + (sliceT 5 u8T).vcnt x.2 ≤ 9223372036854775807 := by rw [HQ.out, hq]; exact hk
  have HK2 := Lib.hid hk2
  have e1 : decide (q < 0) = false := by simp; omega
  obtain ⟨n1, hn1⟩ : ∃ n, n = (tyPlain.vmrk k0 x).2.length := ⟨_, rfl⟩
  rw [← hn1] at h1 h ⊢
  have hx1 : (sliceT 5 u8T).rd l w [.slice a1 n1 c1] ((sliceT 5 u8T).vmrk k0 x.2) := h1
  have HB := Lib.hid ((Below.refl w.heap.size w).alloc (Nat.le_refl _) (.cells #[.int .i64 (tyPlain.vmrk k0 x).1, .slice a1 n1 c1] 25))
  have H := Lib.hid ((sliceT 5 u8T).behind hx1 (HB.out.mono hl))
  clear h hq hqe hk hk2 hx1 hn1 h0 h1
  go_enter Tryd.func25, Tryd.ntmps25
  go_wp2_with fail
  refine (heldByteS_t H.out (Nat.le_trans hl HB.out.size) h0 HK2.out).mono ?_
  rintro e w1 ⟨he, hb⟩
  have he' := he.trans (congrArg (fun z => Ending.returned (Value.int IntKind.i64 z)) HQ.out)
  clear he
  subst he'
  have HB2 := Lib.hid (HB.out.trans (hb.mono HB.out.size))
  clear hb
  go_wp2_with fail
  go_ret
  exact ⟨rfl, HB2.out⟩

end Go.Proofs.YtbimihljaalllaaDoor
