/- The laws' helpers on Database, []Database: size, copy, equality, marks. No conditions but a size that a machine holds. -/
import Derived.Test.YtdipignajccdcaaBaX
import Derived.Test.YtdipignajccdcaaBaV
import Derived.Test.YtdipignajccdcaaHeldL
import Derived.Deep.RegionHeld3
import Derived.Deep.DeepCutAuto
namespace Go.Proofs.Ytdipignajccdcaa
open Go Go.RowKit
set_option linter.unusedVariables false

abbrev VDatabase := (List (List Int))
def tyDatabase : Ty VDatabase := (sliceT 22 (sliceT 5 u8T))

theorem rd_Database {l : Nat} {w : World} {cs : List Value} {x : VDatabase} (h : tyDatabase.rd l w cs x) : ∃ (a0 : Option Addr) (c0 : Nat), cs = [.slice a0 x.length c0] ∧ (sliceT 22 (sliceT 5 u8T)).rd l w [.slice a0 x.length c0] x := by
  obtain ⟨a0, c0, rfl, _⟩ := sl_open h
  have h0 := h
  exact ⟨a0, c0, rfl, h0⟩
theorem own_Database {F : Nat → Prop} {w : World} {cs : List Value} {x : VDatabase} (h : tyDatabase.own F w cs x) : ∃ (a0 : Option Addr) (c0 : Nat) (F0 : Nat → Prop), cs = [.slice a0 x.length c0] ∧ (sliceT 22 (sliceT 5 u8T)).own F0 w [.slice a0 x.length c0] x ∧ (∀ b, F0 b → F b) := by
  obtain ⟨a0, c0, rfl, _⟩ := slo_open h
  have h0 := h
  exact ⟨a0, c0, F, rfl, h0, fun b hb => hb⟩
theorem rd_mkDatabase {l : Nat} {w : World} {x : VDatabase} {a0 : Option Addr} {c0 : Nat} (h0 : (sliceT 22 (sliceT 5 u8T)).rd l w [.slice a0 x.length c0] x) : tyDatabase.rd l w [.slice a0 x.length c0] x :=
  h0
theorem own_mkDatabase {F : Nat → Prop} {w : World} {x : VDatabase} {a0 : Option Addr} {c0 : Nat} {F0 : Nat → Prop} (h0 : (sliceT 22 (sliceT 5 u8T)).own F0 w [.slice a0 x.length c0] x) (s0 : ∀ b, F0 b → F b)  : tyDatabase.own F w [.slice a0 x.length c0] x := by
  exact tyDatabase.omono (F := _) (h0) (fun b hb => s0 b hb)

set_option maxRecDepth 20000 in
set_option maxHeartbeats 2000000 in
/-- laws.toDatabase -/
theorem toDatabase_any {l : Nat} {w : World} {cs : List Value} {x : VDatabase} (h : tyDatabase.rd l w cs x) (hl : l ≤ w.heap.size) (hn : tyDatabase.tot x ≤ 1073741824) :
    Calls Try.prog 24 #[.agg cs.toArray] w fun e w' => ∃ ds, e = .returned (.agg ds.toArray) ∧ tyDatabase.own (ival w.heap.size w'.heap.size) w' ds x ∧ Below w.heap.size w w' := by
  obtain ⟨a0, c0, rfl, h0⟩ := rd_Database h
  have H0 := Lib.hid h0
  have N0 : Hid ((sliceT 22 (sliceT 5 u8T)).tot x ≤ 1073741824) := Lib.hid hn
  have HB := Lib.hid ((((Below.refl w.heap.size w).alloc (Nat.le_refl _) (.cells #[.slice a0 x.length c0] 37)).alloc (by simp) (.cells #[.slice none 0 0] 39)).alloc (by simp; omega) (.cells #[.slice none 0 0] 39))
  have K := blocks3T w (.cells #[.slice a0 x.length c0] 37) (.cells #[.slice none 0 0] 39) (.cells #[.slice none 0 0] 39)
  have KA := Lib.hid K.1
  have KR := Lib.hid K.2.1
  have KO := Lib.hid K.2.2
  obtain ⟨W0, hW0⟩ : ∃ W, W = ((w.alloc (.cells #[.slice a0 x.length c0] 37)).alloc (.cells #[.slice none 0 0] 39)).alloc (.cells #[.slice none 0 0] 39) := ⟨_, rfl⟩
  rw [← hW0] at HB KA KR KO
  have HW0 := Lib.hid hW0
  have HS := Lib.hid (show w.heap.size ≤ W0.heap.size from HB.out.size)
  have HS3 : Hid (w.heap.size + 1 + 1 < W0.heap.size) := Lib.hid (lt_of_block KO.out)
  clear h hn K hW0 h0
  go_enter Try.func24, Try.ntmps24
  go_wp2_with fail
  rw [← HW0.out]
  refine (toByteSS_t ((sliceT 22 (sliceT 5 u8T)).behind H0.out (HB.out.mono hl)) (Nat.le_trans hl HB.out.size) N0.out).mono ?_
  rintro e w1 ⟨v0, rfl, ho, hb⟩
  obtain ⟨b0, m0, hv, _⟩ := slo_open ho
  injection hv with hv
  subst hv
  replace KA := Lib.hid ((hb.block _ (lt_of_block KA.out)).trans KA.out)
  replace KR := Lib.hid ((hb.block _ (lt_of_block KR.out)).trans KR.out)
  replace KO := Lib.hid ((hb.block _ (lt_of_block KO.out)).trans KO.out)
  have O0 := Lib.hid ho
  have S0 : Hid (w1.heap.size ≤ w1.heap.size) := Lib.hid (Nat.le_refl _)
  replace HB := Lib.hid (HB.out.trans (hb.mono HB.out.size))
  clear hb ho
  have cA0 := blk_cell KA.out 0
  have cO0 := blk_cell KO.out 0
  have fO0 := blk_free KO.out 0
  have cR0 := blk_cell KR.out 0
  have fR0 := blk_free KR.out 0
  simp only [show ∀ x0 : Value, (#[x0] : Array Value)[0]? = some x0 from fun _ => rfl] at cA0 cO0 cR0
  go_wp2_with fail
  clear cA0 cO0 fO0 cR0 fR0
  have kk := KeptF.refl (fun b => b = w.heap.size + 1 ∨ b = w.heap.size + 1 + 1) w1
  have hg := grown_set w1 (w.heap.size + 1 + 1) 0 (.slice b0 x.length m0)
  have t1 := blk_set KO.out 0 (.slice b0 x.length m0)
  have tA := (hg.block (w.heap.size) (lt_of_block KA.out) (by intro e; injection e with e; omega)).trans KA.out
  replace KA := Lib.hid tA
  have tR := (hg.block (w.heap.size + 1) (lt_of_block KR.out) (by intro e; injection e with e; omega)).trans KR.out
  replace KR := Lib.hid tR
  replace KO := Lib.hid t1
  replace kk := kk.trans (KeptF.of_grown hg (fun b hb => by injection hb with hb; omega))
  clear hg t1 tA tR
  have hg := grown_set (w1.setCell ⟨w.heap.size + 1 + 1, 0, none⟩ (.slice b0 x.length m0)) (w.heap.size + 1) 0 (.slice b0 x.length m0)
  have t1 := blk_set KR.out 0 (.slice b0 x.length m0)
  have tA := (hg.block (w.heap.size) (lt_of_block KA.out) (by intro e; injection e with e; omega)).trans KA.out
  replace KA := Lib.hid tA
  have tO := (hg.block (w.heap.size + 1 + 1) (lt_of_block KO.out) (by intro e; injection e with e; omega)).trans KO.out
  replace KO := Lib.hid tO
  replace KR := Lib.hid t1
  replace kk := kk.trans (KeptF.of_grown hg (fun b hb => by injection hb with hb; omega))
  clear hg t1 tA tO
  obtain ⟨V0, hV0⟩ : ∃ W, W = ((w1.setCell ⟨w.heap.size + 1 + 1, 0, none⟩ (.slice b0 x.length m0)).setCell ⟨w.heap.size + 1, 0, none⟩ (.slice b0 x.length m0)) := ⟨_, rfl⟩
  rw [← hV0] at KA KR KO kk ⊢
  replace O0 := Lib.hid ((sliceT 22 (sliceT 5 u8T)).okept O0.out kk (fun b hb e => by have := HS3.out; unfold ival at hb; omega))
  replace S0 := Lib.hid (Nat.le_trans S0.out kk.size)
  replace HB := Lib.hid (HB.out.trans (kk.below (B := w.heap.size) (fun b hb => by omega) HB.out.size))
  clear kk hV0
  have hlo := HS.out
  have q0 : tyDatabase.own (ival w.heap.size V0.heap.size) V0 [.slice b0 x.length m0] x := own_mkDatabase O0.out (fun b hb => by have := S0.out; unfold ival at hb ⊢; omega) 
  have Q0 := Lib.hid q0
  have r0 := blk_cell KR.out 0
  simp [Array.setIfInBounds] at r0
  exact bodyPost_ret (v := .agg #[.slice b0 x.length m0]) (by simp [results, Try.results24, go_sem, r0]) rfl ⟨_, rfl, Q0.out, HB.out⟩

set_option maxRecDepth 20000 in
set_option maxHeartbeats 2000000 in
/-- laws.eqDatabase at the same values. -/
theorem eqDatabase_same {l1 l2 : Nat} {w : World} {c d : List Value} {x : VDatabase} (hu : tyDatabase.rd l1 w c x) (hv : tyDatabase.rd l2 w d x) (hl1 : l1 ≤ w.heap.size) (hl2 : l2 ≤ w.heap.size) :
    Calls Try.prog 26 #[.agg c.toArray, .agg d.toArray] w fun e w' => e = .returned (.bool true) ∧ Below w.heap.size w w' := by
  obtain ⟨a0, c0, rfl, h0⟩ := rd_Database hu
  obtain ⟨b0, m0, rfl, k0⟩ := rd_Database hv
  have H0 := Lib.hid h0
  have G0 := Lib.hid k0
  have HB := Lib.hid (((Below.refl w.heap.size w).alloc (Nat.le_refl _) (.cells #[.slice a0 x.length c0] 39)).alloc (by simp) (.cells #[.slice b0 x.length m0] 39))
  have K := blocks2T w (.cells #[.slice a0 x.length c0] 39) (.cells #[.slice b0 x.length m0] 39)
  have KA := Lib.hid K.1
  have KB := Lib.hid K.2
  obtain ⟨W0, hW0⟩ : ∃ W, W = (w.alloc (.cells #[.slice a0 x.length c0] 39)).alloc (.cells #[.slice b0 x.length m0] 39) := ⟨_, rfl⟩
  rw [← hW0] at HB KA KB
  have HW0 := Lib.hid hW0
  clear hu hv K hW0 h0 k0
  go_enter Try.func26, Try.ntmps26
  go_wp2_with fail
  rw [← HW0.out]
  refine (eqByteSS_same_t ((sliceT 22 (sliceT 5 u8T)).behind H0.out (HB.out.mono hl1)) ((sliceT 22 (sliceT 5 u8T)).behind G0.out (HB.out.mono hl2)) (Nat.le_trans hl1 HB.out.size) (Nat.le_trans hl2 HB.out.size)).mono ?_
  rintro e w1 ⟨rfl, hb⟩
  replace KA := Lib.hid ((hb.block _ (lt_of_block KA.out)).trans KA.out)
  replace KB := Lib.hid ((hb.block _ (lt_of_block KB.out)).trans KB.out)
  replace HB := Lib.hid (HB.out.trans (hb.mono HB.out.size))
  clear hb
  go_wp2_with fail
  go_ret
  exact ⟨rfl, HB.out⟩

set_option maxRecDepth 20000 in
set_option maxHeartbeats 2000000 in
/-- laws.szDatabase -/
theorem szDatabase_any {l : Nat} {w : World} {cs : List Value} {x : VDatabase} {left : Int} (h : tyDatabase.rd l w cs x) (h0 : 0 ≤ left) (h1 : left ≤ 1048576) (hl : l ≤ w.heap.size) :
    Calls Try.prog 22 #[.agg cs.toArray, .int .i64 left] w fun e w' => e = .returned (.int .i64 (if (tyDatabase.tot x : Int) ≤ left then left - tyDatabase.tot x else -1)) ∧ Below w.heap.size w w' := by
  obtain ⟨a0, c0, rfl, h0⟩ := rd_Database h
  have HT : Hid (tyDatabase.tot x = (sliceT 22 (sliceT 5 u8T)).tot x) := Lib.hid rfl
  obtain ⟨q, hq⟩ : ∃ q : Int, q = (if ((sliceT 22 (sliceT 5 u8T)).tot x : Int) ≤ left then left - (sliceT 22 (sliceT 5 u8T)).tot x else -1) := ⟨_, rfl⟩
  rw [HT.out, ← hq]
  have HQ := Lib.hid hq
  have hqb : (0 ≤ q ∧ q ≤ 1048576) ∨ q = -1 := by rw [hq]; split <;> omega
  have HB := Lib.hid ((Below.refl w.heap.size w).alloc (Nat.le_refl _) (.cells #[.slice a0 x.length c0] 37))
  have H := Lib.hid ((sliceT 22 (sliceT 5 u8T)).behind h0 (HB.out.mono hl))
  clear h hq h0
  rcases hqb with hqb | hqb
  · have e1 : decide (q < 0) = false := by simp; omega
    go_enter Try.func22, Try.ntmps22
    go_wp2_with fail
    refine (szByteSS_t H.out h0 h1 (Nat.le_trans hl HB.out.size)).mono ?_
    rintro e w1 ⟨he, hb⟩
    rw [← HQ.out] at he
    subst he
    have HB2 := Lib.hid (HB.out.trans (hb.mono HB.out.size))
    clear hb
    go_wp2_with fail
    go_ret
    exact ⟨rfl, HB2.out⟩
  · subst hqb
    go_enter Try.func22, Try.ntmps22
    go_wp2_with fail
    refine (szByteSS_t H.out h0 h1 (Nat.le_trans hl HB.out.size)).mono ?_
    rintro e w1 ⟨he, hb⟩
    rw [← HQ.out] at he
    subst he
    have HB2 := Lib.hid (HB.out.trans (hb.mono HB.out.size))
    clear hb
    go_wp2_with fail
    go_ret
    exact ⟨rfl, HB2.out⟩

set_option maxRecDepth 20000 in
set_option maxHeartbeats 2000000 in
/-- laws.markDatabase -/
theorem markDatabase_any {F : Nat → Prop} {w : World} {cs : List Value} {x : VDatabase} {k0 : Int} (h : tyDatabase.own F w cs x) (hF : ∀ b, F b → b < w.heap.size) (h0 : 0 ≤ k0) (hk : k0 + tyDatabase.vcnt x ≤ 9223372036854775807) :
    Calls Try.prog 27 #[.agg cs.toArray, .int .i64 k0] w fun e' w' => e' = .returned (.int .i64 (k0 + tyDatabase.vcnt x)) ∧ tyDatabase.own F w' cs (tyDatabase.vmrk k0 x) ∧ KeptF F w w' := by
  obtain ⟨a0, c0, F0, rfl, h0, s0⟩ := own_Database h
  obtain ⟨q, hq⟩ : ∃ q : Int, q = k0 + tyDatabase.vcnt x := ⟨_, rfl⟩
  rw [← hq]
  have hqe : k0 + ((sliceT 22 (sliceT 5 u8T)).vcnt x : Int) = q := by rw [hq]; rfl
  have HQ := Lib.hid hqe
  have HB := Lib.hid ((Below.refl w.heap.size w).alloc (Nat.le_refl _) (.cells #[.slice a0 x.length c0] 39))
  have O := Lib.hid ((sliceT 22 (sliceT 5 u8T)).onext h0 HB.out)
  have hk2 : k0 + (sliceT 22 (sliceT 5 u8T)).vcnt x ≤ 9223372036854775807 := by rw [HQ.out, hq]; exact hk
  have HK2 := Lib.hid hk2
  have SF := Lib.hid s0
  clear h hq hqe hk hk2 s0 h0
  go_enter Try.func27, Try.ntmps27
  go_wp2_with fail
  refine (markByteSS_t O.out h0 HK2.out).mono ?_
  rintro e w1 ⟨he, ho, hkf⟩
  have he' := he.trans (congrArg (fun z => Ending.returned (Value.int IntKind.i64 z)) HQ.out)
  clear he
  subst he'
  have O1 := Lib.hid ho
  have KF := Lib.hid ((KeptF.of_below (F := F) HB.out).trans (hkf.mono SF.out))
  clear ho hkf
  go_wp2_with fail
  go_ret
  refine ⟨rfl, ?_, KF.out⟩
  have hln : ((sliceT 22 (sliceT 5 u8T)).vmrk k0 x).length = x.length := mkL_len _ _ _
  have O2 := O1.out
  rw [← hln] at O2 ⊢
  exact own_mkDatabase (x := tyDatabase.vmrk k0 x) O2 SF.out

set_option maxRecDepth 20000 in
set_option maxHeartbeats 2000000 in
/-- laws.heldDatabase -/
theorem heldDatabase_any {l : Nat} {w : World} {cs : List Value} {x : VDatabase} {k0 : Int} (h : tyDatabase.rd l w cs (tyDatabase.vmrk k0 x)) (hl : l ≤ w.heap.size) (h0 : 0 ≤ k0) (hk : k0 + tyDatabase.vcnt x ≤ 9223372036854775807) :
    Calls Try.prog 28 #[.agg cs.toArray, .int .i64 k0] w fun e' w' => e' = .returned (.int .i64 (k0 + tyDatabase.vcnt x)) ∧ Below w.heap.size w w' := by
  obtain ⟨a0, c0, rfl, h0⟩ := rd_Database h
  obtain ⟨q, hq⟩ : ∃ q : Int, q = k0 + tyDatabase.vcnt x := ⟨_, rfl⟩
  rw [← hq]
  have hqe : k0 + ((sliceT 22 (sliceT 5 u8T)).vcnt x : Int) = q := by rw [hq]; rfl
  have HQ := Lib.hid hqe
  have hk2 : k0 + (sliceT 22 (sliceT 5 u8T)).vcnt x ≤ 9223372036854775807 := by rw [HQ.out, hq]; exact hk
  have HK2 := Lib.hid hk2
  have e1 : decide (q < 0) = false := by simp; omega
  obtain ⟨n0, hn0⟩ : ∃ n, n = (tyDatabase.vmrk k0 x).length := ⟨_, rfl⟩
  rw [← hn0] at h0 h ⊢
  have hx0 : (sliceT 22 (sliceT 5 u8T)).rd l w [.slice a0 n0 c0] ((sliceT 22 (sliceT 5 u8T)).vmrk k0 x) := h0
  have HB := Lib.hid ((Below.refl w.heap.size w).alloc (Nat.le_refl _) (.cells #[.slice a0 n0 c0] 39))
  have H := Lib.hid ((sliceT 22 (sliceT 5 u8T)).behind hx0 (HB.out.mono hl))
  clear h hq hqe hk hk2 hx0 hn0 h0
  go_enter Try.func28, Try.ntmps28
  go_wp2_with fail
  refine (heldByteSS_t H.out (Nat.le_trans hl HB.out.size) h0 HK2.out).mono ?_
  rintro e w1 ⟨he, hb⟩
  have he' := he.trans (congrArg (fun z => Ending.returned (Value.int IntKind.i64 z)) HQ.out)
  clear he
  subst he'
  have HB2 := Lib.hid (HB.out.trans (hb.mono HB.out.size))
  clear hb
  go_wp2_with fail
  go_ret
  exact ⟨rfl, HB2.out⟩

set_option maxRecDepth 20000 in
set_option maxHeartbeats 2000000 in
/-- laws.szDatabaseS -/
theorem szDatabaseS_any {l : Nat} {w : World} {e0 : TypeId} {v : Value} {xs : List VDatabase} {left : Int} (h : (sliceT e0 tyDatabase).rd l w [v] xs) (h0 : 0 ≤ left) (h1 : left ≤ 1048576) (hl : l ≤ w.heap.size) :
    Calls Try.prog 29 #[v, .int .i64 left] w fun e w' => e = .returned (.int .i64 (if ((sliceT e0 tyDatabase).tot xs : Int) ≤ left then left - (sliceT e0 tyDatabase).tot xs else -1)) ∧ Below w.heap.size w w' := by
  have hlen := sl_len h
  have ht : (sliceT e0 tyDatabase).tot xs = xs.length + etot tyDatabase xs := totL_eq tyDatabase xs
  obtain ⟨q, hq0⟩ : ∃ q : Int, q = (if ((sliceT e0 tyDatabase).tot xs : Int) ≤ left then left - (sliceT e0 tyDatabase).tot xs else -1) := ⟨_, rfl⟩
  rw [← hq0]
  rw [ht] at hq0
  have Hq := Lib.hid hq0
  obtain ⟨a, cap, hv, hc1, hc2, hc⟩ := sl_open h
  injection hv with hv
  subst hv
  have Hc := Lib.hid hc
  unfold maxLen at hlen hc2
  clear h hc hq0 ht
  by_cases hn : (xs.length : Int) ≤ left
  · have e1 : decide (left - (xs.length : Int) < 0) = false := by simp; omega
    go_enter Try.func29, Try.ntmps29
    go_wp2_with fail
    go_loopw [1, 5] (fun s i wr => ∃ j : Nat, i = .int .i64 j ∧ j ≤ xs.length ∧ (etot tyDatabase (xs.take j) : Int) ≤ left - xs.length ∧ s = .int .i64 (left - xs.length - etot tyDatabase (xs.take j)) ∧ Below w.heap.size w wr) (fun _ i _ => xs.length - (intOf i).toNat)
    case atStart => exact ⟨0, rfl, Nat.zero_le _, by simp [etot]; omega, by simp [etot], Below.refl _ _⟩
    case round =>
      obtain ⟨j, rfl, hj, hle, rfl, hB⟩ := hrel
      have HB := Lib.hid hB
      clear hB
      by_cases hlt : j < xs.length
      · have e2 : decide ((j : Int) < (xs.length : Int)) = true := by simp; omega
        obtain ⟨b, o, rfl, hbl, hcell⟩ := Hc.out (by omega)
        obtain ⟨x, hx⟩ : ∃ x, xs[j]? = some x := ⟨_, List.getElem?_eq_getElem hlt⟩
        obtain ⟨c, hr, hcl⟩ := hcell wr (HB.out.mono hl) j x hx
        have hcl : ∀ (k : Nat) (u : Value), c[k]? = some u → wr.cell? ⟨b, o + (j + k), none⟩ = some u := fun k u hu => by have := hcl k u hu; rwa [show j * tyDatabase.sz = j from Nat.mul_one j] at this
        have t1 := etot_take (T := tyDatabase) hx
        have t3 := etot_le tyDatabase xs (j + 1)
        obtain ⟨f0, hf0⟩ : ∃ f0, f0 = etot tyDatabase (xs.take j) := ⟨_, rfl⟩
        obtain ⟨y, hy⟩ : ∃ y, y = tyDatabase.tot x := ⟨_, rfl⟩
        rw [← hf0] at hle t1 ⊢
        rw [← hy] at t1
        rw [t1] at t3
        have Hy := Lib.hid hy
        have HT1 := Lib.hid t1
        have HT3 := Lib.hid t3
        have Hr := Lib.hid hr
        obtain ⟨a0, c0, rfl, _⟩ := rd_Database hr
        have k0 : wr.cell? ⟨b, o + j, none⟩ = _ := hcl 0 _ rfl
        clear hcell hcl hr hx hf0 hy t1 t3
        go_wp2_with fail
        refine (szDatabase_any (left := left - xs.length - f0) Hr.out (by omega) (by omega) (Nat.le_trans hl HB.out.size)).mono ?_
        rw [← Hy.out]
        rintro e w1 ⟨rfl, hb⟩
        have HB2 := Lib.hid (HB.out.trans (hb.mono HB.out.size))
        clear hb k0
        by_cases hq : (y : Int) ≤ left - xs.length - f0
        · rw [if_pos hq]
          have e3 : decide (left - (xs.length : Int) - (f0 : Int) - (y : Int) < 0) = false := by simp; omega
          go_wp2
          go_roundw
          case rel => exact ⟨j + 1, by simp, hlt, by rw [HT1.out]; push_cast; omega, by rw [HT1.out]; congr 1; push_cast; omega, HB2.out⟩
          case measure => simp [intOf]; omega
        · rw [if_neg hq]
          have e4 := Lib.hid (show q = -1 by have := HT3.out; rw [Hq.out]; exact if_neg (by push_cast; omega))
          go_wp2
          go_ret
          exact ⟨by rw [e4.out]; rfl, HB2.out⟩
      · have e2 : decide ((j : Int) < (xs.length : Int)) = false := by simp; omega
        have ej : etot tyDatabase (xs.take j) = etot tyDatabase xs := by rw [show j = xs.length by omega, List.take_length]
        rw [ej] at hle ⊢
        have e4 := Lib.hid (show q = left - xs.length - etot tyDatabase xs by rw [Hq.out, if_pos (by push_cast; omega)]; push_cast; omega)
        go_wp2
        go_ret
        exact ⟨by rw [e4.out]; rfl, HB.out⟩
  · have e1 : decide (left - (xs.length : Int) < 0) = true := by simp; omega
    have e4 := Lib.hid (show q = -1 by rw [Hq.out]; exact if_neg (by push_cast; omega))
    go_enter Try.func29, Try.ntmps29
    go_wp2
    go_ret
    exact ⟨by rw [e4.out]; rfl, Below.refl _ _⟩

set_option maxRecDepth 20000 in
set_option maxHeartbeats 2000000 in
/-- laws.eqDatabaseS at the same elements. -/
theorem eqDatabaseS_same {l1 l2 : Nat} {w : World} {e1 e2 : TypeId} {u v : Value} {xs : List VDatabase} (hu : (sliceT e1 tyDatabase).rd l1 w [u] xs) (hv : (sliceT e2 tyDatabase).rd l2 w [v] xs) (hl1 : l1 ≤ w.heap.size) (hl2 : l2 ≤ w.heap.size) :
    Calls Try.prog 15 #[u, v] w fun e w' => e = .returned (.bool true) ∧ Below w.heap.size w w' := by
  obtain ⟨a, cap, hv1, h1, h2, hc⟩ := sl_open hu
  injection hv1 with hv1
  subst hv1
  obtain ⟨a', cap', hv1, h1', h2', hc'⟩ := sl_open hv
  injection hv1 with hv1
  subst hv1
  have Hc := Lib.hid hc
  have Hc' := Lib.hid hc'
  unfold maxLen at h2 h2'
  clear hu hv hc hc'
  have e0 : ((xs.length : Int) != (xs.length : Int)) = false := by simp
  go_enter Try.func15, Try.ntmps15
  go_wp2_with fail
  go_loopw [5] (fun i wr => ∃ j : Nat, i = .int .i64 j ∧ j ≤ xs.length ∧ Below w.heap.size w wr) (fun i _ => xs.length - (intOf i).toNat)
  case atStart => exact ⟨0, rfl, Nat.zero_le _, Below.refl _ _⟩
  case round =>
    obtain ⟨j, rfl, hj, hB⟩ := hrel
    have HB := Lib.hid hB
    clear hB
    by_cases hlt : j < xs.length
    · have e1 : decide ((j : Int) < (xs.length : Int)) = true := by simp; omega
      obtain ⟨b, o, rfl, hbl, hcell⟩ := Hc.out (by omega)
      obtain ⟨b', o', rfl, hbl', hcell'⟩ := Hc'.out (by omega)
      obtain ⟨x, hx⟩ : ∃ x, xs[j]? = some x := ⟨_, List.getElem?_eq_getElem hlt⟩
      obtain ⟨c, hr, hcl⟩ := hcell wr (HB.out.mono hl1) j x hx
      have hcl : ∀ (k : Nat) (u : Value), c[k]? = some u → wr.cell? ⟨b, o + (j + k), none⟩ = some u := fun k u hu => by have := hcl k u hu; rwa [show j * tyDatabase.sz = j from Nat.mul_one j] at this
      obtain ⟨c', hr', hcl'⟩ := hcell' wr (HB.out.mono hl2) j x hx
      have hcl' : ∀ (k : Nat) (u : Value), c'[k]? = some u → wr.cell? ⟨b', o' + (j + k), none⟩ = some u := fun k u hu => by have := hcl' k u hu; rwa [show j * tyDatabase.sz = j from Nat.mul_one j] at this
      have Hr := Lib.hid hr
      have Hr' := Lib.hid hr'
      obtain ⟨a0, c0, rfl, _⟩ := rd_Database hr
      obtain ⟨b0, m0, rfl, _⟩ := rd_Database hr'
      have hbw : b < wr.heap.size := by have := HB.out.size; omega
      have hbw' : b' < wr.heap.size := by have := HB.out.size; omega
      have HC : Hid (∀ w', Below wr.heap.size wr w' → w'.cell? ⟨b, o + j, none⟩ = some (.slice a0 x.length c0) ∧ w'.cell? ⟨b', o' + j, none⟩ = some (.slice b0 x.length m0)) := Lib.hid (fun w' hb =>
        ⟨(hb.cell (p := ⟨b, o + j, none⟩) hbw).trans (hcl 0 _ rfl), (hb.cell (p := ⟨b', o' + j, none⟩) hbw').trans (hcl' 0 _ rfl)⟩)
      have d0 := HC.out wr.drew (Below.refl _ _).drew
      clear hcell hcell' hr hr' hcl hcl' hx
      go_wp2_with fail
      have S1 := Lib.hid (Nat.le_trans hl1 HB.out.size)
      have S2 := Lib.hid (Nat.le_trans hl2 HB.out.size)
      go_region_held3 (fun w' => w'.cell? ⟨b, o + j, none⟩ = some (.slice a0 x.length c0) ∧ w'.cell? ⟨b', o' + j, none⟩ = some (.slice b0 x.length m0)) (first | assumption | go_keep) ((first
        | (go_at_call 26
           go_loud (refine (eqDatabase_same (tyDatabase.drew Hr.out) (tyDatabase.drew Hr'.out) S1.out S2.out).mono ?_
                    rintro e w2 ⟨he, hb⟩
                    subst he
                    have d1 := HC.out w2 ((Below.refl _ _).drew.trans (hb.mono (Nat.le_refl _)))
                    have HB2 : Hid (Below wr.heap.size wr.drew w2) := Lib.hid hb))))
      go_wp2_with fail
      go_roundw
      case rel => exact ⟨j + 1, by simp, hlt, HB.out.trans (((Below.refl _ _).drew.trans HB2.out).mono HB.out.size)⟩
      case measure => simp [intOf]; omega
    · have e1 : decide ((j : Int) < (xs.length : Int)) = false := by simp; omega
      go_wp2_with fail
      go_ret
      exact ⟨rfl, HB.out⟩

theorem infoDatabase : (Try.prog.info? 39).map (fun i => (i.zero, i.size, i.bytes)) = some (some (.agg #[.slice none 0 0]), 1, 24) := by kernel_rfl

set_option maxRecDepth 20000 in
set_option maxHeartbeats 2000000 in
/-- laws.toDatabaseS: a row of its own with the same elements. -/
theorem toDatabaseS_any {l : Nat} {e0 : TypeId} {w : World} {v : Value} {xs : List VDatabase} (h : (sliceT e0 tyDatabase).rd l w [v] xs) (hl : l ≤ w.heap.size) (hn : (sliceT e0 tyDatabase).tot xs ≤ 1073741824) :
    Calls Try.prog 31 #[v] w fun e w' => ∃ v', e = .returned v' ∧ (sliceT 39 tyDatabase).own (ival w.heap.size w'.heap.size) w' [v'] xs ∧ Below w.heap.size w w' := by
  replace hn : totL tyDatabase xs ≤ 1073741824 := hn
  obtain ⟨i0, hi, hz0, hz1, hz2⟩ := info_parts infoDatabase
  have hn1 : xs.length ≤ 1073741824 := by rw [totL_eq] at hn; omega
  have start : ∀ w1, w1.ownsRow w.heap.size 39 1 (.slice (some ⟨w.heap.size, 0, none⟩) xs.length xs.length) xs.length (madeCells #[.slice none 0 0] xs.length).toList → w.grownBy w1 none →
      (sliceT 39 tyDatabase).own (ival w.heap.size w1.heap.size) w1 [.slice (some ⟨w.heap.size, 0, none⟩) xs.length xs.length] (xs.take 0 ++ List.replicate (xs.length - 0) tyDatabase.zero) := by
    intro w1 ho hg
    rw [List.take_zero, List.nil_append, Nat.sub_zero]
    have hlt := (ho.lt w.heap.size rfl).2
    exact slo_made (T := tyDatabase) (zc := #[.slice none 0 0]) rfl (by rw [show xs.length * tyDatabase.sz = xs.length from Nat.mul_one _]; exact ho) (fun b hb => by injection hb with hb; subst hb; exact ⟨Nat.le_refl _, hlt⟩)
  obtain ⟨a, cap, hv, h1, h2, hc⟩ := sl_open h
  injection hv with hv
  subst hv
  have Hc := Lib.hid hc
  have Hhi := Lib.hid hi
  have Hst := Lib.hid start
  have Hn := Lib.hid hn
  unfold maxLen at h2
  clear h hc hi start hn
  go_enter Try.func31, Try.ntmps31
  go_wp2_with (first | (at_make; refine wpList_make_full _ rfl _ _ 24 rfl w.heap.size 39 i0 (.agg #[.slice none 0 0]) 1 Try.underlying24 Hhi.out hz0 hz1 .i64 .i64 _ _ xs.length rfl rfl rfl rfl (by rw [hz2]; omega) (by unfold maxLen; omega) (Nat.le_refl _) ?_))
  intro w1 hown hg
  have HO := Lib.hid (Hst.out w1 hown hg)
  have Hb := Lib.hid ((Below.refl w.heap.size w).grown hg (Nat.le_refl _) (fun k hk => by cases hk))
  clear hown hg
  go_wp2_with fail
  go_loopw [4] (fun i wr => ∃ j : Nat, i = .int .i64 j ∧ j ≤ xs.length ∧ (sliceT 39 tyDatabase).own (ival w.heap.size wr.heap.size) wr [.slice (some ⟨w.heap.size, 0, none⟩) xs.length xs.length] (xs.take j ++ List.replicate (xs.length - j) tyDatabase.zero) ∧ Below w.heap.size w wr) (fun i _ => xs.length - (intOf i).toNat)
  case atStart => exact ⟨0, rfl, Nat.zero_le _, HO.out, Hb.out⟩
  case round =>
    obtain ⟨j, rfl, hj, hO, hB⟩ := hrel
    have HO := Lib.hid hO
    have HB := Lib.hid hB
    clear hO hB
    by_cases hlt : j < xs.length
    · have e1 : decide ((j : Int) < (xs.length : Int)) = true := by simp; omega
      obtain ⟨b, o, rfl, hbl, hcell⟩ := Hc.out (by omega)
      obtain ⟨x, hx⟩ : ∃ x, xs[j]? = some x := ⟨_, List.getElem?_eq_getElem hlt⟩
      obtain ⟨c, hr, hcl⟩ := hcell wr (HB.out.mono hl) j x hx
      have hcl : ∀ (k : Nat) (u : Value), c[k]? = some u → wr.cell? ⟨b, o + (j + k), none⟩ = some u := fun k u hu => by have := hcl k u hu; rwa [show j * tyDatabase.sz = j from Nat.mul_one j] at this
      have Hr := Lib.hid hr
      have Hx := Lib.hid hx
      have HTx : Hid (tyDatabase.tot x ≤ 1073741824) := Lib.hid (by have := etot_take (T := tyDatabase) hx; have := etot_le tyDatabase xs (j + 1); have := Hn.out; rw [totL_eq] at this; omega)
      obtain ⟨a0, c0, rfl, _⟩ := rd_Database hr
      have k0 : wr.cell? ⟨b, o + j, none⟩ = _ := hcl 0 _ rfl
      clear hcell hcl hr hx
      go_wp2_with fail
      refine (toDatabase_any Hr.out (Nat.le_trans hl HB.out.size) HTx.out).mono ?_
      rintro e w2 ⟨ds, rfl, hO2, hb⟩
      have HO2 := Lib.hid hO2
      have HO3 := Lib.hid ((sliceT 39 tyDatabase).onext HO.out hb)
      have HB2 := Lib.hid hb
      obtain ⟨Fi, c, hf, ho, hq⟩ := Foc.take HO3.out (fillT_get hlt)
      have Hf := Lib.hid hf
      obtain ⟨b0, m0, G0, rfl, _⟩ := own_Database hO2
      obtain ⟨y0, z0, Y0, rfl, _⟩ := own_Database ho
      clear k0
      have d0 := hf.cell (j := 0) rfl
      rw [show j * tyDatabase.sz + 0 = j from Nat.mul_one j] at d0
      have f0 : w2.frozen? ⟨w.heap.size, j, none⟩ = false := hf.free _
      clear hO2 hb hf ho hq
      go_wp2
      go_roundw
      case rel =>
        obtain ⟨p0, q0⟩ := Hf.out.store (j := 0) (by decide) (.slice b0 x.length m0)
        rw [show j * tyDatabase.sz + 0 = j from Nat.mul_one j] at p0 q0
        have q := q0
        have hs2 := HB.out.size
        have hs3 := HB2.out.size
        have hg := Hf.out.fg
        unfold ival at hg
        have pc := p0.fill (tyDatabase.okept HO2.out q (fun b hb e => by unfold ival at hb; omega)) (fun b hb hF => by unfold ival at hb hF; omega)
        have hn : (List.take j xs ++ List.replicate (xs.length - j) tyDatabase.zero).length = xs.length := by simp; omega
        rw [hn] at pc
        have hset : (List.take j xs ++ List.replicate (xs.length - j) tyDatabase.zero).set j x = List.take (j + 1) xs ++ List.replicate (xs.length - (j + 1)) tyDatabase.zero := fillT_set Hx.out
        have pc' : (sliceT 39 tyDatabase).own _ _ _ (List.take (j + 1) xs ++ List.replicate (xs.length - (j + 1)) tyDatabase.zero) := hset ▸ pc
        refine ⟨j + 1, by simp, hlt, (sliceT 39 tyDatabase).omono pc' fun b hb => ?_, (HB.out.trans (HB2.out.mono hs2)).trans (q.below (fun b hb => by omega) (by omega))⟩
        simp only [ival, sizeSet] at hb ⊢
        rcases hb with hb | hb <;> omega
      case measure => simp [intOf]; omega
    · have e1 : decide ((j : Int) < (xs.length : Int)) = false := by simp; omega
      have ej : j = xs.length := by omega
      have hO := HO.out
      rw [ej, List.take_length, Nat.sub_self, List.replicate_zero, List.append_nil] at hO
      have HO' := Lib.hid hO
      clear hO HO
      go_wp2
      go_ret
      exact ⟨_, rfl, HO'.out, HB.out⟩

set_option maxRecDepth 20000 in
set_option maxHeartbeats 2000000 in
/-- laws.markDatabaseS: every element is set to its marks. -/
theorem markDatabaseS_any {e0 : TypeId} {F : Nat → Prop} {w : World} {v : Value} {xs : List VDatabase} {k0 : Int} (h : (sliceT e0 tyDatabase).own F w [v] xs) (h0 : 0 ≤ k0) (hk : k0 + (sliceT e0 tyDatabase).vcnt xs ≤ 9223372036854775807) :
    Calls Try.prog 20 #[v, .int .i64 k0] w fun e' w' => e' = .returned (.int .i64 (k0 + (sliceT e0 tyDatabase).vcnt xs)) ∧ (sliceT e0 tyDatabase).own F w' [v] ((sliceT e0 tyDatabase).vmrk k0 xs) ∧ KeptF F w w' := by
  replace hk : k0 + cntL tyDatabase xs ≤ 9223372036854775807 := hk
  change Calls _ _ _ _ fun e' w' => e' = .returned (.int .i64 (k0 + cntL tyDatabase xs)) ∧ (sliceT e0 tyDatabase).own F w' [v] (mkL tyDatabase k0 xs) ∧ KeptF F w w'
  obtain ⟨a, cap, hv, _, hm, ha⟩ := slo_open h
  injection hv with hv
  subst hv
  have hlen : xs.length ≤ 9223372036854775807 := by unfold maxLen at hm; omega
  have HU : (sliceT e0 tyDatabase).own F w [.slice a xs.length cap] (mkL tyDatabase k0 (xs.take 0) ++ xs.drop 0) := by rw [List.take_zero, List.drop_zero]; exact h
  have HO := Lib.hid HU
  have Ha := Lib.hid ha
  clear h HU ha hm
  go_enter Try.func20, Try.ntmps20
  go_wp2_with fail
  go_loopw [1, 5] (fun k i wr => ∃ j : Nat, i = .int .i64 j ∧ k = .int .i64 (k0 + cntL tyDatabase (xs.take j)) ∧ j ≤ xs.length ∧ (sliceT e0 tyDatabase).own F wr [.slice a xs.length cap] (mkL tyDatabase k0 (xs.take j) ++ xs.drop j) ∧ KeptF F w wr) (fun _ i _ => xs.length - (intOf i).toNat)
  case atStart => exact ⟨0, rfl, by simp [cntL], Nat.zero_le _, HO.out, KeptF.refl _ _⟩
  case round =>
    obtain ⟨j, rfl, rfl, hj, hO, hG⟩ := hrel
    have HO := Lib.hid hO
    have HG := Lib.hid hG
    clear hO hG
    by_cases hlt : j < xs.length
    · have e1 : decide ((j : Int) < (xs.length : Int)) = true := by simp; omega
      obtain ⟨g, rfl, hg⟩ := Ha.out (by omega)
      obtain ⟨x, hx⟩ : ∃ x, xs[j]? = some x := ⟨_, List.getElem?_eq_getElem hlt⟩
      obtain ⟨Fi, c, hf, ho, hn⟩ := Foc.take HO.out (mid_get (by rw [mkL_len]; simp; omega) hx)
      have t1 := cntL_take (T := tyDatabase) hx
      have t3 : cntL tyDatabase (xs.take (j + 1)) ≤ cntL tyDatabase xs := cntL_take_le _ _ _
      have Hx := Lib.hid hx
      have Hf := Lib.hid hf
      obtain ⟨f0, hf0⟩ : ∃ f0, f0 = cntL tyDatabase (xs.take j) := ⟨_, rfl⟩
      obtain ⟨y, hy⟩ : ∃ y, y = tyDatabase.cnt x := ⟨_, rfl⟩
      have Hf0 := Lib.hid hf0
      have Hy : Hid ((sliceT 22 (sliceT 5 u8T)).vcnt x = y) := Lib.hid hy.symm
      rw [← hf0] at t1 ⊢
      rw [← hy] at t1
      have T1 := Lib.hid t1
      have hkb : k0 + (f0 : Int) + (y : Int) ≤ 9223372036854775807 := by omega
      obtain ⟨a0, c0, G0, rfl, hw, hG0⟩ := own_Database ho
      have Hw := Lib.hid hw
      have HG0 := Lib.hid hG0
      have kc : wr.cell? ⟨g, j, none⟩ = some (.slice a0 x.length c0) := by
        have := hf.cell (j := 0) rfl
        have e2 : j * tyDatabase.sz + 0 = j := by show j * 1 + 0 = j; omega
        rwa [e2] at this
      have Hk2 : Hid (k0 + (f0 : Int) + ((sliceT 22 (sliceT 5 u8T)).vcnt x : Nat) ≤ 9223372036854775807) := Lib.hid (by rw [Hy.out]; exact hkb)
      clear hx hf ho hf0 hy HO t1 t3 hg hk hn hw hG0
      go_wp2_with fail
      refine (markByteSS_t (k0 := k0 + f0) Hw.out (by omega) Hk2.out).mono ?_
      rw [Hy.out]
      rintro e w2 ⟨rfl, hO2, hg2⟩
      have HO2 := Lib.hid hO2
      have Hg2 := Lib.hid hg2
      clear hO2 hg2 kc
      go_wp2
      go_roundw
      case rel =>
        have pk := Hf.out.kept Hg2.out (fun b hb _ _ => HG0.out b hb)
        have pc := pk.close (x := tyDatabase.mrk (k0 + f0) x) ((sliceT 22 (sliceT 5 u8T)).omono HO2.out HG0.out)
        rw [Hf0.out, mkL_set Hx.out] at pc
        have hn : (mkL tyDatabase k0 (List.take j xs) ++ List.drop j xs).length = xs.length := by rw [List.length_append, mkL_len, List.length_take, List.length_drop]; omega
        rw [hn] at pc
        exact ⟨j + 1, by simp, by rw [T1.out]; congr 1; push_cast; omega, hlt, pc, HG.out.trans (Hg2.out.mono fun b hb => (Hf.out.fi b (HG0.out b hb)).1)⟩
      case measure => simp [intOf]; omega
    · have e1 : decide ((j : Int) < (xs.length : Int)) = false := by simp; omega
      have ej : j = xs.length := by omega
      have hO := HO.out
      rw [ej, List.take_length, List.drop_length, List.append_nil] at hO
      have HO' := Lib.hid hO
      have He := Lib.hid (show cntL tyDatabase (xs.take j) = cntL tyDatabase xs by rw [ej, List.take_length])
      clear hO HO ej
      go_wp2
      go_ret
      exact ⟨by rw [He.out]; rfl, HO'.out, HG.out⟩

set_option maxRecDepth 20000 in
set_option maxHeartbeats 2000000 in
/-- laws.heldDatabaseS: the marks still stand. -/
theorem heldDatabaseS_any {l : Nat} {e0 : TypeId} {w : World} {v : Value} {xs : List VDatabase} {k0 : Int} (h : (sliceT e0 tyDatabase).rd l w [v] ((sliceT e0 tyDatabase).vmrk k0 xs)) (hl : l ≤ w.heap.size) (h0 : 0 ≤ k0) (hk : k0 + (sliceT e0 tyDatabase).vcnt xs ≤ 9223372036854775807) :
    Calls Try.prog 21 #[v, .int .i64 k0] w fun e' w' => e' = .returned (.int .i64 (k0 + (sliceT e0 tyDatabase).vcnt xs)) ∧ Below w.heap.size w w' := by
  replace hk : k0 + cntL tyDatabase xs ≤ 9223372036854775807 := hk
  replace h : (sliceT e0 tyDatabase).rd l w [v] (mkL tyDatabase k0 xs) := h
  change Calls _ _ _ _ fun e' w' => e' = .returned (.int .i64 (k0 + cntL tyDatabase xs)) ∧ Below w.heap.size w w'
  obtain ⟨a, cap, hv, _, hm, hc⟩ := sl_open h
  injection hv with hv
  subst hv
  rw [mkL_len] at hc ⊢
  have hlen : xs.length ≤ 9223372036854775807 := by have := sl_len h; rw [mkL_len] at this; unfold maxLen at this; omega
  have Hc := Lib.hid hc
  clear h hc hm
  go_enter Try.func21, Try.ntmps21
  go_wp2_with fail
  go_loopw [1, 5] (fun k i wr => ∃ j : Nat, i = .int .i64 j ∧ k = .int .i64 (k0 + cntL tyDatabase (xs.take j)) ∧ j ≤ xs.length ∧ Below w.heap.size w wr) (fun _ i _ => xs.length - (intOf i).toNat)
  case atStart => exact ⟨0, rfl, by simp [cntL], Nat.zero_le _, Below.refl _ _⟩
  case round =>
    obtain ⟨j, rfl, rfl, hj, hB⟩ := hrel
    have HB := Lib.hid hB
    clear hB
    by_cases hlt : j < xs.length
    · have e1 : decide ((j : Int) < (xs.length : Int)) = true := by simp; omega
      obtain ⟨b, o, rfl, hbl, hcell⟩ := Hc.out (by omega)
      obtain ⟨x, hx⟩ : ∃ x, xs[j]? = some x := ⟨_, List.getElem?_eq_getElem hlt⟩
      obtain ⟨c, hr, hcl⟩ := hcell wr (HB.out.mono hl) j _ (mkL_get hx)
      have hcl : ∀ (k : Nat) (u : Value), c[k]? = some u → wr.cell? ⟨b, o + (j + k), none⟩ = some u := fun k u hu => by have := hcl k u hu; rwa [show j * tyDatabase.sz = j from Nat.mul_one j] at this
      have t1 := cntL_take (T := tyDatabase) hx
      have t3 : cntL tyDatabase (xs.take (j + 1)) ≤ cntL tyDatabase xs := cntL_take_le _ _ _
      obtain ⟨f0, hf0⟩ : ∃ f0, f0 = cntL tyDatabase (xs.take j) := ⟨_, rfl⟩
      obtain ⟨y, hy⟩ : ∃ y, y = tyDatabase.cnt x := ⟨_, rfl⟩
      have Hy : Hid ((sliceT 22 (sliceT 5 u8T)).vcnt x = y) := Lib.hid hy.symm
      rw [← hf0] at t1 hr ⊢
      rw [← hy] at t1
      have T1 := Lib.hid t1
      have hkb : k0 + (f0 : Int) + (y : Int) ≤ 9223372036854775807 := by omega
      have hr2 : (sliceT 22 (sliceT 5 u8T)).rd l wr c ((sliceT 22 (sliceT 5 u8T)).vmrk (k0 + (f0 : Int)) x) := hr
      obtain ⟨a0, c0, rfl, _⟩ := sl_open hr2
      obtain ⟨n0, hn0⟩ : ∃ n, n = ((sliceT 22 (sliceT 5 u8T)).vmrk (k0 + (f0 : Int)) x).length := ⟨_, rfl⟩
      rw [← hn0] at hr2 hcl
      have Hr := Lib.hid hr2
      have kc : wr.cell? ⟨b, o + j, none⟩ = some (.slice a0 n0 c0) := by
        exact hcl 0 _ rfl
      have Hk2 : Hid (k0 + (f0 : Int) + ((sliceT 22 (sliceT 5 u8T)).vcnt x : Nat) ≤ 9223372036854775807) := Lib.hid (by rw [Hy.out]; exact hkb)
      have e2 : decide (k0 + (f0 : Int) + (y : Int) < 0) = false := by simp; omega
      clear hx hr hr2 hcl hcell hf0 hy hn0 t1 t3 hk
      go_wp2_with fail
      refine (heldByteSS_t (k0 := k0 + f0) Hr.out (Nat.le_trans hl HB.out.size) (by omega) Hk2.out).mono ?_
      rw [Hy.out]
      rintro e w2 ⟨rfl, hb⟩
      have HB2 := Lib.hid (HB.out.trans (hb.mono HB.out.size))
      clear hb HB kc
      go_wp2
      go_roundw
      case rel => exact ⟨j + 1, by simp, by rw [T1.out]; congr 1; push_cast; omega, hlt, HB2.out⟩
      case measure => simp [intOf]; omega
    · have e1 : decide ((j : Int) < (xs.length : Int)) = false := by simp; omega
      have He := Lib.hid (show cntL tyDatabase (xs.take j) = cntL tyDatabase xs by rw [show j = xs.length by omega, List.take_length])
      go_wp2
      go_ret
      exact ⟨by rw [He.out]; rfl, HB.out⟩

end Go.Proofs.Ytdipignajccdcaa
