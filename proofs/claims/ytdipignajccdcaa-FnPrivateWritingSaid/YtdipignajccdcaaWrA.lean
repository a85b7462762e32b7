/- Writes of the program: databases added up, the database with one cell, the streams of a seed. No conditions but a size that a machine holds. MakeWrite of the program: the databases of a write. No conditions but a size that a machine holds. JoinWrites and ExplainWrite of the program. No conditions but a size that a machine holds. -/
import Derived.Test.YtdipignajccdcaaWrN
import Derived.Test.YtdipignajccdcaaBbT
import Derived.Test.YtdipignajccdcaaCopyR
import Derived.Test.YtdipignajccdcaaDb2
import Derived.Test.YtdipignajccdcaaBbR
import Derived.Test.YtdipignajccdcaaBbD
import Derived.Test.YtdipignajccdcaaShN
import Derived.Test.YtdipignajccdcaaHeldL
import Derived.Test.YtdipignajccdcaaSh1
import Derived.Laws.EntriesVeiled
import Derived.Deep.RegionHeld3
import Derived.Deep.DeepCutAuto

/-! Wr1 -/
namespace Go.Proofs.Ytdipignajccdcaa
open Go Go.RowKit
set_option linter.unusedVariables false
attribute [local irreducible] kh

theorem fitD_any {w : World} {a : Option Addr} {n cap : Nat} (hn : n ≤ 140737488355328) : Calls Try.prog 65 #[.slice a n cap] w fun e w' => e = .returned (.bool (inR (n : Int) 2 4)) ∧ w' = w := by
  go_enter Try.func65, Try.ntmps65
  go_wp2_with fail
  refine (impl_in _ _ _ _ (wf_i64_of (by omega) (by omega))).mono ?_
  rintro e w1 ⟨rfl, hw⟩
  subst hw
  go_wp2_with fail
  go_ret
  exact ⟨rfl, rfl⟩

set_option maxRecDepth 20000 in
set_option maxHeartbeats 4000000 in
/-- impl.addDatabases: the sum; what came in where there is nothing else. -/
theorem addDb_any {l1 l2 : Nat} {e0 : TypeId} {w : World} {u v : Value} {za : List (List Int)} {zs : List VDatabase} (hu : Rd2 l1 .u8 w u za) (hv : (sliceT e0 tyDatabase).rd l2 w [v] zs) (hl1 : l1 ≤ w.heap.size) (hl2 : l2 ≤ w.heap.size) (hn : tot za ≤ 1099511627776) (hm : totL tyDatabase zs ≤ 1099511627776) :
    Calls Try.prog 66 #[.agg #[u], v] w fun e w' => ∃ v', e = .returned (.tuple #[.agg #[v'], .bool (adK za zs)]) ∧ ((zs = [] ∧ v' = u) ∨ Own2 22 5 .u8 (ival w.heap.size w'.heap.size) w' v' (ad za zs)) ∧ Below w.heap.size w w' := by
  obtain ⟨au, cu, rfl, hu2, hu3, _⟩ := hu.open
  obtain ⟨av, cv, hv1, hv2, hv3, hvc⟩ := sl_open hv
  injection hv1 with hv1
  subst hv1
  have HVC := Lib.hid hvc
  obtain ⟨nu, hnu⟩ : ∃ n, n = za.length := ⟨_, rfl⟩
  rw [← hnu] at hu ⊢
  have HB := Lib.hid (((Below.refl w.heap.size w).alloc (Nat.le_refl _) (.cells #[.slice au nu cu] 39)).alloc (by simp) (.cells #[.slice none 0 0] 39))
  have hbl := blocks2 w (.cells #[.slice au nu cu] 39) (.cells #[.slice none 0 0] 39)
  have HS := Lib.hid hbl.1
  have HR := Lib.hid hbl.2
  have HU := Lib.hid hu
  have HNa := Lib.hid hn
  have HNs : Hid (∀ (j : Nat) (x : VDatabase), zs[j]? = some x → tot x ≤ 1099511627776) := Lib.hid (fun j x hx => Nat.le_trans (tot_mem hx) hm)
  have HNl : Hid (zs.length = 0 → zs = []) := Lib.hid (fun h => List.length_eq_zero_iff.1 h)
  have HZl := Lib.hid hu2
  unfold maxLen at hv3
  clear hu hv hvc hbl hn hm hnu hu2 hu3
  go_enter Try.func66, Try.ntmps66
  go_wp2_with fail
  go_loopw [12] (fun i wr => ∃ (j : Nat) (s : Value) (F : Nat → Prop), i = .int .i64 j ∧ j ≤ zs.length ∧ adK za (zs.take j) = true ∧ ((j = 0 ∧ s = .slice au nu cu) ∨ Own2 22 5 .u8 F wr s (adF za (zs.take j))) ∧
    (∀ b, F b → w.heap.size + 2 ≤ b ∧ b < wr.heap.size) ∧ wr.heap[w.heap.size]? = some (.cells #[s] 39) ∧ wr.heap[w.heap.size + 1]? = some (.cells #[.slice none 0 0] 39) ∧ Below w.heap.size w wr) (fun i _ => zs.length - (intOf i).toNat)
  case atStart => exact ⟨0, _, fun _ => False, rfl, Nat.zero_le _, rfl, .inl ⟨rfl, rfl⟩, fun b hb => hb.elim, HS.out, HR.out, HB.out⟩
  case round =>
    obtain ⟨j, s, F, rfl, hj, hK, hO, hF, hS, hR, hB⟩ := hrel
    replace HS := Lib.hid hS
    replace HR := Lib.hid hR
    replace HB := Lib.hid hB
    have HK := Lib.hid hK
    have HF := Lib.hid hF
    have HSz := Lib.hid (lt_of_block hR)
    -- the sum is read
    have hrd : ∃ l, l ≤ wr.heap.size ∧ Rd2 l .u8 wr s (adF za (zs.take j)) := by
      rcases hO with ⟨rfl, rfl⟩ | h
      · exact ⟨l1, Nat.le_trans hl1 HB.out.size, HU.out.behind (HB.out.mono hl1)⟩
      · exact ⟨_, Nat.le_refl _, h.rd2⟩
    obtain ⟨ls, hls, hrs⟩ := hrd
    have HO := Lib.hid hO
    obtain ⟨aq, cq, hs0, _⟩ := hrs.open
    obtain ⟨nq, hns⟩ : ∃ n, n = (adF za (zs.take j)).length := ⟨_, rfl⟩
    rw [← hns] at hs0
    subst hs0
    clear hns hK hO hF hS hR hB
    have HLs := Lib.hid hls
    have HRs := Lib.hid hrs
    clear hrs hls
    by_cases hlt : j < zs.length
    · have e1 : decide ((j : Int) < (zs.length : Int)) = true := by simp; omega
      obtain ⟨b, o, rfl, hbl, hcell⟩ := HVC.out (by omega)
      obtain ⟨x, hx⟩ : ∃ x, zs[j]? = some x := ⟨_, List.getElem?_eq_getElem hlt⟩
      obtain ⟨c, hr, hcl⟩ := hcell wr (HB.out.mono hl2) j x hx
      have hcl : ∀ (k : Nat) (y : Value), c[k]? = some y → wr.cell? ⟨b, o + (j + k), none⟩ = some y := fun k y hy => by have := hcl k y hy; rwa [show j * tyDatabase.sz = j from Nat.mul_one j] at this
      have HTx := Lib.hid (HNs.out j x hx)
      have HTf := Lib.hid (adF_take (u := za) hx)
      have HTk := Lib.hid (adK_take hx HK.out)
      obtain ⟨a0, c0, rfl, hr'⟩ := rd_Database hr
      have hrx : Rd2 l2 .u8 wr (.slice a0 x.length c0) x := rd2_of_sl2 hr'
      obtain ⟨nx, hnx⟩ : ∃ n, n = x.length := ⟨_, rfl⟩
      rw [← hnx] at hrx hcl
      have k0 : wr.cell? ⟨b, o + j, none⟩ = _ := hcl 0 _ rfl
      have hb1 := (Below.refl wr.heap.size wr).alloc (Nat.le_refl _) (.cells #[.slice a0 nx c0] 39)
      have HRx := Lib.hid (hrx.behind (hb1.mono (Nat.le_trans hl2 HB.out.size)))
      have HRs1 := Lib.hid (HRs.out.behind (hb1.mono HLs.out))
      have HX1 := Lib.hid (heap_alloc_new wr (.cells #[.slice a0 nx c0] 39))
      have HS1 := Lib.hid ((heap_alloc_old wr (.cells #[.slice a0 nx c0] 39) (lt_of_block HS.out)).trans HS.out)
      have HR1 := Lib.hid ((heap_alloc_old wr (.cells #[.slice a0 nx c0] 39) (lt_of_block HR.out)).trans HR.out)
      have HB1 := Lib.hid (HB.out.alloc HB.out.size (.cells #[.slice a0 nx c0] 39))
      have HTs := Lib.hid (adF_tot_le (N := 1099511627776) HK.out (by decide) HNa.out)
      have HLe1 : Hid (wr.heap.size ≤ (wr.alloc (.cells #[.slice a0 nx c0] 39)).heap.size) := Lib.hid hb1.size
      have HL2 := Lib.hid (Nat.le_trans hl2 HB.out.size)
      have cX := blk_cell HX1.out 0
      have cS := blk_cell HS1.out 0
      rw [one0] at cX cS
      clear hcell hcl hr hr' hrx hb1 hx hnx
      go_wp2_with fail
      clear cX cS k0
      refine (impl_xd HRs1.out HRx.out (Nat.le_trans HLs.out HLe1.out) (Nat.le_trans HL2.out HLe1.out) HTs.out HTx.out).mono ?_
      rw [← HTk.out, HTf.out]
      rintro e w2 ⟨v2, rfl, h2, hb⟩
      obtain ⟨a2, c2, hv2', _⟩ := h2.open
      obtain ⟨n2, hn2⟩ : ∃ n, n = (adF za (zs.take (j + 1))).length := ⟨_, rfl⟩
      rw [← hn2] at hv2'
      subst hv2'
      clear hn2
      have HO2 := Lib.hid h2
      have HS2 := Lib.hid ((heap_alloc_old w2 (.cells #[.slice a2 n2 c2] 39) (Nat.lt_of_lt_of_le (lt_of_block HS1.out) hb.size)).trans ((hb.block _ (lt_of_block HS1.out)).trans HS1.out))
      have HR2 := Lib.hid ((heap_alloc_old w2 (.cells #[.slice a2 n2 c2] 39) (Nat.lt_of_lt_of_le (lt_of_block HR1.out) hb.size)).trans ((hb.block _ (lt_of_block HR1.out)).trans HR1.out))
      have HV2 := Lib.hid (heap_alloc_new w2 (.cells #[.slice a2 n2 c2] 39))
      have HB2 := Lib.hid ((HB1.out.trans (hb.mono HB1.out.size)).alloc (Nat.le_trans HB1.out.size hb.size) (.cells #[.slice a2 n2 c2] 39))
      have HZ2 : Hid (wr.heap.size + 1 ≤ w2.heap.size) := Lib.hid (by have := hb.size; simpa using this)
      clear h2 hb HS HR HB HS1 HR1 HB1 HX1 HRx HRs1
      by_cases hk : adK za (zs.take (j + 1)) = true
      · rw [hk]
        have HKn := Lib.hid hk
        have cS := blk_cell HS2.out 0
        have fS := blk_free HS2.out 0
        have cV := blk_cell HV2.out 0
        rw [one0] at cS cV
        clear hk
        go_wp2_with fail
        clear cS fS cV
        obtain ⟨s1, s2, s3⟩ := store1 HS2.out (.slice a2 n2 c2)
        obtain ⟨w3, hw3⟩ : ∃ w3, w3 = (w2.alloc (.cells #[.slice a2 n2 c2] 39)).setCell ⟨w.heap.size, 0, none⟩ (.slice a2 n2 c2) := ⟨_, rfl⟩
        rw [← hw3] at s1 s2 s3 ⊢
        have HZ3 : Hid (w3.heap.size = w2.heap.size + 1) := Lib.hid (by rw [hw3, World.setCell_size]; simp)
        have H1 := Lib.hid s1
        have H3 := Lib.hid s3
        clear hw3 s1 s2 s3
        go_roundw
        case rel =>
          have z0 := HSz.out
          have z2 := HZ2.out
          have z3 := HZ3.out
          refine ⟨j + 1, _, ival (wr.heap.size + 1) w2.heap.size, by simp, hlt, HKn.out, .inr ?_, fun b hb => by unfold ival at hb; omega, H1.out, ?_, HB2.out.trans (H3.out.below (B := w.heap.size) (fun b hb => by omega) HB2.out.size)⟩
          · have h := (HO2.out.alloc (.cells #[.slice a2 n2 c2] 39)).keptF H3.out (fun b hb => by unfold ival at hb; rw [World.size_alloc] at hb; omega)
            exact h.mono fun b hb => by unfold ival at hb ⊢; rw [World.size_alloc] at hb; omega
          · exact (H3.out.block _ (lt_of_block HR2.out) (by omega)).trans HR2.out
        case measure => simp [intOf]; omega
      · have hk' : adK za (zs.take (j + 1)) = false := by simpa using hk
        rw [hk']
        have HKn := Lib.hid (adK_stop hk')
        have cR := blk_cell HR2.out 0
        have fR := blk_free HR2.out 0
        rw [one0] at cR
        clear hk hk'
        go_wp2_with fail
        clear cR fR
        obtain ⟨s1, s2, s3⟩ := store1 HR2.out (.slice none 0 0)
        obtain ⟨w3, hw3⟩ : ∃ w3, w3 = (w2.alloc (.cells #[.slice a2 n2 c2] 39)).setCell ⟨w.heap.size + 1, 0, none⟩ (.slice none 0 0) := ⟨_, rfl⟩
        rw [← hw3] at s1 s2 s3 ⊢
        have Q2 := Lib.hid (HB2.out.trans (s3.below (B := w.heap.size) (fun b hb => by omega) HB2.out.size))
        clear hw3 s1 s3
        have HE := HKn.out
        exact bodyPost_ret (v := .tuple #[.agg #[.slice none 0 0], .bool false]) (by simp [results, Try.results66, go_sem, s2]) rfl ⟨_, by rw [HE], .inr (by rw [ad_no HE]; exact Own2.nil _ _ _ _ _), Q2.out⟩
    · have e1 : decide ((j : Int) < (zs.length : Int)) = false := by simp; omega
      have ej : zs.take j = zs := List.take_of_length_le (by omega)
      have HJ : Hid (j = zs.length) := Lib.hid (by omega)
      rw [ej] at HK HO
      have cS := blk_cell HS.out 0
      have cR := blk_cell HR.out 0
      have fR := blk_free HR.out 0
      rw [one0] at cS cR
      clear ej
      go_wp2_with fail
      clear cS cR fR
      obtain ⟨s1, s2, s3⟩ := store1 HR.out (.slice aq nq cq)
      obtain ⟨w3, hw3⟩ : ∃ w3, w3 = wr.setCell ⟨w.heap.size + 1, 0, none⟩ (.slice aq nq cq) := ⟨_, rfl⟩
      rw [← hw3] at s1 s2 s3 ⊢
      have hs3 : w3.heap.size = wr.heap.size := by rw [hw3, World.setCell_size]
      have Q2 := Lib.hid (HB.out.trans (s3.below (B := w.heap.size) (fun b hb => by omega) HB.out.size))
      have Q1 : Hid ((zs = [] ∧ Value.slice aq nq cq = .slice au nu cu) ∨ Own2 22 5 .u8 (ival w.heap.size w3.heap.size) w3 (.slice aq nq cq) (ad za zs)) := Lib.hid (by
        rcases HO.out with ⟨h0, h1⟩ | h
        · exact .inl ⟨HNl.out (by have := HJ.out; omega), h1⟩
        · refine .inr ?_
          rw [ad_yes HK.out]
          exact (h.keptF s3 (fun b hb => by have := HF.out b hb; omega)).mono fun b hb => by have := HF.out b hb; unfold ival; omega)
      clear hw3 s1 s3
      have HE := HK.out
      exact bodyPost_ret (v := .tuple #[.agg #[.slice aq nq cq], .bool true]) (by simp [results, Try.results66, go_sem, s2]) rfl ⟨_, by rw [HE], Q1.out, Q2.out⟩

/-- The database with one cell, or none. -/
def wr0 (r x : Int) (c : List Int) : List (List Int) := if rowOk r x c = true then whole r x c else []
theorem wr0_yes {r x : Int} {c : List Int} (h : rowOk r x c = true) : wr0 r x c = whole r x c := if_pos h
theorem wr0_no {r x : Int} {c : List Int} (h : rowOk r x c = false) : wr0 r x c = [] := if_neg (by rw [h]; exact Bool.false_ne_true)
theorem hasR_new (r x : Int) (c : List Int) : (hasR (newR r) x && decide (c.length = 24)) = rowOk r x c := by
  unfold rowOk hasR
  by_cases h : 0 ≤ r ∧ r ≤ 64
  · rw [newR_len h]
    by_cases h1 : 1 ≤ r
    · rw [inR_yes (show 1 ≤ r ∧ r ≤ 64 by omega), Bool.true_and, show ((r.toNat : Nat) : Int) = r by omega]
    · rw [inR_no (show ¬ (1 ≤ r ∧ r ≤ 64) by omega), inR_no (show ¬ (0 ≤ x ∧ x ≤ ((r.toNat : Nat) : Int) - 1) by omega)]
      rfl
  · rw [newR_no h, inR_no (show ¬ (1 ≤ r ∧ r ≤ 64) by omega), inR_no (show ¬ (0 ≤ x ∧ x ≤ ((([] : List (List Int)).length : Nat) : Int) - 1) by simp; omega)]
    rfl

set_option maxRecDepth 20000 in
set_option maxHeartbeats 4000000 in
/-- impl.writtenDatabase -/
theorem impl_wr {lim : Nat} {w : World} {u : Value} {r x : Int} {c : List Int} (hu : Rd lim .u8 w u c) (hl : lim ≤ w.heap.size) (hr : (Lit.int .i64 r).wf = true) (hx : (Lit.int .i64 x).wf = true) :
    Calls Try.prog 52 #[.int .i64 r, .int .i64 x, u] w fun e w' => ∃ v', e = .returned (.tuple #[.agg #[v'], .bool (rowOk r x c)]) ∧ Own2 22 5 .u8 (ival w.heap.size w'.heap.size) w' v' (wr0 r x c) ∧ Below w.heap.size w w' := by
  obtain ⟨i0, hi0, hz0, hz1, hz2⟩ := info_parts infou8
  have Hhi := Lib.hid hi0
  obtain ⟨au, cu, rfl, hu2, hu3, _⟩ := hu.open
  have HBa := Lib.hid ((Below.refl w.heap.size w).alloc (Nat.le_refl _) (.cells #[.slice none 0 0] 39))
  have HC := Lib.hid (hu.behind (HBa.out.mono hl))
  have HA := Lib.hid (heap_alloc_new w (.cells #[.slice none 0 0] 39))
  have HW := Lib.hid hr
  have HX := Lib.hid hx
  have HT := Lib.hid (hasR_new r x c)
  unfold maxLen at hu3
  clear hu hr hx hi0
  by_cases hk : hasR (newR r) x = true
  case neg =>
    have hkf : hasR (newR r) x = false := by simpa using hk
    have HK := Lib.hid hkf
    have HE : Hid (rowOk r x c = false) := Lib.hid (by rw [← HT.out, hkf, Bool.false_and])
    rw [HE.out, wr0_no HE.out]
    clear hk hkf
    go_enter Try.func52, Try.ntmps52
    go_wp2_with fail
    refine (impl_new HW.out).mono ?_
    rintro e w1 ⟨v1, rfl, h1, hb1⟩
    obtain ⟨av, cv, hv1, _, hc1, hg1⟩ := h1.open
    obtain ⟨nv, hnv⟩ : ∃ n, n = (newR r).length := ⟨_, rfl⟩
    have HnV := Lib.hid hnv
    have hn64 : nv ≤ 64 := by rw [hnv]; unfold newR; split <;> simp; omega
    have HG := Lib.hid hg1
    rw [← hnv] at hv1 HG
    subst hv1
    unfold maxLen at hc1
    have HA1 := Lib.hid ((heap_alloc_old w1 (.cells #[.slice av nv cv] 39) (Nat.lt_of_lt_of_le (lt_of_block HA.out) hb1.size)).trans ((hb1.block _ (lt_of_block HA.out)).trans HA.out))
    have HO1 := Lib.hid ((h1.alloc (.cells #[.slice av nv cv] 39)).mono (G := ival (w.heap.size + 1) w1.heap.size) (fun b hb => by unfold ival at hb ⊢; rw [World.size_alloc] at hb; exact hb))
    have HBx := Lib.hid ((HBa.out.trans (hb1.mono HBa.out.size)).alloc (Nat.le_trans HBa.out.size hb1.size) (.cells #[.slice av nv cv] 39))
    have HC1 := Lib.hid (HC.out.behind ((hb1.alloc hb1.size (.cells #[.slice av nv cv] 39)).mono (Nat.le_trans hl HBa.out.size)))
    have HD1 := Lib.hid (heap_alloc_new w1 (.cells #[.slice av nv cv] 39))
    have HDz1 : Hid (w.heap.size + 1 ≤ w1.heap.size) := Lib.hid (by have := hb1.size; rwa [World.size_alloc] at this)
    obtain ⟨D, hD⟩ : ∃ D, D = w1.heap.size := ⟨_, rfl⟩
    have cD1 := blk_cell HD1.out 0
    rw [one0] at cD1
    clear h1 hb1 hg1 hnv
    go_wp2_with fail
    clear cD1
    obtain ⟨w4, hw4⟩ : ∃ w4, w4 = w1.alloc (.cells #[.slice av nv cv] 39) := ⟨_, rfl⟩
    have HZ4 : Hid (w4.heap.size = D + 1) := Lib.hid (by rw [hw4, hD]; simp)
    rw [← hw4] at HA1 HO1 HBx HC1 HD1 ⊢
    rw [← hD] at HO1 HD1 HDz1 ⊢
    clear hw4 hD
    rw [HnV.out]
    refine (hasRow_any (zss := newR r) HX.out (by rw [← HnV.out]; omega)).mono ?_
    rw [HK.out]
    rintro e w5 ⟨rfl, hb5⟩
    have HA5 := Lib.hid ((hb5.block _ (lt_of_block HA1.out)).trans HA1.out)
    have HD := Lib.hid ((hb5.block _ (lt_of_block HD1.out)).trans HD1.out)
    have HO := Lib.hid (HO1.out.next hb5)
    have HB5 := Lib.hid (HBx.out.trans (hb5.mono HBx.out.size))
    have HC5 := Lib.hid (HC1.out.behind (hb5.mono (Nat.le_trans hl HBx.out.size)))
    have HDz := HDz1
    rw [← HnV.out]
    clear hb5 HA1 HD1 HO1 HBx HC1 HDz1
    have cA := blk_cell HA5.out 0
    have fA := blk_free HA5.out 0
    rw [one0] at cA
    go_wp2_with fail
    clear cA fA
    obtain ⟨s1, s2, s3⟩ := store1 HA5.out (.slice none 0 0)
    obtain ⟨w8, hw8⟩ : ∃ w8, w8 = w5.setCell ⟨w.heap.size, 0, none⟩ (.slice none 0 0) := ⟨_, rfl⟩
    rw [← hw8] at s1 s2 s3 ⊢
    have Q2 := Lib.hid (HB5.out.trans (s3.below (B := w.heap.size) (fun b hb => by omega) HB5.out.size))
    clear hw8 s1 s3
    exact bodyPost_ret (v := .tuple #[.agg #[.slice none 0 0], .bool false]) (by simp [results, Try.results52, go_sem, s2]) rfl ⟨_, rfl, Own2.nil _ _ _ _ _, Q2.out⟩
  by_cases h24 : c.length = 24
  case neg =>
    have HK := Lib.hid hk
    have HE : Hid (rowOk r x c = false) := Lib.hid (by rw [← HT.out, decide_eq_false h24, Bool.and_false])
    have e1 : ((c.length : Int) == 24) = false := by rw [beq_eq_false_iff_ne]; omega
    have HE1 := Lib.hid e1
    rw [HE.out, wr0_no HE.out]
    clear hk h24 e1
    go_enter Try.func52, Try.ntmps52
    go_wp2_with fail
    refine (impl_new HW.out).mono ?_
    rintro e w1 ⟨v1, rfl, h1, hb1⟩
    obtain ⟨av, cv, hv1, _, hc1, hg1⟩ := h1.open
    obtain ⟨nv, hnv⟩ : ∃ n, n = (newR r).length := ⟨_, rfl⟩
    have HnV := Lib.hid hnv
    have hn64 : nv ≤ 64 := by rw [hnv]; unfold newR; split <;> simp; omega
    have HG := Lib.hid hg1
    rw [← hnv] at hv1 HG
    subst hv1
    unfold maxLen at hc1
    have HA1 := Lib.hid ((heap_alloc_old w1 (.cells #[.slice av nv cv] 39) (Nat.lt_of_lt_of_le (lt_of_block HA.out) hb1.size)).trans ((hb1.block _ (lt_of_block HA.out)).trans HA.out))
    have HO1 := Lib.hid ((h1.alloc (.cells #[.slice av nv cv] 39)).mono (G := ival (w.heap.size + 1) w1.heap.size) (fun b hb => by unfold ival at hb ⊢; rw [World.size_alloc] at hb; exact hb))
    have HBx := Lib.hid ((HBa.out.trans (hb1.mono HBa.out.size)).alloc (Nat.le_trans HBa.out.size hb1.size) (.cells #[.slice av nv cv] 39))
    have HC1 := Lib.hid (HC.out.behind ((hb1.alloc hb1.size (.cells #[.slice av nv cv] 39)).mono (Nat.le_trans hl HBa.out.size)))
    have HD1 := Lib.hid (heap_alloc_new w1 (.cells #[.slice av nv cv] 39))
    have HDz1 : Hid (w.heap.size + 1 ≤ w1.heap.size) := Lib.hid (by have := hb1.size; rwa [World.size_alloc] at this)
    obtain ⟨D, hD⟩ : ∃ D, D = w1.heap.size := ⟨_, rfl⟩
    have cD1 := blk_cell HD1.out 0
    rw [one0] at cD1
    clear h1 hb1 hg1 hnv
    go_wp2_with fail
    clear cD1
    obtain ⟨w4, hw4⟩ : ∃ w4, w4 = w1.alloc (.cells #[.slice av nv cv] 39) := ⟨_, rfl⟩
    have HZ4 : Hid (w4.heap.size = D + 1) := Lib.hid (by rw [hw4, hD]; simp)
    rw [← hw4] at HA1 HO1 HBx HC1 HD1 ⊢
    rw [← hD] at HO1 HD1 HDz1 ⊢
    clear hw4 hD
    rw [HnV.out]
    refine (hasRow_any (zss := newR r) HX.out (by rw [← HnV.out]; omega)).mono ?_
    rw [HK.out]
    rintro e w5 ⟨rfl, hb5⟩
    have HA5 := Lib.hid ((hb5.block _ (lt_of_block HA1.out)).trans HA1.out)
    have HD := Lib.hid ((hb5.block _ (lt_of_block HD1.out)).trans HD1.out)
    have HO := Lib.hid (HO1.out.next hb5)
    have HB5 := Lib.hid (HBx.out.trans (hb5.mono HBx.out.size))
    have HC5 := Lib.hid (HC1.out.behind (hb5.mono (Nat.le_trans hl HBx.out.size)))
    have HDz := HDz1
    rw [← HnV.out]
    clear hb5 HA1 HD1 HO1 HBx HC1 HDz1
    go_wp2_with fail
    refine (cell_any).mono ?_
    rw [HE1.out]
    rintro e w6 ⟨rfl, hw6⟩
    obtain rfl : w5 = w6 := hw6.symm
    have cA := blk_cell HA5.out 0
    have fA := blk_free HA5.out 0
    rw [one0] at cA
    go_wp2_with fail
    clear cA fA
    obtain ⟨s1, s2, s3⟩ := store1 HA5.out (.slice none 0 0)
    obtain ⟨w8, hw8⟩ : ∃ w8, w8 = w5.setCell ⟨w.heap.size, 0, none⟩ (.slice none 0 0) := ⟨_, rfl⟩
    rw [← hw8] at s1 s2 s3 ⊢
    have Q2 := Lib.hid (HB5.out.trans (s3.below (B := w.heap.size) (fun b hb => by omega) HB5.out.size))
    clear hw8 s1 s3
    exact bodyPost_ret (v := .tuple #[.agg #[.slice none 0 0], .bool false]) (by simp [results, Try.results52, go_sem, s2]) rfl ⟨_, rfl, Own2.nil _ _ _ _ _, Q2.out⟩
  obtain ⟨k, rfl, hkl⟩ := hasR_iff.1 hk
  have HK := Lib.hid hk
  have HE : Hid (rowOk r (k : Int) c = true) := Lib.hid (by rw [← HT.out, hk, decide_eq_true h24]; rfl)
  have HE1 : Hid (((c.length : Int) == 24) = true) := Lib.hid (by rw [h24]; rfl)
  have H24 := Lib.hid h24
  have Hkl := Lib.hid hkl
  rw [HE.out, wr0_yes HE.out]
  clear hk h24 hkl
  go_enter Try.func52, Try.ntmps52
  go_wp2_with fail
  refine (impl_new HW.out).mono ?_
  rintro e w1 ⟨v1, rfl, h1, hb1⟩
  obtain ⟨av, cv, hv1, _, hc1, hg1⟩ := h1.open
  obtain ⟨nv, hnv⟩ : ∃ n, n = (newR r).length := ⟨_, rfl⟩
  have HnV := Lib.hid hnv
  have hn64 : nv ≤ 64 := by rw [hnv]; unfold newR; split <;> simp; omega
  have HG := Lib.hid hg1
  rw [← hnv] at hv1 HG
  subst hv1
  unfold maxLen at hc1
  have HA1 := Lib.hid ((heap_alloc_old w1 (.cells #[.slice av nv cv] 39) (Nat.lt_of_lt_of_le (lt_of_block HA.out) hb1.size)).trans ((hb1.block _ (lt_of_block HA.out)).trans HA.out))
  have HO1 := Lib.hid ((h1.alloc (.cells #[.slice av nv cv] 39)).mono (G := ival (w.heap.size + 1) w1.heap.size) (fun b hb => by unfold ival at hb ⊢; rw [World.size_alloc] at hb; exact hb))
  have HBx := Lib.hid ((HBa.out.trans (hb1.mono HBa.out.size)).alloc (Nat.le_trans HBa.out.size hb1.size) (.cells #[.slice av nv cv] 39))
  have HC1 := Lib.hid (HC.out.behind ((hb1.alloc hb1.size (.cells #[.slice av nv cv] 39)).mono (Nat.le_trans hl HBa.out.size)))
  have HD1 := Lib.hid (heap_alloc_new w1 (.cells #[.slice av nv cv] 39))
  have HDz1 : Hid (w.heap.size + 1 ≤ w1.heap.size) := Lib.hid (by have := hb1.size; rwa [World.size_alloc] at this)
  obtain ⟨D, hD⟩ : ∃ D, D = w1.heap.size := ⟨_, rfl⟩
  have cD1 := blk_cell HD1.out 0
  rw [one0] at cD1
  clear h1 hb1 hg1 hnv
  go_wp2_with fail
  clear cD1
  obtain ⟨w4, hw4⟩ : ∃ w4, w4 = w1.alloc (.cells #[.slice av nv cv] 39) := ⟨_, rfl⟩
  have HZ4 : Hid (w4.heap.size = D + 1) := Lib.hid (by rw [hw4, hD]; simp)
  rw [← hw4] at HA1 HO1 HBx HC1 HD1 ⊢
  rw [← hD] at HO1 HD1 HDz1 ⊢
  clear hw4 hD
  rw [HnV.out]
  refine (hasRow_any (zss := newR r) HX.out (by rw [← HnV.out]; omega)).mono ?_
  rw [HK.out]
  rintro e w5 ⟨rfl, hb5⟩
  have HA5 := Lib.hid ((hb5.block _ (lt_of_block HA1.out)).trans HA1.out)
  have HD := Lib.hid ((hb5.block _ (lt_of_block HD1.out)).trans HD1.out)
  have HO := Lib.hid (HO1.out.next hb5)
  have HB5 := Lib.hid (HBx.out.trans (hb5.mono HBx.out.size))
  have HC5 := Lib.hid (HC1.out.behind (hb5.mono (Nat.le_trans hl HBx.out.size)))
  have HDz := HDz1
  rw [← HnV.out]
  clear hb5 HA1 HD1 HO1 HBx HC1 HDz1
  go_wp2_with fail
  refine (cell_any).mono ?_
  rw [HE1.out]
  rintro e w6 ⟨rfl, hw6⟩
  obtain rfl : w5 = w6 := hw6.symm
  obtain ⟨g, rfl, _⟩ := HG.out (by rw [HnV.out]; have := Hkl.out; omega)
  obtain ⟨zs, hzs⟩ : ∃ zs, (newR r)[k]? = some zs := ⟨_, List.getElem?_eq_getElem Hkl.out⟩
  have hz24 : zs.length = 24 := by
    have h := List.mem_of_getElem? hzs
    unfold newR at h
    split at h
    · rw [List.eq_of_mem_replicate h]; simp
    · cases h
  obtain ⟨u1, c2, o2, in2, up2⟩ := HO.out.upd hzs
  obtain ⟨a2, m2, hu2', _⟩ := o2.open
  obtain ⟨n2, hn2⟩ : ∃ n, n = zs.length := ⟨_, rfl⟩
  rw [← hn2] at hu2'
  subst hu2'
  have HO2 := Lib.hid o2
  have HIn := Lib.hid in2
  have HUp := Lib.hid up2
  have HLe : Hid (zs.length = c.length) := Lib.hid (by rw [hz24, H24.out])
  have hkn : k < nv := by rw [HnV.out]; exact Hkl.out
  have hkn' : (k : Int) < (nv : Int) := by omega
  have cD := blk_cell HD.out 0
  rw [one0] at cD
  clear hzs hz24 o2 in2 up2 hn2
  go_wp2_with (first | (refine copy_own rfl _ _ 22 22 rfl 5 i0 Try.underlying22 Hhi.out hz1 rfl rfl HC5.out HO2.out HLe.out ?_))
  intro w7 ho7 hg7
  have hk7 : KeptF (fun b => (Value.slice a2 n2 m2).ownBlock = some b) w5 w7 := KeptF.of_grown hg7 (fun b h => h)
  have HO7 := Lib.hid (HUp.out w7 c hk7 ho7)
  have HA7 := Lib.hid ((hk7.block _ (lt_of_block HA5.out) (fun h => by have := HIn.out _ h; unfold ival at this; omega)).trans HA5.out)
  have HD7 := Lib.hid ((hk7.block _ (lt_of_block HD.out) (fun h => by have h1 := HIn.out _ h; have h2 := HDz.out; unfold ival at h1; omega)).trans HD.out)
  have HB7 := Lib.hid (HB5.out.trans (hk7.below (B := w.heap.size) (fun b h => by have := HIn.out _ h; unfold ival at this; omega) HB5.out.size))
  have HS7 : Hid (D ≤ w7.heap.size) := Lib.hid (Nat.le_of_lt (lt_of_block HD7.out))
  clear ho7 hg7 hk7 cD
  have cD := blk_cell HD7.out 0
  have cA := blk_cell HA7.out 0
  have fA := blk_free HA7.out 0
  rw [one0] at cD cA
  go_wp2_with fail
  clear cD cA fA
  obtain ⟨s1, s2, s3⟩ := store1 HA7.out (.slice (some ⟨g, 0, none⟩) nv cv)
  obtain ⟨w8, hw8⟩ : ∃ w8, w8 = w7.setCell ⟨w.heap.size, 0, none⟩ (.slice (some ⟨g, 0, none⟩) nv cv) := ⟨_, rfl⟩
  rw [← hw8] at s1 s2 s3 ⊢
  have hs8 : w8.heap.size = w7.heap.size := by rw [hw8, World.setCell_size]
  have Q1 := Lib.hid ((HO7.out.keptF s3 (fun b hb => by unfold ival at hb; omega)).mono (G := ival w.heap.size w8.heap.size) (fun b hb => by have := HS7.out; have := HDz.out; unfold ival at hb ⊢; omega))
  have Q2 := Lib.hid (HB7.out.trans (s3.below (B := w.heap.size) (fun b hb => by omega) HB7.out.size))
  clear hw8 s1 s3 hs8
  exact bodyPost_ret (v := .tuple #[.agg #[.slice (some ⟨g, 0, none⟩) nv cv], .bool true]) (by simp [results, Try.results52, go_sem, s2]) rfl ⟨_, rfl, Q1.out, Q2.out⟩

set_option maxRecDepth 20000 in
set_option maxHeartbeats 4000000 in
/-- impl.streamDatabase -/
theorem impl_sdb {w : World} {s : Int} {N : Nat} (hs : (Lit.int .i64 s).wf = true) (hN : N ≤ 64) :
    Calls Try.prog 54 #[.int .i64 s, .int .i64 (N : Int)] w fun e w' => ∃ v', e = .returned (.agg #[v']) ∧ Own2 22 5 .u8 (ival w.heap.size w'.heap.size) w' v' (sdb s (N : Int)) ∧ Below w.heap.size w w' := by
  obtain ⟨i0, hi0, hz0, hz1, hz2⟩ := info_parts infou8
  have Hhi := Lib.hid hi0
  have HS := Lib.hid hs
  have HBa := Lib.hid ((Below.refl w.heap.size w).alloc (Nat.le_refl _) (.cells #[.slice none 0 0] 39))
  have HA := Lib.hid (heap_alloc_new w (.cells #[.slice none 0 0] 39))
  have HWN : Hid ((Lit.int .i64 (N : Int)).wf = true) := Lib.hid (wf_i64_of (by omega) (by omega))
  obtain ⟨R, hR⟩ : ∃ R, R = sdb s (N : Int) := ⟨_, rfl⟩
  have HRl : Hid (R.length = N) := Lib.hid (by rw [hR, sdb_len]; omega)
  have HRa : Hid (∀ j, j < N → R[j]? = some (srow s j)) := Lib.hid (fun j hj => by rw [hR]; exact sdb_get (by omega))
  rw [← hR]
  clear hs hi0 hR
  go_enter Try.func54, Try.ntmps54
  go_wp2_with fail
  refine (impl_new HWN.out).mono ?_
  rw [newR_yes hN]
  rintro e w1 ⟨v1, rfl, h1, hb1⟩
  obtain ⟨av, cv, hv1, _, hc1, hg1⟩ := h1.open
  rw [List.length_replicate] at hv1 hg1
  subst hv1
  unfold maxLen at hc1
  have HG := Lib.hid hg1
  have HA1 := Lib.hid ((heap_alloc_old w1 (.cells #[.slice av N cv] 39) (Nat.lt_of_lt_of_le (lt_of_block HA.out) hb1.size)).trans ((hb1.block _ (lt_of_block HA.out)).trans HA.out))
  have HO1 := Lib.hid ((h1.alloc (.cells #[.slice av N cv] 39)).mono (G := ival (w.heap.size + 1) w1.heap.size) (fun b hb => by unfold ival at hb ⊢; rw [World.size_alloc] at hb; exact hb))
  have HBx := Lib.hid ((HBa.out.trans (hb1.mono HBa.out.size)).alloc (Nat.le_trans HBa.out.size hb1.size) (.cells #[.slice av N cv] 39))
  have HD1 := Lib.hid (heap_alloc_new w1 (.cells #[.slice av N cv] 39))
  have HDz : Hid (w.heap.size + 1 ≤ w1.heap.size) := Lib.hid (by have := hb1.size; rwa [World.size_alloc] at this)
  obtain ⟨D, hD⟩ : ∃ D, D = w1.heap.size := ⟨_, rfl⟩
  have cD1 := blk_cell HD1.out 0
  rw [one0] at cD1
  clear h1 hb1 hg1
  go_wp2_with fail
  clear cD1
  obtain ⟨w4, hw4⟩ : ∃ w4, w4 = w1.alloc (.cells #[.slice av N cv] 39) := ⟨_, rfl⟩
  rw [← hw4] at HA1 HO1 HBx HD1 ⊢
  rw [← hD] at HO1 HD1 HDz ⊢
  clear hw4 hD
  go_loopw [13] (fun i wr => ∃ j : Nat, i = .int .i64 j ∧ j ≤ N ∧ Own2 22 5 .u8 (ival (w.heap.size + 1) D) wr (.slice av N cv) (R.take j ++ List.replicate (R.length - j) (List.replicate 24 0)) ∧
    wr.heap[w.heap.size]? = some (.cells #[.slice none 0 0] 39) ∧ wr.heap[D]? = some (.cells #[.slice av N cv] 39) ∧ Below w.heap.size w wr) (fun i _ => N - (intOf i).toNat)
  case atStart => exact ⟨0, rfl, Nat.zero_le _, by rw [List.take_zero, List.nil_append, Nat.sub_zero, HRl.out]; exact HO1.out, HA1.out, HD1.out, HBx.out⟩
  case round =>
    obtain ⟨j, rfl, hj, hO, hA, hD, hB⟩ := hrel
    have HO := Lib.hid hO
    replace HA := Lib.hid hA
    have HD := Lib.hid hD
    have HB := Lib.hid hB
    clear hO hA hD hB HA1 HO1 HBx HD1
    by_cases hlt : j < N
    · have e1 : decide ((j : Int) < (N : Int)) = true := by simp; omega
      have hjN : (j : Int) < (N : Int) := by omega
      obtain ⟨g, rfl, _⟩ := HG.out (by omega)
      have HRj := Lib.hid (HRa.out j hlt)
      obtain ⟨u1, c2, o2, in2, up2⟩ := HO.out.upd (fillT_get (by rw [HRl.out]; exact hlt))
      obtain ⟨a2, m2, hu2', _⟩ := o2.open
      rw [List.length_replicate] at hu2'
      subst hu2'
      have HIn := Lib.hid in2
      have HGl : Hid (g < wr.heap.size) := Lib.hid (by have h1 := HO.out.in_ g rfl; have h2 := lt_of_block HD.out; unfold ival at h1; omega)
      have HWs : Hid ((Lit.int .i64 (wrap64 (s + 1000 * (j : Int)))).wf = true) := Lib.hid (by have := wrap64_bound (s + 1000 * (j : Int)); exact wf_i64_of this.1 this.2)
      clear o2 in2 up2
      go_wp2_with fail
      refine (impl_sb HWs.out (by decide)).mono ?_
      rintro e w2 ⟨v2, rfl, h2, hb2⟩
      rw [show strm (wrap64 (s + 1000 * (j : Int))) 24 = srow s j from rfl] at h2
      replace HA := Lib.hid ((hb2.block _ (lt_of_block HA.out)).trans HA.out)
      replace HD := Lib.hid ((hb2.block _ (lt_of_block HD.out)).trans HD.out)
      replace HB := Lib.hid (HB.out.trans (hb2.mono HB.out.size))
      replace HO := Lib.hid (HO.out.next hb2)
      have H2 := Lib.hid h2.rd
      have hc3 := (hb2.cell (p := ⟨g, j, none⟩) HGl.out).trans c2
      obtain ⟨u1, c3, o3, in3, up3⟩ := HO.out.upd (fillT_get (by rw [HRl.out]; exact hlt))
      rw [hc3] at c3
      injection c3 with c3
      subst c3
      have HO3 := Lib.hid o3
      have HUp := Lib.hid up3
      have HLe : Hid ((List.replicate 24 (0 : Int)).length = (srow s j).length) := Lib.hid (by rw [List.length_replicate, srow_len])
      clear h2 hb2 c2 hc3 o3 in3 up3
      go_wp2_with (first | (refine copy_own rfl _ _ 22 22 rfl 5 i0 Try.underlying22 Hhi.out hz1 rfl rfl H2.out HO3.out HLe.out ?_))
      intro w7 ho7 hg7
      have hk7 : KeptF (fun b => (Value.slice a2 24 m2).ownBlock = some b) w2 w7 := KeptF.of_grown hg7 (fun b h => h)
      have HO7 := Lib.hid (HUp.out w7 _ hk7 ho7)
      have HA7 := Lib.hid ((hk7.block _ (lt_of_block HA.out) (fun h => by have := HIn.out _ h; unfold ival at this; omega)).trans HA.out)
      have HD7 := Lib.hid ((hk7.block _ (lt_of_block HD.out) (fun h => by have := HIn.out _ h; unfold ival at this; omega)).trans HD.out)
      have HB7 := Lib.hid (HB.out.trans (hk7.below (B := w.heap.size) (fun b h => by have := HIn.out _ h; unfold ival at this; omega) HB.out.size))
      clear ho7 hg7 hk7
      go_wp2_with fail
      go_roundw
      case rel => exact ⟨j + 1, by simp, hlt, by have h := HO7.out; rwa [fillT_set HRj.out] at h, HA7.out, HD7.out, HB7.out⟩
      case measure => simp [intOf]; omega
    · have e1 : decide ((j : Int) < (N : Int)) = false := by simp; omega
      have eT : R.take j ++ List.replicate (R.length - j) (List.replicate 24 0) = R := by rw [HRl.out, show N - j = 0 by omega, List.replicate_zero, List.append_nil, List.take_of_length_le (by rw [HRl.out]; omega)]
      rw [eT] at HO
      have cD := blk_cell HD.out 0
      have cA := blk_cell HA.out 0
      have fA := blk_free HA.out 0
      rw [one0] at cD cA
      clear eT
      go_wp2_with fail
      clear cD cA fA
      obtain ⟨s1, s2, s3⟩ := store1 HA.out (.slice av N cv)
      obtain ⟨w8, hw8⟩ : ∃ w8, w8 = wr.setCell ⟨w.heap.size, 0, none⟩ (.slice av N cv) := ⟨_, rfl⟩
      rw [← hw8] at s1 s2 s3 ⊢
      have hs8 : w8.heap.size = wr.heap.size := by rw [hw8, World.setCell_size]
      have Q1 := Lib.hid ((HO.out.keptF s3 (fun b hb => by unfold ival at hb; omega)).mono (G := ival w.heap.size w8.heap.size) (fun b hb => by have := lt_of_block HD.out; unfold ival at hb ⊢; omega))
      have Q2 := Lib.hid (HB.out.trans (s3.below (B := w.heap.size) (fun b hb => by omega) HB.out.size))
      clear hw8 s1 s3 hs8
      exact bodyPost_ret (v := .agg #[.slice av N cv]) (by simp [results, Try.results54, go_sem, s2]) rfl ⟨_, rfl, Q1.out, Q2.out⟩

set_option maxRecDepth 20000 in
set_option maxHeartbeats 1000000 in
/-- MakeWrite's closure. -/
theorem wclo_any {w : World} {b : Nat} {s : Int} {N : Nat} (hc : w.cell? ⟨b, 0, none⟩ = some (.int .i64 (N : Int))) (hb : b < w.heap.size) (hs : (Lit.int .i64 s).wf = true) (hN : N ≤ 64) :
    Calls Try.prog 53 #[.int .i64 s, .pointer (some ⟨b, 0, none⟩)] w fun e w' => ∃ v', e = .returned (.agg #[v']) ∧ Own2 22 5 .u8 (ival w.heap.size w'.heap.size) w' v' (sdb s (N : Int)) ∧ Below w.heap.size w w' := by
  have HS := Lib.hid hs
  have HN := Lib.hid hN
  have HB := Lib.hid ((Below.refl w.heap.size w).alloc (Nat.le_refl _) (.cells #[.slice none 0 0] 39))
  have HA := Lib.hid (heap_alloc_new w (.cells #[.slice none 0 0] 39))
  have hc1 : (w.alloc (.cells #[.slice none 0 0] 39)).cell? ⟨b, 0, none⟩ = some (.int .i64 (N : Int)) := (HB.out.cell (p := ⟨b, 0, none⟩) hb).trans hc
  clear hs hN hb hc
  go_enter Try.func53, Try.ntmps53
  go_wp2_with fail
  clear hc1
  refine (impl_sdb HS.out HN.out).mono ?_
  rintro e w1 ⟨v1, rfl, h1, hb1⟩
  obtain ⟨av, cv, hv1, _⟩ := h1.open
  obtain ⟨nv, hnv⟩ : ∃ n, n = (sdb s (N : Int)).length := ⟨_, rfl⟩
  rw [← hnv] at hv1
  subst hv1
  have HA1 := Lib.hid ((hb1.block _ (lt_of_block HA.out)).trans HA.out)
  have HO1 := Lib.hid h1
  have HB1 := Lib.hid (HB.out.trans (hb1.mono HB.out.size))
  have cA := blk_cell HA1.out 0
  have fA := blk_free HA1.out 0
  rw [one0] at cA
  clear h1 hb1 hnv
  go_wp2_with fail
  clear cA fA
  obtain ⟨s1, s2, s3⟩ := store1 HA1.out (.slice av nv cv)
  obtain ⟨w8, hw8⟩ : ∃ w8, w8 = w1.setCell ⟨w.heap.size, 0, none⟩ (.slice av nv cv) := ⟨_, rfl⟩
  rw [← hw8] at s1 s2 s3 ⊢
  have hs8 : w8.heap.size = w1.heap.size := by rw [hw8, World.setCell_size]
  have Q1 := Lib.hid ((HO1.out.keptF s3 (fun b hb => by unfold ival at hb; rw [World.size_alloc] at hb; omega)).mono (G := ival w.heap.size w8.heap.size) (fun b hb => by unfold ival at hb ⊢; rw [World.size_alloc] at hb; omega))
  have Q2 := Lib.hid (HB1.out.trans (s3.below (B := w.heap.size) (fun b hb => by omega) HB1.out.size))
  clear hw8 s1 s3 hs8
  exact bodyPost_ret (v := .agg #[.slice av nv cv]) (by simp [results, Try.results53, go_sem, s2]) rfl ⟨_, rfl, Q1.out, Q2.out⟩

set_option maxRecDepth 20000 in
set_option maxHeartbeats 1000000 in
/-- impl.missingDatabase, of one other at least. -/
theorem misD_any {l1 l2 : Nat} {e0 : TypeId} {w : World} {u v : Value} {za : List (List Int)} {zs : List VDatabase} (hu : Rd2 l1 .u8 w u za) (hv : (sliceT e0 tyDatabase).rd l2 w [v] zs) (hl1 : l1 ≤ w.heap.size) (hl2 : l2 ≤ w.heap.size) (hn : tot za ≤ 1099511627776) (hm : totL tyDatabase zs ≤ 1099511627776) (hz : zs ≠ []) :
    Calls Try.prog 56 #[v, .agg #[u]] w fun e w' => ∃ v', e = .returned (.agg #[v']) ∧ Own2 22 5 .u8 (ival w.heap.size w'.heap.size) w' v' (ad za zs) ∧ Below w.heap.size w w' := by
  obtain ⟨au, cu, rfl, hu2, hu3, _⟩ := hu.open
  obtain ⟨nu, hnu⟩ : ∃ n, n = za.length := ⟨_, rfl⟩
  rw [← hnu] at hu ⊢
  have HB := Lib.hid (((Below.refl w.heap.size w).alloc (Nat.le_refl _) (.cells #[.slice au nu cu] 39)).alloc (by simp) (.cells #[.slice none 0 0] 39))
  have hbl := blocks2 w (.cells #[.slice au nu cu] 39) (.cells #[.slice none 0 0] 39)
  have HR := Lib.hid hbl.2
  have HU := Lib.hid (hu.behind (HB.out.mono hl1))
  have HV := Lib.hid ((sliceT e0 tyDatabase).behind hv (HB.out.mono hl2))
  have HN := Lib.hid hn
  have HM := Lib.hid hm
  have HZ := Lib.hid hz
  have cS := blk_cell hbl.1 0
  rw [one0] at cS
  clear hu hv hbl hn hm hnu hu2 hu3 hz
  go_enter Try.func56, Try.ntmps56
  go_wp2_with fail
  clear cS
  refine (addDb_any HU.out HV.out (Nat.le_trans hl1 HB.out.size) (Nat.le_trans hl2 HB.out.size) HN.out HM.out).mono ?_
  rintro e w2 ⟨v2, rfl, h2, hb⟩
  replace h2 := h2.resolve_left (fun h => HZ.out h.1)
  obtain ⟨a2, c2, hv2', _⟩ := h2.open
  obtain ⟨n2, hn2⟩ : ∃ n, n = (ad za zs).length := ⟨_, rfl⟩
  rw [← hn2] at hv2'
  subst hv2'
  obtain ⟨ok, hok⟩ : ∃ q, q = adK za zs := ⟨_, rfl⟩
  rw [← hok]
  clear hn2 hok
  have HO2 := Lib.hid (h2.alloc (.cells #[.slice a2 n2 c2] 39))
  have HR2 := Lib.hid ((heap_alloc_old w2 (.cells #[.slice a2 n2 c2] 39) (Nat.lt_of_lt_of_le (lt_of_block HR.out) hb.size)).trans ((hb.block _ (lt_of_block HR.out)).trans HR.out))
  have HV2 := Lib.hid (heap_alloc_new w2 (.cells #[.slice a2 n2 c2] 39))
  have HB2 := Lib.hid ((HB.out.trans (hb.mono HB.out.size)).alloc (Nat.le_trans HB.out.size hb.size) (.cells #[.slice a2 n2 c2] 39))
  have cR := blk_cell HR2.out 0
  have fR := blk_free HR2.out 0
  have cV := blk_cell HV2.out 0
  rw [one0] at cR cV
  clear h2 hb HR HB
  go_wp2_with fail
  clear cR fR cV
  obtain ⟨s1, s2, s3⟩ := store1 HR2.out (.slice a2 n2 c2)
  obtain ⟨w3, hw3⟩ : ∃ w3, w3 = (w2.alloc (.cells #[.slice a2 n2 c2] 39)).setCell ⟨w.heap.size + 1, 0, none⟩ (.slice a2 n2 c2) := ⟨_, rfl⟩
  rw [← hw3] at s1 s2 s3 ⊢
  have hs3 : w3.heap.size = w2.heap.size + 1 := by rw [hw3, World.setCell_size]; simp
  have Q1 := Lib.hid ((HO2.out.keptF s3 (fun b hb => by unfold ival at hb; rw [World.size_alloc, World.size_alloc] at hb; omega)).mono (G := ival w.heap.size w3.heap.size) (fun b hb => by unfold ival at hb ⊢; rw [World.size_alloc, World.size_alloc] at hb; omega))
  have Q2 := Lib.hid (HB2.out.trans (s3.below (B := w.heap.size) (fun b hb => by omega) HB2.out.size))
  clear hw3 s1 s3 hs3
  exact bodyPost_ret (v := .agg #[.slice a2 n2 c2]) (by simp [results, Try.results56, go_sem, s2]) rfl ⟨_, rfl, Q1.out, Q2.out⟩

end Go.Proofs.Ytdipignajccdcaa


/-! Wr2 -/
namespace Go.Proofs.Ytdipignajccdcaa
open Go Go.RowKit
set_option linter.unusedVariables false
attribute [local irreducible] kh

/-- What is divided: the databases of the seeds and the last one. -/
def dvD (za : List (List Int)) (r : Int) (ss : List Int) : List VDatabase := if 1 ≤ ss.length ∧ ss.length ≤ 3 then sdbs r ss ++ [ad za (sdbs r ss)] else []
theorem dvD_yes {za : List (List Int)} {r : Int} {ss : List Int} (h : 1 ≤ ss.length ∧ ss.length ≤ 3) : dvD za r ss = sdbs r ss ++ [ad za (sdbs r ss)] := if_pos h
theorem dvD_no {za : List (List Int)} {r : Int} {ss : List Int} (h : ¬ (1 ≤ ss.length ∧ ss.length ≤ 3)) : dvD za r ss = [] := if_neg h
theorem mkw_dvD {r x : Int} {c ss : List Int} (h : rowOk r x c = true) : dvD (whole r x c) r ss = mkw r x c ss := by
  unfold dvD mkw mkwK
  rw [h, Bool.true_and, ad_yes (adK_sdbs h ss)]
  by_cases hs : 1 ≤ ss.length ∧ ss.length ≤ 3
  · rw [if_pos hs, if_pos (inR_yes (by omega))]
  · rw [if_neg hs, if_neg (by rw [inR_no (by omega)]; exact Bool.false_ne_true)]
theorem totL_sdbs {r : Int} (hr : r ≤ 64) (ss : List Int) : totL tyDatabase (sdbs r ss) ≤ 1601 * ss.length := by
  induction ss with
  | nil => exact Nat.le_refl _
  | cons s ss ih =>
    have h1 : tot (sdb s r) ≤ 1600 := vd_fl (sdb_vd hr s)
    have h2 : tyDatabase.tot (sdb s r) = tot (sdb s r) := totL2 _ _ _ _ _
    have h3 : sdbs r (s :: ss) = sdb s r :: sdbs r ss := rfl
    rw [h3]
    unfold totL at ih ⊢
    simp only [List.map_cons, List.sum_cons, List.length_cons] at ih ⊢
    omega

/-- A slice of databases that is made: zeros. -/
theorem made_dbs {w w1 : World} {B n : Nat} (ho : w1.ownsRow w.heap.size 39 1 (.slice (some ⟨w.heap.size, 0, none⟩) n n) n (madeCells #[.slice none 0 0] n).toList) (hB : B ≤ w.heap.size) :
    (sliceT 39 tyDatabase).own (ival B w1.heap.size) w1 [.slice (some ⟨w.heap.size, 0, none⟩) n n] (List.replicate n tyDatabase.zero) := by
  have hlt := (ho.lt w.heap.size rfl).2
  exact slo_made (T := tyDatabase) (zc := #[.slice none 0 0]) rfl (by rw [show n * tyDatabase.sz = n from Nat.mul_one _]; exact ho) (fun b hb => by injection hb with hb; subst hb; exact ⟨hB, hlt⟩)

set_option maxRecDepth 20000 in
set_option maxHeartbeats 4000000 in
/-- impl.divide, of databases. -/
theorem divD_any {l1 l2 b nx cx N : Nat} {ax : Option Addr} {w : World} {v : Value} {za : List (List Int)} {ss : List Int} (hu : Rd2 l1 .u8 w (.slice ax nx cx) za) (hv : Rd l2 .i64 w v ss) (hl1 : l1 ≤ w.heap.size) (hl2 : l2 ≤ w.heap.size) (hn : tot za ≤ 1099511627776) (hN : N ≤ 64) (hc : w.cell? ⟨b, 0, none⟩ = some (.int .i64 (N : Int))) (hb : b < w.heap.size) :
    Calls Try.prog 55 #[.agg #[.slice ax nx cx], v, .func (.func 53) #[] #[.pointer (some ⟨b, 0, none⟩)], .func (.func 56) #[] #[]] w
      fun e w' => ∃ v', e = .returned v' ∧ (sliceT 39 tyDatabase).own (ival w.heap.size w'.heap.size) w' [v'] (dvD za (N : Int) ss) ∧ Below w.heap.size w w' := by
  obtain ⟨i1, hi', hy0, hy1, hy2⟩ := info_parts infoDatabase
  have Hhi' := Lib.hid hi'
  have hba := (Below.refl w.heap.size w).alloc (Nat.le_refl _) (.cells #[.slice ax nx cx] 39)
  have hbx := heap_alloc_new w (.cells #[.slice ax nx cx] 39)
  have hz0 : (w.alloc (.cells #[.slice ax nx cx] 39)).heap.size = w.heap.size + 1 := by simp
  obtain ⟨W0, hW0⟩ : ∃ W, W = w.alloc (.cells #[.slice ax nx cx] 39) := ⟨_, rfl⟩
  rw [← hW0] at hba hbx hz0
  have HW0 := Lib.hid hW0
  have HBa := Lib.hid hba
  have HBx := Lib.hid hbx
  have HZ0 := Lib.hid hz0
  have HU := Lib.hid (hu.behind (HBa.out.mono hl1))
  have HV := Lib.hid (hv.behind (HBa.out.mono hl2))
  have hlv := hv.len
  obtain ⟨a, cap, rfl, h1, h2, hcl⟩ := HV.out.open
  have Hcl := Lib.hid hcl
  unfold maxLen at h2 hlv
  obtain ⟨c, hcc⟩ : ∃ c, c = min ss.length 4 := ⟨_, rfl⟩
  obtain ⟨n, hn1⟩ : ∃ n, n = c + 1 := ⟨_, rfl⟩
  have Hm : Hid (mn (ss.length : Int) 4 = (c : Int)) := Lib.hid (by unfold mn; split <;> omega)
  have hcn : (c : Int) + 1 = (n : Int) := by omega
  have hn5 : n ≤ 5 := by omega
  have HW1 : Hid ((Lit.int .i64 (ss.length : Int)).wf = true) := Lib.hid (wf_i64_of (by omega) (by omega))
  have Hcb : Hid (W0.cell? ⟨b, 0, none⟩ = some (.int .i64 (N : Int))) := Lib.hid ((HBa.out.cell (p := ⟨b, 0, none⟩) hb).trans hc)
  have Hbl : Hid (b < W0.heap.size ∧ l1 ≤ W0.heap.size ∧ l2 ≤ W0.heap.size) := Lib.hid (by omega)
  have HNa := Lib.hid hn
  have HN64 := Lib.hid hN
  clear hu hv hcl hi' hc hb hn hN hba hbx hz0 hW0
  by_cases hin : 1 ≤ ss.length ∧ ss.length ≤ 3
  · have hcs : c = ss.length := by omega
    have HI : Hid (inR (n : Int) 2 4 = true) := Lib.hid (inR_yes (by omega))
    have HR : ∃ R, R = dvD za (N : Int) ss := ⟨_, rfl⟩
    obtain ⟨R, hR⟩ := HR
    have HRl : Hid (R.length = n) := Lib.hid (by rw [hR, dvD_yes hin, List.length_append, sdbs_len, List.length_singleton]; omega)
    have HRat : Hid (∀ j, j < ss.length → R[j]? = some (sdb (ss.getD j 0) (N : Int))) := Lib.hid (fun j hj => by rw [hR, dvD_yes hin, List.getElem?_append_left (by rw [sdbs_len]; exact hj), sdbs_get hj])
    obtain ⟨lst, hlst⟩ : ∃ l, l = ad za (sdbs (N : Int) ss) := ⟨_, rfl⟩
    have HLst := Lib.hid hlst
    have HRlast : Hid (R[ss.length]? = some lst) := Lib.hid (by rw [hR, hlst, dvD_yes hin, List.getElem?_append_right (by rw [sdbs_len]; exact Nat.le_refl _), sdbs_len, Nat.sub_self]; rfl)
    have HRtake : Hid (R.take ss.length = sdbs (N : Int) ss) := Lib.hid (by rw [hR, dvD_yes hin, List.take_left' (sdbs_len _ _)])
    have HTs : Hid (totL tyDatabase (sdbs (N : Int) ss) ≤ 1099511627776) := Lib.hid (by have := totL_sdbs (r := (N : Int)) (by have := HN64.out; omega) ss; omega)
    have HNe : Hid (sdbs (N : Int) ss ≠ []) := Lib.hid (fun h => by have := sdbs_len (N : Int) ss; rw [h] at this; simp at this; omega)
    rw [← hR]
    have HN := Lib.hid hn1
    subst hcs
    clear hR hcc hn1 hlst
    go_enter Try.func55, Try.ntmps55
    go_wp2_with fail
    rw [← HW0.out]
    refine (impl_mn _ _ _ HW1.out (wf_i64_of (by omega) (by omega))).mono ?_
    rw [Hm.out]
    rintro e w1 ⟨rfl, hb1⟩
    have HB1 := Lib.hid hb1
    clear hb1
    go_wp2_with (first | (at_make; refine wpList_make_full _ rfl _ _ 67 rfl w1.heap.size 39 i1 (.agg #[.slice none 0 0]) 1 Try.underlying67 Hhi'.out hy0 hy1 .i64 .i64 _ _ n rfl rfl rfl rfl (by rw [hy2]; omega) (by unfold maxLen; omega) (Nat.le_refl _) ?_))
    intro w2 hown hg
    have HO : Hid ((sliceT 39 tyDatabase).own (ival w1.heap.size w2.heap.size) w2 [.slice (some ⟨w1.heap.size, 0, none⟩) n n] (R.take 0 ++ List.replicate (R.length - 0) tyDatabase.zero)) := Lib.hid (by
      rw [List.take_zero, List.nil_append, Nat.sub_zero, HRl.out]
      exact made_dbs hown (Nat.le_refl _))
    have HB2 := Lib.hid (HB1.out.trans (((Below.refl w1.heap.size w1).grown hg (Nat.le_refl _) (fun k hk => by cases hk)).mono HB1.out.size))
    have HG1 : Hid (W0.heap.size ≤ w1.heap.size) := Lib.hid HB1.out.size
    clear hown hg
    go_wp2_with fail
    refine (fitD_any (by omega)).mono ?_
    rw [HI.out]
    rintro e w3 ⟨rfl, hw3⟩
    subst hw3
    obtain ⟨g, hgl⟩ : ∃ g, g = w1.heap.size := ⟨_, rfl⟩
    rw [← hgl] at HO HG1 ⊢
    clear hgl HB1
    go_wp2_with fail
    go_loopw [26] (fun i wr => ∃ (j : Nat) (G : Nat → Prop), i = .int .i64 j ∧ j ≤ ss.length ∧ (sliceT 39 tyDatabase).own G wr [.slice (some ⟨g, 0, none⟩) n n] (R.take j ++ List.replicate (R.length - j) tyDatabase.zero) ∧
      (∀ b, G b → g ≤ b ∧ b < wr.heap.size) ∧ Below W0.heap.size W0 wr) (fun i _ => ss.length - (intOf i).toNat)
    case atStart => exact ⟨0, _, rfl, Nat.zero_le _, HO.out, fun b hb => hb, HB2.out⟩
    case round =>
      obtain ⟨j, G, rfl, hj, hO, hG, hB⟩ := hrel
      replace HO := Lib.hid hO
      have HB := Lib.hid hB
      have HGb := Lib.hid hG
      clear hO hB hG HB2
      by_cases hlt : j < ss.length
      · have e1 : decide ((j : Int) < (ss.length : Int)) = true := by simp; omega
        obtain ⟨bs, os, rfl, hbs, hcell⟩ := Hcl.out (by omega)
        have c1 := hcell wr (HB.out.mono Hbl.out.2.2) j hlt
        have HZ := Lib.hid (HV.out.wf hlt)
        have HRj := Lib.hid (HRat.out j hlt)
        obtain ⟨z, hz⟩ : ∃ z, z = ss.getD j 0 := ⟨_, rfl⟩
        rw [← hz] at c1 HZ HRj
        clear hcell hz
        go_wp2_with fail
        refine (wclo_any ((HB.out.cell (p := ⟨b, 0, none⟩) Hbl.out.1).trans Hcb.out) (Nat.lt_of_lt_of_le Hbl.out.1 HB.out.size) HZ.out HN64.out).mono ?_
        rintro e w4 ⟨v4, rfl, h4, hb4⟩
        obtain ⟨a4, cap4, hv4, _⟩ := h4.open
        obtain ⟨L4, hL4⟩ : ∃ L, L = (sdb z (N : Int)).length := ⟨_, rfl⟩
        rw [← hL4] at hv4
        subst hv4
        have h4' : tyDatabase.own (ival wr.heap.size w4.heap.size) w4 [.slice a4 L4 cap4] (sdb z (N : Int)) := slo2_of_own2 h4
        have H4 := Lib.hid h4'
        have HO3 := Lib.hid ((sliceT 39 tyDatabase).onext HO.out hb4)
        have HB4 := Lib.hid hb4
        obtain ⟨Fi, c, hf, ho, hq⟩ := Foc.take HO3.out (fillT_get (by rw [HRl.out]; have := HN.out; omega))
        have Hf := Lib.hid hf
        obtain ⟨y0, z0, Y0, rfl, _⟩ := own_Database ho
        have d0 := hf.cell (j := 0) rfl
        rw [show j * tyDatabase.sz + 0 = j from Nat.mul_one j] at d0
        have f0 : w4.frozen? ⟨g, j, none⟩ = false := hf.free _
        have hjN : (j : Int) < (n : Int) := by have := HN.out; omega
        have hjN' : j < n := by have := HN.out; omega
        clear h4 h4' hb4 hL4 hf ho hq
        go_wp2
        go_roundw
        case rel =>
          obtain ⟨p0, q0⟩ := Hf.out.store (j := 0) (by decide) (.slice a4 L4 cap4)
          rw [show j * tyDatabase.sz + 0 = j from Nat.mul_one j] at p0 q0
          have hs2 := HB.out.size
          have hs3 := HB4.out.size
          have hg := HGb.out g Hf.out.fg
          have hg1 := HG1.out
          have pc := p0.fill (tyDatabase.okept H4.out q0 (fun b hb e => by unfold ival at hb; omega)) (fun b hb hF => by have := HGb.out b hF; unfold ival at hb; omega)
          have hn : (List.take j R ++ List.replicate (R.length - j) tyDatabase.zero).length = n := by have := HRl.out; have := HN.out; simp; omega
          rw [hn] at pc
          have hset : (List.take j R ++ List.replicate (R.length - j) tyDatabase.zero).set j (sdb z (N : Int)) = List.take (j + 1) R ++ List.replicate (R.length - (j + 1)) tyDatabase.zero := fillT_set HRj.out
          have pc' : (sliceT 39 tyDatabase).own _ _ _ (List.take (j + 1) R ++ List.replicate (R.length - (j + 1)) tyDatabase.zero) := hset ▸ pc
          refine ⟨j + 1, _, by simp, hlt, pc', fun b hb => ?_, (HB.out.trans (HB4.out.mono hs2)).trans (q0.below (fun b hb => by omega) (by omega))⟩
          rw [sizeSet]
          rcases hb with hb | hb
          · have := HGb.out b hb; omega
          · unfold ival at hb; omega
        case measure => simp [intOf]; omega
      · have e1 : decide ((j : Int) < (ss.length : Int)) = false := by simp; omega
        have ej : j = ss.length := by omega
        subst ej
        have hRn : R.length = ss.length + 1 := by have := HRl.out; have := HN.out; omega
        have hle : ss.length ≤ n := by have := HN.out; omega
        have hrd := sl_head ((sliceT 39 tyDatabase).ord HO.out) hle
        rw [List.take_append_of_le_length (by rw [List.length_take]; omega), List.take_take, Nat.min_self, HRtake.out] at hrd
        have HRd := Lib.hid ((sliceT 39 tyDatabase).drew hrd)
        have HUd := Lib.hid ((HU.out.behind (HB.out.mono Hbl.out.2.1)).drew)
        have HXb := Lib.hid ((HB.out.block _ (lt_of_block HBx.out)).trans HBx.out)
        have d0 : wr.drew.cell? ⟨w.heap.size, 0, none⟩ = some (.slice ax nx cx) := blk_cell HXb.out 0
        obtain ⟨u5, hu5⟩ : ∃ u, u = Go.sliced (some ⟨g, 0, none⟩) 0 ss.length n 1 := ⟨_, rfl⟩
        have hv5 : u5 = .slice (some ⟨g, 0, none⟩) ss.length n := by rw [hu5]; exact sliced_head _ _ _ _
        have hjN : (ss.length : Int) < (n : Int) := by have := HN.out; omega
        have hjN' : ss.length < n := by have := HN.out; omega
        have HLe := Lib.hid hle
        have HRn := Lib.hid hRn
        have HSl : Hid (l1 ≤ wr.heap.size) := Lib.hid (Nat.le_trans Hbl.out.2.1 HB.out.size)
        clear hrd hle hRn
        go_wp2_with fail
        refine region_till (fun w' => w'.cell? ⟨w.heap.size, 0, none⟩ = some (.slice ax nx cx)) 9 (by kernel_rfl) ?_
        apply Till.take (i := 0) [0, 8, 9]
        · simp only [List.getElem?_toArray, List.getElem?_cons_zero]
          rfl
        · kernel_rfl
        · kernel_rfl
        · kernel_rfl
        · kernel_rfl
        · exact fun _ _ _ h => h
        · first
            | exact Or.inr ⟨by rfl, rfl⟩
            | (refine Or.inl ⟨by rfl, fun wq hwq => ?_⟩
               dsimp only at hwq
               go_simp
               first
                 | done
                 | rfl)
        · exact d0
        simp only [Act.put, List.setIfInBounds_toArray, List.set_cons_zero, List.set_cons_succ]
        apply Till.take (i := 1) [1, 8, 9]
        · simp only [List.getElem?_toArray, List.getElem?_cons_succ, List.getElem?_cons_zero]
          rfl
        · kernel_rfl
        · kernel_rfl
        · kernel_rfl
        · kernel_rfl
        · exact fun _ _ _ h => h
        · first
            | exact Or.inr ⟨by rfl, rfl⟩
            | (refine Or.inl ⟨by rfl, fun wq hwq => ?_⟩
               dsimp only at hwq
               go_simp
               first
                 | done
                 | rfl)
        · exact d0
        simp only [Act.put, List.setIfInBounds_toArray, List.set_cons_zero, List.set_cons_succ]
        apply Till.take (i := 2) [2, 7, 9]
        · simp only [List.getElem?_toArray, List.getElem?_cons_succ, List.getElem?_cons_zero]
          rfl
        · kernel_rfl
        · kernel_rfl
        · kernel_rfl
        · kernel_rfl
        · exact fun _ _ _ h => h
        · first
            | exact Or.inr ⟨by rfl, rfl⟩
            | (refine Or.inl ⟨by rfl, fun wq hwq => ?_⟩
               dsimp only at hwq
               go_simp
               first
                 | done
                 | rfl)
        · exact d0
        simp only [Act.put, List.setIfInBounds_toArray, List.set_cons_zero, List.set_cons_succ]
        apply Till.take (i := 3) [3, 5, 7, 9]
        · simp only [List.getElem?_toArray, List.getElem?_cons_succ, List.getElem?_cons_zero]
          rfl
        · kernel_rfl
        · kernel_rfl
        · kernel_rfl
        · kernel_rfl
        · exact fun _ _ _ h => h
        · first
            | exact Or.inr ⟨by rfl, rfl⟩
            | (refine Or.inl ⟨by rfl, fun wq hwq => ?_⟩
               dsimp only at hwq
               go_simp
               first
                 | done
                 | rfl)
        · exact d0
        simp only [Act.put, List.setIfInBounds_toArray, List.set_cons_zero, List.set_cons_succ]
        apply Till.take (i := 4) [4, 5, 7, 9]
        · simp only [List.getElem?_toArray, List.getElem?_cons_succ, List.getElem?_cons_zero]
          rfl
        · kernel_rfl
        · kernel_rfl
        · kernel_rfl
        · kernel_rfl
        · exact fun _ _ _ h => h
        · first
            | exact Or.inr ⟨by rfl, rfl⟩
            | (refine Or.inl ⟨by rfl, fun wq hwq => ?_⟩
               dsimp only at hwq
               go_simp
               first
                 | done
                 | rfl)
        · exact d0
        simp only [Act.put, List.setIfInBounds_toArray, List.set_cons_zero, List.set_cons_succ]
        apply Till.take (i := 5) (v := Go.sliced (some ⟨g, 0, none⟩) 0 ss.length n 1) [5, 7, 9]
        · simp only [List.getElem?_toArray, List.getElem?_cons_succ, List.getElem?_cons_zero]
          rfl
        · kernel_rfl
        · kernel_rfl
        · kernel_rfl
        · kernel_rfl
        · exact fun _ _ _ h => h
        · refine Or.inl ⟨by rfl, fun _ _ => ?_⟩
          exact run_slice_op_h _ 67 _ 39 i1 Try.underlying67 Hhi'.out hy1 (n := ss.length) _ rfl rfl rfl HLe.out
        · exact d0
        simp only [Act.put, List.setIfInBounds_toArray, List.set_cons_zero, List.set_cons_succ]
        rw [← hu5, hv5]
        clear hu5 hv5
        apply Till.take (i := 6) [6, 7, 9]
        · simp only [List.getElem?_toArray, List.getElem?_cons_succ, List.getElem?_cons_zero]
          rfl
        · kernel_rfl
        · kernel_rfl
        · kernel_rfl
        · kernel_rfl
        · exact fun _ _ _ h => h
        · first
            | exact Or.inr ⟨by rfl, rfl⟩
            | (refine Or.inl ⟨by rfl, fun wq hwq => ?_⟩
               dsimp only at hwq
               go_simp
               first
                 | done
                 | rfl)
        · exact d0
        simp only [Act.put, List.setIfInBounds_toArray, List.set_cons_zero, List.set_cons_succ]
        apply Till.one (i := 7)
        · kernel_rfl
        · simp only [List.getElem?_toArray, List.getElem?_cons_succ, List.getElem?_cons_zero]
          rfl
        intro K hK
        go_simp
        refine (misD_any HUd.out HRd.out HSl.out (Nat.le_refl _) HNa.out HTs.out HNe.out).mono ?_
        rw [← HLst.out]
        rintro e' w6 ⟨v6, he, h6, hb6⟩
        subst he
        obtain ⟨a6, cap6, hv6, _⟩ := h6.open
        obtain ⟨L6, hL6⟩ : ∃ L, L = lst.length := ⟨_, rfl⟩
        rw [← hL6] at hv6
        subst hv6
        have hb6' : Below wr.heap.size wr w6 := (Below.refl _ _).drew.trans hb6
        have h6' : tyDatabase.own (ival wr.heap.size w6.heap.size) w6 [.slice a6 L6 cap6] lst := slo2_of_own2 h6
        have H6 := Lib.hid h6'
        have HO6 := Lib.hid ((sliceT 39 tyDatabase).onext HO.out hb6')
        have HB6 := Lib.hid hb6'
        obtain ⟨Fi, c, hf, ho, hq⟩ := Foc.take HO6.out (fillT_get (j := ss.length) (by have := HRn.out; omega))
        have Hf := Lib.hid hf
        obtain ⟨y0, z0, Y0, rfl, _⟩ := own_Database ho
        have c6 := hf.cell (j := 0) rfl
        rw [show ss.length * tyDatabase.sz + 0 = ss.length from Nat.mul_one _] at c6
        have f6 : w6.frozen? ⟨g, ss.length, none⟩ = false := hf.free _
        have d6 : w6.cell? ⟨w.heap.size, 0, none⟩ = some (.slice ax nx cx) := (hb6'.cell (p := ⟨w.heap.size, 0, none⟩) (lt_of_block HXb.out)).trans (blk_cell HXb.out 0)
        clear h6 h6' hb6 hb6' hL6 hf ho hq
        refine hK.out _ _ (Or.inr d6) ?_
        clear hK K
        try simp only [Act.put, List.setIfInBounds_toArray, List.set_cons_zero, List.set_cons_succ]
        apply Till.take (i := 8) [8, 9]
        · simp only [List.getElem?_toArray, List.getElem?_cons_succ, List.getElem?_cons_zero]
          rfl
        · kernel_rfl
        · kernel_rfl
        · kernel_rfl
        · kernel_rfl
        · exact fun _ _ _ h => h
        · first
            | exact Or.inr ⟨by rfl, rfl⟩
            | (refine Or.inl ⟨by rfl, fun wq hwq => ?_⟩
               dsimp only at hwq
               go_simp
               first
                 | done
                 | rfl)
        · exact d6
        simp only [Act.put, List.setIfInBounds_toArray, List.set_cons_zero, List.set_cons_succ]
        apply Till.one (i := 9)
        · kernel_rfl
        · simp only [List.getElem?_toArray, List.getElem?_cons_succ, List.getElem?_cons_zero]
          rfl
        intro K hK
        go_simp
        skip
        refine hK.out _ _ (Or.inl (by rfl)) ?_
        clear hK K
        try simp only [Act.put, List.setIfInBounds_toArray, List.set_cons_zero, List.set_cons_succ]
        refine Till.done (by kernel_rfl) ?_ _
        obtain ⟨p0, q0⟩ := Hf.out.store (j := 0) (by decide) (.slice a6 L6 cap6)
        rw [show ss.length * tyDatabase.sz + 0 = ss.length from Nat.mul_one _] at p0 q0
        obtain ⟨w7, hw7⟩ : ∃ w7, w7 = w6.setCell ⟨g, ss.length, none⟩ (.slice a6 L6 cap6) := ⟨_, rfl⟩
        rw [← hw7] at p0 q0 ⊢
        have hs7 : w7.heap.size = w6.heap.size := by rw [hw7, sizeSet]
        have hs2 := HB.out.size
        have hs3 := HB6.out.size
        have hg := HGb.out g Hf.out.fg
        have hg1 := HG1.out
        have hz0 := HZ0.out
        have pc := p0.fill (tyDatabase.okept H6.out q0 (fun b hb e => by unfold ival at hb; omega)) (fun b hb hF => by have := HGb.out b hF; unfold ival at hb; omega)
        have hn : (List.take ss.length R ++ List.replicate (R.length - ss.length) tyDatabase.zero).length = n := by have := HRl.out; have := HN.out; simp; omega
        rw [hn] at pc
        have hset : (List.take ss.length R ++ List.replicate (R.length - ss.length) tyDatabase.zero).set ss.length lst = R := by
          have h := fillT_set (z := tyDatabase.zero) HRlast.out
          have ht : List.take (ss.length + 1) R = R := List.take_of_length_le (by have := HRn.out; omega)
          rw [show R.length - (ss.length + 1) = 0 by have := HRn.out; omega, List.replicate_zero, List.append_nil, ht] at h
          exact h
        have pc' : (sliceT 39 tyDatabase).own _ _ _ R := hset ▸ pc
        have Q1 := Lib.hid ((sliceT 39 tyDatabase).omono (G := ival w.heap.size w7.heap.size) pc' (fun b hb => by
          unfold ival
          rcases hb with hb | hb
          · have := HGb.out b hb; omega
          · unfold ival at hb; omega))
        have Q2 := Lib.hid (HBa.out.trans (((HB.out.trans (HB6.out.mono hs2)).trans (q0.below (B := W0.heap.size) (fun b hb => by omega) (by omega))).mono (by omega)))
        clear p0 q0 hw7 hs7 pc pc' hset hn hs2 hs3 hg hg1 hz0 d0 c6 f6 d6
        go_wp2_with fail
        go_ret
        exact ⟨_, rfl, Q1.out, Q2.out⟩
  · have HI : Hid (inR (n : Int) 2 4 = false) := Lib.hid (inR_no (by omega))
    have HE : Hid (dvD za (N : Int) ss = []) := Lib.hid (dvD_no hin)
    clear hcc hin hn1
    go_enter Try.func55, Try.ntmps55
    go_wp2_with fail
    rw [← HW0.out]
    refine (impl_mn _ _ _ HW1.out (wf_i64_of (by omega) (by omega))).mono ?_
    rw [Hm.out]
    rintro e w1 ⟨rfl, hb1⟩
    have HB1 := Lib.hid hb1
    clear hb1
    go_wp2_with (first | (at_make; refine wpList_make_full _ rfl _ _ 67 rfl w1.heap.size 39 i1 (.agg #[.slice none 0 0]) 1 Try.underlying67 Hhi'.out hy0 hy1 .i64 .i64 _ _ n rfl rfl rfl rfl (by rw [hy2]; omega) (by unfold maxLen; omega) (Nat.le_refl _) ?_))
    intro w2 hown hg
    have HB2 := Lib.hid (HB1.out.trans (((Below.refl w1.heap.size w1).grown hg (Nat.le_refl _) (fun k hk => by cases hk)).mono HB1.out.size))
    clear hown hg
    go_wp2_with fail
    refine (fitD_any (by omega)).mono ?_
    rw [HI.out]
    rintro e w3 ⟨rfl, hw3⟩
    subst hw3
    go_wp2_with fail
    go_ret
    have hz0 := HZ0.out
    have hs2 := HB2.out.size
    refine ⟨_, rfl, ?_, HBa.out.trans ((HB2.out.alloc HB2.out.size _).mono (by omega))⟩
    rw [HE.out]
    refine slo_lit ?_
    unfold ival
    simp
    omega

set_option maxRecDepth 20000 in
set_option maxHeartbeats 2000000 in
/-- impl.MakeWrite. -/
theorem impl_mkw {l1 l2 : Nat} {w : World} {u v : Value} {r x : Int} {c ss : List Int} (hu : Rd l1 .u8 w u c) (hv : Rd l2 .i64 w v ss) (hl1 : l1 ≤ w.heap.size) (hl2 : l2 ≤ w.heap.size) (hr : (Lit.int .i64 r).wf = true) (hx : (Lit.int .i64 x).wf = true) :
    Calls Try.prog 14 #[.int .i64 r, .int .i64 x, u, v] w fun e w' => ∃ v', e = .returned v' ∧ (sliceT 39 tyDatabase).own (ival w.heap.size w'.heap.size) w' [v'] (mkw r x c ss) ∧ Below w.heap.size w w' := by
  have hmf : ∀ (fn : Fn) (first cap : Array Value) (w : World), (Instr.makeFunc fn first cap).run Try.prog w = .ok (.func fn first cap) w := fun _ _ _ _ => rfl
  have HRw := Lib.hid hr
  have HXw := Lib.hid hx
  have b1 := (Below.refl w.heap.size w).alloc (Nat.le_refl _) (.cells #[.int .i64 r] 3)
  have HB := Lib.hid b1
  have HU := Lib.hid (hu.behind (b1.mono hl1))
  have HV := Lib.hid (hv.behind (b1.mono hl2))
  have HC : Hid ((w.alloc (.cells #[.int .i64 r] 3)).cell? ⟨w.heap.size, 0, none⟩ = some (.int .i64 r)) := Lib.hid (blk_cell (heap_alloc_new w (.cells #[.int .i64 r] 3)) 0)
  clear hu hv hr hx b1
  go_enter Try.func14, Try.ntmps14
  have HCo := HC.out
  go_wp2_with fail
  clear HCo
  refine (impl_wr HU.out (Nat.le_trans hl1 HB.out.size) HRw.out HXw.out).mono ?_
  rintro e w1 ⟨v1, rfl, h1, hb⟩
  have hlt : w.heap.size < (w.alloc (.cells #[.int .i64 r] 3)).heap.size := by simp
  obtain ⟨a1, c1, hv1, _⟩ := h1.open
  obtain ⟨n1, hn1⟩ : ∃ n, n = (wr0 r x c).length := ⟨_, rfl⟩
  rw [← hn1] at hv1
  subst hv1
  have hba := (Below.refl w1.heap.size w1).alloc (Nat.le_refl _) (.cells #[.slice a1 n1 c1] 39)
  have HC1 : Hid ((w1.alloc (.cells #[.slice a1 n1 c1] 39)).cell? ⟨w.heap.size, 0, none⟩ = some (.int .i64 r)) := Lib.hid ((hba.cell (p := ⟨w.heap.size, 0, none⟩) (Nat.lt_of_lt_of_le hlt hb.size)).trans ((hb.cell (p := ⟨w.heap.size, 0, none⟩) hlt).trans HC.out))
  have HLt : Hid (w.heap.size < (w1.alloc (.cells #[.slice a1 n1 c1] 39)).heap.size) := Lib.hid (Nat.lt_of_lt_of_le hlt (Nat.le_trans hb.size hba.size))
  have H1 := Lib.hid (h1.alloc (.cells #[.slice a1 n1 c1] 39))
  have HV1 := Lib.hid (HV.out.behind ((hb.alloc hb.size (.cells #[.slice a1 n1 c1] 39)).mono (Nat.le_trans hl2 HB.out.size)))
  have HB1 := Lib.hid ((HB.out.trans (hb.mono HB.out.size)).alloc (Nat.le_trans HB.out.size hb.size) (.cells #[.slice a1 n1 c1] 39))
  have cD := blk_cell (heap_alloc_new w1 (.cells #[.slice a1 n1 c1] 39)) 0
  rw [one0] at cD
  clear h1 hb hn1 hlt hba
  by_cases hk : rowOk r x c = true
  · rw [hk]
    have hk' := rowOk_iff.1 hk
    obtain ⟨N, rfl⟩ : ∃ N : Nat, r = (N : Int) := ⟨r.toNat, by omega⟩
    have hN : N ≤ 64 := by omega
    have HN := Lib.hid hN
    have HTot : Hid (tot (wr0 (N : Int) x c) ≤ 1099511627776) := Lib.hid (by rw [wr0_yes hk]; exact Nat.le_trans (vd_fl (whole_vd hk)) (by decide))
    have HE : Hid (dvD (wr0 (N : Int) x c) (N : Int) ss = mkw (N : Int) x c ss) := Lib.hid (by rw [wr0_yes hk]; exact mkw_dvD hk)
    clear hk hk' hN
    go_wp2_with fail
    clear cD
    refine (divD_any H1.out.rd2 HV1.out (Nat.le_refl _) (Nat.le_trans hl2 HB1.out.size) HTot.out HN.out HC1.out HLt.out).mono ?_
    rw [HE.out]
    rintro e w2 ⟨v2, rfl, h3, hb⟩
    have H3 := Lib.hid ((sliceT 39 tyDatabase).omono (G := ival w.heap.size w2.heap.size) h3 (fun b hb' => by have := HB1.out.size; unfold ival at hb' ⊢; omega))
    have HB2 := Lib.hid (HB1.out.trans (hb.mono HB1.out.size))
    clear h3 hb
    go_wp2_with fail
    go_ret
    exact ⟨_, rfl, H3.out, HB2.out⟩
  · have hk' : rowOk r x c = false := by simpa using hk
    have HE : Hid (mkw r x c ss = []) := Lib.hid (mkw_no (by unfold mkwK; rw [hk', Bool.false_and]))
    rw [hk']
    clear hk hk'
    go_wp2_with fail
    go_ret
    refine ⟨_, rfl, ?_, HB1.out.alloc HB1.out.size _⟩
    rw [HE.out]
    have hq := HB1.out.size
    have hsl := slo_lit (e := 39) (T := tyDatabase) (w := w1.alloc (.cells #[.slice a1 n1 c1] 39)) (F := ival w.heap.size ((w1.alloc (.cells #[.slice a1 n1 c1] 39)).alloc (.cells #[] 39)).heap.size) (by unfold ival; rw [World.size_alloc _ (.cells #[] 39)]; omega)
    rw [World.size_alloc w1] at hsl
    exact hsl

end Go.Proofs.Ytdipignajccdcaa


/-! Wr3 -/
namespace Go.Proofs.Ytdipignajccdcaa
open Go Go.RowKit
set_option linter.unusedVariables false
attribute [local irreducible] kh

theorem drop1_tot {x : VDatabase} {l : List VDatabase} {N : Nat} (h : totL tyDatabase (x :: l) ≤ N) : tot x ≤ N ∧ totL tyDatabase l ≤ N := by
  have h1 : tyDatabase.tot x = tot x := totL2 _ _ _ _ x
  unfold totL at h ⊢
  simp only [List.map_cons, List.sum_cons, List.length_cons] at h
  omega

set_option maxRecDepth 20000 in
set_option maxHeartbeats 4000000 in
/-- impl.JoinWrites -/
theorem impl_jw {lim : Nat} {e0 : TypeId} {w : World} {v : Value} {zs : List VDatabase} (hv : (sliceT e0 tyDatabase).rd lim w [v] zs) (hl : lim ≤ w.heap.size) (hm : totL tyDatabase zs ≤ 1099511627776) :
    Calls Try.prog 32 #[v] w fun e w' => ∃ v', e = .returned (.tuple #[.agg #[v'], .bool (jwK zs)]) ∧ Own2 22 5 .u8 (ival w.heap.size w'.heap.size) w' v' (jw zs) ∧ Below w.heap.size w w' := by
  obtain ⟨i1, hi', hy0, hy1, hy2⟩ := info_parts infoDatabase
  have Hhi' := Lib.hid hi'
  obtain ⟨av, cv, hv1, hv2, hv3, hvc⟩ := sl_open hv
  injection hv1 with hv1
  subst hv1
  have hb0 := (Below.refl w.heap.size w).alloc (Nat.le_refl _) (.cells #[.slice none 0 0] 39)
  have ha0 := heap_alloc_new w (.cells #[.slice none 0 0] 39)
  obtain ⟨W0, hW0⟩ : ∃ W, W = w.alloc (.cells #[.slice none 0 0] 39) := ⟨_, rfl⟩
  rw [← hW0] at hb0 ha0
  have HB := Lib.hid hb0
  have HA := Lib.hid ha0
  have HW0 := Lib.hid hW0
  clear hb0 ha0 hW0
  have HV := Lib.hid ((sliceT e0 tyDatabase).behind hv (HB.out.mono hl))
  have HM := Lib.hid hm
  obtain ⟨n, hn⟩ : ∃ n, n = zs.length := ⟨_, rfl⟩
  have HN := Lib.hid hn
  have hn40 : n ≤ 1099511627776 := by have := totL_eq tyDatabase zs; omega
  rw [← hn] at HV hv2 hvc ⊢
  unfold maxLen at hv3
  have HVc := Lib.hid hvc
  clear hv hi' hvc hm
  by_cases hin : 2 ≤ n ∧ n ≤ 4
  case neg =>
    have HI : Hid (inR (n : Int) 2 4 = false) := Lib.hid (inR_no (by omega))
    have HE : Hid (jwK zs = false) := Lib.hid (by unfold jwK; rw [← HN.out, HI.out, Bool.false_and])
    have HE2 := Lib.hid (jw_no HE.out)
    rw [HE.out, HE2.out]
    have cA := blk_cell HA.out 0
    have fA := blk_free HA.out 0
    rw [one0] at cA
    clear hin hn
    go_enter Try.func32, Try.ntmps32
    go_wp2_with fail
    rw [← HW0.out]
    refine (fitD_any (by omega)).mono ?_
    rw [HI.out]
    rintro e w1 ⟨rfl, hw1⟩
    obtain rfl : W0 = w1 := hw1.symm
    go_wp2_with fail
    clear cA fA
    obtain ⟨s1, s2, s3⟩ := store1 HA.out (.slice none 0 0)
    obtain ⟨w8, hw8⟩ : ∃ w8, w8 = W0.setCell ⟨w.heap.size, 0, none⟩ (.slice none 0 0) := ⟨_, rfl⟩
    rw [← hw8] at s1 s2 s3 ⊢
    have Q2 := Lib.hid (HB.out.trans (s3.below (B := w.heap.size) (fun b hb => by omega) HB.out.size))
    clear hw8 s1 s3
    exact bodyPost_ret (v := .tuple #[.agg #[.slice none 0 0], .bool false]) (by simp [results, Try.results32, go_sem, s2]) rfl ⟨_, rfl, Own2.nil _ _ _ _ _, Q2.out⟩
  have HI : Hid (inR (n : Int) 2 4 = true) := Lib.hid (inR_yes (by omega))
  obtain ⟨x, zr, hzs⟩ : ∃ x r, zs = x :: r := by
    cases zs with
    | nil => simp at hn; omega
    | cons x r => exact ⟨x, r, rfl⟩
  have hdr : zs.drop 1 = zr := by rw [hzs]; rfl
  have HTx := Lib.hid (drop1_tot (by rw [← hzs]; exact HM.out))
  have HE : Hid (jwK zs = adK x zr) := Lib.hid (by unfold jwK; rw [← HN.out, HI.out, Bool.true_and, hdr, hzs]; rfl)
  have HE2 : Hid (jw zs = ad x zr) := Lib.hid (by unfold jw ad; rw [HE.out, hdr, hzs]; rfl)
  have HZr : Hid (zr ≠ []) := Lib.hid (fun h => by rw [hzs, h] at hn; simp at hn; omega)
  obtain ⟨b, o, rfl, hbl, hcell⟩ := HVc.out (by omega)
  obtain ⟨c, hr, hcl⟩ := hcell W0 (HB.out.mono hl) 0 x (by rw [hzs]; rfl)
  obtain ⟨a0, c0, rfl, hr'⟩ := rd_Database hr
  have hrx : Rd2 lim .u8 W0 (.slice a0 x.length c0) x := rd2_of_sl2 hr'
  obtain ⟨nx, hnx⟩ : ∃ n, n = x.length := ⟨_, rfl⟩
  rw [← hnx] at hrx hcl
  have k0 : W0.drew.cell? ⟨b, o, none⟩ = some (.slice a0 nx c0) := by
    have := hcl 0 _ rfl
    rwa [Nat.zero_mul] at this
  have HK0 := Lib.hid k0
  have hsl := sl_sliced (k := 1) rfl HV.out (by omega)
  rw [hdr] at hsl
  obtain ⟨u5, hu5⟩ : ∃ u, u = Go.sliced (some ⟨b, o, none⟩) 1 n cv 1 := ⟨_, rfl⟩
  rw [← hu5] at hsl
  have HRs := Lib.hid ((sliceT e0 tyDatabase).drew hsl)
  have HRx := Lib.hid hrx.drew
  have HBl : Hid (b < w.heap.size + 1 ∧ lim ≤ W0.drew.heap.size) := Lib.hid ⟨by omega, Nat.le_trans hl HB.out.size⟩
  have HBd := Lib.hid HB.out.drew
  have HAd : Hid (W0.drew.heap[w.heap.size]? = some (.cells #[.slice none 0 0] 39)) := Lib.hid HA.out
  have h1n : 1 ≤ n := by omega
  have H1n := Lib.hid h1n
  rw [HE.out, HE2.out]
  clear hcell hcl hr hr' hrx hnx hsl hdr hzs hn hin h1n k0
  go_enter Try.func32, Try.ntmps32
  go_wp2_with fail
  rw [← HW0.out]
  refine (fitD_any (by omega)).mono ?_
  rw [HI.out]
  rintro e w1 ⟨rfl, hw1⟩
  obtain rfl : W0 = w1 := hw1.symm
  have k0 := HK0.out
  have h0n : (0 : Int) < (n : Int) := by have := H1n.out; omega
  have h0n' : 0 < n := H1n.out
  go_wp2_with fail

  refine region_till (fun w' => w'.cell? ⟨b, o, none⟩ = some (.slice a0 nx c0)) 8 (by kernel_rfl) ?_
  apply Till.take (i := 0) [0, 1, 2, 5, 8]
  · simp only [List.getElem?_toArray, List.getElem?_cons_zero]
    rfl
  · kernel_rfl
  · kernel_rfl
  · kernel_rfl
  · kernel_rfl
  · exact fun _ _ _ h => h
  · first
      | exact Or.inr ⟨by rfl, rfl⟩
      | (refine Or.inl ⟨by rfl, fun wq hwq => ?_⟩
         dsimp only at hwq
         go_simp
         first
           | done
           | rfl)
  · exact k0
  simp only [Act.put, List.setIfInBounds_toArray, List.set_cons_zero, List.set_cons_succ]
  apply Till.take (i := 3) [3, 4, 5, 8]
  · simp only [List.getElem?_toArray, List.getElem?_cons_succ, List.getElem?_cons_zero]
    rfl
  · kernel_rfl
  · kernel_rfl
  · kernel_rfl
  · kernel_rfl
  · exact fun _ _ _ h => h
  · first
      | exact Or.inr ⟨by rfl, rfl⟩
      | (refine Or.inl ⟨by rfl, fun wq hwq => ?_⟩
         dsimp only at hwq
         go_simp
         first
           | done
           | rfl)
  · exact k0
  simp only [Act.put, List.setIfInBounds_toArray, List.set_cons_zero, List.set_cons_succ]
  apply Till.take (i := 1) [1, 2, 5, 8]
  · simp only [List.getElem?_toArray, List.getElem?_cons_succ, List.getElem?_cons_zero]
    rfl
  · kernel_rfl
  · kernel_rfl
  · kernel_rfl
  · kernel_rfl
  · exact fun _ _ _ h => h
  · first
      | exact Or.inr ⟨by rfl, rfl⟩
      | (refine Or.inl ⟨by rfl, fun wq hwq => ?_⟩
         dsimp only at hwq
         go_simp
         first
           | done
           | rfl)
  · exact k0
  simp only [Act.put, List.setIfInBounds_toArray, List.set_cons_zero, List.set_cons_succ]
  apply Till.take (i := 2) [2, 5, 8]
  · simp only [List.getElem?_toArray, List.getElem?_cons_succ, List.getElem?_cons_zero]
    rfl
  · kernel_rfl
  · kernel_rfl
  · kernel_rfl
  · kernel_rfl
  · exact fun _ _ _ h => h
  · first
      | exact Or.inr ⟨by rfl, rfl⟩
      | (refine Or.inl ⟨by rfl, fun wq hwq => ?_⟩
         dsimp only at hwq
         go_simp
         first
           | done
           | rfl)
  · exact k0
  simp only [Act.put, List.setIfInBounds_toArray, List.set_cons_zero, List.set_cons_succ]
  apply Till.take (i := 4) (v := Go.sliced (some ⟨b, o, none⟩) 1 n cv 1) [4, 5, 8]
  · simp only [List.getElem?_toArray, List.getElem?_cons_succ, List.getElem?_cons_zero]
    rfl
  · kernel_rfl
  · kernel_rfl
  · kernel_rfl
  · kernel_rfl
  · exact fun _ _ _ h => h
  · refine Or.inl ⟨by rfl, fun _ _ => ?_⟩
    exact run_slice_op_l _ 24 _ 39 i1 Try.underlying24 Hhi'.out hy1 (n := 1) _ rfl rfl rfl H1n.out
  · exact k0
  simp only [Act.put, List.setIfInBounds_toArray, List.set_cons_zero, List.set_cons_succ]
  rw [← hu5]
  clear hu5
  apply Till.one (i := 5)
  · kernel_rfl
  · simp only [List.getElem?_toArray, List.getElem?_cons_succ, List.getElem?_cons_zero]
    rfl
  intro K hK
  go_simp
  refine (addDb_any HRx.out HRs.out HBl.out.2 HBl.out.2 HTx.out.1 HTx.out.2).mono ?_
  rintro e' w2 ⟨v2, he, h2, hb⟩
  subst he
  replace h2 := h2.resolve_left (fun h => HZr.out h.1)
  obtain ⟨a2, c2, hv2', _⟩ := h2.open
  obtain ⟨n2, hn2⟩ : ∃ n, n = (ad x zr).length := ⟨_, rfl⟩
  rw [← hn2] at hv2'
  subst hv2'
  obtain ⟨ok, hok⟩ : ∃ q, q = adK x zr := ⟨_, rfl⟩
  rw [← hok]
  have HOk := Lib.hid hok
  have HO2 := Lib.hid h2
  have HR2 := Lib.hid ((hb.block _ (lt_of_block HAd.out)).trans HAd.out)
  have HB2 := Lib.hid (HBd.out.trans (hb.mono HBd.out.size))
  have HZd : Hid (w.heap.size < W0.drew.heap.size) := Lib.hid (lt_of_block HAd.out)
  have d2 : w2.cell? ⟨b, o, none⟩ = some (.slice a0 nx c0) := (hb.cell (p := ⟨b, o, none⟩) (Nat.lt_of_lt_of_le hbl HBl.out.2)).trans k0
  clear hn2 hok h2 hb
  refine hK.out _ _ (Or.inr d2) ?_
  clear hK K
  try simp only [Act.put, List.setIfInBounds_toArray, List.set_cons_zero, List.set_cons_succ]
  apply Till.take (i := 6) [6, 8]
  · simp only [List.getElem?_toArray, List.getElem?_cons_succ, List.getElem?_cons_zero]
    rfl
  · kernel_rfl
  · kernel_rfl
  · kernel_rfl
  · kernel_rfl
  · exact fun _ _ _ h => h
  · first
      | exact Or.inr ⟨by rfl, rfl⟩
      | (refine Or.inl ⟨by rfl, fun wq hwq => ?_⟩
         dsimp only at hwq
         go_simp
         first
           | done
           | rfl)
  · exact d2
  simp only [Act.put, List.setIfInBounds_toArray, List.set_cons_zero, List.set_cons_succ]
  apply Till.take (i := 7) [7, 8]
  · simp only [List.getElem?_toArray, List.getElem?_cons_succ, List.getElem?_cons_zero]
    rfl
  · kernel_rfl
  · kernel_rfl
  · kernel_rfl
  · kernel_rfl
  · exact fun _ _ _ h => h
  · first
      | exact Or.inr ⟨by rfl, rfl⟩
      | (refine Or.inl ⟨by rfl, fun wq hwq => ?_⟩
         dsimp only at hwq
         go_simp
         first
           | done
           | rfl)
  · exact d2
  simp only [Act.put, List.setIfInBounds_toArray, List.set_cons_zero, List.set_cons_succ]
  have cR := blk_cell HR2.out 0
  have fR := blk_free HR2.out 0
  rw [one0] at cR
  apply Till.one (i := 8)
  · kernel_rfl
  · simp only [List.getElem?_toArray, List.getElem?_cons_succ, List.getElem?_cons_zero]
    rfl
  intro K hK
  go_simp
  skip
  refine hK.out _ _ (Or.inl (by rfl)) ?_
  clear hK K
  try simp only [Act.put, List.setIfInBounds_toArray, List.set_cons_zero, List.set_cons_succ]
  apply Till.one (i := 9)
  · kernel_rfl
  · simp only [List.getElem?_toArray, List.getElem?_cons_succ, List.getElem?_cons_zero]
    rfl
  intro K hK
  go_simp
  skip
  refine hK.out _ _ (Or.inl (by rfl)) ?_
  clear hK K
  try simp only [Act.put, List.setIfInBounds_toArray, List.set_cons_zero, List.set_cons_succ]
  refine Till.done (by kernel_rfl) ?_ _
  clear cR fR
  obtain ⟨s1, s2, s3⟩ := store1 HR2.out (.slice a2 n2 c2)
  obtain ⟨w3, hw3⟩ : ∃ w3, w3 = w2.setCell ⟨w.heap.size, 0, none⟩ (.slice a2 n2 c2) := ⟨_, rfl⟩
  rw [← hw3] at s1 s2 s3 ⊢
  have hs3 : w3.heap.size = w2.heap.size := by rw [hw3, World.setCell_size]
  have Q1 := Lib.hid ((HO2.out.keptF s3 (fun b hb => by have := HZd.out; unfold ival at hb; omega)).mono (G := ival w.heap.size w3.heap.size) (fun b hb => by have := HZd.out; unfold ival at hb ⊢; omega))
  have Q2 := Lib.hid (HB2.out.trans (s3.below (B := w.heap.size) (fun b hb => by omega) HB2.out.size))
  clear hw3 s1 s3 hs3 d2 k0
  go_wp2_with fail
  exact bodyPost_ret (v := .tuple #[.agg #[.slice a2 n2 c2], .bool ok]) (by simp [results, Try.results32, go_sem, s2]) rfl ⟨_, by rw [HOk.out], Q1.out, Q2.out⟩

set_option maxRecDepth 20000 in
set_option maxHeartbeats 4000000 in
/-- impl.ExplainWrite -/
theorem impl_exw {l1 l2 : Nat} {e0 : TypeId} {w : World} {v u : Value} {zs : List VDatabase} {r x : Int} {c : List Int} (hv : (sliceT e0 tyDatabase).rd l1 w [v] zs) (hu : Rd l2 .u8 w u c) (hl1 : l1 ≤ w.heap.size) (hl2 : l2 ≤ w.heap.size) (hr : (Lit.int .i64 r).wf = true) (hx : (Lit.int .i64 x).wf = true) (hm : totL tyDatabase zs ≤ 1099511627776) :
    Calls Try.prog 36 #[v, .int .i64 r, .int .i64 x, u] w fun e w' => ∃ v', e = .returned (.tuple #[.agg #[v'], .bool (exwK zs r x c)]) ∧ Own2 22 5 .u8 (ival w.heap.size w'.heap.size) w' v' (exw zs r x c) ∧ Below w.heap.size w w' := by
  obtain ⟨av, cv, hv1, hv2, hv3, hvc⟩ := sl_open hv
  have hv1 := (List.cons.inj hv1).1
  subst hv1
  have hb0 := (Below.refl w.heap.size w).alloc (Nat.le_refl _) (.cells #[.slice none 0 0] 39)
  have ha0 := heap_alloc_new w (.cells #[.slice none 0 0] 39)
  have hz0 : (w.alloc (.cells #[.slice none 0 0] 39)).heap.size = w.heap.size + 1 := by simp
  obtain ⟨W0, hW0⟩ : ∃ W, W = w.alloc (.cells #[.slice none 0 0] 39) := ⟨_, rfl⟩
  rw [← hW0] at hb0 ha0 hz0
  have HB := Lib.hid hb0
  have HA := Lib.hid ha0
  have HW0 := Lib.hid hW0
  have HZ0 := Lib.hid hz0
  clear hb0 ha0 hW0 hz0
  have HV := Lib.hid ((sliceT e0 tyDatabase).behind hv (HB.out.mono hl1))
  have HU := Lib.hid (hu.behind (HB.out.mono hl2))
  have HM := Lib.hid hm
  have HRw := Lib.hid hr
  have HXw := Lib.hid hx
  obtain ⟨n, hn⟩ : ∃ n, n = zs.length := ⟨_, rfl⟩
  have HN := Lib.hid hn
  have HNz : Hid (n = 0 → zs = []) := Lib.hid (fun h => List.length_eq_zero_iff.1 (by rw [← hn]; exact h))
  have HNn : Hid (n ≠ 0 → zs ≠ []) := Lib.hid (fun h h2 => h (by rw [hn, h2]; rfl))
  have hn40 : n ≤ 1099511627776 := by have := totL_eq tyDatabase zs; omega
  rw [← hn] at HV hv2 ⊢
  unfold maxLen at hv3
  clear hv hvc hm hu hr hx hn
  go_enter Try.func36, Try.ntmps36
  go_wp2_with fail
  rw [← HW0.out]
  refine (impl_wr HU.out (Nat.le_trans hl2 HB.out.size) HRw.out HXw.out).mono ?_
  rintro e w1 ⟨v1, rfl, h1, hb⟩
  obtain ⟨a1, c1, hv1, _⟩ := h1.open
  obtain ⟨n1, hn1⟩ : ∃ n, n = (wr0 r x c).length := ⟨_, rfl⟩
  rw [← hn1] at hv1
  subst hv1
  obtain ⟨ok, hok⟩ : ∃ q, q = rowOk r x c := ⟨_, rfl⟩
  have HOk := Lib.hid hok
  have hba := (Below.refl w1.heap.size w1).alloc (Nat.le_refl _) (.cells #[.slice a1 n1 c1] 39)
  have H1 := Lib.hid (h1.alloc (.cells #[.slice a1 n1 c1] 39))
  have HV1 := Lib.hid ((sliceT e0 tyDatabase).behind HV.out ((hb.alloc hb.size (.cells #[.slice a1 n1 c1] 39)).mono (Nat.le_trans hl1 HB.out.size)))
  have HB1 := Lib.hid ((HB.out.trans (hb.mono HB.out.size)).alloc (Nat.le_trans HB.out.size hb.size) (.cells #[.slice a1 n1 c1] 39))
  have HA1 := Lib.hid ((hba.block _ (Nat.lt_of_lt_of_le (lt_of_block HA.out) hb.size)).trans ((hb.block _ (lt_of_block HA.out)).trans HA.out))
  have cD := blk_cell (heap_alloc_new w1 (.cells #[.slice a1 n1 c1] 39)) 0
  have cA := blk_cell HA1.out 0
  have fA := blk_free HA1.out 0
  rw [one0] at cD cA
  rw [← hok]
  clear h1 hb hn1 hba hok
  cases ok with
  | false =>
    have HE : Hid (exwK zs r x c = false) := Lib.hid (by unfold exwK; rw [← HOk.out]; rfl)
    have HE2 := Lib.hid (exw_no HE.out)
    go_wp2_with fail
    clear cA fA cD
    obtain ⟨s1, s2, s3⟩ := store1 HA1.out (.slice none 0 0)
    obtain ⟨w8, hw8⟩ : ∃ w8, w8 = (w1.alloc (.cells #[.slice a1 n1 c1] 39)).setCell ⟨w.heap.size, 0, none⟩ (.slice none 0 0) := ⟨_, rfl⟩
    rw [← hw8] at s1 s2 s3 ⊢
    have Q2 := Lib.hid (HB1.out.trans (s3.below (B := w.heap.size) (fun b hb => by omega) HB1.out.size))
    clear hw8 s1 s3
    exact bodyPost_ret (v := .tuple #[.agg #[.slice none 0 0], .bool false]) (by simp [results, Try.results36, go_sem, s2]) rfl ⟨_, by rw [HE.out], by rw [HE2.out]; exact Own2.nil _ _ _ _ _, Q2.out⟩
  | true =>
    by_cases h0 : n = 0
    · have HE : Hid (exwK zs r x c = false) := Lib.hid (by unfold exwK; rw [← HN.out, decide_eq_false (by omega), Bool.and_false]; rfl)
      have HE2 := Lib.hid (exw_no HE.out)
      have e0 : ((n : Int) == 0) = true := by rw [h0]; rfl
      clear h0
      go_wp2_with fail
      clear cA fA cD
      obtain ⟨s1, s2, s3⟩ := store1 HA1.out (.slice none 0 0)
      obtain ⟨w8, hw8⟩ : ∃ w8, w8 = (w1.alloc (.cells #[.slice a1 n1 c1] 39)).setCell ⟨w.heap.size, 0, none⟩ (.slice none 0 0) := ⟨_, rfl⟩
      rw [← hw8] at s1 s2 s3 ⊢
      have Q2 := Lib.hid (HB1.out.trans (s3.below (B := w.heap.size) (fun b hb => by omega) HB1.out.size))
      clear hw8 s1 s3
      exact bodyPost_ret (v := .tuple #[.agg #[.slice none 0 0], .bool false]) (by simp [results, Try.results36, go_sem, s2]) rfl ⟨_, by rw [HE.out], by rw [HE2.out]; exact Own2.nil _ _ _ _ _, Q2.out⟩
    · have e0 : ((n : Int) == 0) = false := by rw [beq_eq_false_iff_ne]; omega
      have HNe := Lib.hid (HNn.out h0)
      have HE : Hid (exwK zs r x c = adK (whole r x c) zs) := Lib.hid (by unfold exwK; rw [← HOk.out, ← HN.out, decide_eq_true h0]; rfl)
      have HE2 : Hid (exw zs r x c = ad (whole r x c) zs) := Lib.hid (by unfold exw ad; rw [HE.out])
      have HWr : Hid (wr0 r x c = whole r x c) := Lib.hid (wr0_yes HOk.out.symm)
      have HTot : Hid (tot (whole r x c) ≤ 1099511627776) := Lib.hid (Nat.le_trans (vd_fl (whole_vd HOk.out.symm)) (by decide))
      rw [HWr.out] at H1
      clear h0 cA fA
      go_wp2_with fail
      clear cD
      refine (addDb_any H1.out.rd2 HV1.out (Nat.le_refl _) (Nat.le_trans hl1 HB1.out.size) HTot.out HM.out).mono ?_
      rintro e w2 ⟨v2, rfl, h2, hb⟩
      replace h2 := h2.resolve_left (fun h => HNe.out h.1)
      obtain ⟨a2, c2, hv2', _⟩ := h2.open
      obtain ⟨n2, hn2⟩ : ∃ n, n = (ad (whole r x c) zs).length := ⟨_, rfl⟩
      rw [← hn2] at hv2'
      subst hv2'
      obtain ⟨ok, hok⟩ : ∃ q, q = adK (whole r x c) zs := ⟨_, rfl⟩
      rw [← hok]
      have HOk2 := Lib.hid hok
      have HO2 := Lib.hid h2
      have HR2 := Lib.hid ((hb.block _ (lt_of_block HA1.out)).trans HA1.out)
      have HB2 := Lib.hid (HB1.out.trans (hb.mono HB1.out.size))
      have HZd : Hid (w.heap.size < (w1.alloc (.cells #[.slice a1 n1 c1] 39)).heap.size) := Lib.hid (lt_of_block HA1.out)
      have cR := blk_cell HR2.out 0
      have fR := blk_free HR2.out 0
      rw [one0] at cR
      clear hn2 hok h2 hb
      go_wp2_with fail
      clear cR fR
      obtain ⟨s1, s2, s3⟩ := store1 HR2.out (.slice a2 n2 c2)
      obtain ⟨w3, hw3⟩ : ∃ w3, w3 = w2.setCell ⟨w.heap.size, 0, none⟩ (.slice a2 n2 c2) := ⟨_, rfl⟩
      rw [← hw3] at s1 s2 s3 ⊢
      have hs3 : w3.heap.size = w2.heap.size := by rw [hw3, World.setCell_size]
      have Q1 := Lib.hid ((HO2.out.keptF s3 (fun b hb => by have := HZd.out; unfold ival at hb; omega)).mono (G := ival w.heap.size w3.heap.size) (fun b hb => by have := HZd.out; unfold ival at hb ⊢; omega))
      have Q2 := Lib.hid (HB2.out.trans (s3.below (B := w.heap.size) (fun b hb => by omega) HB2.out.size))
      clear hw3 s1 s3 hs3
      exact bodyPost_ret (v := .tuple #[.agg #[.slice a2 n2 c2], .bool ok]) (by simp [results, Try.results36, go_sem, s2]) rfl ⟨_, by rw [HOk2.out, HE.out], by rw [HE2.out]; exact Q1.out, Q2.out⟩

end Go.Proofs.Ytdipignajccdcaa
