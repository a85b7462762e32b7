/- EvaluatePoint, the program's and the document's. No conditions but numbers that a machine holds. -/
import Derived.Test.YtheefkhhafefoaaPk3
import Derived.ChangeKeysEq
namespace Go.Proofs.Ytheefkhhafefoaa
open Go Go.RowKit
set_option linter.unusedVariables false
attribute [local irreducible] kh

theorem lf_wf2 {st : Int × Int} (h : (Lit.int .i64 st.2).wf = true) (cs : List Cor) (i : Nat) : (Lit.int .i64 (lf st cs i).2).wf = true := by
  induction cs generalizing st with
  | nil => exact h
  | cons c l ih => rw [lf_cons]; exact ih (evN_wf2 _ _ _ _)
theorem ept_no {r b : Int} {cs : List Cor} {i : Int} (h : vk r b cs = false) : ept r b cs i = 0 := by unfold ept; rw [h]; rfl
theorem ept_out {r b : Int} {cs : List Cor} {i : Int} (h : leafOk cs.length i = false) : ept r b cs i = 0 := by unfold ept; rw [h, Bool.and_false]; rfl
theorem ept_yes {r b : Int} {cs : List Cor} {i : Int} (h : vk r b cs = true) (hi : leafOk cs.length i = true) : ept r b cs i = (lf (r, b) cs i.toNat).2 := by unfold ept; rw [h, hi]; rfl
theorem ept_wf {r b : Int} (hb : (Lit.int .i64 b).wf = true) (cs : List Cor) (i : Int) : (Lit.int .i64 (ept r b cs i)).wf = true := by
  unfold ept
  split
  · exact lf_wf2 hb _ _
  · decide

theorem node_bit (w : World) (x1 x2 : Int) : (Instr.field 68 (.agg #[.int .i64 x1, .int .i64 x2]) 1).run Try.prog w = .ok (.int .i64 x2) w := by
  have p := run_part_plain (P := Try.prog) w (e := 3) (by kernel_rfl) (show (#[.int .i64 x1, .int .i64 x2] : Array Value)[1]? = some (.int .i64 x2) from rfl)
  simp [Instr.field, run_underlying Try.underlying68, asAgg, p]

set_option maxHeartbeats 2000000 in
/-- pointKey.bitAt -/
theorem bitAt_any {l : Nat} {w : World} {e0 : TypeId} {a : Option Addr} {cap I : Nat} {cs : List Cor} {r b : Int} (h : (sliceT e0 tyCorrection).rd l w [.slice a cs.length cap] cs) (hl : l ≤ w.heap.size) (hr : (Lit.int .i64 r).wf = true) (hb : (Lit.int .i64 b).wf = true) (hn : cs.length ≤ 6) (hI : I ≤ 63) :
    Calls Try.prog 59 #[.agg #[.int .i64 r, .int .i64 b, .slice a cs.length cap], .int .i64 (I : Int)] w fun e w' => e = .returned (.int .i64 (lf (r, b) cs I).2) ∧ Below w.heap.size w w' := by
  obtain ⟨⟨x1, x2⟩, hx⟩ : ∃ x, x = lf (r, b) cs I := ⟨_, rfl⟩
  rw [← hx]
  have HX := Lib.hid hx
  have HR := Lib.hid hr
  have HBi := Lib.hid hb
  have HN := Lib.hid hn
  have HB := Lib.hid ((Below.refl w.heap.size w).alloc (Nat.le_refl _) (.cells #[.int .i64 r, .int .i64 b, .slice a cs.length cap] 75))
  have H := Lib.hid ((sliceT e0 tyCorrection).behind h (HB.out.mono hl))
  clear h hr hb hn hx
  go_enter Try.func59, Try.ntmps59
  go_wp2_with fail
  refine (leaf_any H.out (Nat.le_trans hl HB.out.size) HR.out HBi.out HN.out hI).mono ?_
  rw [← HX.out]
  rintro e w1 ⟨rfl, hb⟩
  replace HB := Lib.hid (HB.out.trans (hb.mono HB.out.size))
  clear hb
  have hnb := fun w => node_bit w x1 x2
  go_wp2_with fail
  go_ret
  exact ⟨rfl, HB.out⟩

set_option maxHeartbeats 4000000 in
/-- impl.EvaluatePoint -/
theorem impl_ept {l : Nat} {w : World} {e0 : TypeId} {a : Option Addr} {cap : Nat} {cs : List Cor} {r b i : Int} (h : (sliceT e0 tyCorrection).rd l w [.slice a cs.length cap] cs) (hl : l ≤ w.heap.size) (hr : (Lit.int .i64 r).wf = true) (hb : (Lit.int .i64 b).wf = true) (hi : (Lit.int .i64 i).wf = true) :
    Calls Try.prog 21 #[.agg #[.int .i64 r, .int .i64 b, .slice a cs.length cap], .int .i64 i] w fun e w' => e = .returned (.int .i64 (ept r b cs i)) ∧ Below w.heap.size w w' := by
  obtain ⟨q, hq⟩ : ∃ q, q = ept r b cs i := ⟨_, rfl⟩
  rw [← hq]
  have HQ := Lib.hid hq
  have HR := Lib.hid hr
  have HBi := Lib.hid hb
  have HI := Lib.hid hi
  have hlen := sl_len h
  unfold maxLen at hlen
  have HWl : Hid ((Lit.int .i64 (cs.length : Int)).wf = true) := Lib.hid (wf_i64_of (by omega) (by omega))
  have HB := Lib.hid ((Below.refl w.heap.size w).alloc (Nat.le_refl _) (.cells #[.int .i64 r, .int .i64 b, .slice a cs.length cap] 27))
  have H := Lib.hid h
  clear h hr hb hi hq hlen
  go_enter Try.func21, Try.ntmps21
  go_wp2_with fail
  refine (of_any).mono ?_
  rintro e w1 ⟨rfl, hb⟩
  have hB := HB.out.trans (hb.mono HB.out.size)
  have hB2 := hB.alloc hB.size (.cells #[.int .i64 r, .int .i64 b, .slice a cs.length cap] 75)
  have hK := heap_alloc_new w1 (.cells #[.int .i64 r, .int .i64 b, .slice a cs.length cap] 75)
  clear hb hB
  go_wp2_with fail
  obtain ⟨W2, hW2⟩ : ∃ W, W = w1.alloc (.cells #[.int .i64 r, .int .i64 b, .slice a cs.length cap] 75) := ⟨_, rfl⟩
  rw [← hW2] at hB2 hK ⊢
  replace HB := Lib.hid hB2
  have HK := Lib.hid hK
  clear hB2 hK hW2
  refine (isValid_any ((sliceT e0 tyCorrection).behind H.out (HB.out.mono hl)) (Nat.le_trans hl HB.out.size) HR.out HBi.out).mono ?_
  cases hv : vk r b cs with
  | false =>
    have HE : Hid (q = 0) := Lib.hid (by rw [HQ.out, ept_no hv])
    clear hv
    rintro e w3 ⟨rfl, hb⟩
    replace HB := Lib.hid (HB.out.trans (hb.mono HB.out.size))
    clear hb
    go_wp2_with fail
    go_ret
    exact ⟨by rw [HE.out]; rfl, HB.out⟩
  | true =>
    have HV := Lib.hid hv
    clear hv
    rintro e w3 ⟨rfl, hb⟩
    replace HB := Lib.hid (HB.out.trans (hb.mono HB.out.size))
    replace HK := Lib.hid ((hb.block _ (lt_of_block HK.out)).trans HK.out)
    clear hb
    have k0 := blk_cell HK.out 0
    have k1 := blk_cell HK.out 1
    have k2 := blk_cell HK.out 2
    rw [th0] at k0
    rw [th1] at k1
    rw [th2] at k2
    go_wp2_with fail
    refine (depth_any).mono ?_
    rintro e w4 ⟨rfl, hw⟩
    obtain rfl : w3 = w4 := hw.symm
    go_wp2_with fail
    refine (impl_leaf _ HWl.out HI.out).mono ?_
    cases hv : leafOk (cs.length : Int) i with
    | false =>
      have HE : Hid (q = 0) := Lib.hid (by rw [HQ.out, ept_out hv])
      clear hv
      rintro e w4 ⟨rfl, hw⟩
      subst hw
      go_wp2_with fail
      go_ret
      exact ⟨by rw [HE.out]; rfl, HB.out⟩
    | true =>
      obtain ⟨D, I, hD, rfl, h6, hI⟩ := leafOk_iff.1 hv
      have hD' : cs.length = D := by omega
      have hI6 : I ≤ 63 := by have := pow_le6 h6; omega
      have h6' : cs.length ≤ 6 := by omega
      have HE : Hid (q = (lf (r, b) cs I).2) := Lib.hid (by rw [HQ.out, ept_yes HV.out hv]; rfl)
      have H6 := Lib.hid h6'
      have HI6 := Lib.hid hI6
      clear hv hD hD' hI hI6 h6 h6'
      rintro e w4 ⟨rfl, hw⟩
      obtain rfl : w3 = w4 := hw.symm
      go_wp2_with fail
      refine (bitAt_any ((sliceT e0 tyCorrection).behind H.out (HB.out.mono hl)) (Nat.le_trans hl HB.out.size) HR.out HBi.out H6.out HI6.out).mono ?_
      rw [← HE.out]
      rintro e w5 ⟨rfl, hb⟩
      replace HB := Lib.hid (HB.out.trans (hb.mono HB.out.size))
      clear hb k0 k1 k2
      go_wp2_with fail
      go_ret
      exact ⟨rfl, HB.out⟩

set_option maxHeartbeats 4000000 in
/-- spec.EvaluatePoint -/
theorem spec_ept {l : Nat} {w : World} {e0 : TypeId} {a : Option Addr} {cap : Nat} {cs : List Cor} {r b i : Int} (h : (sliceT e0 tyCorrection).rd l w [.slice a cs.length cap] cs) (hl : l ≤ w.heap.size) (hr : (Lit.int .i64 r).wf = true) (hb : (Lit.int .i64 b).wf = true) (hi : (Lit.int .i64 i).wf = true) :
    Calls Try.prog 39 #[.agg #[.int .i64 r, .int .i64 b, .slice a cs.length cap], .int .i64 i] w fun e w' => e = .returned (.int .i64 (ept r b cs i)) ∧ Below w.heap.size w w' := by
  obtain ⟨q, hq⟩ : ∃ q, q = ept r b cs i := ⟨_, rfl⟩
  rw [← hq]
  have HQ := Lib.hid hq
  have HR := Lib.hid hr
  have HBi := Lib.hid hb
  have HI := Lib.hid hi
  have hlen := sl_len h
  unfold maxLen at hlen
  have HB := Lib.hid ((Below.refl w.heap.size w).alloc (Nat.le_refl _) (.cells #[.int .i64 r, .int .i64 b, .slice a cs.length cap] 27))
  have HK := Lib.hid (heap_alloc_new w (.cells #[.int .i64 r, .int .i64 b, .slice a cs.length cap] 27))
  obtain ⟨W0, hW0⟩ : ∃ W, W = w.alloc (.cells #[.int .i64 r, .int .i64 b, .slice a cs.length cap] 27) := ⟨_, rfl⟩
  rw [← hW0] at HB HK
  have HW0 := Lib.hid hW0
  have H := Lib.hid h
  clear h hr hb hi hq hW0
  go_enter Try.func39, Try.ntmps39
  go_wp2_with fail
  rw [← HW0.out]
  refine (spec_vpk ((sliceT e0 tyCorrection).behind H.out (HB.out.mono hl)) (Nat.le_trans hl HB.out.size) HR.out HBi.out).mono ?_
  cases hv : vk r b cs with
  | false =>
    have HE : Hid (q = 0) := Lib.hid (by rw [HQ.out, ept_no hv])
    clear hv
    rintro e w3 ⟨rfl, hb⟩
    replace HB := Lib.hid (HB.out.trans (hb.mono HB.out.size))
    clear hb
    go_wp2_with fail
    go_ret
    exact ⟨by rw [HE.out]; rfl, HB.out⟩
  | true =>
    have HV := Lib.hid hv
    obtain ⟨h16a, h16⟩ := vk_len hv
    have hpw := pow_le6 h16
    have hp1 : 1 ≤ (2 : Int) ^ cs.length ∧ (2 : Int) ^ cs.length ≤ 64 := by
      rw [show (2 : Int) ^ cs.length = ((2 ^ cs.length : Nat) : Int) by simp]
      omega
    obtain ⟨hp2, hp3⟩ := hp1
    clear hv hpw
    have HL : Hid (inR i 0 (2 ^ cs.length - 1) = leafOk (cs.length : Int) i) := Lib.hid (by unfold leafOk; rw [show inR (cs.length : Int) 0 6 = true from inR_yes (by omega), Bool.true_and, Int.toNat_natCast])
    rintro e w3 ⟨rfl, hb⟩
    replace HB := Lib.hid (HB.out.trans (hb.mono HB.out.size))
    replace HK := Lib.hid ((hb.block _ (lt_of_block HK.out)).trans HK.out)
    clear hb
    go_wp2_with fail
    refine (spec_in _ _ _ _ HI.out).mono ?_
    rw [HL.out]
    cases hv : leafOk (cs.length : Int) i with
    | false =>
      have HE : Hid (q = 0) := Lib.hid (by rw [HQ.out, ept_out hv])
      clear hv
      rintro e w4 ⟨rfl, hw⟩
      subst hw
      go_wp2_with fail
      go_ret
      exact ⟨by rw [HE.out]; rfl, HB.out⟩
    | true =>
      obtain ⟨D, I, hD, rfl, h6, hI⟩ := leafOk_iff.1 hv
      have hI6 : I ≤ 63 := by have := pow_le6 h6; omega
      have HE : Hid (q = (lf (r, b) cs I).2) := Lib.hid (by rw [HQ.out, ept_yes HV.out hv]; rfl)
      clear hv hD hI h6
      rintro e w4 ⟨rfl, hw⟩
      obtain rfl : w3 = w4 := hw.symm
      have k0 := blk_cell HK.out 0
      have k1 := blk_cell HK.out 1
      rw [th0] at k0
      rw [th1] at k1
      go_wp2_with fail
      clear k0 k1
      go_loopw [6, 7, 8] (fun s t i wr => ∃ (j : Nat) (y : Int × Int), i = .int .i64 j ∧ s = .int .i64 y.1 ∧ t = .int .i64 y.2 ∧ j ≤ cs.length ∧ (lf y (cs.drop j) I).2 = q ∧ (Lit.int .i64 y.1).wf = true ∧ wr.heap[w.heap.size]? = some (.cells #[.int .i64 r, .int .i64 b, .slice a cs.length cap] 27) ∧ Below w.heap.size w wr) (fun _ _ i _ => cs.length - (intOf i).toNat)
      case atStart => exact ⟨0, (r, b), rfl, rfl, rfl, Nat.zero_le _, by rw [List.drop_zero]; exact HE.out.symm, HR.out, HK.out, HB.out⟩
      case round =>
        obtain ⟨j, y, rfl, rfl, rfl, hj, hlf, hy, hK, hB⟩ := hrel
        replace HB := Lib.hid hB
        replace HK := Lib.hid hK
        have HY := Lib.hid hy
        have HF := Lib.hid hlf
        clear hB hK hy hlf
        by_cases hlt : j < cs.length
        · have e2 : decide ((j : Int) < (cs.length : Int)) = true := by simp; omega
          have hlt' : (j : Int) < (cs.length : Int) := by omega
          obtain ⟨a', cap', hv, h1, h2, hc⟩ := sl_open H.out
          injection hv with hv
          injection hv with hv1 hv2 hv3
          subst hv1
          subst hv3
          obtain ⟨g, p, rfl, hbl, hcell⟩ := hc (by omega)
          obtain ⟨c, hcj⟩ : ∃ c, cs[j]? = some c := ⟨_, List.getElem?_eq_getElem hlt⟩
          obtain ⟨d, hrd, hcl⟩ := hcell wr (HB.out.mono hl) j c hcj
          obtain ⟨rfl, w1, w2, w3⟩ := rd_Correction hrd
          obtain ⟨k, hk⟩ : ∃ k, k = cs.length - 1 - j := ⟨_, rfl⟩
          have hk6 : k ≤ 6 := by omega
          have HSt : Hid (lf y (cs.drop j) I = lf (evN y.1 y.2 (bt I k) c) (cs.drop (j + 1)) I) := Lib.hid (by rw [lf_step hcj, hk])
          have hgw : g < wr.heap.size := by have := HB.out.size; omega
          have HCs : Hid (∀ w', Below wr.heap.size wr w' → w'.cell? ⟨w.heap.size, 2, none⟩ = some (.slice (some ⟨g, p, none⟩) cs.length cap) ∧ w'.cell? ⟨g, p + j * 3, none⟩ = some (.int .i64 c.1) ∧ w'.cell? ⟨g, p + j * 3 + 1, none⟩ = some (.int .i64 c.2.1) ∧ w'.cell? ⟨g, p + j * 3 + 2, none⟩ = some (.int .i64 c.2.2)) := Lib.hid (fun w' hb =>
            ⟨(blk_cell ((hb.block _ (lt_of_block HK.out)).trans HK.out) 2).trans (th2 _ _ _), (hb.cell (p := ⟨g, p + j * 3, none⟩) hgw).trans (hcl 0 _ rfl), (hb.cell (p := ⟨g, p + j * 3 + 1, none⟩) hgw).trans (hcl 1 _ rfl), (hb.cell (p := ⟨g, p + j * 3 + 2, none⟩) hgw).trans (hcl 2 _ rfl)⟩)
          have d0 := HCs.out wr.drew (Below.refl _ _).drew
          have e3 : IntKind.i64.wrap ((cs.length : Int) - 1) = (cs.length : Int) - 1 := by rw [IntKind.wrap_i64]; omega
          have e4 : IntKind.i64.wrap ((cs.length : Int) - 1 - (j : Int)) = (k : Int) := by rw [IntKind.wrap_i64]; omega
          have hbt : bits .and .i64 ((I : Int) / 2 ^ k) 1 = bt I k := by rw [i64_and1, bt_of_mod]; simp
          have HBt := Lib.hid hbt
          clear hcj hrd hcl hcell hc w1 w2 w3 hv2 h1 h2 hk hbt
          go_wp2_with fail
          go_region_held3 (fun w' => w'.cell? ⟨w.heap.size, 2, none⟩ = some (.slice (some ⟨g, p, none⟩) cs.length cap) ∧ w'.cell? ⟨g, p + j * 3, none⟩ = some (.int .i64 c.1) ∧ w'.cell? ⟨g, p + j * 3 + 1, none⟩ = some (.int .i64 c.2.1) ∧ w'.cell? ⟨g, p + j * 3 + 2, none⟩ = some (.int .i64 c.2.2)) (first | assumption | go_keep) ((first
            | (go_at_call 29
               go_loud (rw [HBt.out]
                        refine (spec_ev HY.out (bt_wf I k)).mono ?_
                        obtain ⟨z, hz⟩ : ∃ z, z = evN y.1 y.2 (bt I k) c := ⟨_, rfl⟩
                        rw [← hz]
                        have HZ := Lib.hid hz
                        clear hz
                        rintro e w6 ⟨he, hb⟩
                        subst he
                        have hb6 : Below wr.heap.size wr w6 := (Below.refl _ _).drew.trans (hb.mono (Nat.le_refl _))
                        have d6 := HCs.out w6 hb6
                        have KL6 := Lib.hid ((hb6.block _ (lt_of_block HK.out)).trans HK.out)
                        have HB6 := Lib.hid (HB.out.trans (hb6.mono HB.out.size))
                        clear hb hb6))))
          clear d0 d6 e3 e4
          go_wp2_with fail
          go_roundw
          case rel => exact ⟨j + 1, z, by simp, rfl, rfl, hlt, by rw [HZ.out, ← HSt.out]; exact HF.out, by rw [HZ.out]; exact evN_wf1 _ _ _ _, KL6.out, HB6.out⟩
          case measure => simp [intOf]; omega
        · have e2 : decide ((j : Int) < (cs.length : Int)) = false := by simp; omega
          have HE2 : Hid (y.2 = q) := Lib.hid (by
            have := HF.out
            rwa [show j = cs.length by omega, List.drop_length, lf_nil] at this)
          go_wp2_with fail
          go_ret
          exact ⟨by rw [HE2.out]; rfl, HB.out⟩

end Go.Proofs.Ytheefkhhafefoaa
