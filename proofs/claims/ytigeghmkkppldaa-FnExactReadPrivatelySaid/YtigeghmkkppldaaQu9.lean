/- ReadPrivately, the program's: what it gives. No conditions but a size that a machine holds. -/
import Derived.Test.YtigeghmkkppldaaQu8
namespace Go.Proofs.Ytigeghmkkppldaa
open Go Go.RowKit
set_option linter.unusedVariables false
attribute [local irreducible] kh

set_option maxHeartbeats 4000000 in
set_option maxRecDepth 20000 in
/-- impl.ReadPrivately -/
theorem impl_rp {l1 l2 : Nat} {w : World} {u v : Value} {d : List (List Int)} {x : Int} {ss : List Int} (hu : Rd2 l1 .u8 w u d) (hv : Rd l2 .i64 w v ss) (hl1 : l1 ≤ w.heap.size) (hl2 : l2 ≤ w.heap.size) (hx : (Lit.int .i64 x).wf = true) (hn : tot d ≤ 268435456) (hs : ss.length ≤ 1099511627776) :
    Calls Try.prog 13 #[.agg #[u], .int .i64 x, v] w fun e w' => ∃ v', e = .returned (.tuple #[v', .bool (rpK d x ss)]) ∧ Own 5 .u8 w.heap.size w' v' (rp d x ss) ∧ Below w.heap.size w w' := by
  have hu70 : Try.prog.underlying 70 = some (.array 4 69) := Try.underlying70
  have hi70 : (Try.prog.info? 70).map (·.size) = some 4 := by kernel_rfl
  have HI70 := Lib.hid hi70
  have HU70 := Lib.hid hu70
  obtain ⟨i1, hi', hy0, hy1, hy2⟩ := info_parts infou8s
  have Hhi' := Lib.hid hi'
  obtain ⟨a, cap, rfl, h1, h2, _⟩ := hu.open
  have HB := Lib.hid ((Below.refl w.heap.size w).alloc (Nat.le_refl _) (.cells #[.slice a d.length cap] 26))
  have HK := Lib.hid (heap_alloc_new w (.cells #[.slice a d.length cap] 26))
  have HU := Lib.hid hu
  have HV := Lib.hid hv
  have HN := Lib.hid hn
  have HX := Lib.hid hx
  have HSs := Lib.hid hs
  have hzl : d.length ≤ 268435456 := by unfold tot at hn; omega
  have HWl : Hid ((Lit.int .i64 (d.length : Int)).wf = true) := Lib.hid (wf_i64_of (by omega) (by omega))
  unfold maxLen at h2
  obtain ⟨W0, hW0⟩ : ∃ W, W = w.alloc (.cells #[.slice a d.length cap] 26) := ⟨_, rfl⟩
  rw [← hW0] at HB HK
  have HW0 := Lib.hid hW0
  clear hu hv hn hi' hx hs hW0 hu70 hi70
  go_enter Try.func13, Try.ntmps13
  have cD := blk_cell HK.out 0
  rw [one0, HW0.out] at cD
  go_wp2_with fail
  rw [← HW0.out]
  clear cD
  refine (replicas_any (w := W0)).mono ?_
  rintro e w1 ⟨he, hkb, hb1⟩
  obtain ⟨b0, hb0⟩ : ∃ b, b = W0.heap.size := ⟨_, rfl⟩
  obtain ⟨C, hC⟩ : ∃ C, C = svs b0 4 := ⟨_, rfl⟩
  rw [← hb0, ← hC] at he
  rw [← hb0] at hkb
  subst he
  have HCs : Hid (C.size = 4) := Lib.hid (by rw [hC, svs_size])
  have HC1 : Hid (C.all (·.oneCell') = true) := Lib.hid (by rw [hC, svs_one])
  have HCg : Hid (∀ j, j < 4 → C[j]? = some (srv b0)) := Lib.hid (fun j hj => by rw [hC]; exact svs_get b0 hj)
  have hK1 := (hb1.block w.heap.size (lt_of_block HK.out)).trans HK.out
  have hB1 := HB.out.trans (hb1.mono HB.out.size)
  have hnew := heap_alloc_new w1 (.cells #[.nilFunc, .nilFunc, .nilFunc, .nilFunc] 70)
  have hK2 := (heap_alloc_old w1 (.cells #[.nilFunc, .nilFunc, .nilFunc, .nilFunc] 70) (lt_of_block hK1)).trans hK1
  have hkb2 := (heap_alloc_old w1 (.cells #[.nilFunc, .nilFunc, .nilFunc, .nilFunc] 70) (lt_of_block hkb)).trans hkb
  have hB2 := hB1.alloc hB1.size (.cells #[.nilFunc, .nilFunc, .nilFunc, .nilFunc] 70)
  have hlK := lt_of_block hK1
  have hlb := lt_of_block hkb
  obtain ⟨S0, hS0⟩ : ∃ S, S = w1.heap.size := ⟨_, rfl⟩
  have HNew := Lib.hid hnew
  have HS0 := Lib.hid hS0
  rw [← hS0] at hlK hlb
  have HlK := Lib.hid hlK
  have Hlb := Lib.hid hlb
  have HB2 := Lib.hid hB2
  have HK2 := Lib.hid hK2
  have Hkb2 := Lib.hid hkb2
  have hsz : w.heap.size ≤ S0 := by rw [hS0]; exact hB1.size
  have HSz := Lib.hid hsz
  clear hK1 hB1 hnew hK2 hkb2 hB2 hkb hb1 hb0 hC hlK hlb hS0 hsz HK HB
  have HT2 : Hid (∃ W2, W2 = (w1.alloc (.cells #[.nilFunc, .nilFunc, .nilFunc, .nilFunc] 70)).setRow w1.heap.size C ∧ W2.heap[S0]? = some (.cells C 70 (0, 0)) ∧ W2.heap[w.heap.size]? = some (.cells #[.slice a d.length cap] 26) ∧ W2.heap[b0]? = some (.cells #[.slice a d.length cap] 26) ∧ Below w.heap.size w W2) := Lib.hid (by
    refine ⟨_, rfl, ?_, ?_, ?_, ?_⟩
    · rw [HS0.out]; exact setRow_heap _ w1.heap.size _ C _ _ HNew.out
    · exact (setRow_other _ w1.heap.size w.heap.size C (by have := HlK.out; have := HS0.out; omega)).trans HK2.out
    · exact (setRow_other _ w1.heap.size b0 C (by have := Hlb.out; have := HS0.out; omega)).trans Hkb2.out
    · exact HB2.out.trans ⟨rfl, rfl, rfl, by simp, fun b hb => setRow_other _ w1.heap.size b C (by have := HSz.out; have := HS0.out; omega)⟩)
  obtain ⟨W2, hW2, hS, hK, hkb, hB⟩ := HT2.out
  have HS := Lib.hid hS
  have HK := Lib.hid hK
  have Hkb := Lib.hid hkb
  have HB := Lib.hid hB
  have HW2 := Lib.hid hW2
  have cD : (W2.alloc (.cells #[] 22)).cell? ⟨w.heap.size, 0, none⟩ = some (.slice a d.length cap) := by
    have := blk_cell ((heap_alloc_old W2 (.cells #[] 22) (lt_of_block hK)).trans hK) 0
    rw [this, one0]
  have HB3 : Hid (Below w.heap.size w (W2.alloc (.cells #[] 22))) := Lib.hid (hB.alloc hB.size _)
  have HS3 : Hid ((W2.alloc (.cells #[] 22)).heap[S0]? = some (.cells C 70 (0, 0))) := Lib.hid ((heap_alloc_old W2 (.cells #[] 22) (lt_of_block hS)).trans hS)
  have Hkb3 : Hid ((W2.alloc (.cells #[] 22)).heap[b0]? = some (.cells #[.slice a d.length cap] 26)) := Lib.hid ((heap_alloc_old W2 (.cells #[] 22) (lt_of_block hkb)).trans hkb)
  have HO : Hid (Own2 22 5 .u8 (ival W2.heap.size (W2.heap.size + 1)) (W2.alloc (.cells #[] 22)) (.slice (some ⟨W2.heap.size, 0, none⟩) 0 0) []) := Lib.hid (Own2.lit _ _ _ (by unfold ival; omega))
  have HLs : Hid (w.heap.size ≤ W2.heap.size ∧ S0 < W2.heap.size ∧ b0 < W2.heap.size) := Lib.hid ⟨hB.size, lt_of_block hS, lt_of_block hkb⟩
  clear HT2 hS hK hkb hB hW2 HS HK Hkb HB HB2 HK2 Hkb2 HlK Hlb HSz
  go_wp2_with (first | (refine wpList_store_arr rfl 70 _ _ rfl w1.heap.size rfl rfl 70 HNew.out (by rw [HI70.out, HCs.out]) (by rw [HCs.out]; rfl) HC1.out ?_; rw [← HW2.out]))
  obtain ⟨L, hL⟩ : ∃ L, L = W2.heap.size := ⟨_, rfl⟩
  obtain ⟨W3, hW3⟩ : ∃ W, W = W2.alloc (.cells #[] 22) := ⟨_, rfl⟩
  have HL3 : Hid (L + 1 = W3.heap.size) := Lib.hid (by rw [hW3, hL]; simp)
  rw [← hW3] at HB3 HS3 Hkb3 HO ⊢
  rw [← hL] at HO HLs ⊢
  clear hL hW3 cD HW2 HNew
  refine (impl_mkq (HV.out.behind (HB3.out.mono hl2)) (Nat.le_trans hl2 HB3.out.size) HWl.out HX.out HSs.out).mono ?_
  rintro e w4 ⟨v1, rfl, hq1, hb4⟩
  obtain ⟨Q, hQ⟩ : ∃ Q, Q = mkq (d.length : Int) x ss := ⟨_, rfl⟩
  have HQ4 : Q.length ≤ 4 := by rw [hQ]; exact mkq_len _ _ _
  have HRp : Hid (rp d x ss = ca (answers d Q) ∧ rpK d x ss = caK (answers d Q)) := Lib.hid (by rw [hQ]; exact ⟨rfl, rfl⟩)
  rw [← hQ] at hq1
  obtain ⟨a1, cap1, rfl, hc1, hm1, _⟩ := hq1.rd2.open
  have HQo := Lib.hid hq1
  unfold maxLen at hm1
  have HS4 := Lib.hid ((hb4.block S0 (lt_of_block HS3.out)).trans HS3.out)
  have Hkb4 := Lib.hid ((hb4.block b0 (lt_of_block Hkb3.out)).trans Hkb3.out)
  have HB4 := Lib.hid (HB3.out.trans (hb4.mono HB3.out.size))
  have HSz4 : Hid (W3.heap.size ≤ w4.heap.size) := Lib.hid hb4.size
  replace HO : Hid (Own2 22 5 .u8 (ival L (L + 1)) w4 (.slice (some ⟨L, 0, none⟩) 0 0) (answers d (Q.take 0))) := Lib.hid (by
    rw [List.take_zero]
    exact HO.out.next hb4)
  clear hb4 hq1 hQ HB3 HS3 Hkb3
  go_wp2_with fail
  go_loopw [9, 22] (fun s i wr => ∃ (j : Nat) (F : Nat → Prop), i = .int .i64 j ∧ j ≤ Q.length ∧ Own2 22 5 .u8 F wr s (answers d (Q.take j)) ∧ (∀ b, F b → (b = L ∨ w4.heap.size ≤ b) ∧ b < wr.heap.size) ∧ KeptF (fun b => b = L ∨ w4.heap.size ≤ b) w4 wr) (fun _ i _ => Q.length - (intOf i).toNat)
  case atStart => exact ⟨0, _, rfl, Nat.zero_le _, HO.out, fun b hb => by have h1 := HL3.out; have h2 := HSz4.out; unfold ival at hb; omega, KeptF.refl _ _⟩
  case round =>
    obtain ⟨j, F, rfl, hj, hO, hF, hG⟩ := hrel
    obtain ⟨a6, c6, rfl, _⟩ := hO.open
    rw [show (answers d (Q.take j)).length = j by rw [answers_len, List.length_take]; omega] at hO ⊢
    replace HO := Lib.hid hO
    have HF := Lib.hid hF
    have HG := Lib.hid hG
    have HBr : Hid (Below w.heap.size w wr) := Lib.hid (HB4.out.trans (hG.below (fun b hb => by have h1 := HLs.out.1; have h2 := HB4.out.size; rcases hb with hb | hb <;> omega) HB4.out.size))
    clear hO hF hG
    by_cases hlt : j < Q.length
    · have e2 : decide ((j : Int) < (Q.length : Int)) = true := by simp; omega
      have hj4 : j < 4 := by omega
      have hj4' : (j : Int) < 4 := by omega
      have hQr : Own2 27 3 .i64 (ival W3.heap.size w4.heap.size) wr (.slice a1 Q.length cap1) Q := HQo.out.keptF HG.out (fun b hb => by have h1 := HL3.out; unfold ival at hb; omega)
      obtain ⟨aq, capq, hvq, _, _, hcQ⟩ := hQr.rd2.open
      injection hvq with hvq _ hvq2
      obtain ⟨bq, oq, haq, hbq, hcell⟩ := hcQ (by omega)
      rw [haq] at hvq
      subst hvq
      obtain ⟨zs, hzs⟩ : ∃ zs, Q[j]? = some zs := ⟨_, List.getElem?_eq_getElem hlt⟩
      obtain ⟨y, cy, ry⟩ := hcell wr (Below.refl _ _) j zs hzs
      obtain ⟨ay, ky, rfl, _⟩ := ry.open
      have HY := Lib.hid ry
      have HT := Lib.hid (answers_take (d := d) hzs)
      have HLb : Hid (((answers d (Q.take j)).length + 1) * 24 ≤ 140737488355328) := Lib.hid (by rw [answers_len, List.length_take]; omega)
      have hbS := (HG.out.block S0 (lt_of_block HS4.out) (fun h => by have h1 := HLs.out.2.1; have h2 := lt_of_block HS4.out; rcases h with h | h <;> omega)).trans HS4.out
      have hbk := (HG.out.block b0 (lt_of_block Hkb4.out) (fun h => by have h1 := HLs.out.2.2; have h2 := lt_of_block Hkb4.out; rcases h with h | h <;> omega)).trans Hkb4.out
      have Hbk := Lib.hid hbk
      have cS := blk_cell hbS j
      rw [HCg.out j hj4, HS0.out] at cS
      have HUr : Hid (Rd2 l1 .u8 wr (.slice a d.length cap) d) := Lib.hid (HU.out.behind (HBr.out.mono hl1))
      have HS1 : Hid (l1 ≤ wr.heap.size) := Lib.hid (Nat.le_trans hl1 HBr.out.size)
      obtain ⟨LY, hLY⟩ : ∃ L, L = zs.length := ⟨_, rfl⟩
      rw [← hLY] at cy HY
      unfold srv at cS
      clear hzs ry hcell hbS hbk hcQ hQr hvq2 hLY
      go_wp2_with fail
      refine (server_any HUr.out HY.out HS1.out (Nat.le_refl _) (Nat.le_trans HN.out (by omega)) Hbk.out).mono ?_
      rintro e' w5 ⟨v5, he, h5, hb5⟩
      subst he
      obtain ⟨L5, hL5⟩ : ∃ L, L = (ans d zs).length := ⟨_, rfl⟩
      obtain ⟨a5, c5, hv5, _⟩ := h5.open
      rw [← hL5] at hv5
      subst hv5
      have hb6 := hb5.alloc hb5.size (.cells #[.slice a5 L5 c5] 22)
      have HB6 := Lib.hid hb6
      have HR5 := Lib.hid (h5.alloc (.cells #[.slice a5 L5 c5] 22))
      have HO5 := Lib.hid ((HO.out.next hb5).alloc (.cells #[.slice a5 L5 c5] 22))
      have HS5 := Lib.hid hb5.size
      have HFn : Hid (∀ r, (Value.slice a5 L5 c5).ownBlock = some r → ¬ F r) := Lib.hid (fun r hr hFr => by have h1 := HF.out r hFr; have h2 := HR5.out.lt r hr; omega)
      have HFl : Hid (∀ b, F b → b < (w5.alloc (.cells #[.slice a5 L5 c5] 22)).heap.size) := Lib.hid (fun b hb => by have h1 := HF.out b hb; have h2 := HS5.out; simp; omega)
      clear h5 hb5 hb6 hL5 cS cy
      go_wp2_with (first | (at_builtin; refine append_rowF _ rfl _ _ 24 rfl 22 5 i1 24 Try.underlying24 Hhi'.out hy0 hy1 hy2 (by omega) rfl HO5.out HFl.out rfl (cell_one_new _ _ _ 0 _ rfl) (HR5.out.mono (Nat.zero_le _)) HFn.out HLb.out ?_))
      intro v7 w7 h7 hg7 hp7 hl7
      rw [HT.out] at h7
      have H7 := Lib.hid h7
      have HG7 := Lib.hid hg7
      have HP7 := Lib.hid hp7
      have HL7 := Lib.hid hl7
      clear h7 hg7 hp7 hl7
      go_wp2_with fail
      go_roundw
      case rel =>
        have ha : ∀ x, (w5.alloc (.cells #[x] 22)).heap.size = w5.heap.size + 1 := fun x => World.size_alloc _ _
        have hs4 : w4.heap.size ≤ wr.heap.size := HG.out.size
        have hs7 := HG7.out.size
        rw [ha] at hs7
        have hs5 := HS5.out
        have k1 : KeptF (fun b => b = L ∨ w4.heap.size ≤ b) wr (w5.alloc (.cells #[.slice a5 L5 c5] 22)) := KeptF.of_below HB6.out
        have k2 : KeptF (fun b => b = L ∨ w4.heap.size ≤ b) (w5.alloc (.cells #[.slice a5 L5 c5] 22)) w7 := KeptF.of_grown HG7.out (fun b hb => (HF.out b (HO5.out.in_ b hb)).1)
        refine ⟨j + 1, _, by simp, hlt, H7.out, fun b hb => ?_, (HG.out.trans k1).trans k2⟩
        rcases hb with hb | hb | hb
        · have := HF.out b hb; omega
        · have h4 := HR5.out.lt b hb
          rw [ha] at h4
          omega
        · have h4 := HL7.out b hb
          refine ⟨?_, h4⟩
          rcases HP7.out with h5 | h5
          · rw [h5] at hb
            exact (HF.out b (HO5.out.in_ b hb)).1
          · first | rw [h5, ha] at hb | rw [h5] at hb
            injection hb with hb
            omega
      case measure => simp [intOf]; omega
    · have e2 : decide ((j : Int) < (Q.length : Int)) = false := by simp; omega
      have HEq : Hid (answers d (Q.take j) = answers d Q) := Lib.hid (by rw [List.take_of_length_le (by omega)])
      have HT : Hid (tot (answers d Q) ≤ 1099511627776) := Lib.hid (by have h1 := answers_tot d Q HQ4; have h2 := HN.out; unfold tot at h2; omega)
      rw [HEq.out] at HO
      have HRd := Lib.hid HO.out.rd2
      go_wp2_with fail
      refine (impl_ca HRd.out (Nat.le_refl _) HT.out).mono ?_
      rw [← HRp.out.1, ← HRp.out.2]
      rintro e w8 ⟨v8, rfl, h8, hb8⟩
      have H8 := Lib.hid (h8.mono HBr.out.size)
      have HB8 := Lib.hid (HBr.out.trans (hb8.mono HBr.out.size))
      clear h8 hb8
      go_wp2_with fail
      go_ret2
      exact ⟨_, rfl, H8.out, HB8.out⟩

end Go.Proofs.Ytigeghmkkppldaa
