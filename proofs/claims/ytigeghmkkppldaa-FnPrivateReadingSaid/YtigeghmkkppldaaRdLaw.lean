/- FnPrivateReading: the walk. No conditions. -/
import Derived.Test.YtigeghmkkppldaaDraw9
import Derived.Test.YtigeghmkkppldaaBaD
import Derived.Test.YtigeghmkkppldaaBa4
import Derived.Test.YtigeghmkkppldaaQu3
import Derived.Test.YtigeghmkkppldaaQu7
import Derived.Test.YtigeghmkkppldaaQu9
import Derived.Test.YtigeghmkkppldaaQuP
import Derived.Deep.RegionHeld3
namespace Go.Proofs.Ytigeghmkkppldaa
open Go Go.RowKit
set_option linter.unusedVariables false
attribute [local irreducible] kh

theorem rd2_u8 {lim : Nat} {w : World} {v : Value} {d : List (List Int)} (h : Rd2 lim .u8 w v d) : ∀ z ∈ d, U8s z := fun z hz => by
  obtain ⟨us, hus, _, hr⟩ := h.parts
  obtain ⟨i, hi, rfl⟩ := List.mem_iff_getElem.1 hz
  exact (hr i us[i] _ (List.getElem?_eq_getElem (by omega)) (List.getElem?_eq_getElem hi)).u8s

set_option maxHeartbeats 8000000 in
set_option maxRecDepth 20000 in
theorem fnPrivateReading_walk (a : Option Addr) (len cap : Nat) (zs : List Int) (w : World) (hrow : IsRow .u8 w a len cap zs) :
    Calls Try.prog 3 #[.slice a len cap] w fun e w' => e = .returned (.bool true) ∧ Below w.heap.size w w' := by
  obtain ⟨hr, hl⟩ := row_own hrow
  obtain ⟨s, A, l⟩ : ∃ s, Rd w.heap.size .u8 w (.slice a len cap) s ∧ len = s.length := ⟨zs.take len, hrow.rd, hrow.rd.len_eq⟩
  subst l
  have HR := Lib.hid hr
  have HL := Lib.hid hl
  have hl' : s.length ≤ 9223372036854775807 := by unfold maxLen at hl; omega
  clear hr hrow hl A
  by_cases hbig : 1048576 < s.length
  · have e0 : decide ((1048576 : Int) < (s.length : Int)) = true := by simp; omega
    go_enter Try.func3, Try.ntmps3
    go_wp2_with fail
    refine (big_is a s.length cap _ hl').mono ?_
    rw [e0]
    rintro e w0 ⟨rfl, rfl⟩
    go_wp2_with fail
    go_ret
    exact ⟨rfl, Below.refl _ _⟩
  have e0 : decide ((1048576 : Int) < (s.length : Int)) = false := by simp; omega
  have hs : s.length ≤ 1048576 := by omega
  clear hbig
  obtain ⟨i1, hi', hy0, hy1, hy2⟩ := info_parts infou8s
  have Hhi' := Lib.hid hi'
  clear hi'
  go_enter Try.func3, Try.ntmps3
  go_wp2_with fail
  refine (big_is a s.length cap _ hl').mono ?_
  rw [e0]
  rintro e w0 ⟨rfl, hw0⟩
  obtain rfl : w = w0 := hw0.symm
  clear hw0
  go_wp2_with fail
  refine (draw_rp w.heap.size a s.length cap zs _ (Nat.le_refl _) HR.out HL.out).mono ?_
  rintro e w1 ⟨v, d, x, us, ss, rfl, hd, hld, hfd, hx0, hx1, hss, hsl, hb⟩
  obtain ⟨ad, cd, hv, _, hcd, _⟩ := hd.open
  subst hv
  unfold maxLen at hcd
  have HD8 := Lib.hid (rd2_u8 hd.rd2)
  obtain ⟨D, hD⟩ : ∃ D, D = w1.heap.size := ⟨_, rfl⟩
  have hnew := heap_alloc_new w1 (.cells #[.slice ad d.length cd] 26)
  obtain ⟨W2, hW2⟩ : ∃ W, W = w1.alloc (.cells #[.slice ad d.length cd] 26) := ⟨_, rfl⟩
  have hsz : W2.heap.size = D + 1 := by rw [hW2, hD]; simp
  have HU := Lib.hid (show Rd2 D .u8 W2 (.slice ad d.length cd) d by rw [hW2, hD]; exact hd.rd2.behind ((Below.refl _ _).alloc (Nat.le_refl _) _))
  have HV := Lib.hid (show Rd D .i64 W2 us ss by rw [hW2, hD]; exact hss.rd.behind ((Below.refl _ _).alloc (Nat.le_refl _) _))
  have HK := Lib.hid (show W2.heap[D]? = some (.cells #[.slice ad d.length cd] 26) by rw [hW2, hD]; exact hnew)
  have HB0 := Lib.hid (show Below w.heap.size w W2 by rw [hW2]; exact hb.alloc hb.size _)
  have HDw := Lib.hid (show w.heap.size ≤ D by rw [hD]; exact hb.size)
  have HSz := Lib.hid hsz
  have HX : Hid ((Lit.int .i64 x).wf = true) := Lib.hid (wf_i64_of (by omega) (by omega))
  have HN : Hid (tot d ≤ 268435456) := Lib.hid (by unfold tot; omega)
  have HWl : Hid ((Lit.int .i64 (d.length : Int)).wf = true) := Lib.hid (wf_i64_of (by omega) (by omega))
  have hsl4 : ss.length ≤ 1099511627776 := by omega
  have HW2 := Lib.hid hW2
  have HDe := Lib.hid hD
  have cD : (w1.alloc (.cells #[.slice ad d.length cd] 26)).cell? ⟨w1.heap.size, 0, none⟩ = some (.slice ad d.length cd) := (blk_cell hnew 0).trans (one0 _)
  clear hd hss hb hnew hW2 hsz hD
  go_wp2_with fail
  rw [← HW2.out, ← HDe.out]
  clear cD
  refine (impl_rp HU.out HV.out (by rw [HSz.out]; omega) (by rw [HSz.out]; omega) HX.out HN.out hsl4).mono ?_
  obtain ⟨p, hp⟩ : ∃ p, p = rpK d x ss := ⟨_, rfl⟩
  obtain ⟨R, hR⟩ : ∃ R, R = rp d x ss := ⟨_, rfl⟩
  rw [← hp, ← hR]
  have Hp := Lib.hid hp
  have HRe := Lib.hid hR
  rintro e w3 ⟨vb, rfl, h3, hb⟩
  obtain ⟨ab, cb, hvb, _⟩ := h3.open
  obtain ⟨L, hL⟩ : ∃ L, L = R.length := ⟨_, rfl⟩
  rw [← hL] at hvb
  subst hvb
  have HL3 := Lib.hid hL
  have HBv := Lib.hid h3.rd
  have HBm := Lib.hid (show Below (D + 1) W2 w3 by rw [← HSz.out]; exact hb)
  have hk3 := (hb.block D (by rw [HSz.out]; omega)).trans HK.out
  have cD := (blk_cell hk3 0).trans (one0 _)
  clear h3 hb hL hp hR hk3
  go_wp2_with fail
  clear cD
  have HSz3 : Hid (D + 1 ≤ w3.heap.size) := Lib.hid (by rw [← HSz.out]; have := HBm.out.size; exact this)
  refine (spec_rp (HU.out.behind (HBm.out.mono (by omega))) (HV.out.behind (HBm.out.mono (by omega))) (by have := HSz3.out; omega) (by have := HSz3.out; omega) HX.out HN.out hsl4).mono ?_
  rw [← Hp.out, ← HRe.out]
  rintro e w4 ⟨vw, rfl, h4, hb⟩
  replace HBv := Lib.hid ((HBv.out.behind hb).mono hb.size)
  replace HBm := Lib.hid (HBm.out.trans (hb.mono HSz3.out))
  replace HSz3 : Hid (D + 1 ≤ w4.heap.size) := Lib.hid (Nat.le_trans HSz3.out hb.size)
  clear h4 hb
  cases p
  case false =>
    have HL0 : Hid (L = 0) := Lib.hid (by rw [HL3.out, HRe.out]; unfold rp; rw [ca_no (show caK (rpL d x ss) = false from Hp.out.symm)]; rfl)
    have e3 : ((L : Int) == 0) = true := by rw [HL0.out]; rfl
    go_wp2_with fail
    go_ret
    exact ⟨rfl, HB0.out.trans (HBm.out.mono (by have := HDw.out; omega))⟩
  obtain ⟨k, hxk, hk, hrow, hjoin⟩ := rp_back HD8.out Hp.out.symm
  subst hxk
  rw [← HRe.out] at hrow
  have HRow := Lib.hid hrow
  have HJoin := Lib.hid hjoin
  clear hrow hjoin
  have hkd := (HBm.out.block D (Nat.lt_succ_self D)).trans HK.out
  have cD := (blk_cell hkd 0).trans (one0 _)
  clear hkd
  go_wp2_with fail
  clear cD
  refine (impl_mkq (HV.out.behind (HBm.out.mono (by omega))) (by have := HSz3.out; omega) HWl.out HX.out hsl4).mono ?_
  rintro e w5 ⟨v1, rfl, hq1, hb⟩
  obtain ⟨Q, hQ⟩ : ∃ Q, Q = mkq (d.length : Int) (k : Int) ss := ⟨_, rfl⟩
  have HQ4 : Q.length ≤ 4 := by rw [hQ]; exact mkq_len _ _ _
  have HQt : Hid (tot Q ≤ 1099511627776) := Lib.hid (by rw [hQ]; have := mkq_tot (d.length : Int) (k : Int) ss; omega)
  have HRp : Hid (R = ca (answers d Q) ∧ true = caK (answers d Q)) := Lib.hid (by rw [hQ, HRe.out]; exact ⟨rfl, Hp.out⟩)
  rw [← hQ] at hq1
  replace HJoin : Hid (jnq Q = unitV (d.length : Int) (k : Int)) := Lib.hid (by rw [hQ]; exact HJoin.out)
  obtain ⟨a1, cap1, rfl, hc1, hm1, hcQ⟩ := hq1.rd2.open
  have HcQ := Lib.hid hcQ
  have HQ1 := Lib.hid hq1.rd2
  unfold maxLen at hm1
  replace HBv := Lib.hid ((HBv.out.behind hb).mono hb.size)
  replace HBm := Lib.hid (HBm.out.trans (hb.mono HSz3.out))
  replace HSz3 : Hid (D + 1 ≤ w5.heap.size) := Lib.hid (Nat.le_trans HSz3.out hb.size)
  have HO : Hid (Own2 22 5 .u8 (ival w5.heap.size (w5.heap.size + 1)) (w5.alloc (.cells #[] 22)) (.slice (some ⟨w5.heap.size, 0, none⟩) 0 0) (answers d (Q.take 0))) := Lib.hid (by
    rw [List.take_zero]
    exact Own2.lit _ _ _ (by unfold ival; omega))
  have HB1 := Lib.hid ((Below.refl w5.heap.size w5).alloc (Nat.le_refl _) (.cells #[] 22))
  clear hb hq1 hcQ hQ
  go_wp2_with fail
  go_loopw [11, 12] (fun s i wr => ∃ (j : Nat) (F : Nat → Prop), i = .int .i64 j ∧ j ≤ Q.length ∧ Own2 22 5 .u8 F wr s (answers d (Q.take j)) ∧ (∀ b, F b → w5.heap.size ≤ b ∧ b < wr.heap.size) ∧ Below w5.heap.size w5 wr) (fun _ i _ => Q.length - (intOf i).toNat)
  case atStart => exact ⟨0, _, rfl, Nat.zero_le _, HO.out, fun b hb => by unfold ival at hb; simp; omega, HB1.out⟩
  case round =>
    obtain ⟨j, F, rfl, hj, hO, hF, hB⟩ := hrel
    obtain ⟨a6, c6, rfl, _⟩ := hO.open
    rw [show (answers d (Q.take j)).length = j by rw [answers_len, List.length_take]; omega] at hO ⊢
    replace HO := Lib.hid hO
    have HF := Lib.hid hF
    replace HB1 := Lib.hid hB
    clear hO hF hB
    by_cases hlt : j < Q.length
    case pos =>
      have e2 : decide ((j : Int) < (Q.length : Int)) = true := by simp; omega
      have hjQ : (j : Int) < (Q.length : Int) := by omega
      obtain ⟨bq, oq, rfl, hbq, hcell⟩ := HcQ.out (by omega)
      obtain ⟨zs, hzs⟩ : ∃ zs, Q[j]? = some zs := ⟨_, List.getElem?_eq_getElem hlt⟩
      obtain ⟨y, cy, ry⟩ := hcell wr HB1.out j zs hzs
      have HY := Lib.hid ry
      have HT := Lib.hid (answers_take (d := d) hzs)
      have HLb : Hid (((answers d (Q.take j)).length + 1) * 24 ≤ 140737488355328) := Lib.hid (by rw [answers_len, List.length_take]; omega)
      have HBq := Lib.hid (HBm.out.trans (HB1.out.mono HSz3.out))
      have HKr := Lib.hid ((HBq.out.block D (Nat.lt_succ_self D)).trans HK.out)
      have HUr : Hid (Rd2 D .u8 wr (.slice ad d.length cd) d) := Lib.hid (HU.out.behind (HBq.out.mono (by omega)))
      have HS1 : Hid (D ≤ wr.heap.size) := Lib.hid (by have := HSz3.out; have := HB1.out.size; omega)
      have cD := (blk_cell HKr.out 0).trans (one0 _)
      have HCs : Hid (∀ w', Below wr.heap.size wr w' → w'.cell? ⟨D, 0, none⟩ = some (.slice ad d.length cd) ∧ w'.cell? ⟨bq, oq + j, none⟩ = some y) := Lib.hid (fun w' hb' =>
        ⟨(hb'.cell (p := ⟨D, 0, none⟩) (lt_of_block HKr.out)).trans cD, (hb'.cell (p := ⟨bq, oq + j, none⟩) (show bq < wr.heap.size by have := HB1.out.size; omega)).trans cy⟩)
      have d0 := HCs.out wr.drew (Below.refl _ _).drew
      clear hzs ry hcell
      go_wp2_with fail
      refine region_till (fun w' => w'.cell? ⟨D, 0, none⟩ = some (.slice ad d.length cd) ∧ w'.cell? ⟨bq, oq + j, none⟩ = some y) 8 (by kernel_rfl) ?_
      apply Till.take (i := 0) [0, 8]
      · simp only [List.getElem?_toArray, List.getElem?_cons_zero]
        rfl
      · kernel_rfl
      · kernel_rfl
      · kernel_rfl
      · kernel_rfl
      · exact fun _ _ _ h => h
      · first
          | exact Or.inr ⟨by rfl, rfl⟩
          | (refine Or.inl ⟨by rfl, fun wq hwq => ?_⟩
             dsimp only at hwq
             go_simp
             first
               | done
               | rfl)
      · exact d0
      simp only [Act.put, List.setIfInBounds_toArray, List.set_cons_zero, List.set_cons_succ]
      apply Till.take (i := 1) [1, 6, 7, 8]
      · simp only [List.getElem?_toArray, List.getElem?_cons_succ, List.getElem?_cons_zero]
        rfl
      · kernel_rfl
      · kernel_rfl
      · kernel_rfl
      · kernel_rfl
      · exact fun _ _ _ h => h
      · first
          | exact Or.inr ⟨by rfl, rfl⟩
          | (refine Or.inl ⟨by rfl, fun wq hwq => ?_⟩
             dsimp only at hwq
             go_simp
             first
               | done
               | rfl)
      · exact d0
      simp only [Act.put, List.setIfInBounds_toArray, List.set_cons_zero, List.set_cons_succ]
      apply Till.take (i := 2) [2, 4, 5, 6, 7, 8]
      · simp only [List.getElem?_toArray, List.getElem?_cons_succ, List.getElem?_cons_zero]
        rfl
      · kernel_rfl
      · kernel_rfl
      · kernel_rfl
      · kernel_rfl
      · exact fun _ _ _ h => h
      · first
          | exact Or.inr ⟨by rfl, rfl⟩
          | (refine Or.inl ⟨by rfl, fun wq hwq => ?_⟩
             dsimp only at hwq
             go_simp
             first
               | done
               | rfl)
      · exact d0
      simp only [Act.put, List.setIfInBounds_toArray, List.set_cons_zero, List.set_cons_succ]
      apply Till.take (i := 3) [3, 4, 5, 6, 7, 8]
      · simp only [List.getElem?_toArray, List.getElem?_cons_succ, List.getElem?_cons_zero]
        rfl
      · kernel_rfl
      · kernel_rfl
      · kernel_rfl
      · kernel_rfl
      · exact fun _ _ _ h => h
      · first
          | exact Or.inr ⟨by rfl, rfl⟩
          | (refine Or.inl ⟨by rfl, fun wq hwq => ?_⟩
             dsimp only at hwq
             go_simp
             first
               | done
               | rfl)
      · exact d0
      simp only [Act.put, List.setIfInBounds_toArray, List.set_cons_zero, List.set_cons_succ]
      apply Till.take (i := 4) [4, 5, 6, 7, 8]
      · simp only [List.getElem?_toArray, List.getElem?_cons_succ, List.getElem?_cons_zero]
        rfl
      · kernel_rfl
      · kernel_rfl
      · kernel_rfl
      · kernel_rfl
      · exact fun _ _ _ h => h
      · first
          | exact Or.inr ⟨by rfl, rfl⟩
          | (refine Or.inl ⟨by rfl, fun wq hwq => ?_⟩
             dsimp only at hwq
             go_simp
             first
               | done
               | rfl)
      · exact d0
      simp only [Act.put, List.setIfInBounds_toArray, List.set_cons_zero, List.set_cons_succ]
      apply Till.take (i := 5) [5, 6, 7, 8]
      · simp only [List.getElem?_toArray, List.getElem?_cons_succ, List.getElem?_cons_zero]
        rfl
      · kernel_rfl
      · kernel_rfl
      · kernel_rfl
      · kernel_rfl
      · exact fun _ _ _ h => h
      · first
          | exact Or.inr ⟨by rfl, rfl⟩
          | (refine Or.inl ⟨by rfl, fun wq hwq => ?_⟩
             dsimp only at hwq
             go_simp
             first
               | done
               | rfl)
      · exact d0
      simp only [Act.put, List.setIfInBounds_toArray, List.set_cons_zero, List.set_cons_succ]
      apply Till.one (i := 6)
      · kernel_rfl
      · simp only [List.getElem?_toArray, List.getElem?_cons_succ, List.getElem?_cons_zero]
        rfl
      intro K hK
      go_simp
      refine (impl_ans HUr.out.drew HY.out.drew HS1.out HB1.out.size (Nat.le_trans HN.out (by omega))).mono ?_
      rintro e' x5 ⟨v5, he, h5, hb5⟩
      subst he
      obtain ⟨L5, hL5⟩ : ∃ L, L = (ans d zs).length := ⟨_, rfl⟩
      obtain ⟨a5, c5, hv5, _⟩ := h5.open
      rw [← hL5] at hv5
      subst hv5
      have hb5' : Below wr.heap.size wr x5 := (Below.refl _ _).drew.trans hb5
      have hb6 := hb5'.alloc hb5'.size (.cells #[.slice a5 L5 c5] 22)
      have HB6 := Lib.hid hb6
      have h5' : Own 5 .u8 wr.heap.size x5 (.slice a5 L5 c5) (ans d zs) := h5
      have HR5 := Lib.hid (h5'.alloc (.cells #[.slice a5 L5 c5] 22))
      have HO5 := Lib.hid ((HO.out.next hb5').alloc (.cells #[.slice a5 L5 c5] 22))
      have HS5 := Lib.hid hb5'.size
      have d5 := HCs.out x5 hb5'
      have d6 := HCs.out _ hb6
      have HFn : Hid (∀ r, (Value.slice a5 L5 c5).ownBlock = some r → ¬ F r) := Lib.hid (fun r hr hFr => by have h1 := HF.out r hFr; have h2 := HR5.out.lt r hr; omega)
      have HFl : Hid (∀ b, F b → b < (x5.alloc (.cells #[.slice a5 L5 c5] 22)).heap.size) := Lib.hid (fun b hb => by have h1 := HF.out b hb; have h2 := HS5.out; simp; omega)
      clear h5 h5' hb5 hb5' hb6 hL5
      refine hK.out _ _ (Or.inr d5) ?_
      clear hK K
      try simp only [Act.put, List.setIfInBounds_toArray, List.set_cons_zero, List.set_cons_succ]
      apply Till.one (i := 7)
      · kernel_rfl
      · simp only [List.getElem?_toArray, List.getElem?_cons_succ, List.getElem?_cons_zero]
        rfl
      intro K hK
      go_simp
      skip
      refine hK.out _ _ (Or.inr d6) ?_
      clear hK K
      try simp only [Act.put, List.setIfInBounds_toArray, List.set_cons_zero, List.set_cons_succ]
      apply Till.one (i := 8)
      · kernel_rfl
      · simp only [List.getElem?_toArray, List.getElem?_cons_succ, List.getElem?_cons_zero]
        rfl
      intro K hK
      refine step_append_rowF _ (by rfl) _ _ 24 (by rfl) 22 5 i1 24 Try.underlying24 Hhi'.out hy0 hy1 hy2 (by omega) (by rfl) HO5.out HFl.out (by rfl) (cell_one_new _ _ _ 0 _ rfl) (HR5.out.mono (Nat.zero_le _)) HFn.out HLb.out ?_
      intro v7 w7 h7 hg7 hp7 hl7
      rw [HT.out] at h7
      have HK7 : Hid (KeptF F (x5.alloc (.cells #[.slice a5 L5 c5] 22)) w7) := Lib.hid (KeptF.of_grown hg7 (HO5.out.in_))
      have hBk7 : Below w5.heap.size (x5.alloc (.cells #[.slice a5 L5 c5] 22)) w7 := HK7.out.below (fun b hb => (HF.out b hb).1) (by have h1 := HB1.out.size; have h2 := HS5.out; simp; omega)
      have hBw : Below w5.heap.size wr w7 := (HB6.out.mono HB1.out.size).trans hBk7
      have HBw := Lib.hid hBw
      have H7 := Lib.hid h7
      have HP7 := Lib.hid hp7
      have HL7 := Lib.hid hl7
      have hF7 : ∀ b, (F b ∨ (Value.slice a5 L5 c5).ownBlock = some b ∨ v7.ownBlock = some b) → w5.heap.size ≤ b ∧ b < w7.heap.size := fun b hb => by
        have h1 := HK7.out.size
        have h2 := HS5.out
        have h3 := HB1.out.size
        have h9 : (x5.alloc (.cells #[.slice a5 L5 c5] 22)).heap.size = x5.heap.size + 1 := by simp
        rcases hb with hb | hb | hb
        · have := HF.out b hb; omega
        · have h4 := HR5.out.lt b hb
          omega
        · have h4 := HL7.out b hb
          rcases HP7.out with h5 | h5
          · rw [h5] at hb
            have := HF.out b (HO5.out.in_ b hb)
            omega
          · rw [h5, World.size_alloc] at hb
            injection hb with hb
            omega
      have HF7 := Lib.hid hF7
      clear h7 hg7 hp7 hl7 hBw hBk7 hF7
      refine hK.out _ _ (Or.inl (by rfl)) ?_
      clear hK K
      try simp only [Act.put, List.setIfInBounds_toArray, List.set_cons_zero, List.set_cons_succ]
      apply Till.one (i := 9)
      · kernel_rfl
      · simp only [List.getElem?_toArray, List.getElem?_cons_succ, List.getElem?_cons_zero]
        rfl
      intro K hK
      go_simp
      skip
      refine hK.out _ _ (Or.inl (by rfl)) ?_
      clear hK K
      try simp only [Act.put, List.setIfInBounds_toArray, List.set_cons_zero, List.set_cons_succ]
      refine Till.done (by kernel_rfl) ?_ _
      clear d0 d5 d6 cD cy
      go_wp2_with fail
      go_roundw
      case rel => exact ⟨j + 1, _, by simp, hlt, H7.out, HF7.out, HB1.out.trans HBw.out⟩
      case measure => simp [intOf]; omega
    have e2 : decide ((j : Int) < (Q.length : Int)) = false := by simp; omega
    have HEq : Hid (answers d (Q.take j) = answers d Q) := Lib.hid (by rw [List.take_of_length_le (by omega)])
    have HT : Hid (tot (answers d Q) ≤ 1099511627776) := Lib.hid (by have h1 := answers_tot d Q HQ4; have h2 := HN.out; unfold tot at h2; omega)
    rw [HEq.out] at HO
    have HRd := Lib.hid HO.out.rd2
    replace HBv := Lib.hid ((HBv.out.behind HB1.out).mono HB1.out.size)
    replace HBm := Lib.hid (HBm.out.trans (HB1.out.mono HSz3.out))
    replace HSz3 : Hid (D + 1 ≤ wr.heap.size) := Lib.hid (Nat.le_trans HSz3.out HB1.out.size)
    replace HQ1 := Lib.hid ((HQ1.out.behind HB1.out).mono HB1.out.size)
    clear e2
    go_wp2_with fail
    refine (impl_ca HRd.out (Nat.le_refl _) HT.out).mono ?_
    rw [← HRp.out.1, ← HRp.out.2]
    rintro e w8 ⟨vc, rfl, h8, hb⟩
    have HCv := Lib.hid h8.rd
    replace HBv := Lib.hid ((HBv.out.behind hb).mono hb.size)
    replace HBm := Lib.hid (HBm.out.trans (hb.mono HSz3.out))
    replace HSz3 : Hid (D + 1 ≤ w8.heap.size) := Lib.hid (Nat.le_trans HSz3.out hb.size)
    replace HQ1 := Lib.hid ((HQ1.out.behind hb).mono hb.size)
    clear h8 hb HO HF HB1 HRd HT HEq HcQ
    -- the last line
    obtain ⟨bd, od, had, hbd, hcell⟩ : ∃ b o, ad = some ⟨b, o, none⟩ ∧ b < D ∧ ∀ (w' : World), Below D W2 w' → ∀ (i : Nat) (zs : List Int), d[i]? = some zs → ∃ u, w'.cell? ⟨b, o + i, none⟩ = some u ∧ Rd D .u8 w' u zs := by
      obtain ⟨a', c', he, _, _, hc⟩ := HU.out.open
      injection he with he
      subst he
      exact hc (by omega)
    subst had
    obtain ⟨zr, hzr⟩ : ∃ zs, d[k]? = some zs := ⟨_, List.getElem?_eq_getElem hk⟩
    have hzk : R = zr := by rw [HRow.out, getD_of hzr]
    obtain ⟨rk, ck, rrk⟩ := hcell w8 (HBm.out.mono (by omega)) k zr hzr
    have HRk := Lib.hid (rrk.mono (show D ≤ w8.heap.size by have := HSz3.out; omega))
    have hkd := (HBm.out.block D (Nat.lt_succ_self D)).trans HK.out
    have cD := (blk_cell hkd 0).trans (one0 _)
    have hkn : (k : Int) < (d.length : Int) := by omega
    have HCs : Hid (∀ w', Below w8.heap.size w8 w' → w'.cell? ⟨D, 0, none⟩ = some (.slice (some ⟨bd, od, none⟩) d.length cd) ∧ w'.cell? ⟨bd, od + k, none⟩ = some rk) := Lib.hid (fun w' hb' =>
      ⟨(hb'.cell (p := ⟨D, 0, none⟩) (lt_of_block hkd)).trans cD, (hb'.cell (p := ⟨bd, od + k, none⟩) (show bd < w8.heap.size by have := HSz3.out; omega)).trans ck⟩)
    rw [← hzk] at HRk
    clear hcell hzr hzk ck rrk hkd
    have d1 := HCs.out w8.drew (Below.refl _ _).drew
    have HBd := Lib.hid (Below.refl w8.heap.size w8).drew
    have HXk : Hid ((Lit.int .i64 (k : Int)).wf = true) := HX
    obtain ⟨w9, hw9⟩ : ∃ x, x = w8.drew := ⟨_, rfl⟩
    have HRk9 : Hid (Rd w9.heap.size .u8 w9 rk R) := Lib.hid (by rw [hw9]; exact HRk.out.drew)
    have HBv9 : Hid (Rd w9.heap.size .u8 w9 (.slice ab L cb) R) := Lib.hid (by rw [hw9]; exact HBv.out.drew)
    have HCv9 : Hid (Rd w9.heap.size .u8 w9 vc R) := Lib.hid (by rw [hw9]; exact HCv.out.drew)
    have HQ9 : Hid (Rd2 w9.heap.size .i64 w9 (.slice a1 Q.length cap1) Q) := Lib.hid (by rw [hw9]; exact HQ1.out.drew)
    have B9 : Hid (Below w8.heap.size w8 w9) := Lib.hid (by rw [hw9]; exact HBd.out)
    have HS9 : Hid (w8.heap.size ≤ w9.heap.size) := Lib.hid B9.out.size
    go_wp2_with fail
    refine wp_region_held_drew (S := fun w' => w'.cell? ⟨D, 0, none⟩ = some (.slice (some ⟨bd, od, none⟩) d.length cd) ∧ w'.cell? ⟨bd, od + k, none⟩ = some rk) (by kernel_rfl) d1 (fun _ => ?_)
    rw [← hw9] at d1 ⊢
    clear hw9 cD HRk HBv HCv HQ1 HBd
    apply wpAnyH_take (i := 0)
    · simp only [List.getElem?_toArray, List.getElem?_cons_zero]
      rfl
    · kernel_rfl
    · kernel_rfl
    · kernel_rfl
    · exact fun _ _ _ h => h
    · first
        | exact Or.inr ⟨by rfl, rfl⟩
        | (refine Or.inl ⟨by rfl, fun wq hwq => ?_⟩
           dsimp only at hwq
           go_simp
           first
             | done
             | rfl)
    · exact d1
    simp only [Act.put, List.setIfInBounds_toArray, List.set_cons_zero, List.set_cons_succ]
    apply wpAnyH_take (i := 1)
    · simp only [List.getElem?_toArray, List.getElem?_cons_succ, List.getElem?_cons_zero]
      rfl
    · kernel_rfl
    · kernel_rfl
    · kernel_rfl
    · exact fun _ _ _ h => h
    · first
        | exact Or.inr ⟨by rfl, rfl⟩
        | (refine Or.inl ⟨by rfl, fun wq hwq => ?_⟩
           dsimp only at hwq
           go_simp
           first
             | done
             | rfl)
    · exact d1
    simp only [Act.put, List.setIfInBounds_toArray, List.set_cons_zero, List.set_cons_succ]
    apply wpAnyH_take (i := 2)
    · simp only [List.getElem?_toArray, List.getElem?_cons_succ, List.getElem?_cons_zero]
      rfl
    · kernel_rfl
    · kernel_rfl
    · kernel_rfl
    · exact fun _ _ _ h => h
    · first
        | exact Or.inr ⟨by rfl, rfl⟩
        | (refine Or.inl ⟨by rfl, fun wq hwq => ?_⟩
           dsimp only at hwq
           go_simp
           first
             | done
             | rfl)
    · exact d1
    simp only [Act.put, List.setIfInBounds_toArray, List.set_cons_zero, List.set_cons_succ]
    apply wpAnyH_take (i := 3)
    · simp only [List.getElem?_toArray, List.getElem?_cons_succ, List.getElem?_cons_zero]
      rfl
    · kernel_rfl
    · kernel_rfl
    · kernel_rfl
    · exact fun _ _ _ h => h
    · first
        | exact Or.inr ⟨by rfl, rfl⟩
        | (refine Or.inl ⟨by rfl, fun wq hwq => ?_⟩
           dsimp only at hwq
           go_simp
           first
             | done
             | rfl)
    · exact d1
    simp only [Act.put, List.setIfInBounds_toArray, List.set_cons_zero, List.set_cons_succ]
    apply wpAnyH_take (i := 4)
    · simp only [List.getElem?_toArray, List.getElem?_cons_succ, List.getElem?_cons_zero]
      rfl
    · kernel_rfl
    · kernel_rfl
    · kernel_rfl
    · exact fun _ _ _ h => h
    · first
        | exact Or.inr ⟨by rfl, rfl⟩
        | (refine Or.inl ⟨by rfl, fun wq hwq => ?_⟩
           dsimp only at hwq
           go_simp
           first
             | done
             | rfl)
    · exact d1
    simp only [Act.put, List.setIfInBounds_toArray, List.set_cons_zero, List.set_cons_succ]
    apply wpAnyH_take (i := 5) (v := rk)
    · simp only [List.getElem?_toArray, List.getElem?_cons_succ, List.getElem?_cons_zero]
      rfl
    · kernel_rfl
    · kernel_rfl
    · kernel_rfl
    · exact fun _ _ _ h => h
    · first
        | exact Or.inr ⟨by rfl, rfl⟩
        | (refine Or.inl ⟨by rfl, fun wq hwq => ?_⟩
           dsimp only at hwq
           go_simp
           first
             | done
             | rfl)
    · exact d1
    simp only [Act.put, List.setIfInBounds_toArray, List.set_cons_zero, List.set_cons_succ]
    refine wpAnyH_ready (rs := [6]) (by kernel_rfl) (by simp) ?_
    apply AllReadyH.cons
    · simp only [List.getElem?_toArray, List.getElem?_cons_succ, List.getElem?_cons_zero]
      rfl
    rotate_left
    · exact AllReadyH.nil
    intro K hK
    go_simp
    refine (sameBytes_same HBv9.out HRk9.out (Nat.le_refl _) (Nat.le_refl _)).mono ?_
    rintro e' w10 ⟨he, hb⟩
    subst he
    replace HBv9 := Lib.hid ((HBv9.out.behind hb).mono hb.size)
    replace HCv9 := Lib.hid ((HCv9.out.behind hb).mono hb.size)
    replace HQ9 := Lib.hid ((HQ9.out.behind hb).mono hb.size)
    replace B9 := Lib.hid (B9.out.trans (hb.mono HS9.out))
    replace HS9 := Lib.hid (Nat.le_trans HS9.out hb.size)
    clear d1
    have d1 := HCs.out _ B9.out
    clear hb
    refine hK.out _ _ d1 (fun _ => ?_)
    clear hK K
    try simp only [Act.put, List.setIfInBounds_toArray, List.set_cons_zero, List.set_cons_succ]
    apply wpAnyH_take (i := 7)
    · simp only [List.getElem?_toArray, List.getElem?_cons_succ, List.getElem?_cons_zero]
      rfl
    · kernel_rfl
    · kernel_rfl
    · kernel_rfl
    · exact fun _ _ _ h => h
    · first
        | exact Or.inr ⟨by rfl, rfl⟩
        | (refine Or.inl ⟨by rfl, fun wq hwq => ?_⟩
           dsimp only at hwq
           go_simp
           first
             | done
             | rfl)
    · exact d1
    simp only [Act.put, List.setIfInBounds_toArray, List.set_cons_zero, List.set_cons_succ]
    apply wpAnyH_take (i := 8)
    · simp only [List.getElem?_toArray, List.getElem?_cons_succ, List.getElem?_cons_zero]
      rfl
    · kernel_rfl
    · kernel_rfl
    · kernel_rfl
    · exact fun _ _ _ h => h
    · first
        | exact Or.inr ⟨by rfl, rfl⟩
        | (refine Or.inl ⟨by rfl, fun wq hwq => ?_⟩
           dsimp only at hwq
           go_simp
           first
             | done
             | rfl)
    · exact d1
    simp only [Act.put, List.setIfInBounds_toArray, List.set_cons_zero, List.set_cons_succ]
    apply wpAnyH_take (i := 9)
    · simp only [List.getElem?_toArray, List.getElem?_cons_succ, List.getElem?_cons_zero]
      rfl
    · kernel_rfl
    · kernel_rfl
    · kernel_rfl
    · exact fun _ _ _ h => h
    · first
        | exact Or.inr ⟨by rfl, rfl⟩
        | (refine Or.inl ⟨by rfl, fun wq hwq => ?_⟩
           dsimp only at hwq
           go_simp
           first
             | done
             | rfl)
    · exact d1
    simp only [Act.put, List.setIfInBounds_toArray, List.set_cons_zero, List.set_cons_succ]
    apply wpAnyH_take (i := 10)
    · simp only [List.getElem?_toArray, List.getElem?_cons_succ, List.getElem?_cons_zero]
      rfl
    · kernel_rfl
    · kernel_rfl
    · kernel_rfl
    · exact fun _ _ _ h => h
    · first
        | exact Or.inr ⟨by rfl, rfl⟩
        | (refine Or.inl ⟨by rfl, fun wq hwq => ?_⟩
           dsimp only at hwq
           go_simp
           first
             | done
             | rfl)
    · exact d1
    simp only [Act.put, List.setIfInBounds_toArray, List.set_cons_zero, List.set_cons_succ]
    apply wpAnyH_take (i := 11)
    · simp only [List.getElem?_toArray, List.getElem?_cons_succ, List.getElem?_cons_zero]
      rfl
    · kernel_rfl
    · kernel_rfl
    · kernel_rfl
    · exact fun _ _ _ h => h
    · first
        | exact Or.inr ⟨by rfl, rfl⟩
        | (refine Or.inl ⟨by rfl, fun wq hwq => ?_⟩
           dsimp only at hwq
           go_simp
           first
             | done
             | rfl)
    · exact d1
    simp only [Act.put, List.setIfInBounds_toArray, List.set_cons_zero, List.set_cons_succ]
    apply wpAnyH_take (i := 12)
    · simp only [List.getElem?_toArray, List.getElem?_cons_succ, List.getElem?_cons_zero]
      rfl
    · kernel_rfl
    · kernel_rfl
    · kernel_rfl
    · exact fun _ _ _ h => h
    · first
        | exact Or.inr ⟨by rfl, rfl⟩
        | (refine Or.inl ⟨by rfl, fun wq hwq => ?_⟩
           dsimp only at hwq
           go_simp
           first
             | done
             | rfl)
    · exact d1
    simp only [Act.put, List.setIfInBounds_toArray, List.set_cons_zero, List.set_cons_succ]
    refine wpAnyH_ready (rs := [13]) (by kernel_rfl) (by simp) ?_
    apply AllReadyH.cons
    · simp only [List.getElem?_toArray, List.getElem?_cons_succ, List.getElem?_cons_zero]
      rfl
    rotate_left
    · exact AllReadyH.nil
    intro K hK
    go_simp
    refine (sameBytes_same HCv9.out HBv9.out (Nat.le_refl _) (Nat.le_refl _)).mono ?_
    rintro e' w11 ⟨he, hb⟩
    subst he
    replace HQ9 := Lib.hid ((HQ9.out.behind hb).mono hb.size)
    replace B9 := Lib.hid (B9.out.trans (hb.mono HS9.out))
    replace HS9 := Lib.hid (Nat.le_trans HS9.out hb.size)
    clear d1
    have d1 := HCs.out _ B9.out
    clear hb
    refine hK.out _ _ d1 (fun _ => ?_)
    clear hK K
    try simp only [Act.put, List.setIfInBounds_toArray, List.set_cons_zero, List.set_cons_succ]
    apply wpAnyH_take (i := 14)
    · simp only [List.getElem?_toArray, List.getElem?_cons_succ, List.getElem?_cons_zero]
      rfl
    · kernel_rfl
    · kernel_rfl
    · kernel_rfl
    · exact fun _ _ _ h => h
    · first
        | exact Or.inr ⟨by rfl, rfl⟩
        | (refine Or.inl ⟨by rfl, fun wq hwq => ?_⟩
           dsimp only at hwq
           go_simp
           first
             | done
             | rfl)
    · exact d1
    simp only [Act.put, List.setIfInBounds_toArray, List.set_cons_zero, List.set_cons_succ]
    apply wpAnyH_take (i := 15)
    · simp only [List.getElem?_toArray, List.getElem?_cons_succ, List.getElem?_cons_zero]
      rfl
    · kernel_rfl
    · kernel_rfl
    · kernel_rfl
    · exact fun _ _ _ h => h
    · first
        | exact Or.inr ⟨by rfl, rfl⟩
        | (refine Or.inl ⟨by rfl, fun wq hwq => ?_⟩
           dsimp only at hwq
           go_simp
           first
             | done
             | rfl)
    · exact d1
    simp only [Act.put, List.setIfInBounds_toArray, List.set_cons_zero, List.set_cons_succ]
    apply wpAnyH_take (i := 16)
    · simp only [List.getElem?_toArray, List.getElem?_cons_succ, List.getElem?_cons_zero]
      rfl
    · kernel_rfl
    · kernel_rfl
    · kernel_rfl
    · exact fun _ _ _ h => h
    · first
        | exact Or.inr ⟨by rfl, rfl⟩
        | (refine Or.inl ⟨by rfl, fun wq hwq => ?_⟩
           dsimp only at hwq
           go_simp
           first
             | done
             | rfl)
    · exact d1
    simp only [Act.put, List.setIfInBounds_toArray, List.set_cons_zero, List.set_cons_succ]
    apply wpAnyH_take (i := 18)
    · simp only [List.getElem?_toArray, List.getElem?_cons_succ, List.getElem?_cons_zero]
      rfl
    · kernel_rfl
    · kernel_rfl
    · kernel_rfl
    · exact fun _ _ _ h => h
    · first
        | exact Or.inr ⟨by rfl, rfl⟩
        | (refine Or.inl ⟨by rfl, fun wq hwq => ?_⟩
           dsimp only at hwq
           go_simp
           first
             | done
             | rfl)
    · exact d1
    simp only [Act.put, List.setIfInBounds_toArray, List.set_cons_zero, List.set_cons_succ]
    apply wpAnyH_take (i := 19)
    · simp only [List.getElem?_toArray, List.getElem?_cons_succ, List.getElem?_cons_zero]
      rfl
    · kernel_rfl
    · kernel_rfl
    · kernel_rfl
    · exact fun _ _ _ h => h
    · first
        | exact Or.inr ⟨by rfl, rfl⟩
        | (refine Or.inl ⟨by rfl, fun wq hwq => ?_⟩
           dsimp only at hwq
           go_simp
           first
             | done
             | rfl)
    · exact d1
    simp only [Act.put, List.setIfInBounds_toArray, List.set_cons_zero, List.set_cons_succ]
    apply wpAnyH_take (i := 20)
    · simp only [List.getElem?_toArray, List.getElem?_cons_succ, List.getElem?_cons_zero]
      rfl
    · kernel_rfl
    · kernel_rfl
    · kernel_rfl
    · exact fun _ _ _ h => h
    · first
        | exact Or.inr ⟨by rfl, rfl⟩
        | (refine Or.inl ⟨by rfl, fun wq hwq => ?_⟩
           dsimp only at hwq
           go_simp
           first
             | done
             | rfl)
    · exact d1
    simp only [Act.put, List.setIfInBounds_toArray, List.set_cons_zero, List.set_cons_succ]
    apply wpAnyH_take (i := 21)
    · simp only [List.getElem?_toArray, List.getElem?_cons_succ, List.getElem?_cons_zero]
      rfl
    · kernel_rfl
    · kernel_rfl
    · kernel_rfl
    · exact fun _ _ _ h => h
    · first
        | exact Or.inr ⟨by rfl, rfl⟩
        | (refine Or.inl ⟨by rfl, fun wq hwq => ?_⟩
           dsimp only at hwq
           go_simp
           first
             | done
             | rfl)
    · exact d1
    simp only [Act.put, List.setIfInBounds_toArray, List.set_cons_zero, List.set_cons_succ]
    refine wpAnyH_ready (rs := [17]) (by kernel_rfl) (by simp) ?_
    apply AllReadyH.cons
    · simp only [List.getElem?_toArray, List.getElem?_cons_succ, List.getElem?_cons_zero]
      rfl
    rotate_left
    · exact AllReadyH.nil
    intro K hK
    go_simp
    refine (impl_jnq HQ9.out (Nat.le_refl _) HQt.out).mono ?_
    rw [HJoin.out]
    rintro e' w12 ⟨vj, he, hj', hb⟩
    subst he
    have HJ := Lib.hid hj'.rd
    replace B9 := Lib.hid (B9.out.trans (hb.mono HS9.out))
    replace HS9 := Lib.hid (Nat.le_trans HS9.out hb.size)
    clear d1
    have d1 := HCs.out _ B9.out
    clear hb hj'
    refine hK.out _ _ d1 (fun _ => ?_)
    clear hK K
    try simp only [Act.put, List.setIfInBounds_toArray, List.set_cons_zero, List.set_cons_succ]
    refine wpAnyH_ready (rs := [22]) (by kernel_rfl) (by simp) ?_
    apply AllReadyH.cons
    · simp only [List.getElem?_toArray, List.getElem?_cons_succ, List.getElem?_cons_zero]
      rfl
    rotate_left
    · exact AllReadyH.nil
    intro K hK
    go_simp
    refine (spec_us HWl.out HXk.out).mono ?_
    rintro e' w13 ⟨vu, he, hj', hb⟩
    subst he
    have HUn := Lib.hid hj'.rd
    replace HJ := Lib.hid ((HJ.out.behind hb).mono hb.size)
    replace B9 := Lib.hid (B9.out.trans (hb.mono HS9.out))
    replace HS9 := Lib.hid (Nat.le_trans HS9.out hb.size)
    clear d1
    have d1 := HCs.out _ B9.out
    clear hb hj'
    refine hK.out _ _ d1 (fun _ => ?_)
    clear hK K
    try simp only [Act.put, List.setIfInBounds_toArray, List.set_cons_zero, List.set_cons_succ]
    refine wpAnyH_ready (rs := [23]) (by kernel_rfl) (by simp) ?_
    apply AllReadyH.cons
    · simp only [List.getElem?_toArray, List.getElem?_cons_succ, List.getElem?_cons_zero]
      rfl
    rotate_left
    · exact AllReadyH.nil
    intro K hK
    go_simp
    refine (sameInts_same HJ.out HUn.out (Nat.le_refl _) (Nat.le_refl _)).mono ?_
    rintro e' w14 ⟨he, hb⟩
    subst he
    replace B9 := Lib.hid (B9.out.trans (hb.mono HS9.out))
    replace HS9 := Lib.hid (Nat.le_trans HS9.out hb.size)
    clear d1
    have d1 := HCs.out _ B9.out
    clear hb
    refine hK.out _ _ d1 (fun _ => ?_)
    clear hK K
    try simp only [Act.put, List.setIfInBounds_toArray, List.set_cons_zero, List.set_cons_succ]
    apply wpAnyH_take (i := 24)
    · simp only [List.getElem?_toArray, List.getElem?_cons_succ, List.getElem?_cons_zero]
      rfl
    · kernel_rfl
    · kernel_rfl
    · kernel_rfl
    · exact fun _ _ _ h => h
    · first
        | exact Or.inr ⟨by rfl, rfl⟩
        | (refine Or.inl ⟨by rfl, fun wq hwq => ?_⟩
           dsimp only at hwq
           go_simp
           first
             | done
             | rfl)
    · exact d1
    simp only [Act.put, List.setIfInBounds_toArray, List.set_cons_zero, List.set_cons_succ]
    apply wpAnyH_take (i := 25)
    · simp only [List.getElem?_toArray, List.getElem?_cons_succ, List.getElem?_cons_zero]
      rfl
    · kernel_rfl
    · kernel_rfl
    · kernel_rfl
    · exact fun _ _ _ h => h
    · first
        | exact Or.inr ⟨by rfl, rfl⟩
        | (refine Or.inl ⟨by rfl, fun wq hwq => ?_⟩
           dsimp only at hwq
           go_simp
           first
             | done
             | rfl)
    · exact d1
    simp only [Act.put, List.setIfInBounds_toArray, List.set_cons_zero, List.set_cons_succ]
    refine wpAnyH_done (by kernel_rfl) ?_ _
    go_wp2_with fail
    go_ret
    exact ⟨rfl, HB0.out.trans ((HBm.out.trans (B9.out.mono HSz3.out)).mono (by have := HDw.out; omega))⟩

end Go.Proofs.Ytigeghmkkppldaa
