/- SelectXor, the program's and the document's: what each gives. No conditions but a size that a machine holds. -/
import Derived.Test.YtigeghmkkppldaaSel3
import Derived.Test.YtigeghmkkppldaaBa8
import Derived.Test.YtigeghmkkppldaaBa6
namespace Go.Proofs.Ytigeghmkkppldaa
open Go Go.RowKit
set_option linter.unusedVariables false

theorem chosen_fl (zss : List (List Int)) (v : List Int) : fl (chosen zss v) ≤ fl zss := by
  induction zss generalizing v with
  | nil => rw [chosen_nil]; exact Nat.le_refl _
  | cons x zss ih =>
    cases v with
    | nil => rw [chosen_nil']; simp [fl_nil]
    | cons z v =>
      have := ih v
      rw [chosen, fl_cons]
      split
      · rw [fl_cons]; omega
      · omega
theorem chosen_tot (zss : List (List Int)) (v : List Int) : tot (chosen zss v) ≤ tot zss := by
  have h1 := chosen_fl zss v
  have h2 := chosen_len zss v
  unfold tot; omega
theorem sx_len (zss : List (List Int)) (v : List Int) : (sx zss v).length ≤ fl zss := Nat.le_trans (xorAll_len _) (chosen_fl _ _)

set_option maxHeartbeats 1000000 in
/-- impl.SelectXor. -/
theorem impl_sx {l1 l2 : Nat} {w : World} {u v : Value} {zss : List (List Int)} {ys : List Int} (hu : Rd2 l1 .u8 w u zss) (hv : Rd l2 .i64 w v ys) (hl1 : l1 ≤ w.heap.size) (hl2 : l2 ≤ w.heap.size) (hn : tot zss ≤ 1099511627776) :
    Calls Try.prog 62 #[u, v] w fun e w' => ∃ v', e = .returned v' ∧ Own 5 .u8 w.heap.size w' v' (sx zss ys) ∧ Below w.heap.size w w' := by
  obtain ⟨i1, hi', hy0, hy1, hy2⟩ := info_parts infou8s
  have Hhi' := Lib.hid hi'
  obtain ⟨us, hus, hU, hread⟩ := hu.parts
  have HR := Lib.hid hread
  have HUs := Lib.hid hus
  have HN := Lib.hid hn
  have hzl : zss.length ≤ 1099511627776 := by unfold tot at hn; omega
  have hlenv := hv.len
  unfold maxLen at hlenv
  obtain ⟨a', cap', rfl, h1', h2', hc'⟩ := hv.open
  have Hc' := Lib.hid hc'
  unfold maxLen at h2'
  have b0 := (Below.refl w.heap.size w).alloc (Nat.le_refl _) (.cells #[] 22)
  have HU := Lib.hid (hU.behind (b0.mono hl1))
  have HB := Lib.hid b0
  have HO : Hid (OwnV 22 w.heap.size (w.alloc (.cells #[] 22)) (.slice (some ⟨w.heap.size, 0, none⟩) 0 0) []) := Lib.hid (OwnV.lit _ (Nat.le_refl _))
  obtain ⟨c, hc⟩ : ∃ c, c = min zss.length ys.length := ⟨_, rfl⟩
  have Hm : Hid (mn (zss.length : Int) (ys.length : Int) = (c : Int)) := Lib.hid (by rw [mn_nat, hc])
  have hcx : c ≤ us.length := by omega
  have hcy : c ≤ ys.length := by omega
  have hcz : c ≤ zss.length := by omega
  have HE : Hid (chosen (zss.take c) (ys.take c) = chosen zss ys) := Lib.hid (chosen_over zss ys hc)
  obtain ⟨pa, pc, rfl, g1, g2, g3⟩ := id hU
  rw [hus] at g1
  rw [hus] at HU ⊢
  unfold maxLen at g2
  have HW1 : Hid ((Lit.int .i64 (zss.length : Int)).wf = true) := Lib.hid (wf_i64_of (by omega) (by omega))
  have HW2 : Hid ((Lit.int .i64 (ys.length : Int)).wf = true) := Lib.hid (wf_i64_of (by omega) (by omega))
  clear hu hv hU hread hc' b0 hi' hc g3 hus hn
  go_enter Try.func62, Try.ntmps62
  go_wp2_with fail
  refine (impl_mn _ _ _ HW1.out HW2.out).mono ?_
  rintro e w1 ⟨rfl, hb⟩
  rw [Hm.out]
  have HO1 := Lib.hid (show OwnV 22 w.heap.size w1 (.slice (some ⟨w.heap.size, 0, none⟩) 0 0) [] from ⟨HO.out.1, Nat.le_trans HO.out.2.1 hb.size, ownsRow_of_block HO.out.2.2 fun r hr => hb.block r (HO.out.2.2.lt r hr).2⟩)
  have HU1 := Lib.hid (HU.out.behind (hb.mono (by simp; omega)))
  have HB1 := Lib.hid (HB.out.trans (hb.mono HB.out.size))
  clear hb HO HU HB
  go_wp2_with (first | (refine slice_rdv_h _ rfl _ _ _ i1 Try.underlying24 Hhi'.out hy1 rfl HU1.out _ rfl rfl hcx ?_))
  intro u2 hu2
  have hlt2 : (us.take c).length = c := by rw [List.length_take]; omega
  obtain ⟨a2, cap2, rfl, k1, k2, k3⟩ := id hu2
  rw [hlt2] at k1 hu2 ⊢
  have HU2 := Lib.hid hu2
  unfold maxLen at k2
  clear hu2 k3 hlt2 HU1
  go_wp2_with fail
  go_loopw [5, 17] (fun s i wr => ∃ (j : Nat) (ws : List Value), i = .int .i64 j ∧ j ≤ c ∧ OwnV 22 w.heap.size wr s ws ∧ ws.length = (chosen (zss.take j) (ys.take j)).length ∧ (∀ (i : Nat) (u : Value) (zs : List Int), ws[i]? = some u → (chosen (zss.take j) (ys.take j))[i]? = some zs → Rd l1 .u8 w u zs) ∧ Below w.heap.size w1 wr) (fun _ i _ => c - (intOf i).toNat)
  case atStart => exact ⟨0, [], rfl, Nat.zero_le _, HO1.out, by simp [chosen_nil], fun i u zs hu => by simp at hu, Below.refl _ _⟩
  case round =>
    obtain ⟨j, ws, rfl, hj, hO, hwl, hwr, hB⟩ := hrel
    have HO := Lib.hid hO
    have HBr := Lib.hid hB
    have HB := Lib.hid (HB1.out.trans hB)
    have HWl := Lib.hid hwl
    have HWr := Lib.hid hwr
    clear hO hB hwl hwr
    by_cases hlt : j < c
    · have e1 : decide ((j : Int) < (c : Int)) = true := by simp; omega
      have hjy : j < ys.length := by omega
      have hjz : j < zss.length := by omega
      obtain ⟨b', o', rfl, hbl', hcell'⟩ := Hc'.out (by omega)
      have c2 := hcell' wr (HB.out.mono hl2) j hjy
      obtain ⟨u, hu⟩ : ∃ u, us[j]? = some u := ⟨_, List.getElem?_eq_getElem (by omega)⟩
      obtain ⟨zs, hzs⟩ : ∃ zs, zss[j]? = some zs := ⟨_, List.getElem?_eq_getElem hjz⟩
      have hur := HR.out j u zs hu hzs
      have hut : (us.take c)[j]? = some u := by rw [List.getElem?_take, if_pos hlt]; exact hu
      obtain ⟨b, o, cp, hv, _, _, hcell, hbl⟩ := (HU2.out.behind (HBr.out.mono hl1)).at (by rw [List.length_take]; omega)
      injection hv with hv1 hv2 hv3
      subst hv1
      have c1 := hcell j u hut
      have ht := chosen_take hzs hjy
      obtain ⟨z, hz⟩ : ∃ z, z = ys.getD j 0 := ⟨_, rfl⟩
      rw [← hz] at c2 ht
      obtain ⟨pu, cu, hue, _⟩ := hur.open
      obtain ⟨lz, hlz⟩ : ∃ l, l = zs.length := ⟨_, rfl⟩
      rw [← hlz] at hue
      subst hue
      have Hur := Lib.hid hur
      clear hcell' hcell hz hu hzs hut hv2 hv3 hur hlz
      by_cases h1 : z = 1
      · have e2 : (z == 1) = true := by simp [h1]
        rw [if_pos h1] at ht
        have HT := Lib.hid ht
        have O1 := Lib.hid (HO.out.alloc (.cells #[.slice pu lz cu] 22))
        have B1 := Lib.hid (HBr.out.alloc HO.out.2.1 (.cells #[.slice pu lz cu] 22))
        have R1 := Lib.hid (RdV.one wr (.slice pu lz cu) 22)
        have HL : Hid ((ws.length + [Value.slice pu lz cu].length) * 24 ≤ 140737488355328) := Lib.hid (by
          have q1 := HWl.out
          have q2 := chosen_len (zss.take j) (ys.take j)
          rw [List.length_take] at q2
          simp only [List.length_singleton]
          omega)
        clear h1 ht
        go_wp2_with (first | (at_builtin; refine append_vals _ rfl _ _ 24 rfl 22 i1 24 Try.underlying24 Hhi'.out hy0 hy1 hy2 (by omega) rfl O1.out rfl R1.out (fun y hy => by simp at hy; subst hy; exact rd_one Hur.out) HL.out ?_))
        intro v5 w5 h5 h6
        have H5 := Lib.hid h5
        have B5 := Lib.hid (B1.out.trans (O1.out.below (Nat.le_refl _) h6))
        clear h5 h6
        go_wp2
        go_roundw
        case rel =>
          refine ⟨j + 1, ws ++ [.slice pu lz cu], by simp, hlt, H5.out, ?_, ?_, B5.out⟩
          · rw [HT.out, List.length_append, List.length_append, HWl.out]; rfl
          · rw [HT.out]; exact reads_snoc HWl.out HWr.out Hur.out
        case measure => simp [intOf]; omega
      · have e2 : (z == 1) = false := by simp [h1]
        rw [if_neg h1] at ht
        have HT := Lib.hid ht
        clear h1 ht
        go_wp2
        go_roundw
        case rel => exact ⟨j + 1, ws, by simp, hlt, HO.out, by rw [HT.out]; exact HWl.out, by rw [HT.out]; exact HWr.out, HBr.out⟩
        case measure => simp [intOf]; omega
    · have e1 : decide ((j : Int) < (c : Int)) = false := by simp; omega
      have ej : j = c := by omega
      subst ej
      have HR2 : Hid (Rd2 wr.heap.size .u8 wr _ (chosen zss ys)) := Lib.hid (by
        have q1 := HWl.out
        have q2 := HWr.out
        rw [HE.out] at q1 q2
        exact HO.out.rd2 q1 q2 (HB.out.mono hl1) (Nat.le_trans hl1 HB.out.size))
      have HTot : Hid (tot (chosen zss ys) ≤ 1099511627776) := Lib.hid (Nat.le_trans (chosen_tot zss ys) HN.out)
      go_wp2_with fail
      refine (impl_xa HR2.out (Nat.le_refl _) HTot.out).mono ?_
      rintro e w3 ⟨v3, rfl, hO3, hb3⟩
      have HO3 := Lib.hid (hO3.mono HB.out.size)
      have HB3 := Lib.hid (HB.out.trans (hb3.mono HB.out.size))
      clear hO3 hb3
      go_wp2_with fail
      go_ret
      exact ⟨_, rfl, HO3.out, HB3.out⟩

set_option maxHeartbeats 1000000 in
/-- spec.SelectXor. -/
theorem spec_sx {l1 l2 : Nat} {w : World} {u v : Value} {zss : List (List Int)} {ys : List Int} (hu : Rd2 l1 .u8 w u zss) (hv : Rd l2 .i64 w v ys) (hl1 : l1 ≤ w.heap.size) (hl2 : l2 ≤ w.heap.size) (hn : tot zss ≤ 1099511627776) :
    Calls Try.prog 74 #[u, v] w fun e w' => ∃ v', e = .returned v' ∧ Own 5 .u8 w.heap.size w' v' (sx zss ys) ∧ Below w.heap.size w w' := by
  obtain ⟨i0, hi, hz0, hz1, hz2⟩ := info_parts infou8
  have Hhi := Lib.hid hi
  obtain ⟨a, cap, rfl, h1, h2, hc⟩ := hu.open
  have Hc := Lib.hid hc
  have HN := Lib.hid hn
  have hlenv := hv.len
  obtain ⟨a', cap', rfl, h1', h2', hc'⟩ := hv.open
  have Hc' := Lib.hid hc'
  unfold maxLen at h2 h2' hlenv
  obtain ⟨c, hcc⟩ : ∃ c, c = min zss.length ys.length := ⟨_, rfl⟩
  have HE : Hid (chosen (zss.take c) (ys.take c) = chosen zss ys) := Lib.hid (chosen_over zss ys hcc)
  have HO : Hid (Own 5 .u8 w.heap.size (w.alloc (.cells #[] 5)) (.slice (some ⟨w.heap.size, 0, none⟩) 0 0) []) := Lib.hid (Own.lit _ _ (Nat.le_refl _))
  have HM : Hid (c = min zss.length ys.length) := Lib.hid hcc
  have hcy : c ≤ ys.length := by omega
  have hcz : c ≤ zss.length := by omega
  clear hu hv hc hc' hi hn hcc
  go_enter Try.func74, Try.ntmps74
  go_wp2_with fail
  go_loopw [5, 6] (fun s i wr => ∃ j : Nat, i = .int .i64 j ∧ j ≤ c ∧ Own 5 .u8 w.heap.size wr s (sx (zss.take j) (ys.take j)) ∧ Below w.heap.size w wr) (fun _ i _ => c - (intOf i).toNat)
  case atStart => exact ⟨0, rfl, Nat.zero_le _, by unfold sx; rw [List.take_zero, chosen_nil]; exact HO.out, (Below.refl _ _).alloc (Nat.le_refl _) _⟩
  case round =>
    obtain ⟨j, rfl, hj, hO, hB⟩ := hrel
    have HO' := Lib.hid hO
    have HB := Lib.hid hB
    clear hO hB HO
    by_cases hlt : j < c
    · have hjy : j < ys.length := by omega
      have hjz : j < zss.length := by omega
      have e1 : decide ((j : Int) < (zss.length : Int)) = true := by simp; omega
      have e3 : decide ((j : Int) < (ys.length : Int)) = true := by simp; omega
      obtain ⟨b', o', rfl, hbl', hcell'⟩ := Hc'.out (by omega)
      have c2 := hcell' wr (HB.out.mono hl2) j hjy
      obtain ⟨b, o, rfl, hbl, hcell⟩ := Hc.out (by omega)
      obtain ⟨zs, hzs⟩ : ∃ zs, zss[j]? = some zs := ⟨_, List.getElem?_eq_getElem hjz⟩
      obtain ⟨u, c1, hr⟩ := hcell wr (HB.out.mono hl1) j zs hzs
      have Hr := Lib.hid hr
      have ht := chosen_take hzs hjy
      obtain ⟨z, hz⟩ : ∃ z, z = ys.getD j 0 := ⟨_, rfl⟩
      rw [← hz] at c2 ht
      have HL : Hid ((sx (zss.take j) (ys.take j)).length + zs.length ≤ 140737488355328) := Lib.hid (by
        have h1 := fl_at hzs
        have h2 := sx_len (zss.take j) (ys.take j)
        have h3 := HN.out
        unfold tot at h3
        omega)
      clear hcell' hcell hz hr hzs
      by_cases h1 : z = 1
      · have e2 : (z == 1) = true := by simp [h1]
        rw [if_pos h1] at ht
        have HT : Hid (xorl (sx (zss.take j) (ys.take j)) zs = sx (zss.take (j + 1)) (ys.take (j + 1))) := Lib.hid (by unfold sx; rw [ht, xorAll_snoc])
        clear h1 ht
        go_wp2_with fail
        refine (spec_xb HO'.out.rd Hr.out (Nat.le_refl _) (Nat.le_trans hl1 HB.out.size) HL.out).mono ?_
        rintro e w3 ⟨v3, rfl, h3, h4⟩
        rw [HT.out] at h3
        have H3 := Lib.hid (h3.mono HB.out.size)
        have H4 := Lib.hid (HB.out.trans (h4.mono HB.out.size))
        clear h3 h4
        go_wp2
        go_roundw
        case rel => exact ⟨j + 1, by simp, hlt, H3.out, H4.out⟩
        case measure => simp [intOf]; omega
      · have e2 : (z == 1) = false := by simp [h1]
        rw [if_neg h1] at ht
        have HT : Hid (sx (zss.take (j + 1)) (ys.take (j + 1)) = sx (zss.take j) (ys.take j)) := Lib.hid (by unfold sx; rw [ht])
        clear h1 ht
        go_wp2
        go_roundw
        case rel => exact ⟨j + 1, by simp, hlt, by rw [HT.out]; exact HO'.out, HB.out⟩
        case measure => simp [intOf]; omega
    · have ej : j = c := by omega
      have HR : Hid (sx zss ys = sx (zss.take j) (ys.take j)) := Lib.hid (by unfold sx; rw [ej, HE.out])
      by_cases hz : j < zss.length
      · have e1 : decide ((j : Int) < (zss.length : Int)) = true := by simp; omega
        have e3 : decide (j < ys.length) = false := by have := HM.out; simp; omega
        clear ej
        go_wp2
        go_ret
        exact ⟨_, rfl, by rw [HR.out]; exact HO'.out, HB.out⟩
      · have e1 : decide ((j : Int) < (zss.length : Int)) = false := by simp; omega
        clear ej
        go_wp2
        go_ret
        exact ⟨_, rfl, by rw [HR.out]; exact HO'.out, HB.out⟩

end Go.Proofs.Ytigeghmkkppldaa
