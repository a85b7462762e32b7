/- Ratchets: the program's map of kept keys, its keys sorted, the last of them. No conditions but numbers and lengths that a machine holds. -/
import Derived.Test.YtlbijjifeaimjaaRt4
import Derived.Test.YtlbijjifeaimjaaRtS
import Derived.Test.YtlbijjifeaimjaaRtI
import Derived.Test.YtlbijjifeaimjaaShelf
namespace Go.Proofs.Ytlbijjifeaimjaa
open Go Go.RowKit Go.Maps Go.Sort
set_option linter.unusedVariables false
set_option maxRecDepth 20000
attribute [local irreducible] kh kid

theorem kzero (w : World) : (zeroValue 3).run Try.prog w = .ok (.int .i64 0) w := by kernel_rfl
theorem kmake (w : World) (n : Int) : (Instr.makeMap 45 (some (.int .i64 n))).run Try.prog w = .ok (.map (some w.heap.size)) (w.alloc (.map #[] 0)) := by
  simp [Instr.makeMap, run_underlying Try.underlying45, Result.andThen, asInt]
  rfl

set_option maxRecDepth 100000 in
set_option maxHeartbeats 4000000 in
/-- impl.keysByStep. -/
theorem kbs_any {lim : Nat} {w : World} {v : Value} {xs : Kept} (h : RdS kepE lim w v xs) (hlim : lim ≤ w.heap.size) (hA : Asc xs) :
    Calls Try.prog 19 #[v] w fun e w' => ∃ b D, e = .returned (.map (some b)) ∧ w.heap.size ≤ b ∧ w'.ownsMap Try.prog 3 (plainElem (H := Unit) Try.prog 3) b xs.length D ∧ MapK D xs ∧ Below w.heap.size w w' := by
  obtain ⟨p, cap, rfl, h1, h2, hc⟩ := h.open
  have Hc := Lib.hid hc
  have H := Lib.hid h
  have HAs := Lib.hid hA
  have hmm := fun w' n => kmake w' n
  have HM0 : Hid ((w.alloc (.map #[] 0)).ownsMap Try.prog 3 (plainElem (H := Unit) Try.prog 3) w.heap.size 0 (.map [])) := Lib.hid (World.ownsMap_made _ _ _ _)
  have HB0 := Lib.hid ((Below.refl w.heap.size w).alloc (Nat.le_refl _) (.map #[] 0))
  have hlen : xs.length ≤ 9223372036854775807 := by unfold maxLen at h2; omega
  have HLm : Hid (xs.length ≤ maxLen) := Lib.hid h.len
  clear h hc hA
  unfold maxLen at h2
  go_enter Try.func19, Try.ntmps19
  go_wp2_with fail
  go_loopw [11] (fun i wr => ∃ (j : Nat) (D : DataW Unit), i = .int .i64 j ∧ j ≤ xs.length ∧ wr.ownsMap Try.prog 3 (plainElem (H := Unit) Try.prog 3) w.heap.size j D ∧ MapK D (xs.take j) ∧ Below w.heap.size w wr) (fun i _ => xs.length - (intOf i).toNat)
  case atStart => exact ⟨0, .map [], rfl, Nat.zero_le _, HM0.out, MapK.start, HB0.out⟩
  case round =>
    obtain ⟨j, D, rfl, hj, hO, hM, hB⟩ := hrel
    have HO := Lib.hid hO
    have HM := Lib.hid hM
    have HB := Lib.hid hB
    clear hO hM hB HM0 HB0
    by_cases hlt : j < xs.length
    · have e1 : decide ((j : Int) < (xs.length : Int)) = true := by simp; omega
      obtain ⟨b, o, rfl, hbl, hcell⟩ := Hc.out (by omega)
      obtain ⟨x, hx⟩ : ∃ x, xs[j]? = some x := ⟨_, List.getElem?_eq_getElem hlt⟩
      obtain ⟨xw1, xw2⟩ := H.out.okAt hx
      have d0 : wr.cell? ⟨b, o + j * 2, none⟩ = some (.int .i64 x.1) := hcell wr (HB.out.mono hlim) j x hx 0 _ rfl
      have d1 : wr.cell? ⟨b, o + j * 2 + 1, none⟩ = some (.int .i64 x.2) := hcell wr (HB.out.mono hlim) j x hx 1 _ rfl
      have HK : Hid (keyOf Try.prog 3 (.int .i64 x.1) = some (.int .i64 x.1)) := Lib.hid (keyOf_int_mk Try.underlying3 xw1)
      have HP : Hid (plainElem (H := Unit) Try.prog 3 (.int .i64 x.2) = some (.lit (.int .i64 x.2), [])) := Lib.hid (plainElem_int Try.underlying3 xw2)
      have HS : Hid (MapK (D.put (.int .i64 x.1) (.lit (.int .i64 x.2))) (xs.take (j + 1))) := Lib.hid (by
        rw [take_snocK hx]
        exact HM.out.put (hasK_no (HAs.out.take_lt hx)))
      obtain ⟨k0, k1⟩ := kcs (heap_alloc_new wr (.cells #[.int .i64 x.1, .int .i64 x.2] 40))
      have HO1 := Lib.hid (HO.out.alloc (.cells #[.int .i64 x.1, .int .i64 x.2] 40))
      have HB1 := Lib.hid (HB.out.alloc HB.out.size (.cells #[.int .i64 x.1, .int .i64 x.2] 40))
      obtain ⟨y, z⟩ := x
      clear hcell hx xw1 xw2
      go_wp2_with (first
        | (at_mapUpdate; refine wpList_mapUpdate_own _ rfl _ _ _ 45 rfl 3 3 lawInt Try.underlying45 (plainElem (H := Unit) Try.prog 3) w.heap.size j _ rfl HO1.out (by have := HLm.out; omega) _ _ _ rfl rfl HK.out _ [] HP.out ?_; intro w1 hown1 hgrow1))
      have H1 := Lib.hid hown1
      have H2 := Lib.hid (HB1.out.grown hgrow1 HB1.out.size (fun k hk => by injection hk with hk; omega))
      clear hown1 hgrow1
      go_wp2_with fail
      go_roundw
      case rel => exact ⟨j + 1, _, by simp, hlt, H1.out, HS.out, H2.out⟩
      case measure => simp [intOf]; omega
    · have e1 : decide ((j : Int) < (xs.length : Int)) = false := by simp; omega
      obtain rfl : j = xs.length := by omega
      have HM2 : Hid (MapK D xs) := Lib.hid (by have := HM.out; rwa [List.take_length] at this)
      go_wp2_with fail
      go_ret
      exact ⟨_, _, rfl, Nat.le_refl _, HO.out, HM2.out, HB.out⟩

/-! ### The keys of the map, sorted, by the library's contracts -/
theorem ksorts (m : Nat) : AnyZI.SortsIn Try.prog Try.sortedA_ren Fence.wide m :=
  ⟨fun blk off cap ss W hH hblk hsz => callsIn_wide.2 (Try.slices_Sort_int blk off cap ss W hH hblk hsz),
   fun p cap W => callsIn_wide.2 (Try.slices_Sort_int_none p cap W)⟩
/-- maps.Keys: the map is boxed; the function value captures the box. -/
theorem mkeys_any (mb : Option Nat) (w : World) : Calls Try.prog 35 #[.map mb] w fun e w' => e = .returned (.func (.func 43) #[] #[.pointer (some ⟨w.heap.size, 0, none⟩)]) ∧ w' = w.alloc (.cells #[.map mb] 45) :=
  (callsIn_wide (n := 5)).1 (AnyZI.keys_in Try.keysA Fence.wide 5 trivial rfl mb w)
set_option maxHeartbeats 1000000 in
/-- slices.Sorted at what maps.Keys handed back: a row of the call's own with the steps, ascending. -/
theorem sorted_any {w : World} {b n : Nat} {D : DataW Unit} {L : Kept} (hown : w.ownsMap Try.prog 3 (plainElem (H := Unit) Try.prog 3) b n D) (hM : MapK D L) (hA : Asc L) (hn : n ≤ 1099511627776) (hw : ∀ x ∈ L, (Lit.int .i64 x.1).wf = true) :
    Calls Try.prog 34 #[.func (.func 43) #[] #[.pointer (some ⟨w.heap.size, 0, none⟩)]] (w.alloc (.cells #[.map (some b)] 45)) fun e w' => ∃ v, e = .returned v ∧ Own 3 .i64 (w.heap.size + 1) w' v (L.map Prod.fst) ∧ Below (w.heap.size + 1) (w.alloc (.cells #[.map (some b)] 45)) w' := by
  have hbl := hown.lt
  have hsz := hown.size_le
  have hseq : SeqGives Fence.wide 2 Try.prog 43 #[.pointer (some ⟨w.heap.size, 0, none⟩)] encZ (fun ss => ss.Perm (intKeys D)) (Maps.size D) (w.alloc (.cells #[.map (some b)] 45)) :=
    AnyZI.keys_gives (ρ := Try.keysA_ren) { Try.keysA with } Fence.wide _ trivial rfl (by omega) w.heap.size b n D _ (by simp) (by simp) (by
      obtain ⟨es, clock, hb, Ft, hs, hD⟩ := hown
      exact ⟨es, clock, (Below.heap_alloc _ _ b hbl).trans hb, Ft, hs, hD⟩)
  have cS := AnyZI.sorted_in Try.sortedA Fence.wide 5 trivial trivial trivial trivial rfl (by omega) (ksorts _) (enters_of Try.func42 (by kernel_rfl) rfl) 43 #[.pointer (some ⟨w.heap.size, 0, none⟩)] trivial (enters_of Try.func43 (by kernel_rfl) rfl) _ _ (by unfold maxLen; omega) (by omega) _ hseq
  refine ((callsIn_wide (n := 5)).1 cS).mono ?_
  rintro e w' ⟨v, ss, he, hS, hrow, _, hb⟩
  have e1 := intKeys_is hM hA hS
  have e2 : ss.length = (L.map Prod.fst).length := by rw [← e1, sort_len]
  rw [World.size_alloc] at hrow hb
  have hs := hb.size
  rw [World.size_alloc] at hs
  refine ⟨v, he, ⟨fun z hz => ?_, hs, ?_⟩, hb⟩
  · obtain ⟨x, hx, rfl⟩ := List.mem_map.1 hz
    exact hw x hx
  · rw [e1, e2] at hrow
    exact hrow

set_option maxRecDepth 100000 in
set_option maxHeartbeats 8000000 in
/-- impl.lastKeys. -/
theorem lks_any {w : World} {b n : Nat} {D : DataW Unit} {L : Kept} (hown : w.ownsMap Try.prog 3 (plainElem (H := Unit) Try.prog 3) b n D) (hM : MapK D L) (hA : Asc L) (hn : n ≤ 1000) (hL : L.length ≤ 1000) (hw : ∀ x ∈ L, (Lit.int .i64 x.1).wf = true ∧ (Lit.int .i64 x.2).wf = true) :
    Calls Try.prog 21 #[.map (some b)] w fun e w' => ∃ v', e = .returned v' ∧ OwnS kepE 40 w.heap.size w' v' (lastK L) ∧ Below w.heap.size w w' := by
  obtain ⟨i0, hi, hz0, hz1, hz2⟩ := info_parts infoSkippedKey
  have Hhi := Lib.hid hi
  obtain ⟨i1, hi1, hy0, hy1, hy2⟩ := info_parts infoi64
  have Hhi1 := Lib.hid hi1
  have HM := Lib.hid hM
  have HAs := Lib.hid hA
  have HWf := Lib.hid hw
  have HO0 := Lib.hid hown
  have HBl := Lib.hid hown.lt
  obtain ⟨k, hk⟩ : ∃ k, k = L.length - 8 := ⟨_, rfl⟩
  have Hk := Lib.hid hk
  have HMx : Hid (mx 0 ((L.length : Int) - 8) = (k : Int)) := Lib.hid (by unfold mx; split <;> omega)
  have HXs : Hid ((L.map Prod.fst).drop k = (lastK L).map Prod.fst) := Lib.hid (by unfold lastK; rw [hk, List.map_drop])
  have HLl : Hid ((lastK L).length ≤ 8) := Lib.hid (by rw [lastK_len]; omega)
  have hkl : k ≤ L.length := by omega
  have hll : (L.map Prod.fst).length = L.length := List.length_map _
  have Hll := Lib.hid hll
  obtain ⟨zs, hzs⟩ : ∃ zs, zs = L.map Prod.fst := ⟨_, rfl⟩
  have Hzs := Lib.hid hzs
  rw [← hzs] at Hll HXs
  clear hi hi1 hM hA hw hown hk hll hzs
  go_enter Try.func21, Try.ntmps21
  go_wp2_with fail
  refine (mkeys_any _ _).mono ?_
  rintro e w1 ⟨rfl, rfl⟩
  go_wp2_with fail
  refine (sorted_any HO0.out HM.out HAs.out (by omega) (fun x hx => (HWf.out x hx).1)).mono ?_
  rw [← Hzs.out]
  rintro e w2 ⟨v2, rfl, h2, hb2⟩
  obtain ⟨a2, c2, rfl, _⟩ := h2.open
  have HR := Lib.hid h2.rd
  have hbA : Below w.heap.size w w2 := ((Below.refl _ w).alloc (Nat.le_refl _) (.cells #[.map (some b)] 45)).trans (hb2.mono (Nat.le_succ _))
  have HB := Lib.hid hbA
  have HO := Lib.hid (HO0.out.kept (grown_of_below hbA) (by simp))
  clear h2 hb2 hbA HO0
  go_wp2_with (first | (at_make; refine wpList_make_own _ rfl _ _ 24 rfl w2.heap.size 40 i0 (.agg #[.int .i64 0, .int .i64 0]) 2 Try.underlying24 Hhi.out hz0 hz1 .i64 .i64 _ 8 rfl rfl rfl (by rw [hz2]; omega) (by unfold maxLen; omega) (Nat.le_refl _) ?_))
  intro w3 hrow3 hg3
  have HOw : Hid (OwnS kepE 40 w2.heap.size w3 (.slice (some ⟨w2.heap.size, 0, none⟩) 0 8) []) := Lib.hid ⟨by simp, hg3.size, hrow3⟩
  have hb3 : Below w2.heap.size w2 w3 := (Below.refl _ _).grown hg3 (Nat.le_refl _) (fun k hk => by cases hk)
  replace HR := Lib.hid (HR.out.behind hb3)
  replace HO := Lib.hid (HO.out.kept hg3 (by simp))
  have hs23 := hb3.size
  have HB3 := Lib.hid (HB.out.trans (hb3.mono HB.out.size))
  have Hw2 := Lib.hid HB.out.size
  clear hrow3 hg3 hb3 HB
  have hLL : zs.length = L.length := Hll.out
  have HLe := Lib.hid hLL
  go_wp2_with fail
  refine (impl_max _ _ _ (by decide) (wf_i64_of (by omega) (by omega))).mono ?_
  rw [hLL, HMx.out]
  rintro e w4 ⟨rfl, hb4⟩
  replace HR := Lib.hid (HR.out.behind (hb4.mono hs23))
  replace HO := Lib.hid (HO.out.kept (grown_of_below hb4) (by simp))
  replace HOw := Lib.hid (HOw.out.next hb4)
  replace HB3 := Lib.hid (HB3.out.trans (hb4.mono HB3.out.size))
  have hs24 : w2.heap.size ≤ w4.heap.size := Nat.le_trans hs23 hb4.size
  clear hb4 hs23
  go_wp2_with (first | (refine slice_rd_l _ rfl 55 _ 3 i1 Try.underlying55 Hhi1.out hy1 (show _ = Value.slice a2 zs.length c2 by rw [HLe.out]; rfl) HR.out _ rfl (l := k) rfl (by rw [HLe.out]; exact hkl) ?_; rw [HXs.out]; intro u hu; obtain ⟨au, cu, rfl, u1, u2, hcu⟩ := hu.open; rw [List.length_map] at hcu ⊢; have Hcu := Lib.hid hcu; clear hu hcu u1 u2))
  obtain ⟨M, hM⟩ : ∃ M, M = lastK L := ⟨_, rfl⟩
  rw [← hM] at HXs HLl Hcu ⊢
  have HMe := Lib.hid hM
  have hml := HLl.out
  have HWc : Hid (Below w2.heap.size w4 w4) := Lib.hid (Below.refl _ _)
  clear hM HR
  go_loopw [4, 18] (fun l i wr => ∃ j : Nat, i = .int .i64 j ∧ j ≤ M.length ∧ OwnS kepE 40 w2.heap.size wr l (M.take j) ∧ wr.ownsMap Try.prog 3 (plainElem (H := Unit) Try.prog 3) b n D ∧ Below w2.heap.size w4 wr ∧ Below w.heap.size w wr) (fun _ i _ => M.length - (intOf i).toNat)
  case atStart => exact ⟨0, rfl, Nat.zero_le _, HOw.out, HO.out, HWc.out, HB3.out⟩
  case round =>
    obtain ⟨j, rfl, hj, hOw, hO, hC, hB⟩ := hrel
    replace HOw := Lib.hid hOw
    replace HO := Lib.hid hO
    replace HWc := Lib.hid hC
    replace HB3 := Lib.hid hB
    clear hOw hO hC hB
    by_cases hlt : j < M.length
    · have e1 : decide ((j : Int) < (M.length : Int)) = true := by simp; omega
      obtain ⟨bu, ou, rfl, hbl, hcell⟩ := Hcu.out (by omega)
      obtain ⟨x, hx⟩ : ∃ x, M[j]? = some x := ⟨_, List.getElem?_eq_getElem hlt⟩
      have hxL : L[L.length - 8 + j]? = some x := by
        have := hx
        rw [HMe.out] at this
        unfold lastK at this
        rwa [List.getElem?_drop] at this
      obtain ⟨g1, g2⟩ := HAs.out.get hxL
      obtain ⟨xw1, xw2⟩ := HWf.out x (List.mem_of_getElem? hxL)
      have d0 := hcell wr HWc.out j (by omega)
      rw [show (M.map Prod.fst).getD j 0 = x.1 by rw [List.getD_eq_getElem?_getD, List.getElem?_map, hx]; rfl] at d0
      obtain ⟨c, hrun, hat, hwc⟩ := HO.out.lookup_int lawInt Try.underlying45 Try.underlying3 (kzero wr) (key := .int .i64 x.1) (keyOf_int_mk Try.underlying3 xw1)
      have hcx : c = x.2 := by
        rw [HM.out.2.2.1 x.1 g1, g2] at hat
        injection hat with hat
        injection hat with _ hat
        exact hat.symm
      subst hcx
      have HT := Lib.hid (take_snocK hx)
      have O1 := Lib.hid (HOw.out.alloc (.cells #[.int .i64 x.1, .int .i64 x.2] 40))
      have R1 := Lib.hid (kep_one (B := wr.heap.size) (w := wr) (Nat.le_refl _) xw1 xw2).rd
      have M1 := Lib.hid (HO.out.alloc (.cells #[.int .i64 x.1, .int .i64 x.2] 40))
      have hw2 : w2.heap.size ≤ wr.heap.size := Nat.le_trans hs24 HWc.out.size
      have C1 := Lib.hid (HWc.out.alloc hw2 (.cells #[.int .i64 x.1, .int .i64 x.2] 40))
      have B1 := Lib.hid (HB3.out.alloc HB3.out.size (.cells #[.int .i64 x.1, .int .i64 x.2] 40))
      obtain ⟨y, z⟩ := x
      clear hcell hx hxL g1 g2 xw1 xw2 hat hwc
      go_wp2_with (first | (at_builtin; refine append_rds _ rfl _ _ 24 rfl 40 i0 (.agg #[.int .i64 0, .int .i64 0]) 16 Try.underlying24 Hhi.out hz0 hz1 hz2 rfl (by omega) rfl O1.out rfl R1.out (by simp only [List.length_take, List.length_singleton]; omega) ?_))
      intro v5 w5 h5 hg5
      have hb5 := O1.out.below (Nat.le_refl _) hg5
      have H5 : Hid (OwnS kepE 40 w2.heap.size w5 v5 (M.take (j + 1))) := Lib.hid (by rw [HT.out]; exact h5)
      have M5 := Lib.hid (M1.out.kept hg5 (fun e => by have := (O1.out.lt b e.symm).1; have := HBl.out; have := Hw2.out; omega))
      have C5 := Lib.hid (C1.out.trans hb5)
      have B5 := Lib.hid (B1.out.trans (hb5.mono Hw2.out))
      clear h5 hg5 hb5
      go_wp2_with fail
      go_roundw
      case rel => exact ⟨j + 1, by simp, hlt, H5.out, M5.out, C5.out, B5.out⟩
      case measure => simp [intOf]; omega
    · have e1 : decide ((j : Int) < (M.length : Int)) = false := by simp; omega
      have hF := HOw.out.mono Hw2.out
      rw [show j = M.length by omega, List.take_length, HMe.out] at hF
      have HF := Lib.hid hF
      clear hF
      go_wp2_with fail
      go_ret
      exact ⟨_, rfl, HF.out, HB3.out⟩

end Go.Proofs.Ytlbijjifeaimjaa
