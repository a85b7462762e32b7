/- The small group: logarithms; the program's (the first powers in a map) and the document's. Conditions: numbers that a machine holds; the package variable impl.unit as the rows list it. -/
import Derived.Test.YtdccljmffmlkbaaDoorGrD
import Derived.Maps.OwnOps
import Derived.ChangeKeysEq
namespace Go.Proofs.YtdccljmffmlkbaaDoor
open Go Go.RowKit Go.Maps
set_option linter.unusedVariables false
attribute [local irreducible] kh kid pwm tcm pw kmap

theorem geq (w : World) (x y : Int) : (Op.equalIn 10000 75 (.agg #[.int .i64 x]) (.agg #[.int .i64 y])).run Tryd.prog w = .ok (x == y) w := by
  have p0 : ∀ a : Value, (part 3 #[a] 0).run Tryd.prog w = .ok a w := fun a => run_part_plain (P := Tryd.prog) w (e := 3) (by kernel_rfl) rfl
  have q := fun m n : Int => run_equalIn_int (P := Tryd.prog) w 9998 3 .i64 .i64 m n Tryd.underlying3
  rw [run_equalIn_agg (P := Tryd.prog) w 9999 75 _ _ (by kernel_rfl) (by kernel_rfl)]
  have hf : (Program.fieldsOf Tryd.prog 75).toList.map (fun f => (f.type, f.offset, f.name == "_")) = [(3, 0, false)] := by kernel_rfl
  generalize (Program.fieldsOf Tryd.prog 75).toList = fs at hf ⊢
  obtain ⟨f0, r0, rfl, e0, hf⟩ := List.map_eq_cons_iff.1 hf
  obtain rfl := List.map_eq_nil_iff.1 hf
  simp only [Prod.mk.injEq, beq_eq_false_iff_ne] at e0
  obtain ⟨a0, b0, c0⟩ := e0
  have q' : ∀ m n : Int, (Op.equalIn 9999 3 (.int .i64 m) (.int .i64 n)).run Tryd.prog w = .ok (m == n) w := q
  simp only [Op.eqFields, a0, b0, c0, ne_eq, not_false_eq_true, if_true, Sem.run_bind, Sem.run_ite, Sem.run_pure, p0, Result.andThen_ok, q']
  generalize (x == y) = u1
  cases u1 <;> rfl
theorem zeroI (w : World) : (zeroValue 3).run Tryd.prog w = .ok (.int .i64 0) w := by kernel_rfl

theorem gmake (w : World) (n : Int) : (Instr.makeMap 79 (some (.int .i64 n))).run Tryd.prog w = .ok (.map (some w.heap.size)) (w.alloc (.map #[] 0)) := by
  simp [Instr.makeMap, run_underlying Tryd.underlying79, Result.andThen, asInt]
  rfl

set_option maxRecDepth 100000 in
set_option maxHeartbeats 2000000 in
/-- impl.firstLogarithms. -/
theorem impl_fl {w : World} {g : Int} (hg : isG g = true) (hL : GV w) :
    Calls Tryd.prog 59 #[.agg #[.int .i64 g]] w fun e w' => ∃ b, e = .returned (.map (some b)) ∧ w.heap.size ≤ b ∧ w'.ownsMap Tryd.prog 75 (plainElem (H := Unit) Tryd.prog 3) b 32 (kmap g 32) ∧ Below w.heap.size w w' := by
  have hmm := fun w' => gmake w' 32
  have k1 := heap_alloc_new w (.cells #[.int .i64 g] 75)
  have b1 := (Below.refl w.heap.size w).alloc (Nat.le_refl _) (.cells #[.int .i64 g] 75)
  obtain ⟨Wa, hWa⟩ : ∃ W, W = w.alloc (.cells #[.int .i64 g] 75) := ⟨_, rfl⟩
  have hsa : Wa.heap.size = w.heap.size + 1 := by rw [hWa, World.size_alloc]
  rw [← hWa] at k1 b1
  have hM := World.ownsMap_made Wa Tryd.prog 75 (plainElem (H := Unit) Tryd.prog 3)
  have k2 := (heap_alloc_old Wa (.map #[] 0) (lt_of_block k1)).trans k1
  have b2 := b1.alloc b1.size (.map #[] 0)
  obtain ⟨Wb, hWb⟩ : ∃ W, W = Wa.alloc (.map #[] 0) := ⟨_, rfl⟩
  have hsb : Wb.heap.size = w.heap.size + 1 + 1 := by rw [hWb, World.size_alloc, hsa]
  rw [← hWb] at hM k2 b2
  rw [hsa] at hM
  have k3 := (heap_alloc_old Wb (.cells #[.int .i64 1] 75) (lt_of_block k2)).trans k2
  have k4 := heap_alloc_new Wb (.cells #[.int .i64 1] 75)
  have hM2 := hM.alloc (.cells #[.int .i64 1] 75)
  have b3 := b2.alloc b2.size (.cells #[.int .i64 1] 75)
  rw [hsb] at k4
  have HW : Hid (Wb = (w.alloc (.cells #[.int .i64 g] 75)).alloc (.map #[] 0)) := Lib.hid (by rw [hWb, hWa])
  have c0 : (w.alloc (.cells #[.int .i64 g] 75)).cell? ⟨0, 0, none⟩ = some (.int .i64 1) := hL.next ((Below.refl w.heap.size w).alloc (Nat.le_refl _) (.cells #[.int .i64 g] 75))
  have HK1 := Lib.hid k3
  have HK2 := Lib.hid k4
  have HM := Lib.hid hM2
  have HB := Lib.hid b3
  have HG := Lib.hid hg
  clear hWa hsa hWb hsb k1 k2 k3 k4 b1 b2 b3 hM hM2 hg hL
  go_enter Tryd.func59, Tryd.ntmps59
  go_wp2_with fail
  rw [← HW.out]
  clear c0 hmm
  go_loopw [8] (fun i wr => ∃ j : Nat, i = .int .i64 j ∧ j ≤ 32 ∧ wr.heap[w.heap.size]? = some (.cells #[.int .i64 g] 75) ∧ wr.ownsMap Tryd.prog 75 (plainElem (H := Unit) Tryd.prog 3) (w.heap.size + 1) j (kmap g j) ∧ wr.heap[w.heap.size + 1 + 1]? = some (.cells #[.int .i64 (pw g j)] 75) ∧ Below w.heap.size w wr) (fun i _ => 32 - (intOf i).toNat)
  case atStart => exact ⟨0, rfl, by omega, HK1.out, by rw [kmap_zero]; exact HM.out, by rw [pw_zero]; exact HK2.out, HB.out⟩
  case round =>
    obtain ⟨j, rfl, hj, h1, hM, h2, hB⟩ := hrel
    replace HK1 := Lib.hid h1
    replace HK2 := Lib.hid h2
    replace HM := Lib.hid hM
    replace HB := Lib.hid hB
    clear h1 h2 hM hB HW
    by_cases hlt : j < 32
    · have e1 : decide ((j : Int) < 32) = true := by simp; omega
      have hy := pw_wf g j
      have hel := pw_el HG.out j
      have hS := pw_succ g j
      have hKm := kmap_succ g j
      obtain ⟨y, hyy⟩ : ∃ y, y = pw g j := ⟨_, rfl⟩
      rw [← hyy] at hy hel hS hKm
      replace HK2 : Hid (wr.heap[w.heap.size + 1 + 1]? = some (.cells #[.int .i64 y] 75)) := Lib.hid (by rw [hyy]; exact HK2.out)
      have HKey := Lib.hid (kL_ok hy)
      have HEl := Lib.hid hel
      have HS := Lib.hid hS
      have HKm := Lib.hid hKm
      have k1 := gc0 HK1.out
      have k2 := gc0 HK2.out
      clear hy hel hS hKm hyy
      go_wp2_with (first
        | (at_mapUpdate; refine wpList_mapUpdate_own _ rfl _ _ _ 79 rfl 75 3 lawG Tryd.underlying79 (plainElem (H := Unit) Tryd.prog 3) (w.heap.size + 1) j _ rfl HM.out (by unfold maxLen; omega) _ _ _ rfl rfl HKey.out _ [] (plainElem_int Tryd.underlying3 (wf_i64_of (by omega) (by omega))) ?_; intro w1 hown1 hgrow1
           have n1 := (hgrow1.block _ (lt_of_block HK1.out) (by simp)).trans HK1.out
           have n2 := (hgrow1.block _ (lt_of_block HK2.out) (by simp)).trans HK2.out
           have m1 := gc0 n1
           have m2 := gc0 n2))
      rw [← HKm.out] at hown1
      replace HK1 := Lib.hid n1
      replace HK2 := Lib.hid n2
      replace HM := Lib.hid hown1
      replace HB := Lib.hid (HB.out.grown hgrow1 HB.out.size (fun k hk => by injection hk with hk; omega))
      clear n1 n2 hown1 hgrow1 k1 k2 m1 m2
      refine (impl_times HEl.out HG.out).mono ?_
      rw [← HS.out]
      obtain ⟨z, hz⟩ : ∃ z, z = pw g (j + 1) := ⟨_, rfl⟩
      rw [← hz]
      have HZ := Lib.hid hz
      clear hz
      rintro e w2 ⟨rfl, hb⟩
      replace HK1 := Lib.hid ((hb.block _ (lt_of_block HK1.out)).trans HK1.out)
      replace HK2 := Lib.hid ((hb.block _ (lt_of_block HK2.out)).trans HK2.out)
      replace HM := Lib.hid (HM.out.kept (grown_of_below hb) (by simp))
      replace HB := Lib.hid (HB.out.trans (hb.mono HB.out.size))
      clear hb
      have k2 := gc0 HK2.out
      have f2 := blk_free HK2.out 0
      have hg := grown_set w2 (w.heap.size + 1 + 1) 0 (.int .i64 z)
      have HK1' := Lib.hid ((hg.block _ (lt_of_block HK1.out) (by simp; omega)).trans HK1.out)
      have HK2' := Lib.hid (gst HK2.out (.int .i64 z)).1
      have HM' := Lib.hid (HM.out.kept hg (by simp))
      have HB' := Lib.hid (HB.out.grown hg HB.out.size (fun k hk => by injection hk with hk; omega))
      clear hg
      go_wp2_with fail
      go_roundw
      case rel => exact ⟨j + 1, by simp, hlt, HK1'.out, HM'.out, by rw [← HZ.out]; exact HK2'.out, HB'.out⟩
      case measure => simp [intOf]; omega
    · have e1 : decide ((j : Int) < 32) = false := by simp; omega
      obtain rfl : j = 32 := by omega
      go_wp2_with fail
      go_ret
      exact ⟨_, rfl, by omega, HM.out, HB.out⟩

theorem dlok_p {g x : Int} (h : isG g = false) : dlog g x = -1 := dlog_no (by unfold dlok; rw [h]; rfl)
theorem dlok_q {g x : Int} (h : isG x = false) : dlog g x = -1 := dlog_no (by unfold dlok; rw [h, Bool.false_and, Bool.and_false])
theorem dlok_1 {g x : Int} (h : (g == 1) = true) : dlog g x = -1 := dlog_no (by unfold dlok; rw [h]; simp)
theorem dlok_y {g x : Int} (h1 : isG g = true) (h2 : isG x = true) (h3 : (g == 1) = false) : dlok g x = true := by unfold dlok; rw [h1, h2, h3]; rfl
theorem lit_inj {D : DataW Unit} {d e : Int} (h1 : D = .lit (.int .i64 d)) (h2 : D = .lit (.int .i64 e)) : d = e := by
  have h := h1.symm.trans h2
  injection h with h
  injection h

set_option maxRecDepth 100000 in
set_option maxHeartbeats 4000000 in
/-- impl.DiscreteLog. -/
theorem impl_dl {w : World} {g x : Int} (hg : (Lit.int .i64 g).wf = true) (hx : (Lit.int .i64 x).wf = true) (hL : GV w) :
    Calls Tryd.prog 21 #[.int .i64 g, .int .i64 x] w fun e w' => e = .returned (.int .i64 (dlog g x)) ∧ Below w.heap.size w w' := by
  obtain ⟨y, hy⟩ : ∃ y, y = ele g := ⟨_, rfl⟩
  obtain ⟨z, hz⟩ : ∃ z, z = ele x := ⟨_, rfl⟩
  obtain ⟨p, hp⟩ : ∃ p, p = isG g := ⟨_, rfl⟩
  obtain ⟨q, hq⟩ : ∃ q, q = isG x := ⟨_, rfl⟩
  have HY := Lib.hid hy
  have HZ := Lib.hid hz
  have HP := Lib.hid hp
  have HQ := Lib.hid hq
  have HL := Lib.hid hL
  clear hy hz hp hq hL
  go_enter Tryd.func21, Tryd.ntmps21
  go_wp2_with fail
  refine (impl_el hg).mono ?_
  rw [← HP.out, ← HY.out]
  rintro e w1 ⟨rfl, h1⟩
  have HB := Lib.hid (h1.alloc h1.size (.cells #[.int .i64 y] 75))
  have HK := Lib.hid (heap_alloc_new w1 (.cells #[.int .i64 y] 75))
  have HSz : Hid (w.heap.size ≤ w1.heap.size) := Lib.hid h1.size
  clear h1
  go_wp2_with fail
  refine (impl_el hx).mono ?_
  rw [← HQ.out, ← HZ.out]
  rintro e w2 ⟨rfl, h1⟩
  have hk2 := (heap_alloc_old w2 (.cells #[.int .i64 z] 75) (Nat.lt_of_lt_of_le (lt_of_block HK.out) h1.size)).trans ((h1.block _ (lt_of_block HK.out)).trans HK.out)
  have hk3 := heap_alloc_new w2 (.cells #[.int .i64 z] 75)
  have h2 := HB.out.trans (h1.mono HB.out.size)
  have hb2 := h2.alloc h2.size (.cells #[.int .i64 z] 75)
  have HB2 := Lib.hid hb2
  have HS12 : Hid (w1.heap.size < w2.heap.size) := Lib.hid (by have := h1.size; rw [World.size_alloc] at this; omega)
  obtain ⟨W, hW⟩ : ∃ W, W = w2.alloc (.cells #[.int .i64 z] 75) := ⟨_, rfl⟩
  rw [← hW] at hk2 hk3 hb2 HB2
  have HW := Lib.hid hW
  have HD := Lib.hid hk2
  have HR := Lib.hid hk3
  have HLW := Lib.hid (HL.out.next hb2)
  clear h1 h2 hk2 hk3 hb2 hW
  cases p with
  | false =>
    have HE := Lib.hid (dlok_p (x := x) HP.out.symm)
    go_wp2_with fail
    rw [← HW.out]
    go_ret
    exact ⟨by rw [HE.out]; rfl, HB2.out⟩
  | true =>
   cases q with
   | false =>
    have HE := Lib.hid (dlok_q (g := g) HQ.out.symm)
    go_wp2_with fail
    rw [← HW.out]
    go_ret
    exact ⟨by rw [HE.out]; rfl, HB2.out⟩
   | true =>
    obtain rfl : g = y := by rw [HY.out, ele_yes HP.out.symm]
    obtain rfl : x = z := by rw [HZ.out, ele_yes HQ.out.symm]
    have hge := fun w => geq w g 1
    have kD : (w2.alloc (.cells #[.int .i64 x] 75)).cell? ⟨w1.heap.size, 0, none⟩ = some (.int .i64 g) := by rw [← HW.out]; exact gc0 HD.out
    have kU : (w2.alloc (.cells #[.int .i64 x] 75)).cell? ⟨0, 0, none⟩ = some (.int .i64 1) := by rw [← HW.out]; exact HLW.out
    cases h1 : (g == 1) with
    | true =>
      have HE := Lib.hid (dlok_1 (x := x) h1)
      go_wp2_with fail
      rw [← HW.out]
      go_ret
      exact ⟨by rw [HE.out]; rfl, HB2.out⟩
    | false =>
      obtain ⟨L, hLe, hLp⟩ := log_ex HP.out.symm (by simpa using h1) HQ.out.symm
      have HE := Lib.hid (dlog_is (dlok_y HP.out.symm HQ.out.symm h1) hLe hLp)
      have HLp := Lib.hid hLp
      have HNe : Hid (g ≠ 1) := Lib.hid (by simpa using h1)
      clear hLp
      go_wp2_with fail
      rw [← HW.out]
      clear kD kU hge
      refine (impl_fl HP.out.symm HLW.out).mono ?_
      rintro e w3 ⟨b, rfl, hbb, hown, hb⟩
      replace HD := Lib.hid ((hb.block _ (lt_of_block HD.out)).trans HD.out)
      replace HR := Lib.hid ((hb.block _ (lt_of_block HR.out)).trans HR.out)
      replace HB2 := Lib.hid (HB2.out.trans (hb.mono HB2.out.size))
      have HM := Lib.hid hown
      have HbR : Hid (w2.heap.size < b) := Lib.hid (by rw [HW.out, World.size_alloc] at hbb; omega)
      clear hb hbb hown HLW HL HB HK
      have kD := gc0 HD.out
      go_wp2_with fail
      refine (impl_power HP.out.symm (by decide)).mono ?_
      have hc : pwG g (-32) = pw g 987 := pwG_yes HP.out.symm _
      rw [hc]
      obtain ⟨c, hcc⟩ : ∃ c, c = pw g 987 := ⟨_, rfl⟩
      rw [← hcc]
      have HC := Lib.hid hcc
      clear hc hcc kD
      rintro e w4 ⟨rfl, hb⟩
      have hb4 := hb.alloc hb.size (.cells #[.int .i64 c] 75)
      have hc4 := heap_alloc_new w4 (.cells #[.int .i64 c] 75)
      obtain ⟨W5, hW5⟩ : ∃ W, W = w4.alloc (.cells #[.int .i64 c] 75) := ⟨_, rfl⟩
      rw [← hW5] at hb4 hc4
      have HW5 := Lib.hid hW5
      replace HR := Lib.hid ((hb4.block _ (lt_of_block HR.out)).trans HR.out)
      have HMlt := HM.out.lt
      have HbC : Hid (b < w4.heap.size) := Lib.hid (Nat.lt_of_lt_of_le HMlt hb.size)
      replace HM := Lib.hid (HM.out.kept (grown_of_below hb4) (by simp))
      replace HB2 := Lib.hid (HB2.out.trans (hb4.mono HB2.out.size))
      have HCb := Lib.hid hc4
      clear hb hb4 hc4 HMlt hW5 HD
      go_wp2_with fail
      rw [← HW5.out]
      go_loopw [11] (fun i wr => ∃ k : Nat, i = .int .i64 k ∧ k ≤ L ∧ wr.heap[w2.heap.size]? = some (.cells #[.int .i64 (pw g (L - k))] 75) ∧ wr.heap[w4.heap.size]? = some (.cells #[.int .i64 c] 75) ∧ wr.ownsMap Tryd.prog 75 (plainElem (H := Unit) Tryd.prog 3) b 32 (kmap g 32) ∧ Below w.heap.size w wr) (fun i _ => 1019 - (intOf i).toNat)
      case atStart => exact ⟨0, rfl, by omega, by rw [Nat.sub_zero, HLp.out]; exact HR.out, HCb.out, HM.out, HB2.out⟩
      case round =>
        obtain ⟨k, rfl, hk, h1, h2, hM, hB⟩ := hrel
        replace HR := Lib.hid h1
        replace HCb := Lib.hid h2
        replace HM := Lib.hid hM
        replace HB := Lib.hid hB
        clear h1 h2 hM hB HB2 HW5 HW
        have hy := pw_wf g (L - k)
        obtain ⟨y, hyy⟩ : ∃ y, y = pw g (L - k) := ⟨_, rfl⟩
        have HYy := Lib.hid hyy
        replace HR : Hid (wr.heap[w2.heap.size]? = some (.cells #[.int .i64 y] 75)) := Lib.hid (by rw [hyy]; exact HR.out)
        have HKey : Hid (keyOf Tryd.prog 75 (.agg #[.int .i64 y]) = some (kL y)) := Lib.hid (kL_ok (by rw [hyy]; exact hy))
        clear hy hyy
        have kR := gc0 HR.out
        by_cases hlt : L - k < 32
        · have hm := kmap_at (g := g) (e := L - k) (k := 32) hlt (fun a ha he => pw_inj HP.out.symm HNe.out (by omega) (by omega) he)
          have HH : Hid (Maps.has (kmap g 32) (kL y) = true) := Lib.hid (by rw [HYy.out]; exact hm.1)
          have HA : Hid (∀ z, (kmap g 32).atKey (kL y) z = .lit (.int .i64 ((L - k : Nat) : Int))) := Lib.hid (by rw [HYy.out]; exact hm.2)
          clear hm
          go_wp2_with (first
            | (at_lookup; refine wpList_lookup_own_ok_int _ rfl _ _ 79 rfl 75 3 .i64 lawG Tryd.underlying79 Tryd.underlying3 (zeroI _) b 32 _ rfl HM.out _ _ rfl HKey.out ?_; intro d hat hwd; rw [HH.out]))
          have hd : d = ((L - k : Nat) : Int) := lit_inj hat (HA.out _)
          have hw : wrap64 ((k : Int) + d) = (L : Int) := by rw [hd]; unfold wrap64; omega
          go_ret
          exact ⟨by rw [HE.out, ← hw]; rfl, HB.out⟩
        · have HF : Hid (Maps.has (kmap g 32) (kL y) = false) := Lib.hid (kmap_no (by rw [HYy.out]; exact pw_wf _ _) (fun e he hc => by
            rw [HYy.out] at hc
            have := pw_inj HP.out.symm HNe.out (show e ≤ 1018 by omega) (by omega) hc
            omega))
          have HEy : Hid (isG y = true) := Lib.hid (by rw [HYy.out]; exact pw_el HP.out.symm _)
          have HEc : Hid (isG c = true) := Lib.hid (by rw [HC.out]; exact pw_el HP.out.symm _)
          have HBk : Hid (y * c % 2039 = pw g (L - (k + 32))) := Lib.hid (by rw [HYy.out, HC.out, pw_back HP.out.symm (by omega)]; first | rfl | (congr 1; omega))
          have kC := gc0 HCb.out
          go_wp2_with (first
            | (at_lookup; refine wpList_lookup_own_ok_int _ rfl _ _ 79 rfl 75 3 .i64 lawG Tryd.underlying79 Tryd.underlying3 (zeroI _) b 32 _ rfl HM.out _ _ rfl HKey.out ?_; intro d hat hwd; rw [HF.out]))
          clear hat hwd kR kC
          refine (impl_times HEy.out HEc.out).mono ?_
          rw [HBk.out]
          obtain ⟨u, hu⟩ : ∃ u, u = pw g (L - (k + 32)) := ⟨_, rfl⟩
          rw [← hu]
          have HU := Lib.hid hu
          clear hu
          rintro e w6 ⟨rfl, hb⟩
          replace HR := Lib.hid ((hb.block _ (lt_of_block HR.out)).trans HR.out)
          replace HCb := Lib.hid ((hb.block _ (lt_of_block HCb.out)).trans HCb.out)
          replace HM := Lib.hid (HM.out.kept (grown_of_below hb) (by simp))
          replace HB := Lib.hid (HB.out.trans (hb.mono HB.out.size))
          clear hb
          have k7 := gc0 HR.out
          have f7 := blk_free HR.out 0
          have hg := grown_set w6 w2.heap.size 0 (.int .i64 u)
          have HR' := Lib.hid (gst HR.out (.int .i64 u)).1
          have HCb' := Lib.hid ((hg.block _ (lt_of_block HCb.out) (by have := HbC.out; have := HbR.out; simp; omega)).trans HCb.out)
          have HM' := Lib.hid (HM.out.kept hg (by have := HbR.out; simp; omega))
          have HB' := Lib.hid (HB.out.grown hg HB.out.size (fun k hk => by injection hk with hk; have := HSz.out; have := HS12.out; omega))
          clear hg
          go_wp2_with fail
          go_roundw
          case rel => exact ⟨k + 32, by simp, by omega, by rw [← HU.out]; exact HR'.out, HCb'.out, HM'.out, HB'.out⟩
          case measure => simp [intOf]; omega

set_option maxHeartbeats 2000000 in
/-- spec.DiscreteLog. -/
theorem spec_dl {w : World} {g x : Int} (hg : (Lit.int .i64 g).wf = true) (hx : (Lit.int .i64 x).wf = true) :
    Calls Tryd.prog 77 #[.int .i64 g, .int .i64 x] w fun e w' => e = .returned (.int .i64 (dlog g x)) ∧ w' = w := by
  obtain ⟨p, hp⟩ : ∃ p, p = isG g := ⟨_, rfl⟩
  obtain ⟨q, hq⟩ : ∃ q, q = isG x := ⟨_, rfl⟩
  have HP := Lib.hid hp
  have HQ := Lib.hid hq
  clear hp hq
  cases p with
  | false =>
    have HE := Lib.hid (dlok_p (x := x) HP.out.symm)
    go_enter Tryd.func77, Tryd.ntmps77
    go_wp2_with fail
    refine (spec_isg hg).mono ?_
    rw [← HP.out]
    rintro e w1 ⟨rfl, hw⟩
    obtain rfl := hw.symm
    go_wp2_with fail
    go_ret
    exact ⟨by rw [HE.out]; rfl, rfl⟩
  | true =>
   cases q with
   | false =>
    have HE := Lib.hid (dlok_q (g := g) HQ.out.symm)
    go_enter Tryd.func77, Tryd.ntmps77
    go_wp2_with fail
    refine (spec_isg hg).mono ?_
    rw [← HP.out]
    rintro e w1 ⟨rfl, hw⟩
    obtain rfl := hw.symm
    go_wp2_with fail
    refine (spec_isg hx).mono ?_
    rw [← HQ.out]
    rintro e w1 ⟨rfl, hw⟩
    obtain rfl := hw.symm
    go_wp2_with fail
    go_ret
    exact ⟨by rw [HE.out]; rfl, rfl⟩
   | true =>
    cases h1 : (g == 1) with
    | true =>
      have HE := Lib.hid (dlok_1 (x := x) h1)
      go_enter Tryd.func77, Tryd.ntmps77
      go_wp2_with fail
      refine (spec_isg hg).mono ?_
      rw [← HP.out]
      rintro e w1 ⟨rfl, hw⟩
      obtain rfl := hw.symm
      go_wp2_with fail
      refine (spec_isg hx).mono ?_
      rw [← HQ.out]
      rintro e w1 ⟨rfl, hw⟩
      obtain rfl := hw.symm
      go_wp2_with fail
      go_ret
      exact ⟨by rw [HE.out]; rfl, rfl⟩
    | false =>
      obtain ⟨L, hLe, hLp⟩ := log_ex HP.out.symm (by simpa using h1) HQ.out.symm
      have HE := Lib.hid (dlog_is (dlok_y HP.out.symm HQ.out.symm h1) hLe hLp)
      have HLp := Lib.hid hLp
      have HNe : Hid (g ≠ 1) := Lib.hid (by simpa using h1)
      have hgb := el_bound HP.out.symm
      clear hLp
      go_enter Tryd.func77, Tryd.ntmps77
      go_wp2_with fail
      refine (spec_isg hg).mono ?_
      rw [← HP.out]
      rintro e w1 ⟨rfl, hw⟩
      obtain rfl := hw.symm
      go_wp2_with fail
      refine (spec_isg hx).mono ?_
      rw [← HQ.out]
      rintro e w1 ⟨rfl, hw⟩
      obtain rfl := hw.symm
      go_wp2_with fail
      go_loopw [5, 6] (fun y i wr => ∃ k : Nat, i = .int .i64 k ∧ y = .int .i64 (pw g k) ∧ k ≤ L ∧ wr = w) (fun _ i _ => 1019 - (intOf i).toNat)
      case atStart => exact ⟨0, rfl, by rw [pw_zero], by omega, rfl⟩
      case round =>
        obtain ⟨k, rfl, rfl, hk, rfl⟩ := hrel
        have hb := pw_bound g k
        have hS := pw_succ g k
        obtain ⟨y, hyy⟩ : ∃ y, y = pw g k := ⟨_, rfl⟩
        rw [← hyy] at hb hS ⊢
        have HYy := Lib.hid hyy
        have HS := Lib.hid hS
        have hm := pm_mul (m := 2039) (a := y) (b := g) (by omega) (by omega) (by omega) (by omega) (Int.le_refl _)
        have HM := Lib.hid hm
        clear hyy hS hm
        have e1 : decide ((k : Int) < 1019) = true := by simp; omega
        by_cases hkL : k = L
        · have e2 : (y == x) = true := by rw [HYy.out, hkL, HLp.out]; simp
          have HE2 : Hid (dlog g x = (k : Int)) := Lib.hid (by rw [HE.out, hkL])
          clear hkL
          go_wp2_with fail
          go_ret
          exact ⟨by rw [HE2.out]; rfl, rfl⟩
        · have e2 : (y == x) = false := beq_eq_false_iff_ne.2 (fun h => by
            rw [HYy.out, ← HLp.out] at h
            exact hkL (pw_inj HP.out.symm HNe.out (by omega) hLe h))
          go_wp2_with fail
          go_roundw
          case rel => exact ⟨k + 1, by simp, by rw [HS.out, ← HM.out], by omega, by first | rfl | trivial⟩
          case measure => simp [intOf]; omega

end Go.Proofs.YtdccljmffmlkbaaDoor
