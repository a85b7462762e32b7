/- MakePointKeys, the program's. No conditions but numbers that a machine holds. -/
import Derived.Test.YtaekjnacigicoaaPk8
import Derived.Lib.SliceRun
namespace Go.Proofs.Ytaekjnacigicoaa
open Go Go.RowKit
set_option linter.unusedVariables false
attribute [local irreducible] kh

set_option maxHeartbeats 2000000 in
/-- slices.Clone on corrections -/
theorem clone_any {l g o cap n : Nat} {w : World} {xs : List Cor} (h : RdS corE l w (.slice (some ⟨g, o, none⟩) n cap) xs) (hl : l ≤ w.heap.size) (hn : n = xs.length) (hb : xs.length ≤ 1000) :
    Calls Try.prog 18 #[.slice (some ⟨g, o, none⟩) n cap] w fun e w' => ∃ v', e = .returned v' ∧ OwnS corE 47 w.heap.size w' v' xs ∧ Below w.heap.size w w' := by
  obtain ⟨i0, hi, hz0, hz1, hz2⟩ := info_parts infoCorrection
  have Hhi := Lib.hid hi
  have HB := Lib.hid hb
  have hb0 := (Below.refl w.heap.size w).alloc (Nat.le_refl _) (.cells #[] 47)
  have O1 := Lib.hid (OwnS.lit (w := w) (B := w.heap.size) corE 47 (Nat.le_refl _))
  have R1 := Lib.hid ((h.mono hl).behind hb0)
  have B1 := Lib.hid hb0
  have hnl := fun w' : World => Lib.run_eql_slice_nil (P := Try.prog) w' 29 47 (some ⟨g, o, none⟩) n cap 0 0 Try.underlying29
  clear h hi hb hn hb0
  go_enter Try.func18, Try.ntmps18
  go_wp2_with (first | (at_builtin; refine append_rds _ rfl _ _ 29 rfl 47 i0 (.agg #[.int .i64 0, .int .i64 0, .int .i64 0]) 24 Try.underlying29 Hhi.out hz0 hz1 hz2 rfl (by omega) rfl O1.out rfl R1.out (by have := HB.out; simp only [List.length_nil]; omega) ?_))
  intro v8 w8 h8 hg8
  have H8 := Lib.hid (show OwnS corE 47 w.heap.size w8 v8 xs from h8)
  have B8 := Lib.hid (B1.out.trans (O1.out.below (Nat.le_refl _) hg8))
  clear h8 hg8
  go_wp2_with fail
  go_ret
  exact ⟨_, rfl, H8.out, B8.out⟩

set_option maxRecDepth 100000 in
set_option maxHeartbeats 8000000 in
/-- impl.MakePointKeys -/
theorem impl_mk {w : World} {d p ra rb : Int} (hd : (Lit.int .i64 d).wf = true) (hp : (Lit.int .i64 p).wf = true) (hra : (Lit.int .i64 ra).wf = true) (hrb : (Lit.int .i64 rb).wf = true) :
    Calls Try.prog 7 #[.int .i64 d, .int .i64 p, .int .i64 ra, .int .i64 rb] w fun e w' => ∃ v1 v2, e = .returned (.tuple #[.agg #[.int .i64 (prt d p ra rb ra), .int .i64 0, v1], .agg #[.int .i64 (prt d p ra rb rb), .int .i64 (prt d p ra rb 1), v2], .bool (pkOk d p ra rb)]) ∧ OwnS corE 47 w.heap.size w' v1 (pcs d p ra rb) ∧ OwnS corE 47 w.heap.size w' v2 (pcs d p ra rb) ∧ Apart v1 v2 ∧ Below w.heap.size w w' := by
  have HD := Lib.hid hd
  have HP := Lib.hid hp
  have HRA := Lib.hid hra
  have HRB := Lib.hid hrb
  have HB := Lib.hid (((Below.refl w.heap.size w).alloc (Nat.le_refl _) (.cells #[.int .i64 0, .int .i64 0, .slice none 0 0] 31)).alloc (by simp) (.cells #[.int .i64 0, .int .i64 0, .slice none 0 0] 31))
  clear hp hra hrb
  by_cases h1 : 1 ≤ d
  case neg =>
    have HE0 : Hid (pkOk d p ra rb = false) := Lib.hid (by
      rw [← Bool.not_eq_true, pkOk_iff]
      rintro ⟨D, I, rfl, rfl, h2, h3, _⟩
      omega)
    have HE1 := Lib.hid (pk_no HE0.out)
    rw [HE0.out]
    have e0 : decide (d < 1) = true := by simp; omega
    clear h1 hd
    go_enter Try.func7, Try.ntmps7
    go_wp2_with fail
    rw [HE1.out.1, HE1.out.2, HE1.out.2, HE1.out.2]
    exact bodyPost_ret (v := .tuple #[.agg #[.int .i64 0, .int .i64 0, .slice none 0 0], .agg #[.int .i64 0, .int .i64 0, .slice none 0 0], .bool false]) (by simp [results, Try.results7, go_sem]) rfl ⟨_, _, rfl, OwnS.nil _ _ HB.out.size, OwnS.nil _ _ HB.out.size, Apart.nil _, HB.out⟩
  have e0 : decide (d < 1) = false := by simp; omega
  obtain ⟨v2, hv2⟩ : ∃ v, v = leafOk d p := ⟨_, rfl⟩
  obtain ⟨v3, hv3⟩ : ∃ v, v = inR ra 0 2147483646 := ⟨_, rfl⟩
  obtain ⟨v4, hv4⟩ : ∃ v, v = inR rb 0 2147483646 := ⟨_, rfl⟩
  have HV : Hid (pkOk d p ra rb = (v2 && v3 && v4)) := Lib.hid (by
    unfold pkOk
    rw [← hv2, ← hv3, ← hv4, show decide (1 ≤ d) = true from decide_eq_true h1]
    simp)
  have H2 := Lib.hid hv2
  have H3 := Lib.hid hv3
  have H4 := Lib.hid hv4
  clear hv2 hv3 hv4 hd
  cases v2 with
  | false =>
    have HE0 : Hid (pkOk d p ra rb = false) := Lib.hid (by rw [HV.out]; simp)
    have HE1 := Lib.hid (pk_no HE0.out)
    rw [HE0.out]
    go_enter Try.func7, Try.ntmps7
    go_wp2_with fail
    refine (impl_leaf _ HD.out HP.out).mono ?_
    rw [← H2.out]
    rintro e w1 ⟨rfl, hw⟩
    subst hw
    go_wp2_with fail
    rw [HE1.out.1, HE1.out.2, HE1.out.2, HE1.out.2]
    exact bodyPost_ret (v := .tuple #[.agg #[.int .i64 0, .int .i64 0, .slice none 0 0], .agg #[.int .i64 0, .int .i64 0, .slice none 0 0], .bool false]) (by simp [results, Try.results7, go_sem]) rfl ⟨_, _, rfl, OwnS.nil _ _ HB.out.size, OwnS.nil _ _ HB.out.size, Apart.nil _, HB.out⟩
  | true =>
  cases v3 with
  | false =>
    have HE0 : Hid (pkOk d p ra rb = false) := Lib.hid (by rw [HV.out]; simp)
    have HE1 := Lib.hid (pk_no HE0.out)
    rw [HE0.out]
    go_enter Try.func7, Try.ntmps7
    go_wp2_with fail
    refine (impl_leaf _ HD.out HP.out).mono ?_
    rw [← H2.out]
    rintro e w1 ⟨rfl, hw⟩
    subst hw
    go_wp2_with fail
    refine (isRoot_any HRA.out).mono ?_
    rw [← H3.out]
    rintro e w1 ⟨rfl, hw⟩
    subst hw
    go_wp2_with fail
    rw [HE1.out.1, HE1.out.2, HE1.out.2, HE1.out.2]
    exact bodyPost_ret (v := .tuple #[.agg #[.int .i64 0, .int .i64 0, .slice none 0 0], .agg #[.int .i64 0, .int .i64 0, .slice none 0 0], .bool false]) (by simp [results, Try.results7, go_sem]) rfl ⟨_, _, rfl, OwnS.nil _ _ HB.out.size, OwnS.nil _ _ HB.out.size, Apart.nil _, HB.out⟩
  | true =>
  cases v4 with
  | false =>
    have HE0 : Hid (pkOk d p ra rb = false) := Lib.hid (by rw [HV.out]; simp)
    have HE1 := Lib.hid (pk_no HE0.out)
    rw [HE0.out]
    go_enter Try.func7, Try.ntmps7
    go_wp2_with fail
    refine (impl_leaf _ HD.out HP.out).mono ?_
    rw [← H2.out]
    rintro e w1 ⟨rfl, hw⟩
    subst hw
    go_wp2_with fail
    refine (isRoot_any HRA.out).mono ?_
    rw [← H3.out]
    rintro e w1 ⟨rfl, hw⟩
    subst hw
    go_wp2_with fail
    refine (isRoot_any HRB.out).mono ?_
    rw [← H4.out]
    rintro e w1 ⟨rfl, hw⟩
    subst hw
    go_wp2_with fail
    rw [HE1.out.1, HE1.out.2, HE1.out.2, HE1.out.2]
    exact bodyPost_ret (v := .tuple #[.agg #[.int .i64 0, .int .i64 0, .slice none 0 0], .agg #[.int .i64 0, .int .i64 0, .slice none 0 0], .bool false]) (by simp [results, Try.results7, go_sem]) rfl ⟨_, _, rfl, OwnS.nil _ _ HB.out.size, OwnS.nil _ _ HB.out.size, Apart.nil _, HB.out⟩
  | true =>
  have hok : pkOk d p ra rb = true := by rw [HV.out]; rfl
  obtain ⟨D, I, rfl, rfl, hD1, hD6, hI, _, _⟩ := pkOk_iff.1 hok
  have hI63 : I ≤ 63 := by have := (pow_le6 hD6).2; omega
  have HE0 := Lib.hid hok
  have HE1 := Lib.hid (pk_yes hok)
  rw [HE0.out, HE1.out.1, HE1.out.2, HE1.out.2, HE1.out.2]
  obtain ⟨cs, hcs⟩ : ∃ cs, cs = mkc D I (ra, 0) (rb, 1) := ⟨_, rfl⟩
  rw [← hcs]
  have HCS := Lib.hid hcs
  obtain ⟨i0, hi, hz0, hz1, hz2⟩ := info_parts infoCorrection
  have Hhi := Lib.hid hi
  have KK := blocks3T (w.alloc (.cells #[.int .i64 0, .int .i64 0, .slice none 0 0] 31)) (.cells #[.int .i64 0, .int .i64 0, .slice none 0 0] 31) (.cells #[.int .i64 ra, .int .i64 0] 44) (.cells #[.int .i64 rb, .int .i64 1] 44)
  have K12 := blocks3T w (.cells #[.int .i64 0, .int .i64 0, .slice none 0 0] 31) (.cells #[.int .i64 0, .int .i64 0, .slice none 0 0] 31) (.cells #[.int .i64 ra, .int .i64 0] 44)
  rw [World.size_alloc] at KK
  have hB4 := (HB.out.alloc HB.out.size (.cells #[.int .i64 ra, .int .i64 0] 44)).alloc (by have := HB.out.size; simp; omega) (.cells #[.int .i64 rb, .int .i64 1] 44)
  have hk1 : ((((w.alloc (.cells #[.int .i64 0, .int .i64 0, .slice none 0 0] 31)).alloc (.cells #[.int .i64 0, .int .i64 0, .slice none 0 0] 31)).alloc (.cells #[.int .i64 ra, .int .i64 0] 44)).alloc (.cells #[.int .i64 rb, .int .i64 1] 44)).heap[w.heap.size]? = some (.cells #[.int .i64 0, .int .i64 0, .slice none 0 0] 31) := (heap_alloc_old _ (.cells #[.int .i64 rb, .int .i64 1] 44) (by simp; omega)).trans K12.1
  have hk2 : ((((w.alloc (.cells #[.int .i64 0, .int .i64 0, .slice none 0 0] 31)).alloc (.cells #[.int .i64 0, .int .i64 0, .slice none 0 0] 31)).alloc (.cells #[.int .i64 ra, .int .i64 0] 44)).alloc (.cells #[.int .i64 rb, .int .i64 1] 44)).heap[w.heap.size + 1]? = some (.cells #[.int .i64 0, .int .i64 0, .slice none 0 0] 31) := KK.1
  have hka : ((((w.alloc (.cells #[.int .i64 0, .int .i64 0, .slice none 0 0] 31)).alloc (.cells #[.int .i64 0, .int .i64 0, .slice none 0 0] 31)).alloc (.cells #[.int .i64 ra, .int .i64 0] 44)).alloc (.cells #[.int .i64 rb, .int .i64 1] 44)).heap[w.heap.size + 1 + 1]? = some (.cells #[.int .i64 ra, .int .i64 0] 44) := KK.2.1
  have hkb : ((((w.alloc (.cells #[.int .i64 0, .int .i64 0, .slice none 0 0] 31)).alloc (.cells #[.int .i64 0, .int .i64 0, .slice none 0 0] 31)).alloc (.cells #[.int .i64 ra, .int .i64 0] 44)).alloc (.cells #[.int .i64 rb, .int .i64 1] 44)).heap[w.heap.size + 1 + 1 + 1]? = some (.cells #[.int .i64 rb, .int .i64 1] 44) := KK.2.2
  have hs4 : ((((w.alloc (.cells #[.int .i64 0, .int .i64 0, .slice none 0 0] 31)).alloc (.cells #[.int .i64 0, .int .i64 0, .slice none 0 0] 31)).alloc (.cells #[.int .i64 ra, .int .i64 0] 44)).alloc (.cells #[.int .i64 rb, .int .i64 1] 44)).heap.size = w.heap.size + 1 + 1 + 1 + 1 := by simp
  have J1 := Lib.hid hk1
  have J2 := Lib.hid hk2
  have JA := Lib.hid hka
  have JB := Lib.hid hkb
  have J4 := Lib.hid hB4
  have HS4 := Lib.hid hs4
  clear hok hI hi hcs h1 KK K12 hk1 hk2 hka hkb hB4 hs4
  go_enter Try.func7, Try.ntmps7
  go_wp2_with fail
  refine (impl_leaf _ HD.out HP.out).mono ?_
  rw [← H2.out]
  rintro e w1 ⟨rfl, hw⟩
  subst hw
  go_wp2_with fail
  refine (isRoot_any HRA.out).mono ?_
  rw [← H3.out]
  rintro e w1 ⟨rfl, hw⟩
  subst hw
  go_wp2_with fail
  refine (isRoot_any HRB.out).mono ?_
  rw [← H4.out]
  rintro e w1 ⟨rfl, hw⟩
  subst hw
  go_wp2_with (first | (at_make; refine wpList_make_full _ rfl _ _ 29 rfl (w.heap.size + 1 + 1 + 1 + 1) 47 i0 (.agg #[.int .i64 0, .int .i64 0, .int .i64 0]) 3 Try.underlying29 Hhi.out hz0 hz1 .i64 .i64 _ _ D rfl rfl rfl rfl (by rw [hz2]; omega) (by unfold maxLen; omega) (by rw [HS4.out]; exact Nat.le_refl _) ?_))
  intro w5 hown hg
  have hO := OwnS.made (E := corE) (x := (0, 0, 0)) (zc := #[.int .i64 0, .int .i64 0, .int .i64 0]) ⟨by decide, by decide, by decide⟩ rfl (by have := hg.size; rwa [HS4.out] at this) hown
  have HO := Lib.hid hO
  have K1 := Lib.hid ((hg.block _ (lt_of_block J1.out) (by intro e; cases e)).trans J1.out)
  have K2 := Lib.hid ((hg.block _ (lt_of_block J2.out) (by intro e; cases e)).trans J2.out)
  have KA := Lib.hid ((hg.block _ (lt_of_block JA.out) (by intro e; cases e)).trans JA.out)
  have KB := Lib.hid ((hg.block _ (lt_of_block JB.out) (by intro e; cases e)).trans JB.out)
  replace HB := Lib.hid (J4.out.grown hg J4.out.size (fun k hk => by cases hk))
  clear hown hg hO J1 J2 JA JB J4
  go_wp2_with fail
  go_loopw [45] (fun i wr => ∃ (j m : Nat) (A B : Int × Int) (dn : List Cor), i = .int .i64 j ∧ m + j = D ∧ dn.length = j ∧ dn ++ mkc m I A B = cs ∧ (Lit.int .i64 A.1).wf = true ∧ (Lit.int .i64 B.1).wf = true ∧ OwnS corE 47 (w.heap.size + 1 + 1 + 1 + 1) wr (.slice (some ⟨w.heap.size + 1 + 1 + 1 + 1, 0, none⟩) D D) (dn ++ List.replicate m (0, 0, 0)) ∧ wr.heap[w.heap.size]? = some (.cells #[.int .i64 0, .int .i64 0, .slice none 0 0] 31) ∧ wr.heap[w.heap.size + 1]? = some (.cells #[.int .i64 0, .int .i64 0, .slice none 0 0] 31) ∧ wr.heap[w.heap.size + 1 + 1]? = some (.cells #[.int .i64 A.1, .int .i64 A.2] 44) ∧ wr.heap[w.heap.size + 1 + 1 + 1]? = some (.cells #[.int .i64 B.1, .int .i64 B.2] 44) ∧ Below w.heap.size w wr) (fun i _ => D - (intOf i).toNat)
  case atStart => exact ⟨0, D, (ra, 0), (rb, 1), [], rfl, by omega, rfl, by rw [HCS.out]; rfl, HRA.out, HRB.out, HO.out, K1.out, K2.out, KA.out, KB.out, HB.out⟩
  case round =>
    obtain ⟨j, m, A, B, dn, rfl, hmj, hdn, hmk, hA, hBw, hO, hK1, hK2, hKA, hKB, hB⟩ := hrel
    replace HO := Lib.hid hO
    replace K1 := Lib.hid hK1
    replace K2 := Lib.hid hK2
    replace KA := Lib.hid hKA
    replace KB := Lib.hid hKB
    replace HB := Lib.hid hB
    have HA := Lib.hid hA
    have HBw := Lib.hid hBw
    have HMK := Lib.hid hmk
    have HDN := Lib.hid hdn
    have HMJ := Lib.hid hmj
    clear hO hK1 hK2 hKA hKB hB hA hBw hmk hdn
    by_cases hlt : j < D
    · have e1 : decide ((j : Int) < (D : Int)) = true := by simp; omega
      have hlt' : (j : Int) < (D : Int) := by omega
      obtain ⟨m, rfl⟩ : ∃ m', m = m' + 1 := ⟨m - 1, by omega⟩
      have hm6 : m ≤ 6 := by omega
      have e4 : (D : Int) - 1 - (j : Int) = (m : Int) := by omega
      obtain ⟨sd, hsd⟩ : ∃ sd, sd = bt I m := ⟨_, rfl⟩
      have h01 : sd = 0 ∨ sd = 1 := by rw [hsd]; exact bt01 _ _
      obtain ⟨c, hc⟩ : ∃ c, c = cor1 A.1 B.1 sd := ⟨_, rfl⟩
      have HSt : Hid (dn ++ [c] ++ mkc m I (evN A.1 A.2 sd c) (evN B.1 B.2 sd c) = cs) := Lib.hid (by
        rw [← HMK.out, mkc_succ, hc, hsd]
        simp)
      have HCk : Hid (cok c) := Lib.hid (by rw [hc]; exact cor1_ok _ _ _)
      have HC := Lib.hid hc
      have HSd := Lib.hid hsd
      have H01 := Lib.hid h01
      have HM6 := Lib.hid hm6
      have HSw : Hid ((Lit.int .i64 sd).wf = true) := Lib.hid (by rcases h01 with rfl | rfl <;> decide)
      have a0 := blk_cell KA.out 0
      have a1 := blk_cell KA.out 1
      have b0 := blk_cell KB.out 0
      have b1 := blk_cell KB.out 1
      rw [tw0] at a0 b0
      rw [tw1] at a1 b1
      clear hc hsd h01 hmj
      go_wp2_with fail
      refine (impl_side _ I m hI63 HM6.out).mono ?_
      rw [← HSd.out]
      rintro e w1 ⟨rfl, hw1⟩
      obtain rfl : wr = w1 := hw1.symm
      go_wp2_with fail
      refine (cor_any HA.out HBw.out H01.out).mono ?_
      rw [← HC.out]
      rintro e w2 ⟨rfl, hb⟩
      have hB2 := HB.out.trans (hb.mono HB.out.size)
      have q1 := (hb.block _ (lt_of_block K1.out)).trans K1.out
      have q2 := (hb.block _ (lt_of_block K2.out)).trans K2.out
      have qa := (hb.block _ (lt_of_block KA.out)).trans KA.out
      have qb := (hb.block _ (lt_of_block KB.out)).trans KB.out
      have hO2 := HO.out.next hb
      have q1' := (heap_alloc_old w2 (.cells #[.int .i64 c.1, .int .i64 c.2.1, .int .i64 c.2.2] 47) (lt_of_block q1)).trans q1
      have q2' := (heap_alloc_old w2 (.cells #[.int .i64 c.1, .int .i64 c.2.1, .int .i64 c.2.2] 47) (lt_of_block q2)).trans q2
      have qa' := (heap_alloc_old w2 (.cells #[.int .i64 c.1, .int .i64 c.2.1, .int .i64 c.2.2] 47) (lt_of_block qa)).trans qa
      have qb' := (heap_alloc_old w2 (.cells #[.int .i64 c.1, .int .i64 c.2.1, .int .i64 c.2.2] 47) (lt_of_block qb)).trans qb
      have qc' := heap_alloc_new w2 (.cells #[.int .i64 c.1, .int .i64 c.2.1, .int .i64 c.2.2] 47)
      have hO3 := hO2.alloc (.cells #[.int .i64 c.1, .int .i64 c.2.1, .int .i64 c.2.2] 47)
      have hB3 := hB2.alloc hB2.size (.cells #[.int .i64 c.1, .int .i64 c.2.1, .int .i64 c.2.2] 47)
      have HLb := Lib.hid (lt_of_block qb)
      have HLo := Lib.hid hO2.lt
      clear hb hB2 q1 q2 qa qb hO2 a0 a1 b0 b1
      go_wp2_with fail
      obtain ⟨W3, hW3⟩ : ∃ W, W = w2.alloc (.cells #[.int .i64 c.1, .int .i64 c.2.1, .int .i64 c.2.2] 47) := ⟨_, rfl⟩
      rw [← hW3] at q1' q2' qa' qb' qc' hO3 hB3 ⊢
      replace K1 := Lib.hid q1'
      replace K2 := Lib.hid q2'
      replace KA := Lib.hid qa'
      replace KB := Lib.hid qb'
      have KC := Lib.hid qc'
      replace HO := Lib.hid hO3
      replace HB := Lib.hid hB3
      clear q1' q2' qa' qb' qc' hO3 hB3 hW3
      have HCs : Hid (∀ w', Below W3.heap.size W3 w' → (w'.cell? ⟨w.heap.size + 1 + 1, 0, none⟩ = some (.int .i64 A.1) ∧ w'.cell? ⟨w.heap.size + 1 + 1, 1, none⟩ = some (.int .i64 A.2) ∧ w'.cell? ⟨w.heap.size + 1 + 1 + 1, 0, none⟩ = some (.int .i64 B.1) ∧ w'.cell? ⟨w.heap.size + 1 + 1 + 1, 1, none⟩ = some (.int .i64 B.2) ∧ w'.cell? ⟨w2.heap.size, 0, none⟩ = some (.int .i64 c.1) ∧ w'.cell? ⟨w2.heap.size, 1, none⟩ = some (.int .i64 c.2.1) ∧ w'.cell? ⟨w2.heap.size, 2, none⟩ = some (.int .i64 c.2.2))) := Lib.hid (fun w' hb =>
        have qa := (hb.block _ (lt_of_block KA.out)).trans KA.out
        have qb := (hb.block _ (lt_of_block KB.out)).trans KB.out
        have qc := (hb.block _ (lt_of_block KC.out)).trans KC.out
        ⟨(blk_cell qa 0).trans (tw0 _ _), (blk_cell qa 1).trans (tw1 _ _), (blk_cell qb 0).trans (tw0 _ _), (blk_cell qb 1).trans (tw1 _ _), (blk_cell qc 0).trans (th0 _ _ _), (blk_cell qc 1).trans (th1 _ _ _), (blk_cell qc 2).trans (th2 _ _ _)⟩)
      have d0 := HCs.out W3.drew (Below.refl _ _).drew
      refine region_till (fun w' => w'.cell? ⟨w.heap.size + 1 + 1, 0, none⟩ = some (.int .i64 A.1) ∧ w'.cell? ⟨w.heap.size + 1 + 1, 1, none⟩ = some (.int .i64 A.2) ∧ w'.cell? ⟨w.heap.size + 1 + 1 + 1, 0, none⟩ = some (.int .i64 B.1) ∧ w'.cell? ⟨w.heap.size + 1 + 1 + 1, 1, none⟩ = some (.int .i64 B.2) ∧ w'.cell? ⟨w2.heap.size, 0, none⟩ = some (.int .i64 c.1) ∧ w'.cell? ⟨w2.heap.size, 1, none⟩ = some (.int .i64 c.2.1) ∧ w'.cell? ⟨w2.heap.size, 2, none⟩ = some (.int .i64 c.2.2)) 8 (by kernel_rfl) ?_
      apply Till.take (i := 0) [0, 3, 8]
      · simp only [List.getElem?_toArray, List.getElem?_cons_zero]
        rfl
      · kernel_rfl
      · kernel_rfl
      · kernel_rfl
      · kernel_rfl
      · exact fun _ _ _ h => h
      · first
          | exact Or.inr ⟨by rfl, rfl⟩
          | (refine Or.inl ⟨by rfl, fun wq hwq => ?_⟩
             dsimp only at hwq
             go_simp
             first
               | done
               | rfl)
      · exact d0
      simp only [Act.put, List.setIfInBounds_toArray, List.set_cons_zero, List.set_cons_succ]
      apply Till.take (i := 1) [1, 3, 8]
      · simp only [List.getElem?_toArray, List.getElem?_cons_succ, List.getElem?_cons_zero]
        rfl
      · kernel_rfl
      · kernel_rfl
      · kernel_rfl
      · kernel_rfl
      · exact fun _ _ _ h => h
      · first
          | exact Or.inr ⟨by rfl, rfl⟩
          | (refine Or.inl ⟨by rfl, fun wq hwq => ?_⟩
             dsimp only at hwq
             go_simp
             first
               | done
               | rfl)
      · exact d0
      simp only [Act.put, List.setIfInBounds_toArray, List.set_cons_zero, List.set_cons_succ]
      apply Till.take (i := 2) [2, 3, 8]
      · simp only [List.getElem?_toArray, List.getElem?_cons_succ, List.getElem?_cons_zero]
        rfl
      · kernel_rfl
      · kernel_rfl
      · kernel_rfl
      · kernel_rfl
      · exact fun _ _ _ h => h
      · first
          | exact Or.inr ⟨by rfl, rfl⟩
          | (refine Or.inl ⟨by rfl, fun wq hwq => ?_⟩
             dsimp only at hwq
             go_simp
             first
               | done
               | rfl)
      · exact d0
      simp only [Act.put, List.setIfInBounds_toArray, List.set_cons_zero, List.set_cons_succ]
      apply Till.take (i := 4) [4, 7, 8]
      · simp only [List.getElem?_toArray, List.getElem?_cons_succ, List.getElem?_cons_zero]
        rfl
      · kernel_rfl
      · kernel_rfl
      · kernel_rfl
      · kernel_rfl
      · exact fun _ _ _ h => h
      · first
          | exact Or.inr ⟨by rfl, rfl⟩
          | (refine Or.inl ⟨by rfl, fun wq hwq => ?_⟩
             dsimp only at hwq
             go_simp
             first
               | done
               | rfl)
      · exact d0
      simp only [Act.put, List.setIfInBounds_toArray, List.set_cons_zero, List.set_cons_succ]
      apply Till.take (i := 5) [5, 7, 8]
      · simp only [List.getElem?_toArray, List.getElem?_cons_succ, List.getElem?_cons_zero]
        rfl
      · kernel_rfl
      · kernel_rfl
      · kernel_rfl
      · kernel_rfl
      · exact fun _ _ _ h => h
      · first
          | exact Or.inr ⟨by rfl, rfl⟩
          | (refine Or.inl ⟨by rfl, fun wq hwq => ?_⟩
             dsimp only at hwq
             go_simp
             first
               | done
               | rfl)
      · exact d0
      simp only [Act.put, List.setIfInBounds_toArray, List.set_cons_zero, List.set_cons_succ]
      apply Till.take (i := 6) [6, 7, 8]
      · simp only [List.getElem?_toArray, List.getElem?_cons_succ, List.getElem?_cons_zero]
        rfl
      · kernel_rfl
      · kernel_rfl
      · kernel_rfl
      · kernel_rfl
      · exact fun _ _ _ h => h
      · first
          | exact Or.inr ⟨by rfl, rfl⟩
          | (refine Or.inl ⟨by rfl, fun wq hwq => ?_⟩
             dsimp only at hwq
             go_simp
             first
               | done
               | rfl)
      · exact d0
      simp only [Act.put, List.setIfInBounds_toArray, List.set_cons_zero, List.set_cons_succ]
      apply Till.one (i := 3)
      · kernel_rfl
      · simp only [List.getElem?_toArray, List.getElem?_cons_succ, List.getElem?_cons_zero]
        rfl
      intro K hK
      go_simp
      refine (child_any HA.out HSw.out).mono ?_
      obtain ⟨A', hA'⟩ : ∃ z, z = evN A.1 A.2 sd c := ⟨_, rfl⟩
      rw [← hA']
      have HA' := Lib.hid hA'
      clear hA'
      rintro e' w6 ⟨he, hb⟩
      subst he
      have hb6 : Below W3.heap.size W3 w6 := (Below.refl _ _).drew.trans (hb.mono (Nat.le_refl _))
      have HB6 := Lib.hid hb6
      have d6 := HCs.out w6 hb6
      clear hb hb6
      refine hK.out _ _ (Or.inr d6) ?_
      clear hK K
      try simp only [Act.put, List.setIfInBounds_toArray, List.set_cons_zero, List.set_cons_succ]
      apply Till.one (i := 7)
      · kernel_rfl
      · simp only [List.getElem?_toArray, List.getElem?_cons_succ, List.getElem?_cons_zero]
        rfl
      intro K hK
      go_simp
      refine (child_any HBw.out HSw.out).mono ?_
      obtain ⟨B', hB'⟩ : ∃ z, z = evN B.1 B.2 sd c := ⟨_, rfl⟩
      rw [← hB']
      have HB' := Lib.hid hB'
      clear hB'
      rintro e' w7 ⟨he, hb⟩
      subst he
      have hb7 : Below W3.heap.size W3 w7 := HB6.out.trans (hb.mono HB6.out.size)
      have d7 := HCs.out w7 hb7
      have KA7 := (hb7.block _ (lt_of_block KA.out)).trans KA.out
      have KB7 := (hb7.block _ (lt_of_block KB.out)).trans KB.out
      have fa0 := blk_free KA7 0
      have fa1 := blk_free KA7 1
      have fb0 := blk_free KB7 0
      have fb1 := blk_free KB7 1
      have HB7 := Lib.hid hb7
      clear hb hb7
      refine hK.out _ _ (Or.inr d7) ?_
      clear hK K
      try simp only [Act.put, List.setIfInBounds_toArray, List.set_cons_zero, List.set_cons_succ]
      apply Till.one (i := 8)
      · kernel_rfl
      · simp only [List.getElem?_toArray, List.getElem?_cons_succ, List.getElem?_cons_zero]
        rfl
      intro K hK
      go_simp
      skip
      refine hK.out _ _ (Or.inl (by rfl)) ?_
      clear hK K
      try simp only [Act.put, List.setIfInBounds_toArray, List.set_cons_zero, List.set_cons_succ]
      apply Till.one (i := 9)
      · kernel_rfl
      · simp only [List.getElem?_toArray, List.getElem?_cons_succ, List.getElem?_cons_zero]
        rfl
      intro K hK
      go_simp
      skip
      refine hK.out _ _ (Or.inl (by rfl)) ?_
      clear hK K
      try simp only [Act.put, List.setIfInBounds_toArray, List.set_cons_zero, List.set_cons_succ]
      refine Till.done (by kernel_rfl) ?_ _
      obtain ⟨p1, p2⟩ := put2 KA7 (.int .i64 A'.1) (.int .i64 A'.2)
      have KB8 := (p2.block _ (lt_of_block KB7) (by omega)).trans KB7
      obtain ⟨q1, q2⟩ := put2 KB8 (.int .i64 B'.1) (.int .i64 B'.2)
      have p1' := (q2.block _ (lt_of_block p1) (by omega)).trans p1
      have pq := (p2.mono (G := fun c => c = w.heap.size + 1 + 1 ∨ c = w.heap.size + 1 + 1 + 1) (fun b hb => .inl hb)).trans (q2.mono (fun b hb => .inr hb))
      have k1 := (pq.block _ (lt_of_block ((HB7.out.block _ (lt_of_block K1.out)).trans K1.out)) (by omega)).trans ((HB7.out.block _ (lt_of_block K1.out)).trans K1.out)
      have k2 := (pq.block _ (lt_of_block ((HB7.out.block _ (lt_of_block K2.out)).trans K2.out)) (by omega)).trans ((HB7.out.block _ (lt_of_block K2.out)).trans K2.out)
      have kc := (pq.block _ (lt_of_block ((HB7.out.block _ (lt_of_block KC.out)).trans KC.out)) (by have := HLb.out; omega)).trans ((HB7.out.block _ (lt_of_block KC.out)).trans KC.out)
      have ho := (HO.out.next HB7.out).keptF pq (fun r hr he => by have := (HO.out.lt r hr).1; omega)
      have hb := (HB.out.trans (HB7.out.mono HB.out.size)).trans (pq.below (B := w.heap.size) (fun b hb => by omega) (by have := HB.out.size; have := HB7.out.size; omega))
      obtain ⟨W8, hW8⟩ : ∃ W8, W8 = (((w7.setCell ⟨w.heap.size + 1 + 1, 0, none⟩ (.int .i64 A'.1)).setCell ⟨w.heap.size + 1 + 1, 1, none⟩ (.int .i64 A'.2)).setCell ⟨w.heap.size + 1 + 1 + 1, 0, none⟩ (.int .i64 B'.1)).setCell ⟨w.heap.size + 1 + 1 + 1, 1, none⟩ (.int .i64 B'.2) := ⟨_, rfl⟩
      rw [← hW8] at p1' q1 k1 k2 kc ho hb ⊢
      replace K1 := Lib.hid k1
      replace K2 := Lib.hid k2
      replace KA := Lib.hid p1'
      replace KB := Lib.hid q1
      replace KC := Lib.hid kc
      replace HO := Lib.hid ho
      replace HB := Lib.hid hb
      clear p1 p2 p1' q1 q2 pq k1 k2 kc ho hb hW8 d0 d6 d7 KA7 KB7 KB8 fa0 fa1 fb0 fb1
      have hgt : (dn ++ List.replicate (m + 1) ((0, 0, 0) : Cor))[j]? = some (0, 0, 0) := by
        rw [List.getElem?_append_right (by have := HDN.out; omega), HDN.out, Nat.sub_self, List.getElem?_replicate, if_pos (by omega)]
      have HGt := Lib.hid hgt
      have g0 : W8.cell? ⟨w.heap.size + 1 + 1 + 1 + 1, j * 3, none⟩ = some (.int .i64 0) := HO.out.cellAt (j := 0) hgt rfl
      have g1 : W8.cell? ⟨w.heap.size + 1 + 1 + 1 + 1, j * 3 + 1, none⟩ = some (.int .i64 0) := HO.out.cellAt (j := 1) hgt rfl
      have g2 : W8.cell? ⟨w.heap.size + 1 + 1 + 1 + 1, j * 3 + 2, none⟩ = some (.int .i64 0) := HO.out.cellAt (j := 2) hgt rfl
      have f0 : W8.frozen? ⟨w.heap.size + 1 + 1 + 1 + 1, j * 3, none⟩ = false := HO.out.free _
      have f1 : W8.frozen? ⟨w.heap.size + 1 + 1 + 1 + 1, j * 3 + 1, none⟩ = false := HO.out.free _
      have f2 : W8.frozen? ⟨w.heap.size + 1 + 1 + 1 + 1, j * 3 + 2, none⟩ = false := HO.out.free _
      have cc0 := blk_cell KC.out 0
      have cc1 := blk_cell KC.out 1
      have cc2 := blk_cell KC.out 2
      rw [th0] at cc0
      rw [th1] at cc1
      rw [th2] at cc2
      clear hgt
      go_wp2_with fail
      go_roundw
      case rel =>
        have hlD := HO.out.len_eq
        obtain ⟨s0, t0⟩ := HO.out.set1 (j := 0) (y := (c.1, 0, 0)) HGt.out (by decide) rfl ⟨HCk.out.1, (show (Lit.int .i64 0).wf = true by decide), (show (Lit.int .i64 0).wf = true by decide)⟩
        have hg1 : ((dn ++ List.replicate (m + 1) ((0, 0, 0) : Cor)).set j (c.1, 0, 0))[j]? = some (c.1, 0, 0) := List.getElem?_set_self (by omega)
        obtain ⟨s1, t1⟩ := s0.set1 (j := 1) (y := (c.1, c.2.1, 0)) hg1 (by decide) rfl ⟨HCk.out.1, HCk.out.2.1, (show (Lit.int .i64 0).wf = true by decide)⟩
        rw [List.set_set] at s1
        have hg2 : ((dn ++ List.replicate (m + 1) ((0, 0, 0) : Cor)).set j (c.1, c.2.1, 0))[j]? = some (c.1, c.2.1, 0) := List.getElem?_set_self (by omega)
        obtain ⟨s2, t2⟩ := s1.set1 (j := 2) (y := c) hg2 (by decide) rfl HCk.out
        rw [List.set_set] at s2
        have hset : (dn ++ List.replicate (m + 1) ((0, 0, 0) : Cor)).set j c = (dn ++ [c]) ++ List.replicate m (0, 0, 0) := by
          rw [List.set_append_right _ _ (by have := HDN.out; omega), HDN.out, Nat.sub_self, List.replicate_succ, List.set_cons_zero]
          simp
        rw [hset] at s2
        have tt := (grown_trans t0 (grown_trans t1 t2))
        have kf : KeptF (fun b => b = w.heap.size + 1 + 1 + 1 + 1) W8 _ := KeptF.of_grown tt (fun b hb => by injection hb with hb; exact hb.symm)
        refine ⟨j + 1, m, A', B', dn ++ [c], by simp, by have := HMJ.out; omega, by rw [List.length_append, HDN.out]; rfl, by rw [HA'.out, HB'.out]; exact HSt.out, by rw [HA'.out]; exact evN_wf1 _ _ _ _, by rw [HB'.out]; exact evN_wf1 _ _ _ _, s2, (kf.block _ (lt_of_block K1.out) (by omega)).trans K1.out, (kf.block _ (lt_of_block K2.out) (by omega)).trans K2.out, (kf.block _ (lt_of_block KA.out) (by omega)).trans KA.out, (kf.block _ (lt_of_block KB.out) (by omega)).trans KB.out, HB.out.trans (kf.below (B := w.heap.size) (fun b hb => by omega) HB.out.size)⟩
      case measure => simp [intOf]; omega
    · have e1 : decide ((j : Int) < (D : Int)) = false := by simp; omega
      obtain rfl : m = 0 := by omega
      have HE : Hid (dn = cs) := Lib.hid (by
        have := HMK.out
        rwa [mkc, List.append_nil] at this)
      have HOc : Hid (OwnS corE 47 (w.heap.size + 1 + 1 + 1 + 1) wr (.slice (some ⟨w.heap.size + 1 + 1 + 1 + 1, 0, none⟩) D D) cs) := Lib.hid (by
        have := HO.out
        rwa [List.replicate_zero, List.append_nil, HE.out] at this)
      have HLD := Lib.hid HOc.out.len_eq
      have HLt := Lib.hid HOc.out.lt
      have a0 := blk_cell K1.out 0
      have a1 := blk_cell K1.out 1
      have a2 := blk_cell K1.out 2
      have b0 := blk_cell K2.out 0
      have b1 := blk_cell K2.out 1
      have b2 := blk_cell K2.out 2
      have fa0 := blk_free K1.out 0
      have fa1 := blk_free K1.out 1
      have fa2 := blk_free K1.out 2
      have fb0 := blk_free K2.out 0
      have fb1 := blk_free K2.out 1
      have fb2 := blk_free K2.out 2
      rw [th0] at a0 b0
      rw [th1] at a1 b1
      rw [th2] at a2 b2
      clear hmj
      go_wp2_with fail
      refine (clone_any HOc.out.rd (Nat.le_refl _) HLD.out (by have := HLD.out; omega)).mono ?_
      rintro e w8 ⟨v8, rfl, h8, hb⟩
      obtain ⟨a8, c8, hu8, _⟩ := h8.open
      rw [← HLD.out] at hu8
      subst hu8
      have H8 := Lib.hid h8
      replace HOc := Lib.hid (HOc.out.next hb)
      have N1 := Lib.hid ((hb.block _ (lt_of_block K1.out)).trans K1.out)
      have N2 := Lib.hid ((hb.block _ (lt_of_block K2.out)).trans K2.out)
      have HB8 := Lib.hid (HB.out.trans (hb.mono HB.out.size))
      clear h8 hb a0 a1 a2 b0 b1 b2 fa0 fa1 fa2 fb0 fb1 fb2
      have a0 := blk_cell N1.out 0
      have a1 := blk_cell N1.out 1
      have a2 := blk_cell N1.out 2
      have b0 := blk_cell N2.out 0
      have b1 := blk_cell N2.out 1
      have b2 := blk_cell N2.out 2
      have fa0 := blk_free N1.out 0
      have fa1 := blk_free N1.out 1
      have fa2 := blk_free N1.out 2
      have fb0 := blk_free N2.out 0
      have fb1 := blk_free N2.out 1
      have fb2 := blk_free N2.out 2
      rw [th0] at a0 b0
      rw [th1] at a1 b1
      rw [th2] at a2 b2
      go_wp2_with fail
      obtain ⟨p1, p2⟩ := put3 N1.out (.int .i64 ra) (.int .i64 0) (.slice (some ⟨w.heap.size + 1 + 1 + 1 + 1, 0, none⟩) D D)
      have N2' := (p2.block _ (lt_of_block N2.out) (by omega)).trans N2.out
      obtain ⟨q1, q2⟩ := put3 N2' (.int .i64 rb) (.int .i64 1) (.slice a8 D c8)
      have p1' := (q2.block _ (lt_of_block p1) (by omega)).trans p1
      have pq := (p2.mono (G := fun c => c = w.heap.size ∨ c = w.heap.size + 1) (fun b hb => .inl hb)).trans (q2.mono (fun b hb => .inr hb))
      have hs8 := lt_of_block K2.out
      have Q1 := Lib.hid ((H8.out.keptF pq (fun r hr he => by have := (H8.out.lt r hr).1; omega)).mono (B' := w.heap.size) HB.out.size)
      have Q2 := Lib.hid ((HOc.out.keptF pq (fun r hr he => by have := (HOc.out.lt r hr).1; omega)).mono (B' := w.heap.size) (by omega))
      have Q3 := Lib.hid (HB8.out.trans (pq.below (B := w.heap.size) (fun b hb => by omega) HB8.out.size))
      have Q4 : Hid (Apart (.slice (some ⟨w.heap.size + 1 + 1 + 1 + 1, 0, none⟩) D D) (.slice a8 D c8)) := Lib.hid (fun r hr he => by have := (H8.out.lt r he).1; have := (HLt.out r hr).2; omega)
      obtain ⟨W5, hW5⟩ : ∃ W5, W5 = (((((w8.setCell ⟨w.heap.size, 0, none⟩ (.int .i64 ra)).setCell ⟨w.heap.size, 1, none⟩ (.int .i64 0)).setCell ⟨w.heap.size, 2, none⟩ (.slice (some ⟨w.heap.size + 1 + 1 + 1 + 1, 0, none⟩) D D)).setCell ⟨w.heap.size + 1, 0, none⟩ (.int .i64 rb)).setCell ⟨w.heap.size + 1, 1, none⟩ (.int .i64 1)).setCell ⟨w.heap.size + 1, 2, none⟩ (.slice a8 D c8) := ⟨_, rfl⟩
      rw [← hW5] at p1' q1 Q1 Q2 Q3 ⊢
      have r0 := blk_cell p1' 0
      have r1 := blk_cell p1' 1
      have r2 := blk_cell p1' 2
      have s0 := blk_cell q1 0
      have s1 := blk_cell q1 1
      have s2 := blk_cell q1 2
      rw [th0] at r0 s0
      rw [th1] at r1 s1
      rw [th2] at r2 s2
      clear a0 a1 a2 b0 b1 b2 fa0 fa1 fa2 fb0 fb1 fb2 hW5 p1 p2 q1 q2 p1' pq N2'
      exact bodyPost_ret (v := .tuple #[.agg #[.int .i64 ra, .int .i64 0, .slice (some ⟨w.heap.size + 1 + 1 + 1 + 1, 0, none⟩) D D], .agg #[.int .i64 rb, .int .i64 1, .slice a8 D c8], .bool true]) (by simp [results, Try.results7, go_sem, r0, r1, r2, s0, s1, s2]) rfl ⟨_, _, rfl, Q2.out, Q1.out, Q4.out, Q3.out⟩

end Go.Proofs.Ytaekjnacigicoaa
