/- FnUnitSelections: the walk. No conditions. -/
import Derived.Test.YtdeahjinnnhfkaaDraw8
import Derived.Test.YtdeahjinnnhfkaaLawBase
import Derived.Test.YtdeahjinnnhfkaaDb2
import Derived.Test.YtdeahjinnnhfkaaSel5
import Derived.Test.YtdeahjinnnhfkaaRdG
namespace Go.Proofs.Ytdeahjinnnhfkaa
open Go Go.RowKit
set_option linter.unusedVariables false
attribute [local irreducible] kh

theorem chosen_zero (zss : List (List Int)) (n : Nat) : chosen zss (List.replicate n 0) = [] := by
  induction zss generalizing n with
  | nil => exact chosen_nil _
  | cons x r ih =>
    cases n with
    | zero => rfl
    | succ n => rw [List.replicate_succ]; simp [chosen, ih n]
theorem chosen_unit {zss : List (List Int)} : ∀ {n I : Nat}, zss.length = n → I < n → chosen zss ((List.replicate n 0).set I 1) = [zss.getD I []] := by
  induction zss with
  | nil => intro n I h hI; simp at h; omega
  | cons x r ih =>
    intro n I h hI
    cases n with
    | zero => simp at h
    | succ n =>
      rw [List.replicate_succ]
      cases I with
      | zero => simp [chosen, chosen_zero]
      | succ I =>
        rw [List.set_cons_succ]
        have := ih (n := n) (I := I) (by simpa using h) (by omega)
        simp [chosen, this]
theorem cnt_unit {n I : Nat} (hI : I < n) : cnt ((List.replicate n (0 : Int)).set I 1) = 1 := by
  induction n generalizing I with
  | zero => omega
  | succ n ih =>
    rw [List.replicate_succ]
    cases I with
    | zero => simp [cnt, List.filter_replicate]
    | succ I => have := ih (I := I) (by omega); unfold cnt at this ⊢; simpa using this
theorem unitV_yes {n I : Nat} (h1 : 1 ≤ n) (h2 : n ≤ 64) (hI : I < n) : unitV (n : Int) (I : Int) = (List.replicate n 0).set I 1 := by
  unfold unitV
  rw [if_pos (by omega)]
  rfl
theorem unitV_no {r i : Int} (h : ¬ (1 ≤ r ∧ r ≤ 64 ∧ 0 ≤ i ∧ i ≤ r - 1)) : unitV r i = [] := if_neg h

/-- The marked rows. -/
def mrow (t : Nat) : List Int := (((t + 1 : Nat) : Int)) :: List.replicate 23 0
def mrows (n : Nat) : List (List Int) := (List.range n).map mrow
theorem mrows_len (n : Nat) : (mrows n).length = n := by simp [mrows]
theorem mrows_get {n t : Nat} (h : t < n) : (mrows n)[t]? = some (mrow t) := by simp [mrows, h]
theorem mrow_len (t : Nat) : (mrow t).length = 24 := rfl
theorem mrow_set (t : Nat) : (List.replicate 24 (0 : Int)).set 0 ((t + 1 : Nat) : Int) = mrow t := rfl
theorem mrow_u8 {t : Nat} (h : t ≤ 63) : U8s (mrow t) := fun z hz => by
  unfold mrow at hz
  rcases List.mem_cons.1 hz with rfl | hz
  · exact wf_u8_of (by omega) (by omega)
  · rw [List.eq_of_mem_replicate hz]; decide
theorem mrows_set {n j : Nat} (hj : j < n) : ((mrows n).take j ++ (List.replicate n (List.replicate 24 (0 : Int))).drop j).set j (mrow j) = (mrows n).take (j + 1) ++ (List.replicate n (List.replicate 24 0)).drop (j + 1) := by
  have hlen : ((mrows n).take j).length = j := by rw [List.length_take, mrows_len]; omega
  rw [List.set_append_right _ _ (by omega), hlen, Nat.sub_self, List.drop_eq_getElem_cons (by simpa using hj), List.set_cons_zero, List.take_add_one, mrows_get hj]
  simp
theorem sx_unit {n I : Nat} (h1 : 1 ≤ n) (h2 : n ≤ 64) (hI : I < n) : sx (mrows n) (unitV (n : Int) (I : Int)) = mrow I := by
  unfold sx
  rw [unitV_yes h1 h2 hI, chosen_unit (mrows_len n) hI, getD_of (mrows_get hI)]
  show xorl [] (mrow I) = mrow I
  exact xorl_nil (mrow_u8 (by omega))
theorem mrows_tot {n : Nat} (h : n ≤ 64) : tot (mrows n) ≤ 1099511627776 := by
  have h1 := fl_rows (zss := mrows n) (m := 24) (fun i zs hz => by
    have hi := (List.getElem?_eq_some_iff.1 hz).1
    rw [mrows_len] at hi
    rw [mrows_get hi] at hz
    injection hz with hz
    rw [← hz, mrow_len]
    exact Nat.le_refl _)
  unfold tot
  rw [mrows_len] at h1 ⊢
  omega

set_option maxHeartbeats 4000000 in
set_option maxRecDepth 20000 in
theorem fnUnitSelections_walk (a : Option Addr) (len cap : Nat) (zs : List Int) (w : World) (hrow : IsRow .u8 w a len cap zs) :
    Calls Try.prog 3 #[.slice a len cap] w fun e w' => e = .returned (.bool true) ∧ Below w.heap.size w w' := by
  obtain ⟨hr, hl⟩ := row_own hrow
  obtain ⟨s, A, l⟩ : ∃ s, Rd w.heap.size .u8 w (.slice a len cap) s ∧ len = s.length := ⟨zs.take len, hrow.rd, hrow.rd.len_eq⟩
  subst l
  have HR := Lib.hid hr
  have HL := Lib.hid hl
  have hl' : s.length ≤ 9223372036854775807 := by unfold maxLen at hl; omega
  clear hr hrow hl A
  by_cases hbig : 1048576 < s.length
  · have e0 : decide ((1048576 : Int) < (s.length : Int)) = true := by simp; omega
    go_enter Try.func3, Try.ntmps3
    go_wp2_with fail
    refine (big_is a s.length cap _ hl').mono ?_
    rw [e0]
    rintro e w0 ⟨rfl, rfl⟩
    go_wp2_with fail
    go_ret
    exact ⟨rfl, Below.refl _ _⟩
  have e0 : decide ((1048576 : Int) < (s.length : Int)) = false := by simp; omega
  clear hbig
  go_enter Try.func3, Try.ntmps3
  go_wp2_with fail
  refine (big_is a s.length cap _ hl').mono ?_
  rw [e0]
  rintro e w0 ⟨rfl, hw0⟩
  obtain rfl : w = w0 := hw0.symm
  clear hw0
  go_wp2_with fail
  refine (draw_us w.heap.size a s.length cap zs _ (Nat.le_refl _) HR.out HL.out).mono ?_
  rintro e w1 ⟨r, i, rfl, r0, r1, i0, i1, hb⟩
  have HB := Lib.hid hb
  have HRw : Hid ((Lit.int .i64 r).wf = true) := Lib.hid (wf_i64_of (by omega) (by omega))
  have HIw : Hid ((Lit.int .i64 i).wf = true) := Lib.hid (wf_i64_of (by omega) (by omega))
  clear hb
  go_wp2_with fail
  refine (impl_us HRw.out HIw.out).mono ?_
  rintro e w2 ⟨vu, rfl, hU, hb⟩
  obtain ⟨U, hUe⟩ : ∃ U, U = unitV r i := ⟨_, rfl⟩
  rw [← hUe] at hU
  have HUe := Lib.hid hUe
  obtain ⟨au, cu, hvu, hgu⟩ := hU.open
  obtain ⟨LU, hLU⟩ : ∃ L, L = U.length := ⟨_, rfl⟩
  rw [← hLU] at hvu hgu
  subst hvu
  have HGu := Lib.hid hgu
  have HLU := Lib.hid hLU
  have HU := Lib.hid (hU.mono HB.out.size)
  replace HB := Lib.hid (HB.out.trans (hb.mono HB.out.size))
  clear hU hb hUe hgu hLU
  by_cases hin : 1 ≤ r ∧ r ≤ 64 ∧ 0 ≤ i ∧ i ≤ r - 1
  case neg =>
    have hLU0 : LU = 0 := by rw [HLU.out, HUe.out, unitV_no hin]; rfl
    subst hLU0
    by_cases h1 : r < 1
    · have e1 : decide (r < 1) = true := by simp; omega
      clear hin h1
      go_wp2_with fail
      go_ret
      exact ⟨rfl, HB.out⟩
    have e1 : decide (r < 1) = false := by simp; omega
    by_cases h2 : 64 < r
    · have e2 : decide (64 < r) = true := by simp; omega
      clear hin h1 h2
      go_wp2_with fail
      go_ret
      exact ⟨rfl, HB.out⟩
    have e2 : decide (64 < r) = false := by simp; omega
    by_cases h3 : i < 0
    · have e3 : decide (i < 0) = true := by simp; omega
      clear hin h1 h2 h3
      go_wp2_with fail
      go_ret
      exact ⟨rfl, HB.out⟩
    have e3 : decide (i < 0) = false := by simp; omega
    have e4 : decide (r ≤ i) = true := by simp; omega
    clear hin h1 h2 h3
    go_wp2_with fail
    go_ret
    exact ⟨rfl, HB.out⟩
  obtain ⟨R, rfl⟩ : ∃ R : Nat, r = (R : Int) := ⟨r.toNat, by omega⟩
  obtain ⟨I, rfl⟩ : ∃ I : Nat, i = (I : Int) := ⟨i.toNat, by omega⟩
  have hR1 : 1 ≤ R := by omega
  have hR64 : R ≤ 64 := by omega
  have hIR : I < R := by omega
  have e1 : decide ((R : Int) < 1) = false := by simp; omega
  have e2 : decide ((64 : Int) < (R : Int)) = false := by simp; omega
  have e3 : decide ((I : Int) < 0) = false := by simp
  have e4 : decide ((R : Int) ≤ (I : Int)) = false := by simp; omega
  obtain rfl : R = LU := by symm; show LU = R; rw [HLU.out, HUe.out, unitV_yes hR1 hR64 hIR]; simp
  have HUc : Hid (cnt U = 1) := Lib.hid (by rw [HUe.out, unitV_yes hR1 hR64 hIR]; exact cnt_unit hIR)
  have HUi : Hid (U.getD I 0 = 1) := Lib.hid (by rw [HUe.out, unitV_yes hR1 hR64 hIR]; simp [List.getD_eq_getElem?_getD, hIR])
  have HSx : Hid (sx (mrows R) U = mrow I) := Lib.hid (by rw [HUe.out]; exact sx_unit hR1 hR64 hIR)
  have HTm := Lib.hid (mrows_tot hR64)
  have HNe := Lib.hid (newR_yes hR64)
  clear hin
  go_wp2_with fail
  refine (impl_new HRw.out).mono ?_
  rw [HNe.out]
  rintro e w3 ⟨vd, rfl, hO, hb⟩
  obtain ⟨ad, cd, hvd, _, hcd, hgd⟩ := hO.open
  rw [List.length_replicate] at hvd hgd
  obtain ⟨g, hg, _⟩ := hgd (by omega)
  subst hg
  subst hvd
  unfold maxLen at hcd
  have HU3 := Lib.hid ((HU.out.next hb).alloc (.cells #[.slice (some ⟨g, 0, none⟩) R cd] 30))
  have hB3 := HB.out.trans (hb.mono HB.out.size)
  have HB3 := Lib.hid (hB3.alloc hB3.size (.cells #[.slice (some ⟨g, 0, none⟩) R cd] 30))
  have HO3 := Lib.hid (hO.alloc (.cells #[.slice (some ⟨g, 0, none⟩) R cd] 30))
  have HD3 := Lib.hid (heap_alloc_new w3 (.cells #[.slice (some ⟨g, 0, none⟩) R cd] 30))
  have HS2 := Lib.hid HB.out.size
  have HUlt := Lib.hid HU.out.lt
  clear hO hb hB3 hgd HU HB
  go_wp2_with fail
  go_loopw [7] (fun k wr => ∃ j : Nat, k = .int .i64 j ∧ j ≤ R ∧ Own2 22 5 .u8 (ival w2.heap.size w3.heap.size) wr (.slice (some ⟨g, 0, none⟩) R cd) ((mrows R).take j ++ (List.replicate R (List.replicate 24 0)).drop j) ∧ Own 3 .i64 w.heap.size wr (.slice au R cu) U ∧ wr.heap[w3.heap.size]? = some (.cells #[.slice (some ⟨g, 0, none⟩) R cd] 30) ∧ Below w.heap.size w wr) (fun k _ => R - (intOf k).toNat)
  case atStart => exact ⟨0, rfl, Nat.zero_le _, by rw [List.take_zero, List.drop_zero]; exact HO3.out, HU3.out, HD3.out, HB3.out⟩
  case round =>
    obtain ⟨j, rfl, hj, hO, hU, hD, hB⟩ := hrel
    have HO := Lib.hid hO
    have HU := Lib.hid hU
    have HD := Lib.hid hD
    have HB := Lib.hid hB
    have cD := blk_cell hD 0
    rw [one0] at cD
    clear hO hU hD hB HO3 HU3 HD3 HB3
    by_cases hlt : j < R
    · have e5 : decide ((j : Int) < (R : Int)) = true := by simp; omega
      have hjR : (j : Int) < (R : Int) := by omega
      have hst : ((mrows R).take j ++ (List.replicate R (List.replicate 24 (0 : Int))).drop j)[j]? = some (List.replicate 24 0) := mid_get (by rw [List.length_take, mrows_len]; omega) (by simp [hlt])
      obtain ⟨u, cu2, ou, iu, hu⟩ := HO.out.at hst
      obtain ⟨ap, cp, hup, hgp⟩ := ou.open
      rw [List.length_replicate] at hup hgp
      obtain ⟨gu, hgu⟩ := hgp (by omega)
      subst hgu
      subst hup
      have c0 := ou.cellAt (by simp) (show 0 < (List.replicate 24 (0 : Int)).length by simp)
      have f0 := ou.free (by simp) 0
      rw [show (List.replicate 24 (0 : Int)).getD 0 0 = 0 from rfl] at c0
      have hbv : ((j : Int) + 1) % 256 = ((j + 1 : Nat) : Int) := by omega
      have HX := Lib.hid hu
      have HIu := Lib.hid iu
      have HOu := Lib.hid ou
      have HT := Lib.hid (mrows_set hlt)
      clear hst ou iu hu hgp
      go_wp2_with fail
      have hset := (show Own 5 .u8 0 wr (.slice (some ⟨gu, 0, none⟩) (List.replicate 24 (0 : Int)).length cp) (List.replicate 24 0) from HOu.out).set (x := (j : Int) + 1) (wf_u8_of (by omega) (by omega)) 0
      obtain ⟨p1, p2⟩ := hset
      obtain ⟨W5, hW5⟩ : ∃ W5, W5 = wr.setCell ⟨gu, 0, none⟩ (.int .u8 ((j : Int) + 1)) := ⟨_, rfl⟩
      rw [← hW5] at p1 p2 ⊢
      rw [show (j : Int) + 1 = ((j + 1 : Nat) : Int) from by omega] at p1
      have hin := HIu.out gu rfl
      have h2 := HX.out W5 (mrow j) p2 p1
      rw [HT.out] at h2
      have H2 := Lib.hid h2
      have HD2 := Lib.hid ((p2.block w3.heap.size (lt_of_block HD.out) (fun e => by injection e with e; unfold ival at hin; omega)).trans HD.out)
      have HU2 := Lib.hid (HU.out.kept p2 (by
        cases hv : (Value.slice au R cu).ownBlock with
        | none => exact .inl rfl
        | some r =>
          right
          intro he
          injection he with he
          have := HUlt.out r hv
          unfold ival at hin
          omega))
      have HB2 := Lib.hid (HB.out.grown p2 HB.out.size (fun c hc => by injection hc with hc; subst hc; have := HS2.out; unfold ival at hin; omega))
      clear p1 p2 h2 hin hW5 c0 f0 cu2 cD hbv
      go_wp2_with fail
      go_roundw
      case rel => exact ⟨j + 1, by simp, hlt, H2.out, HU2.out, HD2.out, HB2.out⟩
      case measure => simp [intOf]; omega
    · have e5 : decide ((j : Int) < (R : Int)) = false := by simp; omega
      have ej : j = R := by omega
      have HE3 : Hid ((mrows R).take j ++ (List.replicate R (List.replicate 24 (0 : Int))).drop j = mrows R) := Lib.hid (by rw [ej, List.take_of_length_le (by rw [mrows_len]; exact Nat.le_refl _), List.drop_of_length_le (by simp), List.append_nil])
      have hO := HO.out
      rw [HE3.out] at hO
      have HOm := Lib.hid hO.rd2
      obtain ⟨gU, hgU⟩ := HGu.out (by omega)
      subst hgU
      clear hO ej HE3 HO
      go_wp2_with fail
      refine (impl_sx HOm.out HU.out.rd (Nat.le_refl _) (Nat.le_refl _) HTm.out).mono ?_
      rw [HSx.out]
      rintro e w5 ⟨vx, rfl, hX, hb⟩
      obtain ⟨ax, cx, hvx, hgx⟩ := hX.open
      rw [mrow_len] at hvx hgx
      obtain ⟨gx, hgx⟩ := hgx (by omega)
      subst hgx
      subst hvx
      have hU5 := HU.out.next hb
      have HU5 := Lib.hid hU5
      have HB5 := Lib.hid (HB.out.trans (hb.mono HB.out.size))
      have cI := hU5.cellAt (HLU.out).symm hIR
      rw [HUi.out] at cI
      have cX := hX.cellAt rfl (show 0 < 24 by omega)
      rw [show (mrow I).getD 0 0 = ((I + 1 : Nat) : Int) from rfl] at cX
      have hIi : (I : Int) < (R : Int) := by omega
      have e6 : (((I + 1 : Nat) : Int) == (I : Int) + 1) = true := by simp
      clear hX hb hU5 cD
      go_wp2_with fail
      refine (impl_cs HU5.out.rd).mono ?_
      rw [HUc.out]
      rintro e w6 ⟨rfl, hw6⟩
      subst hw6
      go_wp2_with fail
      go_ret
      exact ⟨rfl, HB5.out⟩

end Go.Proofs.Ytdeahjinnnhfkaa
