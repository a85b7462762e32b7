/- Mailboxes: FreeRound of the program (bound methods in a slice) and of the document. No conditions but numbers and lengths that a machine holds. -/
import Derived.Test.YtbimihljaalllaaMb1
import Derived.Test.YtbimihljaalllaaMb4
import Derived.Test.YtbimihljaalllaaBa5
import Derived.Laws.EntriesVeiled
namespace Go.Proofs.Ytbimihljaalllaa
open Go Go.RowKit
set_option linter.unusedVariables false
attribute [local irreducible] kh kid

/-- The program's nextRow. -/
theorem next_any {w : World} {k s q r n : Int} (hk : (Lit.int .i64 k).wf = true) (hr : (Lit.int .i64 r).wf = true) (hn : (Lit.int .i64 n).wf = true) :
    Calls Try.prog 53 #[.agg #[.int .i64 k, .int .i64 s, .int .i64 q], .int .i64 r, .int .i64 n] w fun e w' => e = .returned (.int .i64 (mrow k r 0 n)) ∧ Below w.heap.size w w' := by
  have HK := Lib.hid hk
  have HR := Lib.hid hr
  have HN := Lib.hid hn
  have hk3 := heap_alloc_new w (.cells #[.int .i64 k, .int .i64 s, .int .i64 q] 39)
  obtain ⟨k0, k1, k2, _⟩ := ptc hk3
  have HB := Lib.hid ((Below.refl w.heap.size w).alloc (Nat.le_refl _) (.cells #[.int .i64 k, .int .i64 s, .int .i64 q] 39))
  obtain ⟨m, hm⟩ : ∃ m, m = mrow k r 0 n := ⟨_, rfl⟩
  have HM := Lib.hid hm
  clear hk3 hk hr hn hm
  go_enter Try.func53, Try.ntmps53
  go_wp2_with fail
  refine (impl_mrow HK.out HR.out (by decide) HN.out).mono ?_
  rw [← HM.out]
  rintro e w2 ⟨rfl, hb⟩
  replace HB := Lib.hid (HB.out.trans (hb.mono HB.out.size))
  clear hb
  go_wp2_with fail
  go_ret
  exact ⟨by rw [← HM.out]; rfl, HB.out⟩

/-- A mailbox's chooser as a value; the first j of them, the others nil. -/
def chf (k : Int) : Value := .func (.func 53) #[.agg #[.int .i64 k, .int .i64 0, .int .i64 0]] #[]
def fcs (ks : List Int) (j : Nat) : List Value := (ks.take j).map chf ++ List.replicate (ks.length - j) .nilFunc
theorem fcs_zero (ks : List Int) : fcs ks 0 = List.replicate ks.length .nilFunc := by simp [fcs]
theorem fcs_full (ks : List Int) : fcs ks ks.length = ks.map chf := by simp [fcs]
theorem fcs_len {ks : List Int} {j : Nat} (h : j ≤ ks.length) : (fcs ks j).length = ks.length := by simp [fcs]; omega
theorem fcs_set {ks : List Int} {j : Nat} (h : j < ks.length) : (fcs ks j).set j (chf (ks.getD j 0)) = fcs ks (j + 1) := by
  unfold fcs
  have hl : ((ks.take j).map chf).length = j := by simp; omega
  rw [List.set_append_right _ _ (by omega), hl, Nat.sub_self]
  rw [show ks.length - j = (ks.length - (j + 1)) + 1 by omega, List.replicate_succ, List.set_cons_zero, List.take_add_one, List.getElem?_eq_getElem h, List.map_append, List.append_assoc]
  rw [List.getD_eq_getElem?_getD, List.getElem?_eq_getElem h]
  rfl
theorem fcs_get {ks : List Int} {j : Nat} (h : j < ks.length) : (fcs ks j)[j]? = some .nilFunc := by
  have hl : ((ks.take j).map chf).length = j := by simp; omega
  unfold fcs
  rw [List.getElem?_append_right (by omega), hl, Nat.sub_self, List.getElem?_replicate, if_pos (by omega)]
theorem infofn : (Try.prog.info? 67).map (fun i => (i.zero, i.size, i.bytes)) = some (some .nilFunc, 1, 8) := by kernel_rfl
theorem rowsAt_upt (ks : List Int) (r n : Int) : (List.range ks.length).map (fun i => mrow (ks.getD i 0) r 0 n) = rowsAt ks r n := by
  apply List.ext_getElem?
  intro i
  unfold rowsAt
  rw [List.getElem?_map, List.getElem?_map]
  by_cases hi : i < ks.length
  · rw [List.getElem?_range hi, List.getElem?_eq_getElem hi]
    show some (mrow (ks.getD i 0) r 0 n) = some (mrow ks[i] r 0 n)
    rw [List.getD_eq_getElem?_getD, List.getElem?_eq_getElem hi]
    rfl
  · rw [List.getElem?_eq_none (by simp; omega), List.getElem?_eq_none (l := ks) (by omega)]
    rfl

set_option maxHeartbeats 2000000 in
/-- The program's chosenRows. -/
theorem chosen_any {lim : Nat} {w : World} {v : Value} {ks : List Int} {r n : Int} (h : RdV lim w v (ks.map chf)) (hlim : lim ≤ w.heap.size) (hks : ∀ k ∈ ks, (Lit.int .i64 k).wf = true) (hr : (Lit.int .i64 r).wf = true) (hn : (Lit.int .i64 n).wf = true) (hl : ks.length ≤ 64) :
    Calls Try.prog 55 #[v, .int .i64 r, .int .i64 n] w fun e w' => ∃ v', e = .returned v' ∧ Own 3 .i64 w.heap.size w' v' (rowsAt ks r n) ∧ Below w.heap.size w w' := by
  obtain ⟨i0, hi, hz0, hz1, hz2⟩ := info_parts infoi64
  have Hhi := Lib.hid hi
  have H := Lib.hid h
  obtain ⟨a, cap, hv, _⟩ := h
  rw [List.length_map] at hv
  subst hv
  have HKs := Lib.hid hks
  have HR := Lib.hid hr
  have HN := Lib.hid hn
  obtain ⟨N, hN⟩ : ∃ N, N = ks.length := ⟨_, rfl⟩
  rw [← hN] at H hl ⊢
  have HNn := Lib.hid hN
  have HU : Hid ((List.range N).map (fun i => mrow (ks.getD i 0) r 0 n) = rowsAt ks r n) := Lib.hid (by rw [hN]; exact rowsAt_upt _ _ _)
  have hN62 : N ≤ 9223372036854775807 := by omega
  clear hi hks hr hn hN
  go_enter Try.func55, Try.ntmps55
  go_wp2_with (first | (at_make; refine wpList_make_full _ rfl _ _ 46 rfl w.heap.size 3 i0 (.int .i64 0) 1 Try.underlying46 Hhi.out hz0 hz1 .i64 .i64 _ _ N rfl rfl rfl rfl (by rw [hz2]; omega) (by unfold maxLen; omega) (Nat.le_refl _) ?_))
  intro w1 hown hg
  have hO := own_made hown hg.size (by decide)
  rw [← upt_rep (fun i => mrow (ks.getD i 0) r 0 n) N] at hO
  have HO := Lib.hid hO
  have HB := Lib.hid ((Below.refl w.heap.size w).grown hg (Nat.le_refl _) (fun k hk => by cases hk))
  clear hown hg hO
  go_wp2_with fail
  go_loopw [15] (fun i wr => ∃ j : Nat, i = .int .i64 j ∧ j ≤ N ∧ Own 3 .i64 w.heap.size wr (.slice (some ⟨w.heap.size, 0, none⟩) N N) (upt (fun i => mrow (ks.getD i 0) r 0 n) (fun _ => 0) j N) ∧ Below w.heap.size w wr) (fun i _ => N - (intOf i).toNat)
  case atStart => exact ⟨0, rfl, Nat.zero_le _, HO.out, HB.out⟩
  case round =>
    obtain ⟨j, rfl, hj, hO, hB⟩ := hrel
    replace HO := Lib.hid hO
    replace HB := Lib.hid hB
    clear hO hB
    by_cases hlt : j < N
    · have e1 : decide ((j : Int) < (N : Int)) = true := by simp; omega
      have hltk : j < ks.length := by rw [← HNn.out]; exact hlt
      obtain ⟨b, o, cap', hv, _, _, hcl, _⟩ := (H.out.behind (HB.out.mono hlim)).at (by rw [List.length_map]; omega)
      obtain ⟨rfl, rfl⟩ : a = some ⟨b, o, none⟩ ∧ cap = cap' := by injection hv with h1 h2 h3; exact ⟨h1, h3⟩
      have c1 : wr.cell? ⟨b, o + j, none⟩ = some (chf (ks.getD j 0)) := hcl j _ (by rw [List.getElem?_map, List.getD_eq_getElem?_getD, List.getElem?_eq_getElem hltk]; rfl)
      have hkj : (Lit.int .i64 (ks.getD j 0)).wf = true := by rw [List.getD_eq_getElem?_getD, List.getElem?_eq_getElem hltk]; exact HKs.out _ (List.getElem_mem hltk)
      have hmw := mrow_wf (ks.getD j 0) r 0 n
      obtain ⟨k, hk⟩ : ∃ k, k = ks.getD j 0 := ⟨_, rfl⟩
      rw [← hk] at c1 hkj hmw
      have HKj := Lib.hid hkj
      have HMw := Lib.hid hmw
      have HKE := Lib.hid hk
      unfold chf at c1
      clear hcl hv hkj hmw hk
      go_wp2_with fail
      refine (next_any HKj.out HR.out HN.out).mono ?_
      rintro e w2 ⟨rfl, hb⟩
      replace HB := Lib.hid (HB.out.trans (hb.mono HB.out.size))
      replace HO := Lib.hid (HO.out.next hb)
      have c2 := HO.out.cellAt (upt_length _ _ _ _) hlt
      have f2 := HO.out.free (upt_length _ _ _ _) j
      obtain ⟨p1, p2⟩ := HO.out.put (f := fun i => mrow (ks.getD i 0) r 0 n) (j := j) (by rw [← HKE.out]; exact HMw.out)
      rw [← HKE.out] at p1 p2
      have P1 := Lib.hid p1
      have P2 := Lib.hid p2
      obtain ⟨m, hm⟩ : ∃ m, m = mrow k r 0 n := ⟨_, rfl⟩
      rw [← hm] at P1 P2 ⊢
      clear hb p1 p2 hm c1
      go_wp2_with fail
      go_roundw
      case rel => exact ⟨j + 1, by simp, hlt, P1.out, HB.out.grown P2.out HB.out.size (fun k hk => by injection hk with hk; omega)⟩
      case measure => simp [intOf]; omega
    · have e1 : decide ((j : Int) < (N : Int)) = false := by simp; omega
      have HE2 : Hid (upt (fun i => mrow (ks.getD i 0) r 0 n) (fun _ => 0) j N = rowsAt ks r n) := Lib.hid (by rw [← HU.out, show j = N by omega, upt_full])
      go_wp2_with fail
      go_ret
      exact ⟨_, rfl, by rw [← HE2.out]; exact HO.out, HB.out⟩

set_option maxRecDepth 20000 in
set_option maxHeartbeats 4000000 in
/-- impl.FreeRound. -/
theorem impl_fr {lim : Nat} {w : World} {v : Value} {ks : List Int} {r n : Int} (h : Rd lim .i64 w v ks) (hlim : lim ≤ w.heap.size) (hr : (Lit.int .i64 r).wf = true) (hn : (Lit.int .i64 n).wf = true) :
    Calls Try.prog 25 #[v, .int .i64 r, .int .i64 n] w fun e w' => e = .returned (.int .i64 (fr ks r n)) ∧ Below w.heap.size w w' := by
  obtain ⟨i0, hi, hz0, hz1, hz2⟩ := info_parts infofn
  have Hhi := Lib.hid hi
  have hmf : ∀ (fn : Fn) (first cap : Array Value) (w : World), (Instr.makeFunc fn first cap).run Try.prog w = .ok (.func fn first cap) w := fun _ _ _ _ => rfl
  obtain ⟨p, cap, rfl, h1, h2, hc⟩ := h.open
  have Hc := Lib.hid hc
  have H := Lib.hid h
  have HR := Lib.hid hr
  have HN := Lib.hid hn
  unfold maxLen at h2
  clear h hc hi hr hn
  cases q1 : inR n 1 64 with
  | false =>
    have H1 := Lib.hid q1
    have HE := Lib.hid (fr_no (ks := ks) (show frq r n = false by unfold frq; rw [q1]; rfl))
    clear q1
    go_enter Try.func25, Try.ntmps25
    go_wp2_with fail
    refine (impl_in _ _ _ _ HN.out).mono ?_
    rw [H1.out]
    rintro e w1 ⟨rfl, hw⟩
    obtain rfl := hw.symm
    go_wp2_with fail
    go_ret
    exact ⟨by rw [HE.out]; rfl, Below.refl _ _⟩
  | true =>
   cases q2 : inR r 0 999999999980 with
   | false =>
    have H1 := Lib.hid q1
    have H2 := Lib.hid q2
    have HE := Lib.hid (fr_no (ks := ks) (show frq r n = false by unfold frq; rw [q1, q2]; rfl))
    clear q1 q2
    go_enter Try.func25, Try.ntmps25
    go_wp2_with fail
    refine (impl_in _ _ _ _ HN.out).mono ?_
    rw [H1.out]
    rintro e w1 ⟨rfl, hw⟩
    obtain rfl := hw.symm
    go_wp2_with fail
    refine (impl_in _ _ _ _ HR.out).mono ?_
    rw [H2.out]
    rintro e w1 ⟨rfl, hw⟩
    obtain rfl := hw.symm
    go_wp2_with fail
    go_ret
    exact ⟨by rw [HE.out]; rfl, Below.refl _ _⟩
   | true =>
    have H1 := Lib.hid q1
    have H2 := Lib.hid q2
    have hq : frq r n = true := by unfold frq; rw [q1, q2]; rfl
    have HQ := Lib.hid hq
    obtain ⟨hnb, hrb⟩ := frq_iff.1 hq
    clear q1 q2 hq
    by_cases hm : n < (ks.length : Int)
    · have e1 : decide (n < (ks.length : Int)) = true := decide_eq_true hm
      have HE := Lib.hid (fr_many HQ.out hm)
      clear hm
      go_enter Try.func25, Try.ntmps25
      go_wp2_with fail
      refine (impl_in _ _ _ _ HN.out).mono ?_
      rw [H1.out]
      rintro e w1 ⟨rfl, hw⟩
      obtain rfl := hw.symm
      go_wp2_with fail
      refine (impl_in _ _ _ _ HR.out).mono ?_
      rw [H2.out]
      rintro e w1 ⟨rfl, hw⟩
      obtain rfl := hw.symm
      go_wp2_with fail
      go_ret
      exact ⟨by rw [HE.out]; rfl, Below.refl _ _⟩
    · have e0 : decide (n < (ks.length : Int)) = false := decide_eq_false hm
      have HKs : Hid (∀ k ∈ ks, (Lit.int .i64 k).wf = true) := Lib.hid (fun k hk => by
        obtain ⟨j, hj, rfl⟩ := List.mem_iff_getElem.1 hk
        have := H.out.wf hj
        rwa [List.getD_eq_getElem?_getD, List.getElem?_eq_getElem hj] at this)
      obtain ⟨N, hN⟩ : ∃ N, N = ks.length := ⟨_, rfl⟩
      have hN64 : N ≤ 64 := by omega
      have HNn := Lib.hid hN
      rw [← hN] at h1 e0 ⊢
      have hcc := Hc.out
      rw [← hN] at hcc
      replace Hc := Lib.hid hcc
      clear hm hN hcc
      go_enter Try.func25, Try.ntmps25
      go_wp2_with fail
      refine (impl_in _ _ _ _ HN.out).mono ?_
      rw [H1.out]
      rintro e w1 ⟨rfl, hw⟩
      obtain rfl := hw.symm
      go_wp2_with fail
      refine (impl_in _ _ _ _ HR.out).mono ?_
      rw [H2.out]
      rintro e w1 ⟨rfl, hw⟩
      obtain rfl := hw.symm
      go_wp2_with (first | (at_make; refine wpList_make_full _ rfl _ _ 66 rfl w.heap.size 67 i0 .nilFunc 1 Try.underlying66 Hhi.out hz0 hz1 .i64 .i64 _ _ N rfl rfl rfl rfl (by rw [hz2]; omega) (by unfold maxLen; omega) (Nat.le_refl _) ?_))
      intro w1 hown hg
      have hO : w1.ownsRow w.heap.size 67 1 (.slice (some ⟨w.heap.size, 0, none⟩) N N) N (fcs ks 0) := by
        rw [fcs_zero, ← HNn.out, ← toList_madeCells_one]
        exact hown
      have HO := Lib.hid hO
      have HB := Lib.hid ((Below.refl w.heap.size w).grown hg (Nat.le_refl _) (fun k hk => by cases hk))
      clear hown hg hO
      go_wp2_with fail
      go_loopw [28] (fun i wr => ∃ j : Nat, i = .int .i64 j ∧ j ≤ N ∧ wr.ownsRow w.heap.size 67 1 (.slice (some ⟨w.heap.size, 0, none⟩) N N) N (fcs ks j) ∧ Below w.heap.size w wr) (fun i _ => N - (intOf i).toNat)
      case atStart => exact ⟨0, rfl, Nat.zero_le _, HO.out, HB.out⟩
      case round =>
        obtain ⟨j, rfl, hj, hO, hB⟩ := hrel
        replace HO := Lib.hid hO
        replace HB := Lib.hid hB
        clear hO hB
        by_cases hlt : j < N
        · have e1 : decide ((j : Int) < (N : Int)) = true := by simp; omega
          have hltk : j < ks.length := by rw [← HNn.out]; exact hlt
          obtain ⟨b, o, rfl, hbl, hcl⟩ := Hc.out (by omega)
          have c1 := hcl _ (HB.out.mono hlim) j hlt
          have c2 : wr.cell? ⟨w.heap.size, j, none⟩ = some .nilFunc := by
            rw [HO.out.cellAt j (by omega), fcs_get hltk]
          have f2 := HO.out.frozenAt j
          obtain ⟨p1, p2⟩ := HO.out.stored j (chf (ks.getD j 0))
          rw [fcs_set hltk] at p1
          obtain ⟨k, hk⟩ : ∃ k, k = ks.getD j 0 := ⟨_, rfl⟩
          rw [← hk] at c1 p1 p2
          have P1 := Lib.hid p1
          have P2 := Lib.hid p2
          clear hcl p1 p2 hk hltk
          go_wp2_with fail
          go_roundw
          case rel => exact ⟨j + 1, by simp, hlt, P1.out, HB.out.grown P2.out HB.out.size (fun k hk => by injection hk with hk; omega)⟩
          case measure => simp [intOf]; omega
        · have e1 : decide ((j : Int) < (N : Int)) = false := by simp; omega
          obtain rfl : j = N := by omega
          have hv : OwnV 67 w.heap.size wr (.slice (some ⟨w.heap.size, 0, none⟩) j j) (ks.map chf) := ⟨fun u hu => by
            obtain ⟨k, _, rfl⟩ := List.mem_map.1 hu
            rfl, HB.out.size, by
            have := HO.out
            rw [HNn.out, fcs_full] at this
            rwa [List.length_map, HNn.out]⟩
          have HV := Lib.hid hv.rdv
          have HSz := Lib.hid HB.out.size
          obtain ⟨L, hL⟩ : ∃ L, L = wr.heap.size := ⟨_, rfl⟩
          rw [← hL] at HV HSz
          have HLs := Lib.hid (show L ≤ wr.heap.size by omega)
          clear hv hL HO
          go_wp2_with fail
          go_loopw [40] (fun i w2 => ∃ j : Nat, i = .int .i64 j ∧ j ≤ 20 ∧ (∀ t : Nat, t < j → col (rowsAt ks (r + (t : Int)) n) ≠ 0) ∧ Below L wr w2 ∧ Below w.heap.size w w2) (fun i _ => 20 - (intOf i).toNat)
          case atStart => exact ⟨0, rfl, by omega, fun t ht => by omega, Below.refl _ _, HB.out⟩
          case round =>
            obtain ⟨q, rfl, hq, hno, hL, hB⟩ := hrel
            replace HB := Lib.hid hB
            have HBL := Lib.hid hL
            have HNo := Lib.hid hno
            clear hB hL hno
            by_cases hlt : q < 20
            · have e1 : decide ((q : Int) < 20) = true := by simp; omega
              have hlt' : (q : Int) < 20 := by omega
              have hrw := wf_i64_of (n := r + (q : Int)) (by omega) (by omega)
              have HRw := Lib.hid hrw
              have HLl := Lib.hid HBL.out.size
              clear hrw
              go_wp2_with fail
              refine (chosen_any (HV.out.behind HBL.out) (Nat.le_trans HLs.out HLl.out) HKs.out HRw.out HN.out (by rw [← HNn.out]; exact hN64)).mono ?_
              rintro e w3 ⟨v3, rfl, h3, hb⟩
              have HO3 := Lib.hid h3.rd
              replace HB := Lib.hid (HB.out.trans (hb.mono HB.out.size))
              replace HBL := Lib.hid (HBL.out.trans (hb.mono (Nat.le_trans HLs.out HLl.out)))
              have HLl3 := Lib.hid (Nat.le_trans HLl.out hb.size)
              clear h3 hb
              go_wp2_with fail
              refine (impl_col HO3.out (Nat.le_refl _)).mono ?_
              rintro e w4 ⟨he, hb⟩
              obtain ⟨c, hcc⟩ : ∃ c, c = col (rowsAt ks (r + (q : Int)) n) := ⟨_, rfl⟩
              rw [← hcc] at he
              subst he
              have HC := Lib.hid hcc
              replace HB := Lib.hid (HB.out.trans (hb.mono HB.out.size))
              replace HBL := Lib.hid (HBL.out.trans (hb.mono (Nat.le_trans HLs.out HLl3.out)))
              clear hb hcc
              by_cases h0 : c = 0
              · have e2 : ((c : Int) == 0) = true := by rw [h0]; rfl
                have HE := Lib.hid (fr_found HQ.out hlt HNo.out (by rw [← HC.out]; exact h0))
                clear h0
                go_wp2_with fail
                go_ret
                exact ⟨by rw [HE.out]; rfl, HB.out⟩
              · have e2 : ((c : Int) == 0) = false := beq_eq_false_iff_ne.2 (by omega)
                have HN0 := Lib.hid h0
                clear h0
                go_wp2_with fail
                go_roundw
                case rel =>
                  refine ⟨q + 1, by simp, hlt, fun t ht => ?_, HBL.out, HB.out⟩
                  by_cases hqt : t = q
                  · rw [hqt, ← HC.out]; exact HN0.out
                  · exact HNo.out t (by omega)
                case measure => simp [intOf]; omega
            · have e1 : decide ((q : Int) < 20) = false := by simp; omega
              obtain rfl : q = 20 := by omega
              have HE := Lib.hid (fr_none HQ.out HNo.out)
              go_wp2_with fail
              go_ret
              exact ⟨by rw [HE.out]; rfl, HB.out⟩

set_option maxRecDepth 20000 in
set_option maxHeartbeats 4000000 in
/-- spec.FreeRound. -/
theorem spec_fr {lim : Nat} {w : World} {v : Value} {ks : List Int} {r n : Int} (h : Rd lim .i64 w v ks) (hlim : lim ≤ w.heap.size) (hr : (Lit.int .i64 r).wf = true) (hn : (Lit.int .i64 n).wf = true) (hl : ks.length ≤ 1073741824) :
    Calls Try.prog 23 #[v, .int .i64 r, .int .i64 n] w fun e w' => e = .returned (.int .i64 (fr ks r n)) ∧ Below w.heap.size w w' := by
  obtain ⟨i0, hi, hz0, hz1, hz2⟩ := info_parts infoi64
  have Hhi := Lib.hid hi
  obtain ⟨p, cap, rfl, h1, h2, hc⟩ := h.open
  have Hc := Lib.hid hc
  have H := Lib.hid h
  have HR := Lib.hid hr
  have HN := Lib.hid hn
  unfold maxLen at h2
  clear h hc hi hr hn
  cases q1 : inR n 1 64 with
  | false =>
    have H1 := Lib.hid q1
    have HE := Lib.hid (fr_no (ks := ks) (show frq r n = false by unfold frq; rw [q1]; rfl))
    clear q1
    go_enter Try.func23, Try.ntmps23
    go_wp2_with fail
    refine (spec_in _ _ _ _ HN.out).mono ?_
    rw [H1.out]
    rintro e w1 ⟨rfl, hw⟩
    obtain rfl := hw.symm
    go_wp2_with fail
    go_ret
    exact ⟨by rw [HE.out]; rfl, Below.refl _ _⟩
  | true =>
   cases q2 : inR r 0 999999999980 with
   | false =>
    have H1 := Lib.hid q1
    have H2 := Lib.hid q2
    have HE := Lib.hid (fr_no (ks := ks) (show frq r n = false by unfold frq; rw [q1, q2]; rfl))
    clear q1 q2
    go_enter Try.func23, Try.ntmps23
    go_wp2_with fail
    refine (spec_in _ _ _ _ HN.out).mono ?_
    rw [H1.out]
    rintro e w1 ⟨rfl, hw⟩
    obtain rfl := hw.symm
    go_wp2_with fail
    refine (spec_in _ _ _ _ HR.out).mono ?_
    rw [H2.out]
    rintro e w1 ⟨rfl, hw⟩
    obtain rfl := hw.symm
    go_wp2_with fail
    go_ret
    exact ⟨by rw [HE.out]; rfl, Below.refl _ _⟩
   | true =>
    have H1 := Lib.hid q1
    have H2 := Lib.hid q2
    have hq : frq r n = true := by unfold frq; rw [q1, q2]; rfl
    have HQ := Lib.hid hq
    obtain ⟨hnb, hrb⟩ := frq_iff.1 hq
    clear q1 q2 hq
    go_enter Try.func23, Try.ntmps23
    go_wp2_with fail
    refine (spec_in _ _ _ _ HN.out).mono ?_
    rw [H1.out]
    rintro e w1 ⟨rfl, hw⟩
    obtain rfl := hw.symm
    go_wp2_with fail
    refine (spec_in _ _ _ _ HR.out).mono ?_
    rw [H2.out]
    rintro e w1 ⟨rfl, hw⟩
    obtain rfl := hw.symm
    go_wp2_with fail
    go_loopw [7] (fun i w2 => ∃ j : Nat, i = .int .i64 (r + (j : Int)) ∧ j ≤ 20 ∧ (∀ t : Nat, t < j → col (rowsAt ks (r + (t : Int)) n) ≠ 0) ∧ Below w.heap.size w w2) (fun i _ => 20 - ((intOf i) - r).toNat)
    case atStart => exact ⟨0, by simp, by omega, fun t ht => by omega, Below.refl _ _⟩
    case round =>
      obtain ⟨q, rfl, hq, hno, hB⟩ := hrel
      have HB := Lib.hid hB
      have HNo := Lib.hid hno
      clear hB hno
      obtain ⟨x, hx⟩ : ∃ x, x = r + (q : Int) := ⟨_, rfl⟩
      rw [← hx]
      have HX := Lib.hid hx
      by_cases hlt : q < 20
      · have e1 : decide (x < r + 20) = true := decide_eq_true (by omega)
        have hxb : 0 ≤ x ∧ x ≤ 999999999999 := by omega
        have HRw := Lib.hid (wf_i64_of (n := x) (by omega) (by omega))
        have HOi := Lib.hid (Own.lit (B := wr.heap.size) (w := wr) 3 .i64 (Nat.le_refl _))
        have HBi := Lib.hid ((Below.refl wr.heap.size wr).alloc (Nat.le_refl _) (.cells #[] 3))
        clear hx
        go_wp2_with fail
        go_loopw [8, 9] (fun s i w3 => ∃ j : Nat, i = .int .i64 j ∧ j ≤ ks.length ∧ Own 3 .i64 wr.heap.size w3 s ((rowsAt ks x n).take j) ∧ Below wr.heap.size wr w3) (fun _ i _ => ks.length - (intOf i).toNat)
        case atStart => exact ⟨0, rfl, Nat.zero_le _, HOi.out, HBi.out⟩
        case round =>
          obtain ⟨j, rfl, hj, hO, hBi⟩ := hrel
          have HO := Lib.hid hO
          replace HBi := Lib.hid hBi
          clear hO hBi HOi
          by_cases hjk : j < ks.length
          · have e2 : decide ((j : Int) < (ks.length : Int)) = true := by simp; omega
            obtain ⟨b, o, rfl, hbl, hcl⟩ := Hc.out (by omega)
            have c1 := hcl _ ((HB.out.trans (HBi.out.mono HB.out.size)).mono hlim) j hjk
            have hkw := H.out.wf hjk
            have ht := rowsAt_get x n hjk
            obtain ⟨k, hk⟩ : ∃ k, k = ks.getD j 0 := ⟨_, rfl⟩
            rw [← hk] at c1 hkw ht
            have HKw := Lib.hid hkw
            have hmw := mrow_wf k x 0 n
            obtain ⟨m, hm⟩ : ∃ m, m = mrow k x 0 n := ⟨_, rfl⟩
            rw [← hm] at hmw ht
            have HM := Lib.hid hm
            have HMw := Lib.hid hmw
            have HT : Hid ((rowsAt ks x n).take j ++ [m] = (rowsAt ks x n).take (j + 1)) := Lib.hid (by
              have hl2 : j < (rowsAt ks x n).length := by rw [rowsAt_len]; exact hjk
              rw [List.take_add_one, ← ht, List.getD_eq_getElem?_getD, List.getElem?_eq_getElem hl2]
              rfl)
            have HLn : Hid (((rowsAt ks x n).take j).length ≤ 1073741824) := Lib.hid (by rw [List.length_take, rowsAt_len]; omega)
            clear hcl hkw ht hk hmw hm
            go_wp2_with fail
            refine (spec_mrow HKw.out HRw.out (by decide) HN.out).mono ?_
            rw [← HM.out]
            rintro e w4 ⟨rfl, hb⟩
            have O1 := Lib.hid ((HO.out.next hb).alloc (.cells #[.int .i64 m] 3))
            have B1 := Lib.hid ((HBi.out.trans (hb.mono HBi.out.size)).alloc (Nat.le_trans HBi.out.size hb.size) (.cells #[.int .i64 m] 3))
            have R1 := Lib.hid (Rd.one 3 .i64 w4 m HMw.out)
            clear hb c1 HO
            go_wp2_with (first | (at_builtin; refine append_rd _ rfl _ _ 46 rfl 3 i0 (.int .i64 0) 8 Try.underlying46 Hhi.out hz0 hz1 hz2 rfl (by omega) rfl O1.out rfl R1.out (by have := HLn.out; simp only [List.length_singleton]; omega) ?_))
            intro v' w' h1 h2
            rw [HT.out] at h1
            have P1 := Lib.hid h1
            have P2 := Lib.hid (B1.out.trans (O1.out.below (Nat.le_refl _) h2))
            clear h1 h2
            go_wp2_with fail
            go_roundw
            case rel => exact ⟨j + 1, by simp, hjk, P1.out, P2.out⟩
            case measure => simp [intOf]; omega
          · have e2 : decide ((j : Int) < (ks.length : Int)) = false := by simp; omega
            have h9 := HO.out.rd
            rw [List.take_of_length_le (by rw [rowsAt_len]; omega)] at h9
            have HO2 := Lib.hid h9
            replace HB := Lib.hid (HB.out.trans (HBi.out.mono HB.out.size))
            have e2n : decide (j < ks.length) = false := decide_eq_false hjk
            clear h9 HO HBi hjk
            go_wp2_with fail
            refine (spec_col HO2.out (Nat.le_refl _)).mono ?_
            rintro e w4 ⟨he, hb⟩
            obtain ⟨c, hcc⟩ : ∃ c, c = col (rowsAt ks x n) := ⟨_, rfl⟩
            rw [← hcc] at he
            subst he
            have HC := Lib.hid hcc
            replace HB := Lib.hid (HB.out.trans (hb.mono HB.out.size))
            clear hb hcc
            by_cases h0 : c = 0
            · have e3 : ((c : Int) == 0) = true := by rw [h0]; rfl
              have HE := Lib.hid (fr_found HQ.out hlt HNo.out (by rw [← HX.out, ← HC.out]; exact h0))
              clear h0
              go_wp2_with fail
              go_ret
              exact ⟨by rw [HE.out, ← HX.out]; rfl, HB.out⟩
            · have e3 : ((c : Int) == 0) = false := beq_eq_false_iff_ne.2 (by omega)
              have HN0 := Lib.hid h0
              clear h0
              go_wp2_with fail
              go_roundw
              case rel =>
                have hx := HX.out
                refine ⟨q + 1, by rw [hx]; congr 1; push_cast; omega, hlt, fun t ht => ?_, HB.out⟩
                by_cases hqt : t = q
                · rw [hqt, ← HX.out, ← HC.out]; exact HN0.out
                · exact HNo.out t (by omega)
              case measure => have hx := HX.out; simp only [intOf]; omega
      · have e1 : decide (x < r + 20) = false := decide_eq_false (by omega)
        obtain rfl : q = 20 := by omega
        have HE := Lib.hid (fr_none HQ.out HNo.out)
        clear hx
        go_wp2_with fail
        go_ret
        exact ⟨by rw [HE.out]; rfl, HB.out⟩

end Go.Proofs.Ytbimihljaalllaa
