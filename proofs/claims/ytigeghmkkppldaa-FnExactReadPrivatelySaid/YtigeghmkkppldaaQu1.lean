/- Queries of the program: the selection that is missing, and all of them. No conditions but a size that a machine holds. -/
import Derived.Test.YtigeghmkkppldaaQuN
import Derived.Test.YtigeghmkkppldaaBa6
import Derived.Test.YtigeghmkkppldaaBaM
import Derived.Test.YtigeghmkkppldaaBa5
import Derived.Test.YtigeghmkkppldaaBa8
import Derived.Test.YtigeghmkkppldaaSwap
import Derived.Test.YtigeghmkkppldaaSh1
import Derived.Test.YtigeghmkkppldaaSel2
import Derived.Test.YtigeghmkkppldaaSel3
import Derived.Test.YtigeghmkkppldaaSel4
import Derived.Laws.EntriesVeiled
namespace Go.Proofs.Ytigeghmkkppldaa
open Go Go.RowKit
set_option linter.unusedVariables false
attribute [local irreducible] kh

theorem fitQ_any {w : World} {a : Option Addr} {n cap : Nat} (hn : n ≤ 140737488355328) : Calls Try.prog 89 #[.slice a n cap] w fun e w' => e = .returned (.bool (inR (n : Int) 2 4)) ∧ w' = w := by
  go_enter Try.func89, Try.ntmps89
  go_wp2_with fail
  refine (impl_in _ _ _ _ (wf_i64_of (by omega) (by omega))).mono ?_
  rintro e w1 ⟨rfl, hw⟩
  subst hw
  go_wp2_with fail
  go_ret
  exact ⟨rfl, rfl⟩

/-- MakeQuery's closure. -/
theorem rnd_any {w : World} {b : Nat} {s r : Int} (hc : w.cell? ⟨b, 0, none⟩ = some (.int .i64 r)) (hs : (Lit.int .i64 s).wf = true) (hr : (Lit.int .i64 r).wf = true) :
    Calls Try.prog 56 #[.int .i64 s, .pointer (some ⟨b, 0, none⟩)] w fun e w' => ∃ v', e = .returned v' ∧ Own 3 .i64 w.heap.size w' v' (rsl s r) ∧ Below w.heap.size w w' := by
  have HS := Lib.hid hs
  have HR := Lib.hid hr
  clear hs hr
  go_enter Try.func56, Try.ntmps56
  go_wp2_with fail
  refine (impl_rs HS.out HR.out).mono ?_
  rintro e w1 ⟨v1, rfl, h1, hb⟩
  have H1 := Lib.hid h1
  have HB := Lib.hid hb
  clear h1 hb
  go_wp2_with fail
  go_ret
  exact ⟨_, rfl, H1.out, HB.out⟩

set_option maxHeartbeats 1000000 in
/-- impl.missingSelection: the sum, in a row of its own if there is another selection, else what came in. -/
theorem ms_any {l1 l2 : Nat} {w : World} {u v : Value} {zss : List (List Int)} {xs : List Int} (hu : Rd2 l1 .i64 w u zss) (hv : Rd l2 .i64 w v xs) (hl1 : l1 ≤ w.heap.size) (hl2 : l2 ≤ w.heap.size) :
    Calls Try.prog 59 #[u, v] w fun e w' => ∃ v', e = .returned v' ∧ ((zss = [] ∧ v' = v) ∨ Own 3 .i64 w.heap.size w' v' (xsAll xs zss)) ∧ Below w.heap.size w w' := by
  have hlen := hu.len
  obtain ⟨a, cap, rfl, h1, h2, hc⟩ := hu.open
  have Hc := Lib.hid hc
  have HV := Lib.hid hv
  have HZ : Hid (zss.length = 0 → zss = []) := Lib.hid (fun h => List.length_eq_zero_iff.1 h)
  unfold maxLen at h2 hlen
  clear hu hv hc
  go_enter Try.func59, Try.ntmps59
  go_wp2_with fail
  go_loopw [5, 11] (fun s i wr => ∃ j : Nat, i = .int .i64 j ∧ j ≤ zss.length ∧ Rd wr.heap.size .i64 wr s (xsAll xs (zss.take j)) ∧ ((j = 0 ∧ s = v) ∨ Own 3 .i64 w.heap.size wr s (xsAll xs (zss.take j))) ∧ Below w.heap.size w wr) (fun _ i _ => zss.length - (intOf i).toNat)
  case atStart => exact ⟨0, rfl, Nat.zero_le _, HV.out.mono hl2, .inl ⟨rfl, rfl⟩, Below.refl _ _⟩
  case round =>
    obtain ⟨j, rfl, hj, hR, hO, hB⟩ := hrel
    have HR := Lib.hid hR
    have HO := Lib.hid hO
    have HB := Lib.hid hB
    clear hR hO hB
    by_cases hlt : j < zss.length
    · have e1 : decide ((j : Int) < (zss.length : Int)) = true := by simp; omega
      obtain ⟨b, o, rfl, hbl, hcell⟩ := Hc.out (by omega)
      obtain ⟨zs, hzs⟩ : ∃ zs, zss[j]? = some zs := ⟨_, List.getElem?_eq_getElem hlt⟩
      obtain ⟨u, c1, hr⟩ := hcell wr (HB.out.mono hl1) j zs hzs
      have Hr := Lib.hid hr
      have HS1 := Lib.hid (Nat.le_trans hl1 HB.out.size)
      have HT := Lib.hid (xsAll_take (u := xs) hzs)
      clear hcell hr hzs
      go_wp2_with fail
      refine (impl_xs HR.out Hr.out (Nat.le_refl _) HS1.out).mono ?_
      rw [HT.out]
      rintro e w2 ⟨v2, rfl, h3, hb⟩
      have H3 := Lib.hid h3
      have HB2 := Lib.hid (HB.out.trans (hb.mono HB.out.size))
      clear h3 hb
      go_wp2
      go_roundw
      case rel => exact ⟨j + 1, by simp, hlt, H3.out.rd, .inr (H3.out.mono HB.out.size), HB2.out⟩
      case measure => simp [intOf]; omega
    · have e1 : decide ((j : Int) < (zss.length : Int)) = false := by simp; omega
      have HE : Hid (xsAll xs (zss.take j) = xsAll xs zss) := Lib.hid (by rw [List.take_of_length_le (by omega)])
      have HJ : Hid (j = zss.length) := Lib.hid (by omega)
      go_wp2
      go_ret
      refine ⟨_, rfl, ?_, HB.out⟩
      rcases HO.out with ⟨h0, rfl⟩ | h
      · exact .inl ⟨HZ.out (by have := HJ.out; omega), rfl⟩
      · rw [HE.out] at h
        exact .inr h

/-- impl.missingSelection, of one other at least. -/
theorem ms_new {l1 l2 : Nat} {w : World} {u v : Value} {zss : List (List Int)} {xs : List Int} (hu : Rd2 l1 .i64 w u zss) (hv : Rd l2 .i64 w v xs) (hl1 : l1 ≤ w.heap.size) (hl2 : l2 ≤ w.heap.size) (hz : zss ≠ []) :
    Calls Try.prog 59 #[u, v] w fun e w' => ∃ v', e = .returned v' ∧ Own 3 .i64 w.heap.size w' v' (xsAll xs zss) ∧ Below w.heap.size w w' :=
  (ms_any hu hv hl1 hl2).mono fun e w' ⟨v', he, ho, hb⟩ => ⟨v', he, ho.elim (fun h => absurd h.1 hz) id, hb⟩

/-- impl.missingSelection, of a row of the call's own. -/
theorem ms_own {l1 B : Nat} {w : World} {u v : Value} {zss : List (List Int)} {xs : List Int} (hu : Rd2 l1 .i64 w u zss) (hv : Own 3 .i64 B w v xs) (hl1 : l1 ≤ w.heap.size) (hB : B ≤ w.heap.size) :
    Calls Try.prog 59 #[u, v] w fun e w' => ∃ v', e = .returned v' ∧ Own 3 .i64 B w' v' (xsAll xs zss) ∧ Below w.heap.size w w' :=
  (ms_any hu hv.rd hl1 (Nat.le_refl _)).mono fun e w' ⟨v', he, ho, hb⟩ => ⟨v', he, ho.elim (fun h => by rw [h.1, h.2]; exact hv.next hb) (fun h => h.mono hB), hb⟩

set_option maxHeartbeats 2000000 in
/-- impl.divide, of selections. -/
theorem divQ_any {l1 l2 b nx cx : Nat} {ax : Option Addr} {w : World} {v : Value} {r x : Int} {ss : List Int} (hu : Rd l1 .i64 w (.slice ax nx cx) (unitV r x)) (hv : Rd l2 .i64 w v ss) (hl1 : l1 ≤ w.heap.size) (hl2 : l2 ≤ w.heap.size) (hr : (Lit.int .i64 r).wf = true) (hx : (unitV r x).length ≠ 0) (hc : w.cell? ⟨b, 0, none⟩ = some (.int .i64 r)) (hb : b < w.heap.size) :
    Calls Try.prog 58 #[.slice ax nx cx, v, .func (.func 56) #[] #[.pointer (some ⟨b, 0, none⟩)], .func (.func 59) #[] #[]] w
      fun e w' => ∃ v', e = .returned v' ∧ Own2 27 3 .i64 (ival w.heap.size w'.heap.size) w' v' (mkq r x ss) ∧ Below w.heap.size w w' := by
  obtain ⟨i1, hi', hy0, hy1, hy2⟩ := info_parts infoi64s
  have Hhi' := Lib.hid hi'
  have HU := Lib.hid hu
  have HRw := Lib.hid hr
  have HV := Lib.hid hv
  have hnx : nx = (unitV r x).length := hu.len_eq
  subst hnx
  obtain ⟨nX, hnX⟩ : ∃ n, n = (unitV r x).length := ⟨_, rfl⟩
  obtain ⟨lst, hlst⟩ : ∃ l, l = xsAll (unitV r x) (rnds r ss) := ⟨_, rfl⟩
  have HLst := Lib.hid hlst
  have HX := Lib.hid hx
  rw [← hnX] at HU ⊢
  have hlv := hv.len
  obtain ⟨a, cap, rfl, h1, h2, hcl⟩ := hv.open
  have Hcl := Lib.hid hcl
  unfold maxLen at h2 hlv
  obtain ⟨c, hcc⟩ : ∃ c, c = min ss.length 4 := ⟨_, rfl⟩
  obtain ⟨N, hN⟩ : ∃ N, N = c + 1 := ⟨_, rfl⟩
  have Hm : Hid (mn (ss.length : Int) 4 = (c : Int)) := Lib.hid (by unfold mn; split <;> omega)
  have hcn : (c : Int) + 1 = (N : Int) := by omega
  have hN5 : N ≤ 5 := by omega
  have HW1 : Hid ((Lit.int .i64 (ss.length : Int)).wf = true) := Lib.hid (wf_i64_of (by omega) (by omega))
  have Hcb := Lib.hid hc
  have Hbl := Lib.hid hb
  clear hu hv hcl hi' hc hb hr hx hnX hlst
  by_cases hin : 1 ≤ ss.length ∧ ss.length ≤ 3
  · have hcs : c = ss.length := by omega
    have HI : Hid (inR (N : Int) 2 4 = true) := Lib.hid (inR_yes (by omega))
    have hy : (unitV r x).length ≠ 0 ∧ 1 ≤ ss.length ∧ ss.length ≤ 3 := ⟨HX.out, hin.1, hin.2⟩
    have HY := Lib.hid hy
    have HR : ∃ R, R = mkq r x ss := ⟨_, rfl⟩
    obtain ⟨R, hR⟩ := HR
    have HRl : Hid (R.length = N) := Lib.hid (by rw [hR, mkq_yes hy, List.length_append, rnds_len, List.length_singleton]; omega)
    have HRat : Hid (∀ j, j < ss.length → R[j]? = some (rsl (ss.getD j 0) r)) := Lib.hid (fun j hj => by rw [hR]; exact mkq_at hy hj)
    have HRlast : Hid (R[ss.length]? = some lst) := Lib.hid (by rw [hR, HLst.out]; exact mkq_last hy)
    have HRtake : Hid (R.take ss.length = rnds r ss) := Lib.hid (by rw [hR]; exact mkq_take hy)
    rw [← hR]
    have HN := Lib.hid hN
    subst hcs
    clear hR hcc hy hN
    go_enter Try.func58, Try.ntmps58
    go_wp2_with fail
    refine (impl_mn _ _ _ HW1.out (wf_i64_of (by omega) (by omega))).mono ?_
    rw [Hm.out]
    rintro e w1 ⟨rfl, hb1⟩
    have HB1 := Lib.hid hb1
    clear hb1
    go_wp2_with (first | (at_make; refine wpList_make_full _ rfl _ _ 73 rfl w1.heap.size 27 i1 (.slice none 0 0) 1 Try.underlying73 Hhi'.out hy0 hy1 .i64 .i64 _ _ N rfl rfl rfl rfl (by rw [hy2]; omega) (by unfold maxLen; omega) (Nat.le_refl _) ?_))
    intro w2 hown hg
    have HO : Hid (Own2 27 3 .i64 (ival w.heap.size w2.heap.size) w2 (.slice (some ⟨w1.heap.size, 0, none⟩) N N) (R.take 0 ++ List.replicate (R.length - 0) [])) := Lib.hid (by
      rw [List.take_zero, List.nil_append, Nat.sub_zero, HRl.out]
      exact made_start hown HB1.out.size)
    have HB2 := Lib.hid (HB1.out.trans (((Below.refl w1.heap.size w1).grown hg (Nat.le_refl _) (fun k hk => by cases hk)).mono HB1.out.size))
    clear hown hg
    go_wp2_with fail
    refine (fitQ_any (by omega)).mono ?_
    rw [HI.out]
    rintro e w3 ⟨rfl, hw3⟩
    subst hw3
    go_wp2_with fail
    go_loopw [26] (fun i wr => ∃ j : Nat, i = .int .i64 j ∧ j ≤ ss.length ∧ Own2 27 3 .i64 (ival w.heap.size wr.heap.size) wr (.slice (some ⟨w1.heap.size, 0, none⟩) N N) (R.take j ++ List.replicate (R.length - j) []) ∧ Below w.heap.size w wr) (fun i _ => ss.length - (intOf i).toNat)
    case atStart => exact ⟨0, rfl, Nat.zero_le _, HO.out, HB2.out⟩
    case round =>
      obtain ⟨j, rfl, hj, hO, hB⟩ := hrel
      replace HO := Lib.hid hO
      have HB := Lib.hid hB
      clear hO hB
      by_cases hlt : j < ss.length
      · have e1 : decide ((j : Int) < (ss.length : Int)) = true := by simp; omega
        obtain ⟨bs, os, rfl, hbs, hcell⟩ := Hcl.out (by omega)
        have c1 := hcell wr (HB.out.mono hl2) j hlt
        have HZ := Lib.hid (HV.out.wf hlt)
        have HRj := Lib.hid (HRat.out j hlt)
        obtain ⟨z, hz⟩ : ∃ z, z = ss.getD j 0 := ⟨_, rfl⟩
        rw [← hz] at c1 HZ HRj
        clear hcell hz
        go_wp2_with fail
        refine (rnd_any ((HB.out.cell (p := ⟨b, 0, none⟩) Hbl.out).trans Hcb.out) HZ.out HRw.out).mono ?_
        rintro e w4 ⟨v4, rfl, h4, hb4⟩
        obtain ⟨a4, cap4, hv4, _⟩ := h4.open
        obtain ⟨L4, hL4⟩ : ∃ L, L = (rsl z r).length := ⟨_, rfl⟩
        rw [← hL4] at hv4
        subst hv4
        have H4 := Lib.hid h4
        replace HO := Lib.hid (HO.out.next hb4)
        have HB4 := Lib.hid (HB.out.trans (hb4.mono HB.out.size))
        have HS4 := Lib.hid hb4.size
        have hlen2 : j < (R.take j ++ List.replicate (R.length - j) ([] : List Int)).length := by have := HRl.out; simp; omega
        obtain ⟨u2, c2⟩ := HO.out.cellAt hlen2
        have f2 := HO.out.free (by have := HRl.out; simp; omega) j
        have hjN : (j : Int) < (N : Int) := by omega
        clear h4 hb4 hlen2 hL4
        go_wp2
        go_roundw
        case rel =>
          obtain ⟨p1, p2, p3⟩ := put_ival (j := j) HO.out H4.out HB.out.size HS4.out
          rw [fill_set HRj.out] at p1
          exact ⟨j + 1, by simp, hlt, p1, HB4.out.grown p2 HB4.out.size (fun k hk => by injection hk with hk; omega)⟩
        case measure => simp [intOf]; omega
      · have e1 : decide ((j : Int) < (ss.length : Int)) = false := by simp; omega
        have ej : j = ss.length := by omega
        subst ej
        have HP := Lib.hid HO.out.rd2.parts
        obtain ⟨us, hus, hUs, hreads⟩ := HP.out
        have hlen : (R.take ss.length ++ List.replicate (R.length - ss.length) ([] : List Int)).length = N := by have := HRl.out; simp; omega
        have hcx : ss.length ≤ us.length := by rw [hus, hlen]; omega
        have eT : (R.take ss.length ++ List.replicate (R.length - ss.length) ([] : List Int)).take ss.length = rnds r ss := by
          rw [List.take_append_of_le_length (by have := HRl.out; simp; omega), List.take_take, Nat.min_self]; exact HRtake.out
        have ET := Lib.hid eT
        have HUs := Lib.hid hUs
        have Hreads := Lib.hid hreads
        have Hus := Lib.hid hus
        clear hus hUs hreads hlen eT HP
        go_wp2_with (first | (refine slice_rdv_h _ rfl _ _ _ i1 Try.underlying73 Hhi'.out hy1 rfl HUs.out _ rfl rfl hcx ?_))
        intro u5 hu5
        have h5 := rd2_head Hus.out hu5 Hreads.out
        rw [ET.out] at h5
        have H5 := Lib.hid h5
        have HU5 := Lib.hid (HU.out.behind (HB.out.mono hl1))
        have HT : Hid (rnds r ss ≠ []) := Lib.hid (fun h => by have := rnds_len r ss; rw [h] at this; simp at this; omega)
        clear hu5 h5
        go_wp2_with fail
        refine (ms_new H5.out HU5.out (Nat.le_refl _) (Nat.le_trans hl1 HB.out.size) HT.out).mono ?_
        rw [← HLst.out]
        rintro e w6 ⟨v6, rfl, h6, hb6⟩
        obtain ⟨a6, cap6, hv6, _⟩ := h6.open
        obtain ⟨L6, hL6⟩ : ∃ L, L = lst.length := ⟨_, rfl⟩
        rw [← hL6] at hv6
        subst hv6
        have H6 := Lib.hid h6
        replace HO := Lib.hid (HO.out.next hb6)
        have HB6 := Lib.hid (HB.out.trans (hb6.mono HB.out.size))
        have HS6 := Lib.hid hb6.size
        have hlen2 : ss.length < (R.take ss.length ++ List.replicate (R.length - ss.length) ([] : List Int)).length := by have := HRl.out; simp; omega
        obtain ⟨u2, c2⟩ := HO.out.cellAt hlen2
        have f2 := HO.out.free (by have := HRl.out; simp; omega) ss.length
        have hjN : (ss.length : Int) < (N : Int) := by omega
        have hjN' : ss.length < N := by omega
        clear h6 hb6 hlen2 hL6
        go_wp2
        go_ret
        obtain ⟨p1, p2, p3⟩ := put_ival (j := ss.length) HO.out H6.out HB.out.size HS6.out
        rw [fill_set HRlast.out, List.take_of_length_le (by have := HRl.out; omega), show R.length - (ss.length + 1) = 0 by have := HRl.out; omega, List.replicate_zero, List.append_nil] at p1
        exact ⟨_, rfl, p1, HB6.out.grown p2 HB6.out.size (fun k hk => by injection hk with hk; omega)⟩
  · have HI : Hid (inR (N : Int) 2 4 = false) := Lib.hid (inR_no (by omega))
    have HE : Hid (mkq r x ss = []) := Lib.hid (mkq_no (fun h => hin h.2))
    clear hcc hin hN
    go_enter Try.func58, Try.ntmps58
    go_wp2_with fail
    refine (impl_mn _ _ _ HW1.out (wf_i64_of (by omega) (by omega))).mono ?_
    rw [Hm.out]
    rintro e w1 ⟨rfl, hb1⟩
    have HB1 := Lib.hid hb1
    clear hb1
    go_wp2_with (first | (at_make; refine wpList_make_full _ rfl _ _ 73 rfl w1.heap.size 27 i1 (.slice none 0 0) 1 Try.underlying73 Hhi'.out hy0 hy1 .i64 .i64 _ _ N rfl rfl rfl rfl (by rw [hy2]; omega) (by unfold maxLen; omega) (Nat.le_refl _) ?_))
    intro w2 hown hg
    have HB2 := Lib.hid (HB1.out.trans (((Below.refl w1.heap.size w1).grown hg (Nat.le_refl _) (fun k hk => by cases hk)).mono HB1.out.size))
    clear hown hg
    go_wp2_with fail
    refine (fitQ_any (by omega)).mono ?_
    rw [HI.out]
    rintro e w3 ⟨rfl, hw3⟩
    subst hw3
    go_wp2_with fail
    go_ret
    refine ⟨_, rfl, ?_, HB2.out.alloc HB2.out.size _⟩
    rw [HE.out]
    exact Own2.lit _ _ _ (by have := HB2.out.size; unfold ival; simp; omega)

set_option maxHeartbeats 1000000 in
/-- impl.MakeQuery. -/
theorem impl_mkq {lim : Nat} {w : World} {v : Value} {r x : Int} {ss : List Int} (hv : Rd lim .i64 w v ss) (hl : lim ≤ w.heap.size) (hr : (Lit.int .i64 r).wf = true) (hx : (Lit.int .i64 x).wf = true) (hs : ss.length ≤ 1099511627776) :
    Calls Try.prog 15 #[.int .i64 r, .int .i64 x, v] w fun e w' => ∃ v', e = .returned v' ∧ Own2 27 3 .i64 (ival w.heap.size w'.heap.size) w' v' (mkq r x ss) ∧ Below w.heap.size w w' := by
  have hmf : ∀ (fn : Fn) (first cap : Array Value) (w : World), (Instr.makeFunc fn first cap).run Try.prog w = .ok (.func fn first cap) w := fun _ _ _ _ => rfl
  have HRw := Lib.hid hr
  have HXw := Lib.hid hx
  have b1 := (Below.refl w.heap.size w).alloc (Nat.le_refl _) (.cells #[.int .i64 r] 3)
  have HB := Lib.hid b1
  have HV := Lib.hid (hv.behind (b1.mono hl))
  have HC : Hid ((w.alloc (.cells #[.int .i64 r] 3)).cell? ⟨w.heap.size, 0, none⟩ = some (.int .i64 r)) := Lib.hid (blk_cell (heap_alloc_new w (.cells #[.int .i64 r] 3)) 0)
  clear hv hr hx b1
  go_enter Try.func15, Try.ntmps15
  have HCo := HC.out
  go_wp2_with fail
  clear HCo
  refine (impl_us HRw.out HXw.out).mono ?_
  rintro e w1 ⟨v1, rfl, h1, hb⟩
  have hlt : w.heap.size < (w.alloc (.cells #[.int .i64 r] 3)).heap.size := by simp
  have HC1 : Hid (w1.cell? ⟨w.heap.size, 0, none⟩ = some (.int .i64 r)) := Lib.hid ((hb.cell (p := ⟨w.heap.size, 0, none⟩) hlt).trans HC.out)
  have HLt : Hid (w.heap.size < w1.heap.size) := Lib.hid (Nat.lt_of_lt_of_le hlt hb.size)
  obtain ⟨a1, cap1, hv1, _⟩ := h1.open
  have H1 := Lib.hid h1
  have HV1 := Lib.hid (HV.out.behind (hb.mono (Nat.le_trans hl HB.out.size)))
  have HB1 := Lib.hid (HB.out.trans (hb.mono HB.out.size))
  obtain ⟨nU, hnU⟩ : ∃ n, n = (unitV r x).length := ⟨_, rfl⟩
  rw [← hnU] at hv1
  have HnU := Lib.hid hnU
  subst hv1
  have hn64 : nU ≤ 64 := by rw [hnU]; exact unitV_len _ _
  clear h1 hb hnU hlt
  by_cases h0 : nU = 0
  · have e1 : ((nU : Int) == 0) = true := by simp; exact h0
    have HE : Hid (mkq r x ss = []) := Lib.hid (mkq_no (fun h => h.1 (by rw [← HnU.out]; exact h0)))
    clear h0
    go_wp2_with fail
    go_ret
    refine ⟨_, rfl, ?_, HB1.out.alloc HB1.out.size _⟩
    rw [HE.out]
    exact Own2.lit _ _ _ (by have := HB1.out.size; unfold ival; simp; omega)
  · have e1 : ((nU : Int) == 0) = false := by simp; exact h0
    have HN : Hid ((unitV r x).length ≠ 0) := Lib.hid (by rw [← HnU.out]; exact h0)
    clear h0
    go_wp2_with fail
    refine (divQ_any H1.out.rd HV1.out (Nat.le_refl _) (Nat.le_trans hl HB1.out.size) HRw.out HN.out HC1.out HLt.out).mono ?_
    rintro e w2 ⟨v2, rfl, h3, hb⟩
    have H3 := Lib.hid (h3.mono (G := ival w.heap.size w2.heap.size) (fun b hb' => by have := HB1.out.size; unfold ival at hb' ⊢; omega))
    have HB2 := Lib.hid (HB1.out.trans (hb.mono HB1.out.size))
    clear h3 hb
    go_wp2_with fail
    go_ret
    exact ⟨_, rfl, H3.out, HB2.out⟩

end Go.Proofs.Ytigeghmkkppldaa
