/- FnDatabases: the walk. No conditions. -/
import Derived.Test.YtdeahjinnnhfkaaDraw8
import Derived.Test.YtdeahjinnnhfkaaJ9
import Derived.Test.YtdeahjinnnhfkaaDbP
import Derived.Test.YtdeahjinnnhfkaaDb2
import Derived.Deep.RegionHeld3
import Derived.RegionTactic
import Derived.Deep.RegionWith
namespace Go.Proofs.Ytdeahjinnnhfkaa
open Go Go.RowKit
set_option linter.unusedVariables false
attribute [local irreducible] kh

set_option maxHeartbeats 8000000 in
set_option maxRecDepth 20000 in
theorem fnDatabases_walk (a : Option Addr) (len cap : Nat) (zs : List Int) (w : World) (hrow : IsRow .u8 w a len cap zs) :
    Calls Try.prog 4 #[.slice a len cap] w fun e w' => e = .returned (.bool true) ∧ Below w.heap.size w w' := by
  obtain ⟨hr, hl⟩ := row_own hrow
  obtain ⟨s, A, l⟩ : ∃ s, Rd w.heap.size .u8 w (.slice a len cap) s ∧ len = s.length := ⟨zs.take len, hrow.rd, hrow.rd.len_eq⟩
  subst l
  have HR := Lib.hid hr
  have HL := Lib.hid hl
  have hl' : s.length ≤ 9223372036854775807 := by unfold maxLen at hl; omega
  clear hr hrow hl A
  by_cases hbig : 1048576 < s.length
  · have e0 : decide ((1048576 : Int) < (s.length : Int)) = true := by simp; omega
    go_enter Try.func4, Try.ntmps4
    go_wp2_with fail
    refine (big_is a s.length cap _ hl').mono ?_
    rw [e0]
    rintro e w0 ⟨rfl, rfl⟩
    go_wp2_with fail
    go_ret
    exact ⟨rfl, Below.refl _ _⟩
  have e0 : decide ((1048576 : Int) < (s.length : Int)) = false := by simp; omega
  clear hbig
  go_enter Try.func4, Try.ntmps4
  go_wp2_with fail
  refine (big_is a s.length cap _ hl').mono ?_
  rw [e0]
  rintro e w0 ⟨rfl, hw0⟩
  obtain rfl : w = w0 := hw0.symm
  clear hw0
  go_wp2_with fail
  refine (draw_rep w.heap.size a s.length cap zs _ (Nat.le_refl _) HR.out HL.out).mono ?_
  rintro e w1 ⟨vd_, zss, x, vc, c, rfl, hO, hz64, hfl, hx0, hx1, hC, hc25, hb⟩
  obtain ⟨ad, cd, hvd, _⟩ := hO.open
  obtain ⟨Ld, hLd⟩ : ∃ L, L = zss.length := ⟨_, rfl⟩
  rw [← hLd] at hvd
  subst hvd
  obtain ⟨ac, cc, hvc, _⟩ := hC.open
  obtain ⟨Lc, hLc⟩ : ∃ L, L = c.length := ⟨_, rfl⟩
  rw [← hLc] at hvc
  subst hvc
  have R_d := Lib.hid hO.rd2
  have R_c := Lib.hid hC.rd
  have HB := Lib.hid hb
  have HTt : Hid (tot zss ≤ 1664) := Lib.hid (by unfold tot; omega)
  have HX : Hid ((Lit.int .i64 x).wf = true) := Lib.hid (wf_i64_of (by omega) (by omega))
  have HLd := Lib.hid hLd
  have HLc := Lib.hid hLc
  have HC25 := Lib.hid hc25
  have hLd64 : Ld ≤ 64 := by omega
  have hLc25 : Lc ≤ 25 := by omega
  clear hO hC hb hLd hLc hz64 hfl hc25
  have hb : Below w1.heap.size w1 (w1.alloc (.cells #[.slice ad Ld cd] 30)) := (Below.refl _ _).alloc (Nat.le_refl _) _
  replace R_d := Lib.hid ((R_d.out.behind hb).mono hb.size)
  replace R_c := Lib.hid ((R_c.out.behind hb).mono hb.size)
  replace HB := Lib.hid (HB.out.trans (hb.mono HB.out.size))
  clear hb
  have K_d := Lib.hid (heap_alloc_new w1 (.cells #[.slice ad Ld cd] 30))
  have k_d := (blk_cell K_d.out 0).trans (one0 _)
  go_wp2_with fail
  clear k_d
  obtain ⟨w2, hw⟩ : ∃ x, x = w1.alloc (.cells #[.slice ad Ld cd] 30) := ⟨_, rfl⟩
  rw [← hw] at HB R_d R_c K_d ⊢
  clear hw
  by_cases hk : repK zss x c = true
  case neg =>
    have hkf : repK zss x c = false := by simpa using hk
    have HK := Lib.hid hkf
    have HE := Lib.hid (rep_no hkf)
    have hcase : x < 0 ∨ (0 ≤ x ∧ (Ld : Int) ≤ x) ∨ (0 ≤ x ∧ x < (Ld : Int) ∧ ¬ Lc = 24) := by
      by_cases h1 : x < 0
      · exact .inl h1
      · by_cases h2 : (Ld : Int) ≤ x
        · exact .inr (.inl ⟨by omega, h2⟩)
        · refine .inr (.inr ⟨by omega, by omega, fun h3 => ?_⟩)
          exact hk (repK_iff.2 ⟨hasR_iff.2 ⟨x.toNat, by omega, by rw [← HLd.out]; omega⟩, by rw [← HLc.out]; exact h3⟩)
    clear hk hkf
    refine (impl_rep R_d.out R_c.out (Nat.le_refl _) (Nat.le_refl _) HX.out (by have := HTt.out; omega) (by have := HC25.out; omega)).mono ?_
    rw [HK.out, HE.out]
    rintro e w3 ⟨vx, rfl, hO, hb⟩
    obtain ⟨ax, cx, hvx, _⟩ := hO.open
    obtain ⟨Lx, hLx⟩ : ∃ L, L = zss.length := ⟨_, rfl⟩
    rw [← hLx] at hvx
    subst hvx
    clear hLx
    replace R_d := Lib.hid ((R_d.out.behind hb).mono hb.size)
    replace R_c := Lib.hid ((R_c.out.behind hb).mono hb.size)
    replace K_d := Lib.hid ((hb.block (w1.heap.size) (lt_of_block K_d.out)).trans K_d.out)
    replace HB := Lib.hid (HB.out.trans (hb.mono HB.out.size))
    clear hb
    have R_x := Lib.hid hO.rd2
    clear hO
    rcases hcase with h1 | ⟨h1, h2⟩ | ⟨h1, h2, h3⟩
    ·
      have e1 : decide (0 ≤ x) = false := by simp; omega
      clear h1
      have hb : Below w3.heap.size w3 (w3.alloc (.cells #[.slice ax Lx cx] 30)) := (Below.refl _ _).alloc (Nat.le_refl _) _
      replace R_d := Lib.hid ((R_d.out.behind hb).mono hb.size)
      replace R_c := Lib.hid ((R_c.out.behind hb).mono hb.size)
      replace R_x := Lib.hid ((R_x.out.behind hb).mono hb.size)
      replace K_d := Lib.hid ((hb.block (w1.heap.size) (lt_of_block K_d.out)).trans K_d.out)
      replace HB := Lib.hid (HB.out.trans (hb.mono HB.out.size))
      clear hb
      have K_x := Lib.hid (heap_alloc_new w3 (.cells #[.slice ax Lx cx] 30))
      have k_d := (blk_cell K_d.out 0).trans (one0 _)
      have k_x := (blk_cell K_x.out 0).trans (one0 _)
      go_wp2_with fail
      clear k_d k_x
      obtain ⟨w4, hw⟩ : ∃ x, x = w3.alloc (.cells #[.slice ax Lx cx] 30) := ⟨_, rfl⟩
      rw [← hw] at HB R_d R_c R_x K_d K_x ⊢
      clear hw
      refine (impl_ed R_x.out R_d.out (Nat.le_refl _) (Nat.le_refl _) (by have := HTt.out; omega)).mono ?_
      rw [decide_eq_true rfl]
      rintro e w5 ⟨rfl, hb⟩
      replace R_d := Lib.hid ((R_d.out.behind hb).mono hb.size)
      replace R_c := Lib.hid ((R_c.out.behind hb).mono hb.size)
      replace R_x := Lib.hid ((R_x.out.behind hb).mono hb.size)
      replace K_d := Lib.hid ((hb.block (w1.heap.size) (lt_of_block K_d.out)).trans K_d.out)
      replace K_x := Lib.hid ((hb.block (w3.heap.size) (lt_of_block K_x.out)).trans K_x.out)
      replace HB := Lib.hid (HB.out.trans (hb.mono HB.out.size))
      clear hb
      go_wp2_with fail
      go_ret
      exact ⟨rfl, HB.out⟩
    ·
      have e1 : decide (0 ≤ x) = true := by simp; omega
      have e2 : decide (x < (Ld : Int)) = false := by simp; omega
      clear h1 h2
      have hb : Below w3.heap.size w3 (w3.alloc (.cells #[.slice ax Lx cx] 30)) := (Below.refl _ _).alloc (Nat.le_refl _) _
      replace R_d := Lib.hid ((R_d.out.behind hb).mono hb.size)
      replace R_c := Lib.hid ((R_c.out.behind hb).mono hb.size)
      replace R_x := Lib.hid ((R_x.out.behind hb).mono hb.size)
      replace K_d := Lib.hid ((hb.block (w1.heap.size) (lt_of_block K_d.out)).trans K_d.out)
      replace HB := Lib.hid (HB.out.trans (hb.mono HB.out.size))
      clear hb
      have K_x := Lib.hid (heap_alloc_new w3 (.cells #[.slice ax Lx cx] 30))
      have k_d := (blk_cell K_d.out 0).trans (one0 _)
      have k_x := (blk_cell K_x.out 0).trans (one0 _)
      go_wp2_with fail
      clear k_d k_x
      obtain ⟨w4, hw⟩ : ∃ x, x = w3.alloc (.cells #[.slice ax Lx cx] 30) := ⟨_, rfl⟩
      rw [← hw] at HB R_d R_c R_x K_d K_x ⊢
      clear hw
      refine (impl_ed R_x.out R_d.out (Nat.le_refl _) (Nat.le_refl _) (by have := HTt.out; omega)).mono ?_
      rw [decide_eq_true rfl]
      rintro e w5 ⟨rfl, hb⟩
      replace R_d := Lib.hid ((R_d.out.behind hb).mono hb.size)
      replace R_c := Lib.hid ((R_c.out.behind hb).mono hb.size)
      replace R_x := Lib.hid ((R_x.out.behind hb).mono hb.size)
      replace K_d := Lib.hid ((hb.block (w1.heap.size) (lt_of_block K_d.out)).trans K_d.out)
      replace K_x := Lib.hid ((hb.block (w3.heap.size) (lt_of_block K_x.out)).trans K_x.out)
      replace HB := Lib.hid (HB.out.trans (hb.mono HB.out.size))
      clear hb
      go_wp2_with fail
      go_ret
      exact ⟨rfl, HB.out⟩
    ·
      have e1 : decide (0 ≤ x) = true := by simp; omega
      have e2 : decide (x < (Ld : Int)) = true := by simp; omega
      have e3 : ((Lc : Int) == 24) = false := by rw [beq_eq_false_iff_ne]; omega
      clear h1 h2 h3
      have hb : Below w3.heap.size w3 (w3.alloc (.cells #[.slice ax Lx cx] 30)) := (Below.refl _ _).alloc (Nat.le_refl _) _
      replace R_d := Lib.hid ((R_d.out.behind hb).mono hb.size)
      replace R_c := Lib.hid ((R_c.out.behind hb).mono hb.size)
      replace R_x := Lib.hid ((R_x.out.behind hb).mono hb.size)
      replace K_d := Lib.hid ((hb.block (w1.heap.size) (lt_of_block K_d.out)).trans K_d.out)
      replace HB := Lib.hid (HB.out.trans (hb.mono HB.out.size))
      clear hb
      have K_x := Lib.hid (heap_alloc_new w3 (.cells #[.slice ax Lx cx] 30))
      have k_d := (blk_cell K_d.out 0).trans (one0 _)
      have k_x := (blk_cell K_x.out 0).trans (one0 _)
      go_wp2_with fail
      clear k_d k_x
      obtain ⟨w4, hw⟩ : ∃ x, x = w3.alloc (.cells #[.slice ax Lx cx] 30) := ⟨_, rfl⟩
      rw [← hw] at HB R_d R_c R_x K_d K_x ⊢
      clear hw
      refine (impl_ed R_x.out R_d.out (Nat.le_refl _) (Nat.le_refl _) (by have := HTt.out; omega)).mono ?_
      rw [decide_eq_true rfl]
      rintro e w5 ⟨rfl, hb⟩
      replace R_d := Lib.hid ((R_d.out.behind hb).mono hb.size)
      replace R_c := Lib.hid ((R_c.out.behind hb).mono hb.size)
      replace R_x := Lib.hid ((R_x.out.behind hb).mono hb.size)
      replace K_d := Lib.hid ((hb.block (w1.heap.size) (lt_of_block K_d.out)).trans K_d.out)
      replace K_x := Lib.hid ((hb.block (w3.heap.size) (lt_of_block K_x.out)).trans K_x.out)
      replace HB := Lib.hid (HB.out.trans (hb.mono HB.out.size))
      clear hb
      go_wp2_with fail
      go_ret
      exact ⟨rfl, HB.out⟩
  obtain ⟨hk1, hk2⟩ := repK_iff.1 hk
  obtain ⟨k0, hxk, hk0⟩ := hasR_iff.1 hk1
  subst hxk
  have HK := Lib.hid hk
  have HE := Lib.hid (rep_yes hk)
  have HC24 := Lib.hid hk2
  have HK0 := Lib.hid hk0
  obtain rfl : Lc = 24 := by rw [HLc.out, hk2]
  have hkL : (k0 : Int) < (Ld : Int) := by rw [HLd.out]; omega
  have e2 : decide ((k0 : Int) < (Ld : Int)) = true := by simp; omega
  clear hk hk1 hk2 hk0
  refine (impl_rep R_d.out R_c.out (Nat.le_refl _) (Nat.le_refl _) HX.out (by have := HTt.out; omega) (by have := HC25.out; omega)).mono ?_
  rw [HK.out, HE.out]
  rintro e w3 ⟨vx, rfl, hO, hb⟩
  obtain ⟨ax, cx, hvx, _⟩ := hO.open
  obtain ⟨Lx, hLx⟩ : ∃ L, L = (zss.set k0 c).length := ⟨_, rfl⟩
  rw [← hLx] at hvx
  subst hvx
  clear hLx
  replace R_d := Lib.hid ((R_d.out.behind hb).mono hb.size)
  replace R_c := Lib.hid ((R_c.out.behind hb).mono hb.size)
  replace K_d := Lib.hid ((hb.block (w1.heap.size) (lt_of_block K_d.out)).trans K_d.out)
  replace HB := Lib.hid (HB.out.trans (hb.mono HB.out.size))
  clear hb
  have R_x := Lib.hid hO.rd2
  clear hO
  have hb : Below w3.heap.size w3 (w3.alloc (.cells #[.slice ax Lx cx] 30)) := (Below.refl _ _).alloc (Nat.le_refl _) _
  replace R_d := Lib.hid ((R_d.out.behind hb).mono hb.size)
  replace R_c := Lib.hid ((R_c.out.behind hb).mono hb.size)
  replace R_x := Lib.hid ((R_x.out.behind hb).mono hb.size)
  replace K_d := Lib.hid ((hb.block (w1.heap.size) (lt_of_block K_d.out)).trans K_d.out)
  replace HB := Lib.hid (HB.out.trans (hb.mono HB.out.size))
  clear hb
  have K_x := Lib.hid (heap_alloc_new w3 (.cells #[.slice ax Lx cx] 30))
  have k_d := (blk_cell K_d.out 0).trans (one0 _)
  have k_x := (blk_cell K_x.out 0).trans (one0 _)
  go_wp2_with fail
  clear k_d k_x
  obtain ⟨w4, hw⟩ : ∃ x, x = w3.alloc (.cells #[.slice ax Lx cx] 30) := ⟨_, rfl⟩
  rw [← hw] at HB R_d R_c R_x K_d K_x ⊢
  clear hw
  go_loopw [8] (fun t wr => ∃ k : Nat, t = .int .i64 k ∧ k ≤ Ld ∧ Rd2 wr.heap.size .u8 wr (.slice ad Ld cd) zss ∧ Rd wr.heap.size .u8 wr (.slice ac 24 cc) c ∧ Rd2 wr.heap.size .u8 wr (.slice ax Lx cx) (zss.set k0 c) ∧ wr.heap[w1.heap.size]? = some (.cells #[.slice ad Ld cd] 30) ∧ wr.heap[w3.heap.size]? = some (.cells #[.slice ax Lx cx] 30) ∧ Below w.heap.size w wr) (fun t _ => Ld - (intOf t).toNat)
  case atStart => exact ⟨0, rfl, Nat.zero_le _, R_d.out, R_c.out, R_x.out, K_d.out, K_x.out, HB.out⟩
  case round =>
    obtain ⟨k, rfl, hj, hRd, hRc, hRx, hKd, hKx, hB⟩ := hrel
    replace R_d := Lib.hid hRd
    replace R_c := Lib.hid hRc
    replace R_x := Lib.hid hRx
    replace HB := Lib.hid hB
    replace K_d := Lib.hid hKd
    replace K_x := Lib.hid hKx
    clear hRd hRc hRx hB hKd hKx
    by_cases hlt : k < Ld
    ·
      have e3 : decide ((k : Int) < (Ld : Int)) = true := by simp; omega
      have hlt' : (k : Int) < (Ld : Int) := by omega
      have hkz : k < zss.length := by rw [← HLd.out]; exact hlt
      obtain ⟨hh1, hh2⟩ := rdR_set (k := k0) (c := c) hkz
      have HH1 := Lib.hid hh1
      have HH2 := Lib.hid hh2
      have HKw : Hid ((Lit.int .i64 (k : Int)).wf = true) := Lib.hid (wf_i64_of (by omega) (by omega))
      have HTx : Hid (tot (zss.set k0 c) ≤ 1099511627776) := Lib.hid (by have := tot_set zss k0 c; have := HTt.out; have := HC25.out; omega)
      have HGk := Lib.hid (show zss[k]? = some (zss.getD k []) by rw [List.getD_eq_getElem?_getD, List.getElem?_eq_getElem hkz]; rfl)
      clear hh1 hh2 hkz
      have k_d := (blk_cell K_d.out 0).trans (one0 _)
      have k_x := (blk_cell K_x.out 0).trans (one0 _)
      go_wp2_with fail
      clear k_d k_x
      refine (impl_rr R_x.out (Nat.le_refl _) HKw.out HTx.out).mono ?_
      rw [HH1.out, HH2.out]
      rintro e w5 ⟨vb, rfl, hO, hb⟩
      replace R_d := Lib.hid ((R_d.out.behind hb).mono hb.size)
      replace R_c := Lib.hid ((R_c.out.behind hb).mono hb.size)
      replace R_x := Lib.hid ((R_x.out.behind hb).mono hb.size)
      replace K_d := Lib.hid ((hb.block (w1.heap.size) (lt_of_block K_d.out)).trans K_d.out)
      replace K_x := Lib.hid ((hb.block (w3.heap.size) (lt_of_block K_x.out)).trans K_x.out)
      replace HB := Lib.hid (HB.out.trans (hb.mono HB.out.size))
      clear hb
      have R_b := Lib.hid hO.rd
      clear hO
      by_cases hkk : k0 = k
      ·
        obtain rfl : k = k0 := hkk.symm
        replace R_b := Lib.hid (show Rd w5.heap.size .u8 w5 vb c by have := R_b.out; rwa [if_pos rfl] at this)
        have k_d := (blk_cell K_d.out 0).trans (one0 _)
        have k_x := (blk_cell K_x.out 0).trans (one0 _)
        go_wp2_with fail
        clear k_d k_x
        refine (sameBytes_same R_b.out R_c.out (Nat.le_refl _) (Nat.le_refl _)).mono ?_
        rintro e w6 ⟨rfl, hb⟩
        replace R_d := Lib.hid ((R_d.out.behind hb).mono hb.size)
        replace R_c := Lib.hid ((R_c.out.behind hb).mono hb.size)
        replace R_x := Lib.hid ((R_x.out.behind hb).mono hb.size)
        replace R_b := Lib.hid ((R_b.out.behind hb).mono hb.size)
        replace K_d := Lib.hid ((hb.block (w1.heap.size) (lt_of_block K_d.out)).trans K_d.out)
        replace K_x := Lib.hid ((hb.block (w3.heap.size) (lt_of_block K_x.out)).trans K_x.out)
        replace HB := Lib.hid (HB.out.trans (hb.mono HB.out.size))
        clear hb
        have k_d := (blk_cell K_d.out 0).trans (one0 _)
        have k_x := (blk_cell K_x.out 0).trans (one0 _)
        go_wp2_with fail
        go_roundw
        case rel => exact ⟨k + 1, by simp, hlt, R_d.out, R_c.out, R_x.out, K_d.out, K_x.out, HB.out⟩
        case measure => simp [intOf]; omega
      ·
        replace R_b := Lib.hid (show Rd w5.heap.size .u8 w5 vb (zss.getD k []) by have := R_b.out; rwa [if_neg hkk] at this)
        have e4 : ((k : Int) == (k0 : Int)) = false := by rw [beq_eq_false_iff_ne]; omega
        have e5 : ((k : Int) != (k0 : Int)) = true := by simp; omega
        obtain ⟨adR, cdR, hvR, _, _, hcR⟩ := R_d.out.open
        injection hvR with q1 q2 q3
        obtain ⟨bR, oR, hbR, hbRl, hcellR⟩ := hcR (by rw [← q2]; omega)
        rw [← q1] at hbR
        subst hbR
        obtain ⟨ur, cr, hrr⟩ := hcellR w5 (Below.refl _ _) k _ HGk.out
        have R_r := Lib.hid hrr
        clear hkk q1 q2 q3 hcR hcellR hrr
        have k_d := (blk_cell K_d.out 0).trans (one0 _)
        have k_x := (blk_cell K_x.out 0).trans (one0 _)
        go_wp2_with fail
        clear k_d k_x
        refine (sameBytes_same R_b.out R_r.out (Nat.le_refl _) (Nat.le_refl _)).mono ?_
        rintro e w6 ⟨rfl, hb⟩
        clear cr
        replace R_d := Lib.hid ((R_d.out.behind hb).mono hb.size)
        replace R_c := Lib.hid ((R_c.out.behind hb).mono hb.size)
        replace R_x := Lib.hid ((R_x.out.behind hb).mono hb.size)
        replace R_b := Lib.hid ((R_b.out.behind hb).mono hb.size)
        replace K_d := Lib.hid ((hb.block (w1.heap.size) (lt_of_block K_d.out)).trans K_d.out)
        replace K_x := Lib.hid ((hb.block (w3.heap.size) (lt_of_block K_x.out)).trans K_x.out)
        replace HB := Lib.hid (HB.out.trans (hb.mono HB.out.size))
        clear hb
        have k_d := (blk_cell K_d.out 0).trans (one0 _)
        have k_x := (blk_cell K_x.out 0).trans (one0 _)
        go_wp2_with fail
        go_roundw
        case rel => exact ⟨k + 1, by simp, hlt, R_d.out, R_c.out, R_x.out, K_d.out, K_x.out, HB.out⟩
        case measure => simp [intOf]; omega
    ·
      have e3 : decide ((k : Int) < (Ld : Int)) = false := by simp; omega
      clear hj
      have k_d := (blk_cell K_d.out 0).trans (one0 _)
      have k_x := (blk_cell K_x.out 0).trans (one0 _)
      go_wp2_with fail
      clear k_d k_x
      obtain ⟨q, hq⟩ : ∃ q, q = vd zss := ⟨_, rfl⟩
      refine (spec_vd R_d.out (Nat.le_refl _)).mono ?_
      rw [← hq]
      rintro e w7 ⟨rfl, hb⟩
      replace R_d := Lib.hid ((R_d.out.behind hb).mono hb.size)
      replace R_c := Lib.hid ((R_c.out.behind hb).mono hb.size)
      replace R_x := Lib.hid ((R_x.out.behind hb).mono hb.size)
      replace K_d := Lib.hid ((hb.block (w1.heap.size) (lt_of_block K_d.out)).trans K_d.out)
      replace K_x := Lib.hid ((hb.block (w3.heap.size) (lt_of_block K_x.out)).trans K_x.out)
      replace HB := Lib.hid (HB.out.trans (hb.mono HB.out.size))
      clear hb
      have HQ := Lib.hid hq
      clear hq
      cases q
      ·
        have k_d := (blk_cell K_d.out 0).trans (one0 _)
        have k_x := (blk_cell K_x.out 0).trans (one0 _)
        go_wp2_with fail
        clear k_d k_x
        go_ret
        exact ⟨rfl, HB.out⟩
      ·
        have hvd := HQ.out.symm
        have HVr := Lib.hid (vd_rows hvd)
        have h24k : (zss.getD k0 []).length = 24 := HVr.out.2 k0 HK0.out
        have htw := xr_twice HK0.out (R_d.out.u8s k0 _ (by rw [List.getD_eq_getElem?_getD, List.getElem?_eq_getElem HK0.out]; rfl)) R_c.out.u8s h24k HC24.out
        have HTw := Lib.hid htw
        have HXd := Lib.hid (xd_own hvd)
        have HVs := Lib.hid (vd_set (k := k0) hvd HC24.out)
        have HKw : Hid ((Lit.int .i64 (k0 : Int)).wf = true) := Lib.hid (wf_i64_of (by omega) (by omega))
        clear htw h24k hvd
        have k_d := (blk_cell K_d.out 0).trans (one0 _)
        have k_x := (blk_cell K_x.out 0).trans (one0 _)
        go_wp2_with fail
        clear k_d k_x
        refine (impl_xr R_d.out R_c.out (Nat.le_refl _) (Nat.le_refl _) HKw.out (by have := HTt.out; omega) (by have := HC25.out; omega)).mono ?_
        rw [HTw.out.1]
        rintro e w8 ⟨vy, rfl, hO, hb⟩
        obtain ⟨ay, cy, hv, _⟩ := hO.open
        obtain ⟨Ly, hL⟩ : ∃ L, L = (xr zss (k0 : Int) c).length := ⟨_, rfl⟩
        rw [← hL] at hv
        subst hv
        clear hL
        replace R_d := Lib.hid ((R_d.out.behind hb).mono hb.size)
        replace R_c := Lib.hid ((R_c.out.behind hb).mono hb.size)
        replace R_x := Lib.hid ((R_x.out.behind hb).mono hb.size)
        replace K_d := Lib.hid ((hb.block (w1.heap.size) (lt_of_block K_d.out)).trans K_d.out)
        replace K_x := Lib.hid ((hb.block (w3.heap.size) (lt_of_block K_x.out)).trans K_x.out)
        replace HB := Lib.hid (HB.out.trans (hb.mono HB.out.size))
        clear hb
        have R_y := Lib.hid hO.rd2
        clear hO
        have hb : Below w8.heap.size w8 (w8.alloc (.cells #[.slice ay Ly cy] 30)) := (Below.refl _ _).alloc (Nat.le_refl _) _
        replace R_d := Lib.hid ((R_d.out.behind hb).mono hb.size)
        replace R_c := Lib.hid ((R_c.out.behind hb).mono hb.size)
        replace R_x := Lib.hid ((R_x.out.behind hb).mono hb.size)
        replace R_y := Lib.hid ((R_y.out.behind hb).mono hb.size)
        replace K_d := Lib.hid ((hb.block (w1.heap.size) (lt_of_block K_d.out)).trans K_d.out)
        replace K_x := Lib.hid ((hb.block (w3.heap.size) (lt_of_block K_x.out)).trans K_x.out)
        replace HB := Lib.hid (HB.out.trans (hb.mono HB.out.size))
        clear hb
        have K_y := Lib.hid (heap_alloc_new w8 (.cells #[.slice ay Ly cy] 30))
        have k_d := (blk_cell K_d.out 0).trans (one0 _)
        have k_x := (blk_cell K_x.out 0).trans (one0 _)
        have k_y := (blk_cell K_y.out 0).trans (one0 _)
        go_wp2_with fail
        clear k_d k_x k_y
        obtain ⟨w9, hw⟩ : ∃ x, x = w8.alloc (.cells #[.slice ay Ly cy] 30) := ⟨_, rfl⟩
        rw [← hw] at HB R_d R_c R_x R_y K_d K_x K_y ⊢
        clear hw
        refine (impl_xr R_y.out R_c.out (Nat.le_refl _) (Nat.le_refl _) HKw.out (by have := tot_xr zss (k0 : Int) c; have := HTt.out; have := HC25.out; omega) (by have := HC25.out; omega)).mono ?_
        rw [HTw.out.2.1, HTw.out.2.2]
        rintro e w10 ⟨vz, rfl, hO, hb⟩
        obtain ⟨az, cz, hv, _⟩ := hO.open
        obtain ⟨Lz, hL⟩ : ∃ L, L = (zss).length := ⟨_, rfl⟩
        rw [← hL] at hv
        subst hv
        clear hL
        replace R_d := Lib.hid ((R_d.out.behind hb).mono hb.size)
        replace R_c := Lib.hid ((R_c.out.behind hb).mono hb.size)
        replace R_x := Lib.hid ((R_x.out.behind hb).mono hb.size)
        replace R_y := Lib.hid ((R_y.out.behind hb).mono hb.size)
        replace K_d := Lib.hid ((hb.block (w1.heap.size) (lt_of_block K_d.out)).trans K_d.out)
        replace K_x := Lib.hid ((hb.block (w3.heap.size) (lt_of_block K_x.out)).trans K_x.out)
        replace K_y := Lib.hid ((hb.block (w8.heap.size) (lt_of_block K_y.out)).trans K_y.out)
        replace HB := Lib.hid (HB.out.trans (hb.mono HB.out.size))
        clear hb
        have R_z := Lib.hid hO.rd2
        clear hO
        clear R_y K_y
        have hb : Below w10.heap.size w10 (w10.alloc (.cells #[.slice az Lz cz] 30)) := (Below.refl _ _).alloc (Nat.le_refl _) _
        replace R_d := Lib.hid ((R_d.out.behind hb).mono hb.size)
        replace R_c := Lib.hid ((R_c.out.behind hb).mono hb.size)
        replace R_x := Lib.hid ((R_x.out.behind hb).mono hb.size)
        replace R_z := Lib.hid ((R_z.out.behind hb).mono hb.size)
        replace K_d := Lib.hid ((hb.block (w1.heap.size) (lt_of_block K_d.out)).trans K_d.out)
        replace K_x := Lib.hid ((hb.block (w3.heap.size) (lt_of_block K_x.out)).trans K_x.out)
        replace HB := Lib.hid (HB.out.trans (hb.mono HB.out.size))
        clear hb
        have K_z := Lib.hid (heap_alloc_new w10 (.cells #[.slice az Lz cz] 30))
        have k_d := (blk_cell K_d.out 0).trans (one0 _)
        have k_x := (blk_cell K_x.out 0).trans (one0 _)
        have k_z := (blk_cell K_z.out 0).trans (one0 _)
        go_wp2_with fail
        clear k_d k_x k_z
        obtain ⟨w11, hw⟩ : ∃ x, x = w10.alloc (.cells #[.slice az Lz cz] 30) := ⟨_, rfl⟩
        rw [← hw] at HB R_d R_c R_x R_z K_d K_x K_z ⊢
        clear hw
        refine (impl_xd R_d.out R_d.out (Nat.le_refl _) (Nat.le_refl _) (by have := HTt.out; omega) (by have := HTt.out; omega)).mono ?_
        rw [HXd.out.1, HXd.out.2]
        obtain ⟨Z, hZ⟩ : ∃ Z, Z = List.replicate zss.length (List.replicate 24 (0 : Int)) := ⟨_, rfl⟩
        rw [← hZ]
        have HZ := Lib.hid hZ
        clear hZ
        rintro e w12 ⟨vo, rfl, hO, hb⟩
        obtain ⟨ao, co, hv, _⟩ := hO.open
        obtain ⟨Lo, hL⟩ : ∃ L, L = (Z).length := ⟨_, rfl⟩
        rw [← hL] at hv
        subst hv
        clear hL
        replace R_d := Lib.hid ((R_d.out.behind hb).mono hb.size)
        replace R_c := Lib.hid ((R_c.out.behind hb).mono hb.size)
        replace R_x := Lib.hid ((R_x.out.behind hb).mono hb.size)
        replace R_z := Lib.hid ((R_z.out.behind hb).mono hb.size)
        replace K_d := Lib.hid ((hb.block (w1.heap.size) (lt_of_block K_d.out)).trans K_d.out)
        replace K_x := Lib.hid ((hb.block (w3.heap.size) (lt_of_block K_x.out)).trans K_x.out)
        replace K_z := Lib.hid ((hb.block (w10.heap.size) (lt_of_block K_z.out)).trans K_z.out)
        replace HB := Lib.hid (HB.out.trans (hb.mono HB.out.size))
        clear hb
        have R_o := Lib.hid hO.rd2
        clear hO
        clear R_c
        have hb : Below w12.heap.size w12 (w12.alloc (.cells #[.slice ao Lo co] 30)) := (Below.refl _ _).alloc (Nat.le_refl _) _
        replace R_d := Lib.hid ((R_d.out.behind hb).mono hb.size)
        replace R_x := Lib.hid ((R_x.out.behind hb).mono hb.size)
        replace R_z := Lib.hid ((R_z.out.behind hb).mono hb.size)
        replace R_o := Lib.hid ((R_o.out.behind hb).mono hb.size)
        replace K_d := Lib.hid ((hb.block (w1.heap.size) (lt_of_block K_d.out)).trans K_d.out)
        replace K_x := Lib.hid ((hb.block (w3.heap.size) (lt_of_block K_x.out)).trans K_x.out)
        replace K_z := Lib.hid ((hb.block (w10.heap.size) (lt_of_block K_z.out)).trans K_z.out)
        replace HB := Lib.hid (HB.out.trans (hb.mono HB.out.size))
        clear hb
        have K_o := Lib.hid (heap_alloc_new w12 (.cells #[.slice ao Lo co] 30))
        have k_d := (blk_cell K_d.out 0).trans (one0 _)
        have k_x := (blk_cell K_x.out 0).trans (one0 _)
        have k_z := (blk_cell K_z.out 0).trans (one0 _)
        have k_o := (blk_cell K_o.out 0).trans (one0 _)
        go_wp2_with fail
        clear k_d k_x k_z k_o
        obtain ⟨w13, hw⟩ : ∃ x, x = w12.alloc (.cells #[.slice ao Lo co] 30) := ⟨_, rfl⟩
        rw [← hw] at HB R_d R_x R_z R_o K_d K_x K_z K_o ⊢
        clear hw
        have HN : Hid (newR (Ld : Int) = Z) := Lib.hid (by rw [newR_yes hLd64, HZ.out, HLd.out])
        have HCz : Hid (crw Z = 0) := Lib.hid (by rw [HZ.out]; exact crw_zero (fun zs hz => by rw [List.eq_of_mem_replicate hz]; exact isz_zeros 24))
        have HTz : Hid (tot Z ≤ 1099511627776) := Lib.hid (by rw [HZ.out]; unfold tot; rw [fl_replicate, List.length_replicate, List.length_replicate, ← HLd.out]; omega)
        have HLw : Hid ((Lit.int .i64 (Ld : Int)).wf = true) := Lib.hid (wf_i64_of (by omega) (by omega))
        have hb : Below w13.heap.size w13 w13.drew := (Below.refl _ _).drew
        replace R_d := Lib.hid ((R_d.out.behind hb).mono hb.size)
        replace R_x := Lib.hid ((R_x.out.behind hb).mono hb.size)
        replace R_z := Lib.hid ((R_z.out.behind hb).mono hb.size)
        replace R_o := Lib.hid ((R_o.out.behind hb).mono hb.size)
        replace K_d := Lib.hid ((hb.block (w1.heap.size) (lt_of_block K_d.out)).trans K_d.out)
        replace K_x := Lib.hid ((hb.block (w3.heap.size) (lt_of_block K_x.out)).trans K_x.out)
        replace K_z := Lib.hid ((hb.block (w10.heap.size) (lt_of_block K_z.out)).trans K_z.out)
        replace K_o := Lib.hid ((hb.block (w12.heap.size) (lt_of_block K_o.out)).trans K_o.out)
        replace HB := Lib.hid (HB.out.trans (hb.mono HB.out.size))
        clear hb
        have d0 : w13.drew.cell? ⟨w1.heap.size, 0, none⟩ = some (.slice ad Ld cd) ∧ w13.drew.cell? ⟨w3.heap.size, 0, none⟩ = some (.slice ax Lx cx) ∧ w13.drew.cell? ⟨w10.heap.size, 0, none⟩ = some (.slice az Lz cz) ∧ w13.drew.cell? ⟨w12.heap.size, 0, none⟩ = some (.slice ao Lo co) := ⟨(blk_cell K_d.out 0).trans (one0 _), (blk_cell K_x.out 0).trans (one0 _), (blk_cell K_z.out 0).trans (one0 _), (blk_cell K_o.out 0).trans (one0 _)⟩
        refine wp_region_held_drew (S := fun w' => w'.cell? ⟨w1.heap.size, 0, none⟩ = some (.slice ad Ld cd) ∧ w'.cell? ⟨w3.heap.size, 0, none⟩ = some (.slice ax Lx cx) ∧ w'.cell? ⟨w10.heap.size, 0, none⟩ = some (.slice az Lz cz) ∧ w'.cell? ⟨w12.heap.size, 0, none⟩ = some (.slice ao Lo co)) (by kernel_rfl) d0 (fun _ => ?_)
        obtain ⟨w14, hw⟩ : ∃ x, x = w13.drew := ⟨_, rfl⟩
        rw [← hw] at HB d0 R_d R_x R_z R_o K_d K_x K_z K_o ⊢
        clear hw
        apply wpAnyH_take (i := 0)
        · simp only [List.getElem?_toArray, List.getElem?_cons_succ, List.getElem?_cons_zero]
          rfl
        · kernel_rfl
        · kernel_rfl
        · kernel_rfl
        · exact fun _ _ _ h => h
        · first
            | exact Or.inr ⟨by rfl, rfl⟩
            | (refine Or.inl ⟨by rfl, fun wq hwq => ?_⟩
               dsimp only at hwq
               go_simp
               first
                 | done
                 | rfl)
        · exact d0
        simp only [Act.put, List.setIfInBounds_toArray, List.set_cons_zero, List.set_cons_succ]
        apply wpAnyH_take (i := 1)
        · simp only [List.getElem?_toArray, List.getElem?_cons_succ, List.getElem?_cons_zero]
          rfl
        · kernel_rfl
        · kernel_rfl
        · kernel_rfl
        · exact fun _ _ _ h => h
        · first
            | exact Or.inr ⟨by rfl, rfl⟩
            | (refine Or.inl ⟨by rfl, fun wq hwq => ?_⟩
               dsimp only at hwq
               go_simp
               first
                 | done
                 | rfl)
        · exact d0
        simp only [Act.put, List.setIfInBounds_toArray, List.set_cons_zero, List.set_cons_succ]
        apply wpAnyH_take (i := 2)
        · simp only [List.getElem?_toArray, List.getElem?_cons_succ, List.getElem?_cons_zero]
          rfl
        · kernel_rfl
        · kernel_rfl
        · kernel_rfl
        · exact fun _ _ _ h => h
        · first
            | exact Or.inr ⟨by rfl, rfl⟩
            | (refine Or.inl ⟨by rfl, fun wq hwq => ?_⟩
               dsimp only at hwq
               go_simp
               first
                 | done
                 | rfl)
        · exact d0
        simp only [Act.put, List.setIfInBounds_toArray, List.set_cons_zero, List.set_cons_succ]
        apply wpAnyH_take (i := 3)
        · simp only [List.getElem?_toArray, List.getElem?_cons_succ, List.getElem?_cons_zero]
          rfl
        · kernel_rfl
        · kernel_rfl
        · kernel_rfl
        · exact fun _ _ _ h => h
        · first
            | exact Or.inr ⟨by rfl, rfl⟩
            | (refine Or.inl ⟨by rfl, fun wq hwq => ?_⟩
               dsimp only at hwq
               go_simp
               first
                 | done
                 | rfl)
        · exact d0
        simp only [Act.put, List.setIfInBounds_toArray, List.set_cons_zero, List.set_cons_succ]
        apply wpAnyH_take (i := 4)
        · simp only [List.getElem?_toArray, List.getElem?_cons_succ, List.getElem?_cons_zero]
          rfl
        · kernel_rfl
        · kernel_rfl
        · kernel_rfl
        · exact fun _ _ _ h => h
        · first
            | exact Or.inr ⟨by rfl, rfl⟩
            | (refine Or.inl ⟨by rfl, fun wq hwq => ?_⟩
               dsimp only at hwq
               go_simp
               first
                 | done
                 | rfl)
        · exact d0
        simp only [Act.put, List.setIfInBounds_toArray, List.set_cons_zero, List.set_cons_succ]
        apply wpAnyH_take (i := 5)
        · simp only [List.getElem?_toArray, List.getElem?_cons_succ, List.getElem?_cons_zero]
          rfl
        · kernel_rfl
        · kernel_rfl
        · kernel_rfl
        · exact fun _ _ _ h => h
        · first
            | exact Or.inr ⟨by rfl, rfl⟩
            | (refine Or.inl ⟨by rfl, fun wq hwq => ?_⟩
               dsimp only at hwq
               go_simp
               first
                 | done
                 | rfl)
        · exact d0
        simp only [Act.put, List.setIfInBounds_toArray, List.set_cons_zero, List.set_cons_succ]
        apply wpAnyH_take (i := 6)
        · simp only [List.getElem?_toArray, List.getElem?_cons_succ, List.getElem?_cons_zero]
          rfl
        · kernel_rfl
        · kernel_rfl
        · kernel_rfl
        · exact fun _ _ _ h => h
        · first
            | exact Or.inr ⟨by rfl, rfl⟩
            | (refine Or.inl ⟨by rfl, fun wq hwq => ?_⟩
               dsimp only at hwq
               go_simp
               first
                 | done
                 | rfl)
        · exact d0
        simp only [Act.put, List.setIfInBounds_toArray, List.set_cons_zero, List.set_cons_succ]
        refine wpAnyH_ready (rs := [7]) (by kernel_rfl) (by simp) ?_
        apply AllReadyH.cons
        · simp only [List.getElem?_toArray, List.getElem?_cons_succ, List.getElem?_cons_zero]
          rfl
        rotate_left
        · exact AllReadyH.nil
        intro K hK
        go_simp
        refine (impl_ed R_z.out R_d.out (Nat.le_refl _) (Nat.le_refl _) (by have := HTt.out; omega)).mono ?_
        rw [decide_eq_true rfl]
        rintro e' w15 ⟨rfl, hb⟩
        replace R_d := Lib.hid ((R_d.out.behind hb).mono hb.size)
        replace R_x := Lib.hid ((R_x.out.behind hb).mono hb.size)
        replace R_z := Lib.hid ((R_z.out.behind hb).mono hb.size)
        replace R_o := Lib.hid ((R_o.out.behind hb).mono hb.size)
        replace K_d := Lib.hid ((hb.block (w1.heap.size) (lt_of_block K_d.out)).trans K_d.out)
        replace K_x := Lib.hid ((hb.block (w3.heap.size) (lt_of_block K_x.out)).trans K_x.out)
        replace K_z := Lib.hid ((hb.block (w10.heap.size) (lt_of_block K_z.out)).trans K_z.out)
        replace K_o := Lib.hid ((hb.block (w12.heap.size) (lt_of_block K_o.out)).trans K_o.out)
        replace HB := Lib.hid (HB.out.trans (hb.mono HB.out.size))
        clear hb
        have d1 : w15.cell? ⟨w1.heap.size, 0, none⟩ = some (.slice ad Ld cd) ∧ w15.cell? ⟨w3.heap.size, 0, none⟩ = some (.slice ax Lx cx) ∧ w15.cell? ⟨w10.heap.size, 0, none⟩ = some (.slice az Lz cz) ∧ w15.cell? ⟨w12.heap.size, 0, none⟩ = some (.slice ao Lo co) := ⟨(blk_cell K_d.out 0).trans (one0 _), (blk_cell K_x.out 0).trans (one0 _), (blk_cell K_z.out 0).trans (one0 _), (blk_cell K_o.out 0).trans (one0 _)⟩
        refine hK.out _ _ d1 (fun _ => ?_)
        clear hK K d0
        try simp only [Act.put, List.setIfInBounds_toArray, List.set_cons_zero, List.set_cons_succ]
        apply wpAnyH_take (i := 8)
        · simp only [List.getElem?_toArray, List.getElem?_cons_succ, List.getElem?_cons_zero]
          rfl
        · kernel_rfl
        · kernel_rfl
        · kernel_rfl
        · exact fun _ _ _ h => h
        · first
            | exact Or.inr ⟨by rfl, rfl⟩
            | (refine Or.inl ⟨by rfl, fun wq hwq => ?_⟩
               dsimp only at hwq
               go_simp
               first
                 | done
                 | rfl)
        · exact d1
        simp only [Act.put, List.setIfInBounds_toArray, List.set_cons_zero, List.set_cons_succ]
        apply wpAnyH_take (i := 9)
        · simp only [List.getElem?_toArray, List.getElem?_cons_succ, List.getElem?_cons_zero]
          rfl
        · kernel_rfl
        · kernel_rfl
        · kernel_rfl
        · exact fun _ _ _ h => h
        · first
            | exact Or.inr ⟨by rfl, rfl⟩
            | (refine Or.inl ⟨by rfl, fun wq hwq => ?_⟩
               dsimp only at hwq
               go_simp
               first
                 | done
                 | rfl)
        · exact d1
        simp only [Act.put, List.setIfInBounds_toArray, List.set_cons_zero, List.set_cons_succ]
        apply wpAnyH_take (i := 10)
        · simp only [List.getElem?_toArray, List.getElem?_cons_succ, List.getElem?_cons_zero]
          rfl
        · kernel_rfl
        · kernel_rfl
        · kernel_rfl
        · exact fun _ _ _ h => h
        · first
            | exact Or.inr ⟨by rfl, rfl⟩
            | (refine Or.inl ⟨by rfl, fun wq hwq => ?_⟩
               dsimp only at hwq
               go_simp
               first
                 | done
                 | rfl)
        · exact d1
        simp only [Act.put, List.setIfInBounds_toArray, List.set_cons_zero, List.set_cons_succ]
        apply wpAnyH_take (i := 11)
        · simp only [List.getElem?_toArray, List.getElem?_cons_succ, List.getElem?_cons_zero]
          rfl
        · kernel_rfl
        · kernel_rfl
        · kernel_rfl
        · exact fun _ _ _ h => h
        · first
            | exact Or.inr ⟨by rfl, rfl⟩
            | (refine Or.inl ⟨by rfl, fun wq hwq => ?_⟩
               dsimp only at hwq
               go_simp
               first
                 | done
                 | rfl)
        · exact d1
        simp only [Act.put, List.setIfInBounds_toArray, List.set_cons_zero, List.set_cons_succ]
        apply wpAnyH_take (i := 12)
        · simp only [List.getElem?_toArray, List.getElem?_cons_succ, List.getElem?_cons_zero]
          rfl
        · kernel_rfl
        · kernel_rfl
        · kernel_rfl
        · exact fun _ _ _ h => h
        · first
            | exact Or.inr ⟨by rfl, rfl⟩
            | (refine Or.inl ⟨by rfl, fun wq hwq => ?_⟩
               dsimp only at hwq
               go_simp
               first
                 | done
                 | rfl)
        · exact d1
        simp only [Act.put, List.setIfInBounds_toArray, List.set_cons_zero, List.set_cons_succ]
        apply wpAnyH_take (i := 13)
        · simp only [List.getElem?_toArray, List.getElem?_cons_succ, List.getElem?_cons_zero]
          rfl
        · kernel_rfl
        · kernel_rfl
        · kernel_rfl
        · exact fun _ _ _ h => h
        · first
            | exact Or.inr ⟨by rfl, rfl⟩
            | (refine Or.inl ⟨by rfl, fun wq hwq => ?_⟩
               dsimp only at hwq
               go_simp
               first
                 | done
                 | rfl)
        · exact d1
        simp only [Act.put, List.setIfInBounds_toArray, List.set_cons_zero, List.set_cons_succ]
        refine wpAnyH_ready (rs := [14]) (by kernel_rfl) (by simp) ?_
        apply AllReadyH.cons
        · simp only [List.getElem?_toArray, List.getElem?_cons_succ, List.getElem?_cons_zero]
          rfl
        rotate_left
        · exact AllReadyH.nil
        intro K hK
        go_simp
        refine (spec_crw R_o.out (Nat.le_refl _)).mono ?_
        rw [HCz.out]
        rintro e' w16 ⟨rfl, hb⟩
        replace R_d := Lib.hid ((R_d.out.behind hb).mono hb.size)
        replace R_x := Lib.hid ((R_x.out.behind hb).mono hb.size)
        replace R_z := Lib.hid ((R_z.out.behind hb).mono hb.size)
        replace R_o := Lib.hid ((R_o.out.behind hb).mono hb.size)
        replace K_d := Lib.hid ((hb.block (w1.heap.size) (lt_of_block K_d.out)).trans K_d.out)
        replace K_x := Lib.hid ((hb.block (w3.heap.size) (lt_of_block K_x.out)).trans K_x.out)
        replace K_z := Lib.hid ((hb.block (w10.heap.size) (lt_of_block K_z.out)).trans K_z.out)
        replace K_o := Lib.hid ((hb.block (w12.heap.size) (lt_of_block K_o.out)).trans K_o.out)
        replace HB := Lib.hid (HB.out.trans (hb.mono HB.out.size))
        clear hb
        have d2 : w16.cell? ⟨w1.heap.size, 0, none⟩ = some (.slice ad Ld cd) ∧ w16.cell? ⟨w3.heap.size, 0, none⟩ = some (.slice ax Lx cx) ∧ w16.cell? ⟨w10.heap.size, 0, none⟩ = some (.slice az Lz cz) ∧ w16.cell? ⟨w12.heap.size, 0, none⟩ = some (.slice ao Lo co) := ⟨(blk_cell K_d.out 0).trans (one0 _), (blk_cell K_x.out 0).trans (one0 _), (blk_cell K_z.out 0).trans (one0 _), (blk_cell K_o.out 0).trans (one0 _)⟩
        refine hK.out _ _ d2 (fun _ => ?_)
        clear hK K d1
        try simp only [Act.put, List.setIfInBounds_toArray, List.set_cons_zero, List.set_cons_succ]
        apply wpAnyH_take (i := 15)
        · simp only [List.getElem?_toArray, List.getElem?_cons_succ, List.getElem?_cons_zero]
          rfl
        · kernel_rfl
        · kernel_rfl
        · kernel_rfl
        · exact fun _ _ _ h => h
        · first
            | exact Or.inr ⟨by rfl, rfl⟩
            | (refine Or.inl ⟨by rfl, fun wq hwq => ?_⟩
               dsimp only at hwq
               go_simp
               first
                 | done
                 | rfl)
        · exact d2
        simp only [Act.put, List.setIfInBounds_toArray, List.set_cons_zero, List.set_cons_succ]
        apply wpAnyH_take (i := 16)
        · simp only [List.getElem?_toArray, List.getElem?_cons_succ, List.getElem?_cons_zero]
          rfl
        · kernel_rfl
        · kernel_rfl
        · kernel_rfl
        · exact fun _ _ _ h => h
        · first
            | exact Or.inr ⟨by rfl, rfl⟩
            | (refine Or.inl ⟨by rfl, fun wq hwq => ?_⟩
               dsimp only at hwq
               go_simp
               first
                 | done
                 | rfl)
        · exact d2
        simp only [Act.put, List.setIfInBounds_toArray, List.set_cons_zero, List.set_cons_succ]
        apply wpAnyH_take (i := 17)
        · simp only [List.getElem?_toArray, List.getElem?_cons_succ, List.getElem?_cons_zero]
          rfl
        · kernel_rfl
        · kernel_rfl
        · kernel_rfl
        · exact fun _ _ _ h => h
        · first
            | exact Or.inr ⟨by rfl, rfl⟩
            | (refine Or.inl ⟨by rfl, fun wq hwq => ?_⟩
               dsimp only at hwq
               go_simp
               first
                 | done
                 | rfl)
        · exact d2
        simp only [Act.put, List.setIfInBounds_toArray, List.set_cons_zero, List.set_cons_succ]
        apply wpAnyH_take (i := 18)
        · simp only [List.getElem?_toArray, List.getElem?_cons_succ, List.getElem?_cons_zero]
          rfl
        · kernel_rfl
        · kernel_rfl
        · kernel_rfl
        · exact fun _ _ _ h => h
        · first
            | exact Or.inr ⟨by rfl, rfl⟩
            | (refine Or.inl ⟨by rfl, fun wq hwq => ?_⟩
               dsimp only at hwq
               go_simp
               first
                 | done
                 | rfl)
        · exact d2
        simp only [Act.put, List.setIfInBounds_toArray, List.set_cons_zero, List.set_cons_succ]
        apply wpAnyH_take (i := 19)
        · simp only [List.getElem?_toArray, List.getElem?_cons_succ, List.getElem?_cons_zero]
          rfl
        · kernel_rfl
        · kernel_rfl
        · kernel_rfl
        · exact fun _ _ _ h => h
        · first
            | exact Or.inr ⟨by rfl, rfl⟩
            | (refine Or.inl ⟨by rfl, fun wq hwq => ?_⟩
               dsimp only at hwq
               go_simp
               first
                 | done
                 | rfl)
        · exact d2
        simp only [Act.put, List.setIfInBounds_toArray, List.set_cons_zero, List.set_cons_succ]
        apply wpAnyH_take (i := 20)
        · simp only [List.getElem?_toArray, List.getElem?_cons_succ, List.getElem?_cons_zero]
          rfl
        · kernel_rfl
        · kernel_rfl
        · kernel_rfl
        · exact fun _ _ _ h => h
        · first
            | exact Or.inr ⟨by rfl, rfl⟩
            | (refine Or.inl ⟨by rfl, fun wq hwq => ?_⟩
               dsimp only at hwq
               go_simp
               first
                 | done
                 | rfl)
        · exact d2
        simp only [Act.put, List.setIfInBounds_toArray, List.set_cons_zero, List.set_cons_succ]
        apply wpAnyH_take (i := 21)
        · simp only [List.getElem?_toArray, List.getElem?_cons_succ, List.getElem?_cons_zero]
          rfl
        · kernel_rfl
        · kernel_rfl
        · kernel_rfl
        · exact fun _ _ _ h => h
        · first
            | exact Or.inr ⟨by rfl, rfl⟩
            | (refine Or.inl ⟨by rfl, fun wq hwq => ?_⟩
               dsimp only at hwq
               go_simp
               first
                 | done
                 | rfl)
        · exact d2
        simp only [Act.put, List.setIfInBounds_toArray, List.set_cons_zero, List.set_cons_succ]
        refine wpAnyH_ready (rs := [22]) (by kernel_rfl) (by simp) ?_
        apply AllReadyH.cons
        · simp only [List.getElem?_toArray, List.getElem?_cons_succ, List.getElem?_cons_zero]
          rfl
        rotate_left
        · exact AllReadyH.nil
        intro K hK
        go_simp
        refine (impl_new HLw.out).mono ?_
        rw [HN.out]
        rintro e' w17 ⟨vn, rfl, hO, hb⟩
        replace R_d := Lib.hid ((R_d.out.behind hb).mono hb.size)
        replace R_x := Lib.hid ((R_x.out.behind hb).mono hb.size)
        replace R_z := Lib.hid ((R_z.out.behind hb).mono hb.size)
        replace R_o := Lib.hid ((R_o.out.behind hb).mono hb.size)
        replace K_d := Lib.hid ((hb.block (w1.heap.size) (lt_of_block K_d.out)).trans K_d.out)
        replace K_x := Lib.hid ((hb.block (w3.heap.size) (lt_of_block K_x.out)).trans K_x.out)
        replace K_z := Lib.hid ((hb.block (w10.heap.size) (lt_of_block K_z.out)).trans K_z.out)
        replace K_o := Lib.hid ((hb.block (w12.heap.size) (lt_of_block K_o.out)).trans K_o.out)
        replace HB := Lib.hid (HB.out.trans (hb.mono HB.out.size))
        clear hb
        have R_n := Lib.hid hO.rd2
        clear hO
        have d3 : w17.cell? ⟨w1.heap.size, 0, none⟩ = some (.slice ad Ld cd) ∧ w17.cell? ⟨w3.heap.size, 0, none⟩ = some (.slice ax Lx cx) ∧ w17.cell? ⟨w10.heap.size, 0, none⟩ = some (.slice az Lz cz) ∧ w17.cell? ⟨w12.heap.size, 0, none⟩ = some (.slice ao Lo co) := ⟨(blk_cell K_d.out 0).trans (one0 _), (blk_cell K_x.out 0).trans (one0 _), (blk_cell K_z.out 0).trans (one0 _), (blk_cell K_o.out 0).trans (one0 _)⟩
        refine hK.out _ _ d3 (fun _ => ?_)
        clear hK K d2
        try simp only [Act.put, List.setIfInBounds_toArray, List.set_cons_zero, List.set_cons_succ]
        refine wpAnyH_ready (rs := [23]) (by kernel_rfl) (by simp) ?_
        apply AllReadyH.cons
        · simp only [List.getElem?_toArray, List.getElem?_cons_succ, List.getElem?_cons_zero]
          rfl
        rotate_left
        · exact AllReadyH.nil
        intro K hK
        go_simp
        refine (impl_ed R_o.out R_n.out (Nat.le_refl _) (Nat.le_refl _) HTz.out).mono ?_
        rw [decide_eq_true rfl]
        rintro e' w18 ⟨rfl, hb⟩
        replace R_d := Lib.hid ((R_d.out.behind hb).mono hb.size)
        replace R_x := Lib.hid ((R_x.out.behind hb).mono hb.size)
        replace R_z := Lib.hid ((R_z.out.behind hb).mono hb.size)
        replace R_o := Lib.hid ((R_o.out.behind hb).mono hb.size)
        replace R_n := Lib.hid ((R_n.out.behind hb).mono hb.size)
        replace K_d := Lib.hid ((hb.block (w1.heap.size) (lt_of_block K_d.out)).trans K_d.out)
        replace K_x := Lib.hid ((hb.block (w3.heap.size) (lt_of_block K_x.out)).trans K_x.out)
        replace K_z := Lib.hid ((hb.block (w10.heap.size) (lt_of_block K_z.out)).trans K_z.out)
        replace K_o := Lib.hid ((hb.block (w12.heap.size) (lt_of_block K_o.out)).trans K_o.out)
        replace HB := Lib.hid (HB.out.trans (hb.mono HB.out.size))
        clear hb
        have d4 : w18.cell? ⟨w1.heap.size, 0, none⟩ = some (.slice ad Ld cd) ∧ w18.cell? ⟨w3.heap.size, 0, none⟩ = some (.slice ax Lx cx) ∧ w18.cell? ⟨w10.heap.size, 0, none⟩ = some (.slice az Lz cz) ∧ w18.cell? ⟨w12.heap.size, 0, none⟩ = some (.slice ao Lo co) := ⟨(blk_cell K_d.out 0).trans (one0 _), (blk_cell K_x.out 0).trans (one0 _), (blk_cell K_z.out 0).trans (one0 _), (blk_cell K_o.out 0).trans (one0 _)⟩
        refine hK.out _ _ d4 (fun _ => ?_)
        clear hK K d3
        try simp only [Act.put, List.setIfInBounds_toArray, List.set_cons_zero, List.set_cons_succ]
        apply wpAnyH_take (i := 24)
        · simp only [List.getElem?_toArray, List.getElem?_cons_succ, List.getElem?_cons_zero]
          rfl
        · kernel_rfl
        · kernel_rfl
        · kernel_rfl
        · exact fun _ _ _ h => h
        · first
            | exact Or.inr ⟨by rfl, rfl⟩
            | (refine Or.inl ⟨by rfl, fun wq hwq => ?_⟩
               dsimp only at hwq
               go_simp
               first
                 | done
                 | rfl)
        · exact d4
        simp only [Act.put, List.setIfInBounds_toArray, List.set_cons_zero, List.set_cons_succ]
        apply wpAnyH_take (i := 25)
        · simp only [List.getElem?_toArray, List.getElem?_cons_succ, List.getElem?_cons_zero]
          rfl
        · kernel_rfl
        · kernel_rfl
        · kernel_rfl
        · exact fun _ _ _ h => h
        · first
            | exact Or.inr ⟨by rfl, rfl⟩
            | (refine Or.inl ⟨by rfl, fun wq hwq => ?_⟩
               dsimp only at hwq
               go_simp
               first
                 | done
                 | rfl)
        · exact d4
        simp only [Act.put, List.setIfInBounds_toArray, List.set_cons_zero, List.set_cons_succ]
        apply wpAnyH_take (i := 26)
        · simp only [List.getElem?_toArray, List.getElem?_cons_succ, List.getElem?_cons_zero]
          rfl
        · kernel_rfl
        · kernel_rfl
        · kernel_rfl
        · exact fun _ _ _ h => h
        · first
            | exact Or.inr ⟨by rfl, rfl⟩
            | (refine Or.inl ⟨by rfl, fun wq hwq => ?_⟩
               dsimp only at hwq
               go_simp
               first
                 | done
                 | rfl)
        · exact d4
        simp only [Act.put, List.setIfInBounds_toArray, List.set_cons_zero, List.set_cons_succ]
        refine wpAnyH_ready (rs := [27]) (by kernel_rfl) (by simp) ?_
        apply AllReadyH.cons
        · simp only [List.getElem?_toArray, List.getElem?_cons_succ, List.getElem?_cons_zero]
          rfl
        rotate_left
        · exact AllReadyH.nil
        intro K hK
        go_simp
        refine (impl_vd R_x.out (Nat.le_refl _)).mono ?_
        rw [HVs.out]
        rintro e' w19 ⟨rfl, hb⟩
        replace R_d := Lib.hid ((R_d.out.behind hb).mono hb.size)
        replace R_x := Lib.hid ((R_x.out.behind hb).mono hb.size)
        replace R_z := Lib.hid ((R_z.out.behind hb).mono hb.size)
        replace R_o := Lib.hid ((R_o.out.behind hb).mono hb.size)
        replace R_n := Lib.hid ((R_n.out.behind hb).mono hb.size)
        replace K_d := Lib.hid ((hb.block (w1.heap.size) (lt_of_block K_d.out)).trans K_d.out)
        replace K_x := Lib.hid ((hb.block (w3.heap.size) (lt_of_block K_x.out)).trans K_x.out)
        replace K_z := Lib.hid ((hb.block (w10.heap.size) (lt_of_block K_z.out)).trans K_z.out)
        replace K_o := Lib.hid ((hb.block (w12.heap.size) (lt_of_block K_o.out)).trans K_o.out)
        replace HB := Lib.hid (HB.out.trans (hb.mono HB.out.size))
        clear hb
        have d5 : w19.cell? ⟨w1.heap.size, 0, none⟩ = some (.slice ad Ld cd) ∧ w19.cell? ⟨w3.heap.size, 0, none⟩ = some (.slice ax Lx cx) ∧ w19.cell? ⟨w10.heap.size, 0, none⟩ = some (.slice az Lz cz) ∧ w19.cell? ⟨w12.heap.size, 0, none⟩ = some (.slice ao Lo co) := ⟨(blk_cell K_d.out 0).trans (one0 _), (blk_cell K_x.out 0).trans (one0 _), (blk_cell K_z.out 0).trans (one0 _), (blk_cell K_o.out 0).trans (one0 _)⟩
        refine hK.out _ _ d5 (fun _ => ?_)
        clear hK K d4
        try simp only [Act.put, List.setIfInBounds_toArray, List.set_cons_zero, List.set_cons_succ]
        apply wpAnyH_take (i := 28)
        · simp only [List.getElem?_toArray, List.getElem?_cons_succ, List.getElem?_cons_zero]
          rfl
        · kernel_rfl
        · kernel_rfl
        · kernel_rfl
        · exact fun _ _ _ h => h
        · first
            | exact Or.inr ⟨by rfl, rfl⟩
            | (refine Or.inl ⟨by rfl, fun wq hwq => ?_⟩
               dsimp only at hwq
               go_simp
               first
                 | done
                 | rfl)
        · exact d5
        simp only [Act.put, List.setIfInBounds_toArray, List.set_cons_zero, List.set_cons_succ]
        apply wpAnyH_take (i := 29)
        · simp only [List.getElem?_toArray, List.getElem?_cons_succ, List.getElem?_cons_zero]
          rfl
        · kernel_rfl
        · kernel_rfl
        · kernel_rfl
        · exact fun _ _ _ h => h
        · first
            | exact Or.inr ⟨by rfl, rfl⟩
            | (refine Or.inl ⟨by rfl, fun wq hwq => ?_⟩
               dsimp only at hwq
               go_simp
               first
                 | done
                 | rfl)
        · exact d5
        simp only [Act.put, List.setIfInBounds_toArray, List.set_cons_zero, List.set_cons_succ]
        refine wpAnyH_done (by kernel_rfl) ?_ _
        clear d5
        go_wp2_with fail
        go_ret
        exact ⟨rfl, HB.out⟩

end Go.Proofs.Ytdeahjinnnhfkaa
