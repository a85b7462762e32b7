/- JoinQuery, the program's and the document's: what each gives. No conditions but a size that a machine holds. -/
import Derived.Test.YtigeghmkkppldaaQu1
namespace Go.Proofs.Ytigeghmkkppldaa
open Go Go.RowKit
set_option linter.unusedVariables false
attribute [local irreducible] kh

set_option maxHeartbeats 1000000 in
/-- impl.JoinQuery. -/
theorem impl_jnq {lim : Nat} {w : World} {v : Value} {zss : List (List Int)} (h : Rd2 lim .i64 w v zss) (hlim : lim ≤ w.heap.size) (hn : tot zss ≤ 1099511627776) :
    Calls Try.prog 20 #[v] w fun e w' => ∃ v', e = .returned v' ∧ Own 3 .i64 w.heap.size w' v' (jnq zss) ∧ Below w.heap.size w w' := by
  obtain ⟨i0, hi, hz0, hz1, hz2⟩ := info_parts infoi64
  have Hhi := Lib.hid hi
  have HZ := Lib.hid h
  have hlen := h.len
  obtain ⟨a, cap, rfl, h1, h2, hc⟩ := h.open
  have Hc := Lib.hid hc
  unfold maxLen at h2 hlen
  by_cases h0 : zss.length = 0
  · have e1 : ((zss.length : Int) == 0) = true := by rw [h0]; rfl
    have HE := Lib.hid (jnq_no h0)
    clear h hc hi h0 hn
    go_enter Try.func20, Try.ntmps20
    go_wp2_with fail
    go_ret
    exact ⟨_, rfl, by rw [HE.out]; exact Own.lit _ _ (Nat.le_refl _), (Below.refl _ _).alloc (Nat.le_refl _) _⟩
  · have e1 : ((zss.length : Int) == 0) = false := beq_eq_false_iff_ne.2 (by omega)
    have hpos : 0 < zss.length := by omega
    have HE := Lib.hid (jnq_yes hpos)
    obtain ⟨b, o, rfl, hbl, hcell⟩ := Hc.out hpos
    obtain ⟨z0, hz0'⟩ : ∃ zs, zss[0]? = some zs := ⟨_, List.getElem?_eq_getElem hpos⟩
    obtain ⟨u0, c0, hr0⟩ := hcell _ (Below.refl _ _) 0 z0 hz0'
    obtain ⟨au, ku, rfl, _⟩ := hr0.open
    have ht0 := tot_at hz0'
    have hG : (zss.getD 0 []).length = z0.length := by rw [getD_of hz0']
    obtain ⟨n, hnn⟩ : ∃ n, n = z0.length := ⟨_, rfl⟩
    rw [← hnn] at c0 hG ht0
    rw [hG] at HE
    have hn' : n ≤ 1099511627776 := by omega
    rw [Nat.add_zero] at c0
    clear h hc hi h0 hn hr0 hcell hz0' hnn ht0 hG
    go_enter Try.func20, Try.ntmps20
    go_wp2_with (first | (at_make; refine wpList_make_full _ rfl _ _ 27 rfl w.heap.size 3 i0 (.int .i64 0) 1 Try.underlying27 Hhi.out hz0 hz1 .i64 .i64 _ _ n rfl rfl rfl rfl (by rw [hz2]; omega) (by unfold maxLen; omega) (Nat.le_refl _) ?_))
    intro w3 hown hg
    have HO := Lib.hid (own_made hown hg.size (by decide))
    have HB := Lib.hid ((Below.refl w.heap.size w).grown hg (Nat.le_refl _) (fun k hk => by cases hk))
    have HZ3 := Lib.hid (HZ.out.behind (HB.out.mono hlim))
    clear hown hg c0
    go_wp2_with fail
    refine (ms_own HZ3.out HO.out (Nat.le_trans hlim HB.out.size) HB.out.size).mono ?_
    rw [← HE.out]
    rintro e w4 ⟨v4, rfl, h4, hb⟩
    have H4 := Lib.hid h4
    have HB4 := Lib.hid (HB.out.trans (hb.mono HB.out.size))
    clear h4 hb
    go_wp2_with fail
    go_ret
    exact ⟨_, rfl, H4.out, HB4.out⟩

/-- spec.IsSelection, which draws nothing. -/
theorem spec_is_drew {lim : Nat} {w : World} {v : Value} {zs : List Int} {n : Int} (h : Rd lim .i64 w v zs) (hw : (Lit.int .i64 n).wf = true) :
    Calls Try.prog 71 #[v, .int .i64 n] w fun e w' => e = .returned (.bool (isel zs n)) ∧ ∃ m, w' = w.drewN m :=
  (spec_is h hw).mono fun e w' ⟨he, hw'⟩ => ⟨he, 0, hw'⟩

set_option maxHeartbeats 2000000 in
/-- spec.JoinQuery. -/
theorem spec_jnq {lim : Nat} {w : World} {v : Value} {zss : List (List Int)} (h : Rd2 lim .i64 w v zss) (hlim : lim ≤ w.heap.size) (hn : tot zss ≤ 1099511627776) :
    Calls Try.prog 33 #[v] w fun e w' => ∃ v', e = .returned v' ∧ Own 3 .i64 w.heap.size w' v' (jnq zss) ∧ Below w.heap.size w w' := by
  obtain ⟨i0, hi, hz0, hz1, hz2⟩ := info_parts infoi64
  have Hhi := Lib.hid hi
  have HZ := Lib.hid h
  have hlen := h.len
  obtain ⟨a, cap, rfl, h1, h2, hc⟩ := h.open
  have Hc := Lib.hid hc
  unfold maxLen at h2 hlen
  by_cases h0 : zss.length = 0
  · have e1 : ((zss.length : Int) == 0) = true := by rw [h0]; rfl
    have HE := Lib.hid (jnq_no h0)
    clear h hc hi h0 hn
    go_enter Try.func33, Try.ntmps33
    go_wp2_with fail
    go_ret
    exact ⟨_, rfl, by rw [HE.out]; exact Own.lit _ _ (Nat.le_refl _), (Below.refl _ _).alloc (Nat.le_refl _) _⟩
  · have e1 : ((zss.length : Int) == 0) = false := beq_eq_false_iff_ne.2 (by omega)
    have hpos : 0 < zss.length := by omega
    have hposi : (0 : Int) < (zss.length : Int) := by omega
    have HE := Lib.hid (jnq_yes hpos)
    obtain ⟨b, o, rfl, hbl, hcell⟩ := Hc.out hpos
    obtain ⟨z0, hz0'⟩ : ∃ zs, zss[0]? = some zs := ⟨_, List.getElem?_eq_getElem hpos⟩
    obtain ⟨u0, c0, hr0⟩ := hcell _ (Below.refl _ _) 0 z0 hz0'
    obtain ⟨au, ku, hu0, _⟩ := hr0.open
    subst hu0
    have ht0 := tot_at hz0'
    have hG : (zss.getD 0 []).length = z0.length := by rw [getD_of hz0']
    obtain ⟨n, hnn⟩ : ∃ n, n = z0.length := ⟨_, rfl⟩
    have HC0 : Hid (∀ wr, Below lim w wr → wr.cell? ⟨b, o, none⟩ = some (.slice au n ku)) := Lib.hid (fun wr hb => by
      obtain ⟨u1, c1, hr1⟩ := hcell wr hb 0 z0 hz0'
      obtain ⟨u2, c2, _⟩ := hcell _ (Below.refl _ _) 0 z0 hz0'
      rw [Nat.add_zero] at c1 c2 c0
      rw [hnn]
      have e : wr.cell? ⟨b, o, none⟩ = w.cell? ⟨b, o, none⟩ := hb.cell (p := ⟨b, o, none⟩) hbl
      rw [e, c0])
    rw [← hnn] at hG ht0
    rw [hG] at HE
    have hn' : n ≤ 1099511627776 := by omega
    have Hcell := Lib.hid hcell
    have c0' := HC0.out w (Below.refl _ _)
    have HWn : Hid ((Lit.int .i64 (n : Int)).wf = true) := Lib.hid (wf_i64_of (by omega) (by omega))
    clear h hc hi h0 hn hr0 hcell hz0' hnn ht0 hG c0 Hc
    go_enter Try.func33, Try.ntmps33
    go_wp2_with (first | (at_make; refine wpList_make_full _ rfl _ _ 27 rfl w.heap.size 3 i0 (.int .i64 0) 1 Try.underlying27 Hhi.out hz0 hz1 .i64 .i64 _ _ n rfl rfl rfl rfl (by rw [hz2]; omega) (by unfold maxLen; omega) (Nat.le_refl _) ?_))
    intro w3 hown hg
    have HO := Lib.hid (own_made hown hg.size (by decide))
    have HB := Lib.hid ((Below.refl w.heap.size w).grown hg (Nat.le_refl _) (fun k hk => by cases hk))
    obtain ⟨U, hU⟩ : ∃ U, U = List.replicate n (0 : Int) := ⟨_, rfl⟩
    have HUs : Hid (Sel n U) := Lib.hid (by rw [hU]; exact zeros_sel n)
    rw [← hU] at HO HE
    clear hown hg c0' hU
    go_wp2_with fail
    go_loopw [3, 4] (fun s i wr => ∃ j : Nat, i = .int .i64 j ∧ j ≤ zss.length ∧ Own 3 .i64 w.heap.size wr s (xsAll U (zss.take j)) ∧ Sel n (xsAll U (zss.take j)) ∧ Below w.heap.size w wr) (fun _ i _ => zss.length - (intOf i).toNat)
    case atStart => exact ⟨0, rfl, Nat.zero_le _, HO.out, HUs.out, HB.out⟩
    case round =>
      obtain ⟨j, rfl, hj, hO, hS, hB⟩ := hrel
      replace HO := Lib.hid hO
      have HS := Lib.hid hS
      replace HB := Lib.hid hB
      clear hO hS hB
      by_cases hlt : j < zss.length
      · have e2 : decide ((j : Int) < (zss.length : Int)) = true := by simp; omega
        obtain ⟨zs, hzs⟩ : ∃ zs, zss[j]? = some zs := ⟨_, List.getElem?_eq_getElem hlt⟩
        obtain ⟨u, c1, hr⟩ := Hcell.out wr (HB.out.mono hlim) j zs hzs
        have c0 := HC0.out wr (HB.out.mono hlim)
        have Hr := Lib.hid hr
        have HS1 := Lib.hid (Nat.le_trans hlim HB.out.size)
        have HT := Lib.hid (xsAll_take (u := U) hzs)
        cases hk : isel zs (n : Int)
        · have HN : Hid (xsAll U zss = []) := Lib.hid (xsAll_stop HS.out.1 hzs hk)
          clear hr hzs
          go_wp2_with fail
          go_quiet ((go_at_call 71
                     exact Calls.quiet_of (spec_is_drew (Hr.out.drewN _) HWn.out)))
          go_wp2_with fail
          clear hk
          go_ret
          refine ⟨_, rfl, ?_, ?_⟩
          · rw [HE.out, HN.out]
            exact Own.lit _ _ (Nat.le_trans HB.out.size (below_drewN (B := w.heap.size) ⟨_, rfl⟩).size)
          · exact (HB.out.trans (below_drewN (B := w.heap.size) ⟨_, rfl⟩)).alloc (Nat.le_trans HB.out.size (below_drewN (B := w.heap.size) ⟨_, rfl⟩).size) _
        · have HN : Hid (Sel n (xsAll U (zss.take (j + 1)))) := Lib.hid (HS.out.step hzs hk)
          clear hr hzs
          go_wp2_with fail
          go_quiet ((go_at_call 71
                     exact Calls.quiet_of (spec_is_drew (Hr.out.drewN _) HWn.out)))
          go_wp2_with fail
          clear hk
          refine (spec_xs (HO.out.rd.drewN _) (Hr.out.drewN _) (Nat.le_refl _) HS1.out).mono ?_
          rw [HT.out]
          rintro e w2 ⟨v2, rfl, h3, hb⟩
          have hB3 := HB.out.trans ((below_drewN (B := w.heap.size) ⟨_, rfl⟩).trans (hb.mono (Nat.le_trans HB.out.size (below_drewN (B := w.heap.size) ⟨_, rfl⟩).size)))
          have H3 := Lib.hid (h3.mono (Nat.le_trans HB.out.size (below_drewN (B := w.heap.size) ⟨_, rfl⟩).size))
          have HB3 := Lib.hid hB3
          clear h3 hb hB3
          go_wp2
          go_roundw
          case rel => exact ⟨j + 1, by simp, hlt, H3.out, HN.out, HB3.out⟩
          case measure => simp [intOf]; omega
      · have e2 : decide ((j : Int) < (zss.length : Int)) = false := by simp; omega
        have HT : Hid (xsAll U (zss.take j) = jnq zss) := Lib.hid (by rw [HE.out, List.take_of_length_le (by omega)])
        go_wp2
        go_ret
        exact ⟨_, rfl, by rw [← HT.out]; exact HO.out, HB.out⟩

end Go.Proofs.Ytigeghmkkppldaa
