/- Spent lists: SpendToken of the program and of the document. No conditions but numbers and lengths that a machine holds. Spent lists: MergeSpent of the program and of the document. No conditions but numbers and lengths that a machine holds. Spent lists: BudgetLeft of the program and of the document. No conditions but numbers and lengths that a machine holds. -/
import Derived.Test.YtdlbpeippmibcaaSpB
import Derived.Test.YtdlbpeippmibcaaBcT

/-! Sp5 -/
namespace Go.Proofs.Ytdlbpeippmibcaa
open Go Go.RowKit Go.Maps
set_option linter.unusedVariables false
set_option maxRecDepth 20000
attribute [local irreducible] kh kid pwm tcm pw chl

theorem zeroB (w : World) : (zeroValue 4).run Try.prog w = .ok (.bool false) w := by kernel_rfl
/-- A struct behind a call: the result's block, both cells written. -/
theorem res_put {w w1 : World} {b : Nat} {t : TypeId} {y0 y1 x0 x1 : Value} {B : Nat} (hB : Below B w w1) (hk : w1.heap[b]? = some (.cells #[y0, y1] t (0, 0))) (hb : B ≤ b) :
    ((w1.setCell ⟨b, 0, none⟩ x0).setCell ⟨b, 1, none⟩ x1).heap[b]? = some (.cells #[x0, x1] t (0, 0)) ∧ Below B w ((w1.setCell ⟨b, 0, none⟩ x0).setCell ⟨b, 1, none⟩ x1) ∧ w1.grownBy ((w1.setCell ⟨b, 0, none⟩ x0).setCell ⟨b, 1, none⟩ x1) (some b) := by
  obtain ⟨h1, h2⟩ := sst hk x0 x1
  exact ⟨h1, hB.grown h2 (by have := lt_of_block hk; omega) (fun k hk => by injection hk with hk; omega), h2⟩

set_option maxRecDepth 100000 in
set_option maxHeartbeats 16000000 in
/-- impl.SpendToken -/
theorem impl_spt {lim : Nat} {w : World} {v : Value} {zs : List Int} {e s n u : Int} (h : Rd lim .i64 w v zs) (hlim : lim ≤ w.heap.size) (hn : zs.length ≤ 17592186044414) (he : (Lit.int .i64 e).wf = true) (hs : (Lit.int .i64 s).wf = true) (hnw : (Lit.int .i64 n).wf = true) (huw : (Lit.int .i64 u).wf = true) :
    Calls Try.prog 15 #[.agg #[.int .i64 e, v], .int .i64 s, .agg #[.int .i64 n, .int .i64 u]] w fun x w' => ∃ v', x = .returned (.tuple #[.agg #[.int .i64 e, v'], .int .i64 (spR e zs s n u)]) ∧ Own 3 .i64 w.heap.size w' v' (spL e zs s n u) ∧ Below w.heap.size w w' := by
  obtain ⟨p, cap, rfl, h1, h2, hc⟩ := h.open
  have K := blocks3T w (.cells #[.int .i64 e, .slice p zs.length cap] 26) (.cells #[.int .i64 n, .int .i64 u] 28) (.cells #[.int .i64 0, .slice none 0 0] 26)
  have hb := (((Below.refl w.heap.size w).alloc (Nat.le_refl _) (.cells #[.int .i64 e, .slice p zs.length cap] 26)).alloc (by simp) (.cells #[.int .i64 n, .int .i64 u] 28)).alloc (by simp; omega) (.cells #[.int .i64 0, .slice none 0 0] 26)
  obtain ⟨W0, hW0⟩ : ∃ W, W = ((w.alloc (.cells #[.int .i64 e, .slice p zs.length cap] 26)).alloc (.cells #[.int .i64 n, .int .i64 u] 28)).alloc (.cells #[.int .i64 0, .slice none 0 0] 26) := ⟨_, rfl⟩
  rw [← hW0] at K hb
  have HW0 := Lib.hid hW0
  have HA := Lib.hid K.1
  have HT := Lib.hid K.2.1
  have HC := Lib.hid K.2.2
  have HB0 := Lib.hid hb
  have HB := Lib.hid (Below.refl W0.heap.size W0)
  have HRd := Lib.hid (h.behind (hb.mono hlim))
  have HLm := Lib.hid (show lim ≤ W0.heap.size from Nat.le_trans hlim hb.size)
  have HLt := Lib.hid (lt_of_block K.2.2)
  have HN := Lib.hid hn
  have HEw := Lib.hid he
  have HSw := Lib.hid hs
  have HNw := Lib.hid hnw
  have HUw := Lib.hid huw
  obtain ⟨c0, c1, _⟩ := scs K.1
  obtain ⟨t0, t1, _⟩ := scs K.2.1
  rw [hW0] at c0 c1 t0 t1
  have hlen : zs.length ≤ 9223372036854775807 := by unfold maxLen at h2; omega
  obtain ⟨q, hq⟩ : ∃ q, q = slv e zs := ⟨_, rfl⟩
  obtain ⟨t, ht⟩ : ∃ t, t = vtok s n u := ⟨_, rfl⟩
  have HQ := Lib.hid hq
  have HTk := Lib.hid ht
  clear h hc K hb hW0 hn he hs hnw huw hq ht h1 h2
  cases q with
  | false =>
    have HEQ := Lib.hid (sp_bad (e := e) (zs := zs) (s := s) (n := n) (v := u) (by rw [← HQ.out]; rfl))
    go_enter Try.func15, Try.ntmps15
    go_wp2_with fail
    rw [← HW0.out]
    refine (impl_vsl HRd.out HLm.out HEw.out).mono ?_
    rw [← HQ.out]
    rintro e' w1 ⟨rfl, hb⟩
    replace HB := Lib.hid (HB.out.trans (hb.mono HB.out.size))
    clear hb
    clear c0 c1 t0 t1
    obtain ⟨c0, c1, _⟩ := scs (stands (l := 0) HA.out HB.out)
    obtain ⟨t0, t1, _⟩ := scs (stands (l := 0) HT.out HB.out)
    go_wp2_with fail
    refine (impl_cpy (HRd.out.behind (HB.out.mono HLm.out)) (Nat.le_trans HLm.out HB.out.size) (by have := HN.out; omega)).mono ?_
    rintro e' w9 ⟨v9, rfl, hO, hb⟩
    replace hO := hO.mono HB.out.size
    replace HB := Lib.hid (HB.out.trans (hb.mono HB.out.size))
    clear hb
    obtain ⟨a, c, hv, _⟩ := hO.open
    subst hv
    obtain ⟨nl, hnl⟩ : ∃ x, x = (zs : List Int).length := ⟨_, rfl⟩
    rw [← hnl] at hO ⊢
    have hk := stands (l := 0) HC.out HB.out
    obtain ⟨q0, q1, f0, f1⟩ := scs hk
    obtain ⟨k9, hB9, g9⟩ := res_put (x0 := .int .i64 e) (x1 := .slice a nl c) (HB0.out.trans (HB.out.mono HB0.out.size)) hk (by omega)
    obtain ⟨r0, r1, _⟩ := scs k9
    have hO9 := hO.kept g9 (Or.inr (fun hh => by have := (hO.lt _ hh).1; have := HLt.out; omega))
    have HB9 := Lib.hid hB9
    have HO9 := Lib.hid (hO9.mono HB0.out.size)
    clear k9 g9 hk hB9 hO9 hO hnl
    go_wp2_with fail
    rw [HEQ.out.1, HEQ.out.2]
    exact bodyPost_ret (v := .tuple #[.agg #[.int .i64 e, .slice a nl c], .int .i64 1]) (by simp [results, Try.results15, go_sem, r0, r1]) rfl ⟨_, rfl, HO9.out, HB9.out⟩
  | true =>
  cases t with
  | false =>
    have HEQ := Lib.hid (sp_bad (e := e) (zs := zs) (s := s) (n := n) (v := u) (by rw [← HTk.out]; simp))
    go_enter Try.func15, Try.ntmps15
    go_wp2_with fail
    rw [← HW0.out]
    refine (impl_vsl HRd.out HLm.out HEw.out).mono ?_
    rw [← HQ.out]
    rintro e' w1 ⟨rfl, hb⟩
    replace HB := Lib.hid (HB.out.trans (hb.mono HB.out.size))
    clear hb
    clear c0 c1 t0 t1
    obtain ⟨c0, c1, _⟩ := scs (stands (l := 0) HA.out HB.out)
    obtain ⟨t0, t1, _⟩ := scs (stands (l := 0) HT.out HB.out)
    go_wp2_with fail
    refine (impl_vt HSw.out HNw.out HUw.out).mono ?_
    rw [← HTk.out]
    rintro e' w2 ⟨rfl, hb⟩
    replace HB := Lib.hid (HB.out.trans (hb.mono HB.out.size))
    clear hb
    clear c0 c1 t0 t1
    obtain ⟨c0, c1, _⟩ := scs (stands (l := 0) HA.out HB.out)
    obtain ⟨t0, t1, _⟩ := scs (stands (l := 0) HT.out HB.out)
    go_wp2_with fail
    refine (impl_cpy (HRd.out.behind (HB.out.mono HLm.out)) (Nat.le_trans HLm.out HB.out.size) (by have := HN.out; omega)).mono ?_
    rintro e' w9 ⟨v9, rfl, hO, hb⟩
    replace hO := hO.mono HB.out.size
    replace HB := Lib.hid (HB.out.trans (hb.mono HB.out.size))
    clear hb
    obtain ⟨a, c, hv, _⟩ := hO.open
    subst hv
    obtain ⟨nl, hnl⟩ : ∃ x, x = (zs : List Int).length := ⟨_, rfl⟩
    rw [← hnl] at hO ⊢
    have hk := stands (l := 0) HC.out HB.out
    obtain ⟨q0, q1, f0, f1⟩ := scs hk
    obtain ⟨k9, hB9, g9⟩ := res_put (x0 := .int .i64 e) (x1 := .slice a nl c) (HB0.out.trans (HB.out.mono HB0.out.size)) hk (by omega)
    obtain ⟨r0, r1, _⟩ := scs k9
    have hO9 := hO.kept g9 (Or.inr (fun hh => by have := (hO.lt _ hh).1; have := HLt.out; omega))
    have HB9 := Lib.hid hB9
    have HO9 := Lib.hid (hO9.mono HB0.out.size)
    clear k9 g9 hk hB9 hO9 hO hnl
    go_wp2_with fail
    rw [HEQ.out.1, HEQ.out.2]
    exact bodyPost_ret (v := .tuple #[.agg #[.int .i64 e, .slice a nl c], .int .i64 1]) (by simp [results, Try.results15, go_sem, r0, r1]) rfl ⟨_, rfl, HO9.out, HB9.out⟩
  | true =>
  have HOk : Hid ((slv e zs && vtok s n u) = true) := Lib.hid (by rw [← HQ.out, ← HTk.out]; rfl)
  have HZok : Hid (okSl zs = true) := Lib.hid (by have := HQ.out.symm; unfold slv at this; simp only [Bool.and_eq_true] at this; exact this.1)
  have h40 : zs.length ≤ 40 := by have := HQ.out.symm; unfold slv at this; simp only [Bool.and_eq_true, decide_eq_true_eq] at this; exact this.2.2
  obtain ⟨b, hb⟩ : ∃ b, b = memS zs n := ⟨_, rfl⟩
  have HMem := Lib.hid hb
  clear hb
  have HHas : Hid (Maps.has (mset zs zs.length) (.int .i64 n) = b) := Lib.hid (by rw [(MapIs.start HZok.out).2.1, HMem.out])
  have HSz : Hid (Maps.size (mset zs zs.length) = zs.length) := Lib.hid (MapIs.start HZok.out).2.2
  cases b with
  | true =>
    have HEQ := Lib.hid (sp_twice HOk.out HMem.out.symm)
    go_enter Try.func15, Try.ntmps15
    go_wp2_with fail
    rw [← HW0.out]
    refine (impl_vsl HRd.out HLm.out HEw.out).mono ?_
    rw [← HQ.out]
    rintro e' w1 ⟨rfl, hb⟩
    replace HB := Lib.hid (HB.out.trans (hb.mono HB.out.size))
    clear hb
    clear c0 c1 t0 t1
    obtain ⟨c0, c1, _⟩ := scs (stands (l := 0) HA.out HB.out)
    obtain ⟨t0, t1, _⟩ := scs (stands (l := 0) HT.out HB.out)
    go_wp2_with fail
    refine (impl_vt HSw.out HNw.out HUw.out).mono ?_
    rw [← HTk.out]
    rintro e' w2 ⟨rfl, hb⟩
    replace HB := Lib.hid (HB.out.trans (hb.mono HB.out.size))
    clear hb
    clear c0 c1 t0 t1
    obtain ⟨c0, c1, _⟩ := scs (stands (l := 0) HA.out HB.out)
    obtain ⟨t0, t1, _⟩ := scs (stands (l := 0) HT.out HB.out)
    go_wp2_with fail
    refine (impl_dn (HRd.out.behind (HB.out.mono HLm.out)) (Nat.le_trans HLm.out HB.out.size)).mono ?_
    rintro e' w3 ⟨bm, rfl, hbm, hO, hb⟩
    have HBm := Lib.hid (Nat.le_trans HB.out.size hbm)
    have HMap := Lib.hid hO
    replace HB := Lib.hid (HB.out.trans (hb.mono HB.out.size))
    clear hb
    clear c0 c1 t0 t1 hbm hO
    obtain ⟨c0, c1, _⟩ := scs (stands (l := 0) HA.out HB.out)
    obtain ⟨t0, t1, _⟩ := scs (stands (l := 0) HT.out HB.out)
    go_wp2_with (first
      | (at_lookup; refine wpList_lookup_own_bool _ rfl _ _ 66 rfl 3 4 lawInt Try.underlying66 Try.underlying4 (zeroB _) bm zs.length _ (AllT.mset zs zs.length (Nat.le_refl _)) rfl HMap.out _ _ rfl (keyOf_int_mk Try.underlying3 HNw.out) ?_; rw [HHas.out])
    )
    refine (impl_cpy (HRd.out.behind (HB.out.mono HLm.out)) (Nat.le_trans HLm.out HB.out.size) (by have := HN.out; omega)).mono ?_
    rintro e' w9 ⟨v9, rfl, hO, hb⟩
    replace hO := hO.mono HB.out.size
    replace HB := Lib.hid (HB.out.trans (hb.mono HB.out.size))
    clear hb
    obtain ⟨a, c, hv, _⟩ := hO.open
    subst hv
    obtain ⟨nl, hnl⟩ : ∃ x, x = (zs : List Int).length := ⟨_, rfl⟩
    rw [← hnl] at hO ⊢
    have hk := stands (l := 0) HC.out HB.out
    obtain ⟨q0, q1, f0, f1⟩ := scs hk
    obtain ⟨k9, hB9, g9⟩ := res_put (x0 := .int .i64 e) (x1 := .slice a nl c) (HB0.out.trans (HB.out.mono HB0.out.size)) hk (by omega)
    obtain ⟨r0, r1, _⟩ := scs k9
    have hO9 := hO.kept g9 (Or.inr (fun hh => by have := (hO.lt _ hh).1; have := HLt.out; omega))
    have HB9 := Lib.hid hB9
    have HO9 := Lib.hid (hO9.mono HB0.out.size)
    clear k9 g9 hk hB9 hO9 hO hnl
    go_wp2_with fail
    rw [HEQ.out.1, HEQ.out.2]
    exact bodyPost_ret (v := .tuple #[.agg #[.int .i64 e, .slice a nl c], .int .i64 2]) (by simp [results, Try.results15, go_sem, r0, r1]) rfl ⟨_, rfl, HO9.out, HB9.out⟩
  | false =>
  by_cases hf : zs.length = 40
  case pos =>
    have HEQ := Lib.hid (sp_full HOk.out HMem.out.symm (show 40 ≤ zs.length by omega))
    have e1 : ((zs.length : Int) == 40) = true := beq_iff_eq.2 (by omega)
    have HF := Lib.hid hf
    clear hf h40
    go_enter Try.func15, Try.ntmps15
    go_wp2_with fail
    rw [← HW0.out]
    refine (impl_vsl HRd.out HLm.out HEw.out).mono ?_
    rw [← HQ.out]
    rintro e' w1 ⟨rfl, hb⟩
    replace HB := Lib.hid (HB.out.trans (hb.mono HB.out.size))
    clear hb
    clear c0 c1 t0 t1
    obtain ⟨c0, c1, _⟩ := scs (stands (l := 0) HA.out HB.out)
    obtain ⟨t0, t1, _⟩ := scs (stands (l := 0) HT.out HB.out)
    go_wp2_with fail
    refine (impl_vt HSw.out HNw.out HUw.out).mono ?_
    rw [← HTk.out]
    rintro e' w2 ⟨rfl, hb⟩
    replace HB := Lib.hid (HB.out.trans (hb.mono HB.out.size))
    clear hb
    clear c0 c1 t0 t1
    obtain ⟨c0, c1, _⟩ := scs (stands (l := 0) HA.out HB.out)
    obtain ⟨t0, t1, _⟩ := scs (stands (l := 0) HT.out HB.out)
    go_wp2_with fail
    refine (impl_dn (HRd.out.behind (HB.out.mono HLm.out)) (Nat.le_trans HLm.out HB.out.size)).mono ?_
    rintro e' w3 ⟨bm, rfl, hbm, hO, hb⟩
    have HBm := Lib.hid (Nat.le_trans HB.out.size hbm)
    have HMap := Lib.hid hO
    replace HB := Lib.hid (HB.out.trans (hb.mono HB.out.size))
    clear hb
    clear c0 c1 t0 t1 hbm hO
    obtain ⟨c0, c1, _⟩ := scs (stands (l := 0) HA.out HB.out)
    obtain ⟨t0, t1, _⟩ := scs (stands (l := 0) HT.out HB.out)
    go_wp2_with (first
      | (at_lookup; refine wpList_lookup_own_bool _ rfl _ _ 66 rfl 3 4 lawInt Try.underlying66 Try.underlying4 (zeroB _) bm zs.length _ (AllT.mset zs zs.length (Nat.le_refl _)) rfl HMap.out _ _ rfl (keyOf_int_mk Try.underlying3 HNw.out) ?_; rw [HHas.out])
      | (at_len; refine wpList_len_own _ rfl _ 66 rfl 3 4 Try.underlying66 _ bm zs.length _ rfl HMap.out ?_; rw [HSz.out]))
    refine (impl_cpy (HRd.out.behind (HB.out.mono HLm.out)) (Nat.le_trans HLm.out HB.out.size) (by have := HN.out; omega)).mono ?_
    rintro e' w9 ⟨v9, rfl, hO, hb⟩
    replace hO := hO.mono HB.out.size
    replace HB := Lib.hid (HB.out.trans (hb.mono HB.out.size))
    clear hb
    obtain ⟨a, c, hv, _⟩ := hO.open
    subst hv
    obtain ⟨nl, hnl⟩ : ∃ x, x = (zs : List Int).length := ⟨_, rfl⟩
    rw [← hnl] at hO ⊢
    have hk := stands (l := 0) HC.out HB.out
    obtain ⟨q0, q1, f0, f1⟩ := scs hk
    obtain ⟨k9, hB9, g9⟩ := res_put (x0 := .int .i64 e) (x1 := .slice a nl c) (HB0.out.trans (HB.out.mono HB0.out.size)) hk (by omega)
    obtain ⟨r0, r1, _⟩ := scs k9
    have hO9 := hO.kept g9 (Or.inr (fun hh => by have := (hO.lt _ hh).1; have := HLt.out; omega))
    have HB9 := Lib.hid hB9
    have HO9 := Lib.hid (hO9.mono HB0.out.size)
    clear k9 g9 hk hB9 hO9 hO hnl
    go_wp2_with fail
    rw [HEQ.out.1, HEQ.out.2]
    exact bodyPost_ret (v := .tuple #[.agg #[.int .i64 e, .slice a nl c], .int .i64 3]) (by simp [results, Try.results15, go_sem, r0, r1]) rfl ⟨_, rfl, HO9.out, HB9.out⟩
  case neg =>
    have HEQ := Lib.hid (sp_ok HOk.out HMem.out.symm (show ¬ 40 ≤ zs.length by omega))
    have e1 : ((zs.length : Int) == 40) = false := beq_eq_false_iff_ne.2 (by omega)
    have HF := Lib.hid (show zs.length < 40 by omega)
    have HNb := Lib.hid (vtok_in HTk.out.symm)
    have HPut := Lib.hid ((MapIs.start HZok.out).put HMem.out.symm (.lit (.bool true)))
    have HPo := Lib.hid (insS_ok HZok.out HNb.out.1 HNb.out.2 (memS_no.1 HMem.out.symm))
    have HPa := Lib.hid ((AllT.mset zs zs.length (Nat.le_refl _)).put (MapIs.start HZok.out).1.isMap (show WideAt.IsKeyLit (.int .i64 n) from trivial))
    have HPl := Lib.hid (insS_len zs n)
    clear hf h40
    go_enter Try.func15, Try.ntmps15
    go_wp2_with fail
    rw [← HW0.out]
    refine (impl_vsl HRd.out HLm.out HEw.out).mono ?_
    rw [← HQ.out]
    rintro e' w1 ⟨rfl, hb⟩
    replace HB := Lib.hid (HB.out.trans (hb.mono HB.out.size))
    clear hb
    clear c0 c1 t0 t1
    obtain ⟨c0, c1, _⟩ := scs (stands (l := 0) HA.out HB.out)
    obtain ⟨t0, t1, _⟩ := scs (stands (l := 0) HT.out HB.out)
    go_wp2_with fail
    refine (impl_vt HSw.out HNw.out HUw.out).mono ?_
    rw [← HTk.out]
    rintro e' w2 ⟨rfl, hb⟩
    replace HB := Lib.hid (HB.out.trans (hb.mono HB.out.size))
    clear hb
    clear c0 c1 t0 t1
    obtain ⟨c0, c1, _⟩ := scs (stands (l := 0) HA.out HB.out)
    obtain ⟨t0, t1, _⟩ := scs (stands (l := 0) HT.out HB.out)
    go_wp2_with fail
    refine (impl_dn (HRd.out.behind (HB.out.mono HLm.out)) (Nat.le_trans HLm.out HB.out.size)).mono ?_
    rintro e' w3 ⟨bm, rfl, hbm, hO, hb⟩
    have HBm := Lib.hid (Nat.le_trans HB.out.size hbm)
    have HMap := Lib.hid hO
    replace HB := Lib.hid (HB.out.trans (hb.mono HB.out.size))
    clear hb
    clear c0 c1 t0 t1 hbm hO
    obtain ⟨c0, c1, _⟩ := scs (stands (l := 0) HA.out HB.out)
    obtain ⟨t0, t1, _⟩ := scs (stands (l := 0) HT.out HB.out)
    go_wp2_with (first
      | (at_lookup; refine wpList_lookup_own_bool _ rfl _ _ 66 rfl 3 4 lawInt Try.underlying66 Try.underlying4 (zeroB _) bm zs.length _ (AllT.mset zs zs.length (Nat.le_refl _)) rfl HMap.out _ _ rfl (keyOf_int_mk Try.underlying3 HNw.out) ?_; rw [HHas.out])
      | (at_len; refine wpList_len_own _ rfl _ 66 rfl 3 4 Try.underlying66 _ bm zs.length _ rfl HMap.out ?_; rw [HSz.out])
      | (at_mapUpdate; refine wpList_mapUpdate_own _ rfl _ _ _ 66 rfl 3 4 lawInt Try.underlying66 (plainElem (H := Unit) Try.prog 4) bm zs.length _ rfl HMap.out (by have := HF.out; unfold maxLen; omega) _ _ _ rfl rfl (keyOf_int_mk Try.underlying3 HNw.out) _ [] (plainElem_bool Try.underlying4 true) ?_))
    intro w4 hown hg
    have HMp := Lib.hid hown
    have hb := HB.out.grown hg HB.out.size (fun k hk => by injection hk with hk; have := HBm.out; omega)
    replace HB := Lib.hid hb
    clear hb hg hown c0 c1 t0 t1
    obtain ⟨c0, c1, _⟩ := scs (stands (l := 0) HA.out HB.out)
    obtain ⟨t0, t1, _⟩ := scs (stands (l := 0) HT.out HB.out)
    go_wp2_with fail
    refine (impl_lsp HMp.out HPut.out HPa.out HPo.out (by have := HPl.out; have := HF.out; omega)).mono ?_
    rintro e' w9 ⟨v9, rfl, hO, hb⟩
    replace hO := hO.mono HB.out.size
    replace HB := Lib.hid (HB.out.trans (hb.mono HB.out.size))
    clear hb
    obtain ⟨a, c, hv, _⟩ := hO.open
    subst hv
    obtain ⟨nl, hnl⟩ : ∃ x, x = (insS zs n : List Int).length := ⟨_, rfl⟩
    rw [← hnl] at hO ⊢
    have hk := stands (l := 0) HC.out HB.out
    obtain ⟨q0, q1, f0, f1⟩ := scs hk
    obtain ⟨k9, hB9, g9⟩ := res_put (x0 := .int .i64 e) (x1 := .slice a nl c) (HB0.out.trans (HB.out.mono HB0.out.size)) hk (by omega)
    obtain ⟨r0, r1, _⟩ := scs k9
    have hO9 := hO.kept g9 (Or.inr (fun hh => by have := (hO.lt _ hh).1; have := HLt.out; omega))
    have HB9 := Lib.hid hB9
    have HO9 := Lib.hid (hO9.mono HB0.out.size)
    clear k9 g9 hk hB9 hO9 hO hnl
    go_wp2_with fail
    rw [HEQ.out.1, HEQ.out.2]
    exact bodyPost_ret (v := .tuple #[.agg #[.int .i64 e, .slice a nl c], .int .i64 0]) (by simp [results, Try.results15, go_sem, r0, r1]) rfl ⟨_, rfl, HO9.out, HB9.out⟩

set_option maxRecDepth 100000 in
set_option maxHeartbeats 16000000 in
/-- spec.SpendToken -/
theorem spec_spt {lim : Nat} {w : World} {v : Value} {zs : List Int} {e s n u : Int} (h : Rd lim .i64 w v zs) (hlim : lim ≤ w.heap.size) (hn : zs.length ≤ 17592186044414) (he : (Lit.int .i64 e).wf = true) (hs : (Lit.int .i64 s).wf = true) (hnw : (Lit.int .i64 n).wf = true) (huw : (Lit.int .i64 u).wf = true) :
    Calls Try.prog 16 #[.agg #[.int .i64 e, v], .int .i64 s, .agg #[.int .i64 n, .int .i64 u]] w fun x w' => ∃ v', x = .returned (.tuple #[.agg #[.int .i64 e, v'], .int .i64 (spR e zs s n u)]) ∧ Own 3 .i64 w.heap.size w' v' (spL e zs s n u) ∧ Below w.heap.size w w' := by
  obtain ⟨p, cap, rfl, h1, h2, hc⟩ := h.open
  have K := blocks3T w (.cells #[.int .i64 e, .slice p zs.length cap] 26) (.cells #[.int .i64 n, .int .i64 u] 28) (.cells #[.int .i64 0, .slice none 0 0] 26)
  have hb := (((Below.refl w.heap.size w).alloc (Nat.le_refl _) (.cells #[.int .i64 e, .slice p zs.length cap] 26)).alloc (by simp) (.cells #[.int .i64 n, .int .i64 u] 28)).alloc (by simp; omega) (.cells #[.int .i64 0, .slice none 0 0] 26)
  obtain ⟨W0, hW0⟩ : ∃ W, W = ((w.alloc (.cells #[.int .i64 e, .slice p zs.length cap] 26)).alloc (.cells #[.int .i64 n, .int .i64 u] 28)).alloc (.cells #[.int .i64 0, .slice none 0 0] 26) := ⟨_, rfl⟩
  rw [← hW0] at K hb
  have HW0 := Lib.hid hW0
  have HA := Lib.hid K.1
  have HT := Lib.hid K.2.1
  have HC := Lib.hid K.2.2
  have HB0 := Lib.hid hb
  have HB := Lib.hid (Below.refl W0.heap.size W0)
  have HRd := Lib.hid (h.behind (hb.mono hlim))
  have HLm := Lib.hid (show lim ≤ W0.heap.size from Nat.le_trans hlim hb.size)
  have HLt := Lib.hid (lt_of_block K.2.2)
  have HN := Lib.hid hn
  have HEw := Lib.hid he
  have HSw := Lib.hid hs
  have HNw := Lib.hid hnw
  have HUw := Lib.hid huw
  obtain ⟨c0, c1, _⟩ := scs K.1
  obtain ⟨t0, t1, _⟩ := scs K.2.1
  rw [hW0] at c0 c1 t0 t1
  have hlen : zs.length ≤ 9223372036854775807 := by unfold maxLen at h2; omega
  obtain ⟨q, hq⟩ : ∃ q, q = slv e zs := ⟨_, rfl⟩
  obtain ⟨t, ht⟩ : ∃ t, t = vtok s n u := ⟨_, rfl⟩
  have HQ := Lib.hid hq
  have HTk := Lib.hid ht
  clear h hc K hb hW0 hn he hs hnw huw hq ht h1 h2
  cases q with
  | false =>
    have HEQ := Lib.hid (sp_bad (e := e) (zs := zs) (s := s) (n := n) (v := u) (by rw [← HQ.out]; rfl))
    go_enter Try.func16, Try.ntmps16
    go_wp2_with fail
    rw [← HW0.out]
    refine (spec_vsl HRd.out HLm.out HEw.out).mono ?_
    rw [← HQ.out]
    rintro e' w1 ⟨rfl, hb⟩
    replace HB := Lib.hid (HB.out.trans (hb.mono HB.out.size))
    clear hb
    clear c0 c1 t0 t1
    obtain ⟨c0, c1, _⟩ := scs (stands (l := 0) HA.out HB.out)
    obtain ⟨t0, t1, _⟩ := scs (stands (l := 0) HT.out HB.out)
    go_wp2_with fail
    refine (spec_cpy (HRd.out.behind (HB.out.mono HLm.out)) (Nat.le_trans HLm.out HB.out.size) (by have := HN.out; omega)).mono ?_
    rintro e' w9 ⟨v9, rfl, hO, hb⟩
    replace hO := hO.mono HB.out.size
    replace HB := Lib.hid (HB.out.trans (hb.mono HB.out.size))
    clear hb
    obtain ⟨a, c, hv, _⟩ := hO.open
    subst hv
    obtain ⟨nl, hnl⟩ : ∃ x, x = (zs : List Int).length := ⟨_, rfl⟩
    rw [← hnl] at hO ⊢
    have hk := stands (l := 0) HC.out HB.out
    obtain ⟨q0, q1, f0, f1⟩ := scs hk
    obtain ⟨k9, hB9, g9⟩ := res_put (x0 := .int .i64 e) (x1 := .slice a nl c) (HB0.out.trans (HB.out.mono HB0.out.size)) hk (by omega)
    obtain ⟨r0, r1, _⟩ := scs k9
    have hO9 := hO.kept g9 (Or.inr (fun hh => by have := (hO.lt _ hh).1; have := HLt.out; omega))
    have HB9 := Lib.hid hB9
    have HO9 := Lib.hid (hO9.mono HB0.out.size)
    clear k9 g9 hk hB9 hO9 hO hnl
    go_wp2_with fail
    rw [HEQ.out.1, HEQ.out.2]
    exact bodyPost_ret (v := .tuple #[.agg #[.int .i64 e, .slice a nl c], .int .i64 1]) (by simp [results, Try.results16, go_sem, r0, r1]) rfl ⟨_, rfl, HO9.out, HB9.out⟩
  | true =>
  cases t with
  | false =>
    have HEQ := Lib.hid (sp_bad (e := e) (zs := zs) (s := s) (n := n) (v := u) (by rw [← HTk.out]; simp))
    go_enter Try.func16, Try.ntmps16
    go_wp2_with fail
    rw [← HW0.out]
    refine (spec_vsl HRd.out HLm.out HEw.out).mono ?_
    rw [← HQ.out]
    rintro e' w1 ⟨rfl, hb⟩
    replace HB := Lib.hid (HB.out.trans (hb.mono HB.out.size))
    clear hb
    clear c0 c1 t0 t1
    obtain ⟨c0, c1, _⟩ := scs (stands (l := 0) HA.out HB.out)
    obtain ⟨t0, t1, _⟩ := scs (stands (l := 0) HT.out HB.out)
    go_wp2_with fail
    refine (spec_vt HSw.out HNw.out HUw.out).mono ?_
    rw [← HTk.out]
    rintro e' w2 ⟨rfl, hb⟩
    replace HB := Lib.hid (HB.out.trans (hb.mono HB.out.size))
    clear hb
    clear c0 c1 t0 t1
    obtain ⟨c0, c1, _⟩ := scs (stands (l := 0) HA.out HB.out)
    obtain ⟨t0, t1, _⟩ := scs (stands (l := 0) HT.out HB.out)
    go_wp2_with fail
    refine (spec_cpy (HRd.out.behind (HB.out.mono HLm.out)) (Nat.le_trans HLm.out HB.out.size) (by have := HN.out; omega)).mono ?_
    rintro e' w9 ⟨v9, rfl, hO, hb⟩
    replace hO := hO.mono HB.out.size
    replace HB := Lib.hid (HB.out.trans (hb.mono HB.out.size))
    clear hb
    obtain ⟨a, c, hv, _⟩ := hO.open
    subst hv
    obtain ⟨nl, hnl⟩ : ∃ x, x = (zs : List Int).length := ⟨_, rfl⟩
    rw [← hnl] at hO ⊢
    have hk := stands (l := 0) HC.out HB.out
    obtain ⟨q0, q1, f0, f1⟩ := scs hk
    obtain ⟨k9, hB9, g9⟩ := res_put (x0 := .int .i64 e) (x1 := .slice a nl c) (HB0.out.trans (HB.out.mono HB0.out.size)) hk (by omega)
    obtain ⟨r0, r1, _⟩ := scs k9
    have hO9 := hO.kept g9 (Or.inr (fun hh => by have := (hO.lt _ hh).1; have := HLt.out; omega))
    have HB9 := Lib.hid hB9
    have HO9 := Lib.hid (hO9.mono HB0.out.size)
    clear k9 g9 hk hB9 hO9 hO hnl
    go_wp2_with fail
    rw [HEQ.out.1, HEQ.out.2]
    exact bodyPost_ret (v := .tuple #[.agg #[.int .i64 e, .slice a nl c], .int .i64 1]) (by simp [results, Try.results16, go_sem, r0, r1]) rfl ⟨_, rfl, HO9.out, HB9.out⟩
  | true =>
  have HOk : Hid ((slv e zs && vtok s n u) = true) := Lib.hid (by rw [← HQ.out, ← HTk.out]; rfl)
  have HZok : Hid (okSl zs = true) := Lib.hid (by have := HQ.out.symm; unfold slv at this; simp only [Bool.and_eq_true] at this; exact this.1)
  have h40 : zs.length ≤ 40 := by have := HQ.out.symm; unfold slv at this; simp only [Bool.and_eq_true, decide_eq_true_eq] at this; exact this.2.2
  obtain ⟨b, hb⟩ : ∃ b, b = memS zs n := ⟨_, rfl⟩
  have HMem := Lib.hid hb
  clear hb
  cases b with
  | true =>
    have HEQ := Lib.hid (sp_twice HOk.out HMem.out.symm)
    go_enter Try.func16, Try.ntmps16
    go_wp2_with fail
    rw [← HW0.out]
    refine (spec_vsl HRd.out HLm.out HEw.out).mono ?_
    rw [← HQ.out]
    rintro e' w1 ⟨rfl, hb⟩
    replace HB := Lib.hid (HB.out.trans (hb.mono HB.out.size))
    clear hb
    clear c0 c1 t0 t1
    obtain ⟨c0, c1, _⟩ := scs (stands (l := 0) HA.out HB.out)
    obtain ⟨t0, t1, _⟩ := scs (stands (l := 0) HT.out HB.out)
    go_wp2_with fail
    refine (spec_vt HSw.out HNw.out HUw.out).mono ?_
    rw [← HTk.out]
    rintro e' w2 ⟨rfl, hb⟩
    replace HB := Lib.hid (HB.out.trans (hb.mono HB.out.size))
    clear hb
    clear c0 c1 t0 t1
    obtain ⟨c0, c1, _⟩ := scs (stands (l := 0) HA.out HB.out)
    obtain ⟨t0, t1, _⟩ := scs (stands (l := 0) HT.out HB.out)
    go_wp2_with fail
    refine (spec_iss (HRd.out.behind (HB.out.mono HLm.out)) (Nat.le_trans HLm.out HB.out.size)).mono ?_
    rw [← HMem.out]
    rintro e' w3 ⟨rfl, hb⟩
    replace HB := Lib.hid (HB.out.trans (hb.mono HB.out.size))
    clear hb
    clear c0 c1 t0 t1
    obtain ⟨c0, c1, _⟩ := scs (stands (l := 0) HA.out HB.out)
    obtain ⟨t0, t1, _⟩ := scs (stands (l := 0) HT.out HB.out)
    go_wp2_with fail
    refine (spec_cpy (HRd.out.behind (HB.out.mono HLm.out)) (Nat.le_trans HLm.out HB.out.size) (by have := HN.out; omega)).mono ?_
    rintro e' w9 ⟨v9, rfl, hO, hb⟩
    replace hO := hO.mono HB.out.size
    replace HB := Lib.hid (HB.out.trans (hb.mono HB.out.size))
    clear hb
    obtain ⟨a, c, hv, _⟩ := hO.open
    subst hv
    obtain ⟨nl, hnl⟩ : ∃ x, x = (zs : List Int).length := ⟨_, rfl⟩
    rw [← hnl] at hO ⊢
    have hk := stands (l := 0) HC.out HB.out
    obtain ⟨q0, q1, f0, f1⟩ := scs hk
    obtain ⟨k9, hB9, g9⟩ := res_put (x0 := .int .i64 e) (x1 := .slice a nl c) (HB0.out.trans (HB.out.mono HB0.out.size)) hk (by omega)
    obtain ⟨r0, r1, _⟩ := scs k9
    have hO9 := hO.kept g9 (Or.inr (fun hh => by have := (hO.lt _ hh).1; have := HLt.out; omega))
    have HB9 := Lib.hid hB9
    have HO9 := Lib.hid (hO9.mono HB0.out.size)
    clear k9 g9 hk hB9 hO9 hO hnl
    go_wp2_with fail
    rw [HEQ.out.1, HEQ.out.2]
    exact bodyPost_ret (v := .tuple #[.agg #[.int .i64 e, .slice a nl c], .int .i64 2]) (by simp [results, Try.results16, go_sem, r0, r1]) rfl ⟨_, rfl, HO9.out, HB9.out⟩
  | false =>
  by_cases hf : 40 ≤ zs.length
  case pos =>
    have HEQ := Lib.hid (sp_full HOk.out HMem.out.symm hf)
    have e1 : decide ((40 : Int) ≤ (zs.length : Int)) = true := by simp; omega
    clear h40
    go_enter Try.func16, Try.ntmps16
    go_wp2_with fail
    rw [← HW0.out]
    refine (spec_vsl HRd.out HLm.out HEw.out).mono ?_
    rw [← HQ.out]
    rintro e' w1 ⟨rfl, hb⟩
    replace HB := Lib.hid (HB.out.trans (hb.mono HB.out.size))
    clear hb
    clear c0 c1 t0 t1
    obtain ⟨c0, c1, _⟩ := scs (stands (l := 0) HA.out HB.out)
    obtain ⟨t0, t1, _⟩ := scs (stands (l := 0) HT.out HB.out)
    go_wp2_with fail
    refine (spec_vt HSw.out HNw.out HUw.out).mono ?_
    rw [← HTk.out]
    rintro e' w2 ⟨rfl, hb⟩
    replace HB := Lib.hid (HB.out.trans (hb.mono HB.out.size))
    clear hb
    clear c0 c1 t0 t1
    obtain ⟨c0, c1, _⟩ := scs (stands (l := 0) HA.out HB.out)
    obtain ⟨t0, t1, _⟩ := scs (stands (l := 0) HT.out HB.out)
    go_wp2_with fail
    refine (spec_iss (HRd.out.behind (HB.out.mono HLm.out)) (Nat.le_trans HLm.out HB.out.size)).mono ?_
    rw [← HMem.out]
    rintro e' w3 ⟨rfl, hb⟩
    replace HB := Lib.hid (HB.out.trans (hb.mono HB.out.size))
    clear hb
    clear c0 c1 t0 t1
    obtain ⟨c0, c1, _⟩ := scs (stands (l := 0) HA.out HB.out)
    obtain ⟨t0, t1, _⟩ := scs (stands (l := 0) HT.out HB.out)
    go_wp2_with fail
    refine (spec_cpy (HRd.out.behind (HB.out.mono HLm.out)) (Nat.le_trans HLm.out HB.out.size) (by have := HN.out; omega)).mono ?_
    rintro e' w9 ⟨v9, rfl, hO, hb⟩
    replace hO := hO.mono HB.out.size
    replace HB := Lib.hid (HB.out.trans (hb.mono HB.out.size))
    clear hb
    obtain ⟨a, c, hv, _⟩ := hO.open
    subst hv
    obtain ⟨nl, hnl⟩ : ∃ x, x = (zs : List Int).length := ⟨_, rfl⟩
    rw [← hnl] at hO ⊢
    have hk := stands (l := 0) HC.out HB.out
    obtain ⟨q0, q1, f0, f1⟩ := scs hk
    obtain ⟨k9, hB9, g9⟩ := res_put (x0 := .int .i64 e) (x1 := .slice a nl c) (HB0.out.trans (HB.out.mono HB0.out.size)) hk (by omega)
    obtain ⟨r0, r1, _⟩ := scs k9
    have hO9 := hO.kept g9 (Or.inr (fun hh => by have := (hO.lt _ hh).1; have := HLt.out; omega))
    have HB9 := Lib.hid hB9
    have HO9 := Lib.hid (hO9.mono HB0.out.size)
    clear k9 g9 hk hB9 hO9 hO hnl
    go_wp2_with fail
    rw [HEQ.out.1, HEQ.out.2]
    exact bodyPost_ret (v := .tuple #[.agg #[.int .i64 e, .slice a nl c], .int .i64 3]) (by simp [results, Try.results16, go_sem, r0, r1]) rfl ⟨_, rfl, HO9.out, HB9.out⟩
  case neg =>
    have HEQ := Lib.hid (sp_ok HOk.out HMem.out.symm hf)
    have e1 : decide ((40 : Int) ≤ (zs.length : Int)) = false := by simp; omega
    have HF := Lib.hid (show zs.length < 40 by omega)
    clear h40
    go_enter Try.func16, Try.ntmps16
    go_wp2_with fail
    rw [← HW0.out]
    refine (spec_vsl HRd.out HLm.out HEw.out).mono ?_
    rw [← HQ.out]
    rintro e' w1 ⟨rfl, hb⟩
    replace HB := Lib.hid (HB.out.trans (hb.mono HB.out.size))
    clear hb
    clear c0 c1 t0 t1
    obtain ⟨c0, c1, _⟩ := scs (stands (l := 0) HA.out HB.out)
    obtain ⟨t0, t1, _⟩ := scs (stands (l := 0) HT.out HB.out)
    go_wp2_with fail
    refine (spec_vt HSw.out HNw.out HUw.out).mono ?_
    rw [← HTk.out]
    rintro e' w2 ⟨rfl, hb⟩
    replace HB := Lib.hid (HB.out.trans (hb.mono HB.out.size))
    clear hb
    clear c0 c1 t0 t1
    obtain ⟨c0, c1, _⟩ := scs (stands (l := 0) HA.out HB.out)
    obtain ⟨t0, t1, _⟩ := scs (stands (l := 0) HT.out HB.out)
    go_wp2_with fail
    refine (spec_iss (HRd.out.behind (HB.out.mono HLm.out)) (Nat.le_trans HLm.out HB.out.size)).mono ?_
    rw [← HMem.out]
    rintro e' w3 ⟨rfl, hb⟩
    replace HB := Lib.hid (HB.out.trans (hb.mono HB.out.size))
    clear hb
    clear c0 c1 t0 t1
    obtain ⟨c0, c1, _⟩ := scs (stands (l := 0) HA.out HB.out)
    obtain ⟨t0, t1, _⟩ := scs (stands (l := 0) HT.out HB.out)
    go_wp2_with fail
    refine (spec_ins (HRd.out.behind (HB.out.mono HLm.out)) (Nat.le_trans HLm.out HB.out.size) HN.out HNw.out).mono ?_
    rintro e' w9 ⟨v9, rfl, hO, hb⟩
    replace hO := hO.mono HB.out.size
    replace HB := Lib.hid (HB.out.trans (hb.mono HB.out.size))
    clear hb
    obtain ⟨a, c, hv, _⟩ := hO.open
    subst hv
    obtain ⟨nl, hnl⟩ : ∃ x, x = (insS zs n : List Int).length := ⟨_, rfl⟩
    rw [← hnl] at hO ⊢
    have hk := stands (l := 0) HC.out HB.out
    obtain ⟨q0, q1, f0, f1⟩ := scs hk
    obtain ⟨k9, hB9, g9⟩ := res_put (x0 := .int .i64 e) (x1 := .slice a nl c) (HB0.out.trans (HB.out.mono HB0.out.size)) hk (by omega)
    obtain ⟨r0, r1, _⟩ := scs k9
    have hO9 := hO.kept g9 (Or.inr (fun hh => by have := (hO.lt _ hh).1; have := HLt.out; omega))
    have HB9 := Lib.hid hB9
    have HO9 := Lib.hid (hO9.mono HB0.out.size)
    clear k9 g9 hk hB9 hO9 hO hnl
    go_wp2_with fail
    rw [HEQ.out.1, HEQ.out.2]
    exact bodyPost_ret (v := .tuple #[.agg #[.int .i64 e, .slice a nl c], .int .i64 0]) (by simp [results, Try.results16, go_sem, r0, r1]) rfl ⟨_, rfl, HO9.out, HB9.out⟩

end Go.Proofs.Ytdlbpeippmibcaa


/-! Sp6 -/
namespace Go.Proofs.Ytdlbpeippmibcaa
open Go Go.RowKit Go.Maps
set_option linter.unusedVariables false
set_option maxRecDepth 20000
attribute [local irreducible] kh kid pwm tcm pw chl

theorem mg_hit {zs ys : List Int} {j : Nat} (h : j < ys.length) (hm : memS zs (ys.getD j 0) = true) : mgs zs (ys.take (j + 1)) = ((mgs zs (ys.take j)).1, (mgs zs (ys.take j)).2 + 1) := by
  rw [mgs_take h]; exact if_pos hm
theorem mg_new {zs ys : List Int} {j : Nat} (h : j < ys.length) (hm : memS zs (ys.getD j 0) = false) (hl : (mgs zs (ys.take j)).1.length < 40) : mgs zs (ys.take (j + 1)) = (insS (mgs zs (ys.take j)).1 (ys.getD j 0), (mgs zs (ys.take j)).2) := by
  rw [mgs_take h]; unfold mstep; rw [if_neg (by rw [hm]; decide), if_pos hl]
theorem mg_old {zs ys : List Int} {j : Nat} (h : j < ys.length) (hm : memS zs (ys.getD j 0) = false) (hl : ¬ (mgs zs (ys.take j)).1.length < 40) : mgs zs (ys.take (j + 1)) = mgs zs (ys.take j) := by
  rw [mgs_take h]; unfold mstep; rw [if_neg (by rw [hm]; decide), if_neg hl]
theorem slv_parts {e : Int} {zs : List Int} (h : slv e zs = true) : okSl zs = true ∧ zs.length ≤ 40 := by
  unfold slv at h
  simp only [Bool.and_eq_true, decide_eq_true_eq] at h
  exact ⟨h.1, h.2.2⟩

set_option maxRecDepth 100000 in
set_option maxHeartbeats 16000000 in
/-- impl.MergeSpent -/
theorem impl_mrg {l1 l2 : Nat} {w : World} {u v : Value} {xs ys : List Int} {e f : Int} (hu : Rd l1 .i64 w u xs) (hv : Rd l2 .i64 w v ys) (hl1 : l1 ≤ w.heap.size) (hl2 : l2 ≤ w.heap.size) (hn : xs.length ≤ 17592186044414) (he : (Lit.int .i64 e).wf = true) (hf : (Lit.int .i64 f).wf = true) :
    Calls Try.prog 18 #[.agg #[.int .i64 e, u], .agg #[.int .i64 f, v]] w fun x w' => ∃ v', x = .returned (.tuple #[.agg #[.int .i64 e, v'], .int .i64 (mgN e f xs ys)]) ∧ Own 3 .i64 w.heap.size w' v' (mgL e f xs ys) ∧ Below w.heap.size w w' := by
  obtain ⟨p, cap, rfl, h1, h2, hc⟩ := hu.open
  obtain ⟨p2, cap2, rfl, k1, k2, kc⟩ := hv.open
  have K := blocks3T w (.cells #[.int .i64 e, .slice p xs.length cap] 26) (.cells #[.int .i64 f, .slice p2 ys.length cap2] 26) (.cells #[.int .i64 0, .slice none 0 0] 26)
  have hb := (((Below.refl w.heap.size w).alloc (Nat.le_refl _) (.cells #[.int .i64 e, .slice p xs.length cap] 26)).alloc (by simp) (.cells #[.int .i64 f, .slice p2 ys.length cap2] 26)).alloc (by simp; omega) (.cells #[.int .i64 0, .slice none 0 0] 26)
  obtain ⟨W0, hW0⟩ : ∃ W, W = ((w.alloc (.cells #[.int .i64 e, .slice p xs.length cap] 26)).alloc (.cells #[.int .i64 f, .slice p2 ys.length cap2] 26)).alloc (.cells #[.int .i64 0, .slice none 0 0] 26) := ⟨_, rfl⟩
  rw [← hW0] at K hb
  have HW0 := Lib.hid hW0
  have HA := Lib.hid K.1
  have HD := Lib.hid K.2.1
  have HC := Lib.hid K.2.2
  have HB0 := Lib.hid hb
  have HB := Lib.hid (Below.refl W0.heap.size W0)
  have HRa := Lib.hid (hu.behind (hb.mono hl1))
  have HRb := Lib.hid (hv.behind (hb.mono hl2))
  have HLa := Lib.hid (show l1 ≤ W0.heap.size from Nat.le_trans hl1 hb.size)
  have HLb := Lib.hid (show l2 ≤ W0.heap.size from Nat.le_trans hl2 hb.size)
  have HLt := Lib.hid (lt_of_block K.2.2)
  have HN := Lib.hid hn
  have HEw := Lib.hid he
  have HFw := Lib.hid hf
  obtain ⟨c0, c1, _⟩ := scs K.1
  obtain ⟨d0, d1, _⟩ := scs K.2.1
  rw [hW0] at c0 c1 d0 d1
  have hlen : ys.length ≤ 9223372036854775807 := by unfold maxLen at k2; omega
  obtain ⟨qa, hqa⟩ : ∃ q, q = slv e xs := ⟨_, rfl⟩
  obtain ⟨qb, hqb⟩ : ∃ q, q = slv f ys := ⟨_, rfl⟩
  have HQa := Lib.hid hqa
  have HQb := Lib.hid hqb
  clear hu hv hc kc K hb hW0 hn he hf hqa hqb h1 h2 k1 k2
  cases qa with
  | false =>
    have HEQ := Lib.hid (mg_no (e := e) (f := f) (zs := xs) (ys := ys) (by unfold mgq; rw [← HQa.out]; rfl))
    go_enter Try.func18, Try.ntmps18
    go_wp2_with fail
    rw [← HW0.out]
    refine (impl_vsl (HRa.out.behind (HB.out.mono HLa.out)) (Nat.le_trans HLa.out HB.out.size) HEw.out).mono ?_
    rw [← HQa.out]
    rintro e' w1 ⟨rfl, hb⟩
    replace HB := Lib.hid (HB.out.trans (hb.mono HB.out.size))
    clear hb
    clear c0 c1 d0 d1
    obtain ⟨c0, c1, _⟩ := scs (stands (l := 0) HA.out HB.out)
    obtain ⟨d0, d1, _⟩ := scs (stands (l := 0) HD.out HB.out)
    go_wp2_with fail
    refine (impl_cpy (HRa.out.behind (HB.out.mono HLa.out)) (Nat.le_trans HLa.out HB.out.size) (by have := HN.out; omega)).mono ?_
    rintro e' w9 ⟨v9, rfl, hO, hb⟩
    replace hO := hO.mono HB.out.size
    replace HB := Lib.hid (HB.out.trans (hb.mono HB.out.size))
    clear hb
    obtain ⟨a, c, hv, _⟩ := hO.open
    subst hv
    obtain ⟨nl, hnl⟩ : ∃ x, x = (xs : List Int).length := ⟨_, rfl⟩
    rw [← hnl] at hO ⊢
    clear hnl
    have hk := stands (l := 0) HC.out HB.out
    obtain ⟨q0, q1, f0, f1⟩ := scs hk
    obtain ⟨k9, hB9, g9⟩ := res_put (x0 := .int .i64 e) (x1 := .slice a nl c) (HB0.out.trans (HB.out.mono HB0.out.size)) hk (by omega)
    obtain ⟨r0, r1, _⟩ := scs k9
    have hO9 := hO.kept g9 (Or.inr (fun hh => by have := (hO.lt _ hh).1; have := HLt.out; omega))
    have HB9 := Lib.hid hB9
    have HO9 := Lib.hid (hO9.mono HB0.out.size)
    clear k9 g9 hk hB9 hO9 hO
    go_wp2_with fail
    rw [HEQ.out.1, HEQ.out.2]
    exact bodyPost_ret (v := .tuple #[.agg #[.int .i64 e, .slice a nl c], .int .i64 0]) (by simp [results, Try.results18, go_sem, r0, r1]) rfl ⟨_, rfl, HO9.out, HB9.out⟩
  | true =>
  cases qb with
  | false =>
    have HEQ := Lib.hid (mg_no (e := e) (f := f) (zs := xs) (ys := ys) (by unfold mgq; rw [← HQb.out]; simp))
    go_enter Try.func18, Try.ntmps18
    go_wp2_with fail
    rw [← HW0.out]
    refine (impl_vsl (HRa.out.behind (HB.out.mono HLa.out)) (Nat.le_trans HLa.out HB.out.size) HEw.out).mono ?_
    rw [← HQa.out]
    rintro e' w1 ⟨rfl, hb⟩
    replace HB := Lib.hid (HB.out.trans (hb.mono HB.out.size))
    clear hb
    clear c0 c1 d0 d1
    obtain ⟨c0, c1, _⟩ := scs (stands (l := 0) HA.out HB.out)
    obtain ⟨d0, d1, _⟩ := scs (stands (l := 0) HD.out HB.out)
    go_wp2_with fail
    refine (impl_vsl (HRb.out.behind (HB.out.mono HLb.out)) (Nat.le_trans HLb.out HB.out.size) HFw.out).mono ?_
    rw [← HQb.out]
    rintro e' w2 ⟨rfl, hb⟩
    replace HB := Lib.hid (HB.out.trans (hb.mono HB.out.size))
    clear hb
    clear c0 c1 d0 d1
    obtain ⟨c0, c1, _⟩ := scs (stands (l := 0) HA.out HB.out)
    obtain ⟨d0, d1, _⟩ := scs (stands (l := 0) HD.out HB.out)
    go_wp2_with fail
    refine (impl_cpy (HRa.out.behind (HB.out.mono HLa.out)) (Nat.le_trans HLa.out HB.out.size) (by have := HN.out; omega)).mono ?_
    rintro e' w9 ⟨v9, rfl, hO, hb⟩
    replace hO := hO.mono HB.out.size
    replace HB := Lib.hid (HB.out.trans (hb.mono HB.out.size))
    clear hb
    obtain ⟨a, c, hv, _⟩ := hO.open
    subst hv
    obtain ⟨nl, hnl⟩ : ∃ x, x = (xs : List Int).length := ⟨_, rfl⟩
    rw [← hnl] at hO ⊢
    clear hnl
    have hk := stands (l := 0) HC.out HB.out
    obtain ⟨q0, q1, f0, f1⟩ := scs hk
    obtain ⟨k9, hB9, g9⟩ := res_put (x0 := .int .i64 e) (x1 := .slice a nl c) (HB0.out.trans (HB.out.mono HB0.out.size)) hk (by omega)
    obtain ⟨r0, r1, _⟩ := scs k9
    have hO9 := hO.kept g9 (Or.inr (fun hh => by have := (hO.lt _ hh).1; have := HLt.out; omega))
    have HB9 := Lib.hid hB9
    have HO9 := Lib.hid (hO9.mono HB0.out.size)
    clear k9 g9 hk hB9 hO9 hO
    go_wp2_with fail
    rw [HEQ.out.1, HEQ.out.2]
    exact bodyPost_ret (v := .tuple #[.agg #[.int .i64 e, .slice a nl c], .int .i64 0]) (by simp [results, Try.results18, go_sem, r0, r1]) rfl ⟨_, rfl, HO9.out, HB9.out⟩
  | true =>
  by_cases hef : e = f
  case neg =>
    have HEQ := Lib.hid (mg_no (e := e) (f := f) (zs := xs) (ys := ys) (by unfold mgq; rw [beq_eq_false_iff_ne.2 hef]; simp))
    have e1 : (e != f) = true := by simp [bne, hef]
    clear hef
    go_enter Try.func18, Try.ntmps18
    go_wp2_with fail
    rw [← HW0.out]
    refine (impl_vsl (HRa.out.behind (HB.out.mono HLa.out)) (Nat.le_trans HLa.out HB.out.size) HEw.out).mono ?_
    rw [← HQa.out]
    rintro e' w1 ⟨rfl, hb⟩
    replace HB := Lib.hid (HB.out.trans (hb.mono HB.out.size))
    clear hb
    clear c0 c1 d0 d1
    obtain ⟨c0, c1, _⟩ := scs (stands (l := 0) HA.out HB.out)
    obtain ⟨d0, d1, _⟩ := scs (stands (l := 0) HD.out HB.out)
    go_wp2_with fail
    refine (impl_vsl (HRb.out.behind (HB.out.mono HLb.out)) (Nat.le_trans HLb.out HB.out.size) HFw.out).mono ?_
    rw [← HQb.out]
    rintro e' w2 ⟨rfl, hb⟩
    replace HB := Lib.hid (HB.out.trans (hb.mono HB.out.size))
    clear hb
    clear c0 c1 d0 d1
    obtain ⟨c0, c1, _⟩ := scs (stands (l := 0) HA.out HB.out)
    obtain ⟨d0, d1, _⟩ := scs (stands (l := 0) HD.out HB.out)
    go_wp2_with fail
    refine (impl_cpy (HRa.out.behind (HB.out.mono HLa.out)) (Nat.le_trans HLa.out HB.out.size) (by have := HN.out; omega)).mono ?_
    rintro e' w9 ⟨v9, rfl, hO, hb⟩
    replace hO := hO.mono HB.out.size
    replace HB := Lib.hid (HB.out.trans (hb.mono HB.out.size))
    clear hb
    obtain ⟨a, c, hv, _⟩ := hO.open
    subst hv
    obtain ⟨nl, hnl⟩ : ∃ x, x = (xs : List Int).length := ⟨_, rfl⟩
    rw [← hnl] at hO ⊢
    clear hnl
    have hk := stands (l := 0) HC.out HB.out
    obtain ⟨q0, q1, f0, f1⟩ := scs hk
    obtain ⟨k9, hB9, g9⟩ := res_put (x0 := .int .i64 e) (x1 := .slice a nl c) (HB0.out.trans (HB.out.mono HB0.out.size)) hk (by omega)
    obtain ⟨r0, r1, _⟩ := scs k9
    have hO9 := hO.kept g9 (Or.inr (fun hh => by have := (hO.lt _ hh).1; have := HLt.out; omega))
    have HB9 := Lib.hid hB9
    have HO9 := Lib.hid (hO9.mono HB0.out.size)
    clear k9 g9 hk hB9 hO9 hO
    go_wp2_with fail
    rw [HEQ.out.1, HEQ.out.2]
    exact bodyPost_ret (v := .tuple #[.agg #[.int .i64 e, .slice a nl c], .int .i64 0]) (by simp [results, Try.results18, go_sem, r0, r1]) rfl ⟨_, rfl, HO9.out, HB9.out⟩
  case pos =>
    have HOk : Hid (mgq e f xs ys = true) := Lib.hid (by unfold mgq; rw [← HQa.out, ← HQb.out, beq_iff_eq.2 hef]; rfl)
    have e1 : (e != f) = false := by simp [bne, hef]
    have HXo := Lib.hid (slv_parts HQa.out.symm)
    have HYo := Lib.hid (slv_parts HQb.out.symm)
    have h40 := HYo.out.2
    clear hef
    go_enter Try.func18, Try.ntmps18
    go_wp2_with fail
    rw [← HW0.out]
    refine (impl_vsl (HRa.out.behind (HB.out.mono HLa.out)) (Nat.le_trans HLa.out HB.out.size) HEw.out).mono ?_
    rw [← HQa.out]
    rintro e' w1 ⟨rfl, hb⟩
    replace HB := Lib.hid (HB.out.trans (hb.mono HB.out.size))
    clear hb
    clear c0 c1 d0 d1
    obtain ⟨c0, c1, _⟩ := scs (stands (l := 0) HA.out HB.out)
    obtain ⟨d0, d1, _⟩ := scs (stands (l := 0) HD.out HB.out)
    go_wp2_with fail
    refine (impl_vsl (HRb.out.behind (HB.out.mono HLb.out)) (Nat.le_trans HLb.out HB.out.size) HFw.out).mono ?_
    rw [← HQb.out]
    rintro e' w2 ⟨rfl, hb⟩
    replace HB := Lib.hid (HB.out.trans (hb.mono HB.out.size))
    clear hb
    clear c0 c1 d0 d1
    obtain ⟨c0, c1, _⟩ := scs (stands (l := 0) HA.out HB.out)
    obtain ⟨d0, d1, _⟩ := scs (stands (l := 0) HD.out HB.out)
    go_wp2_with fail
    refine (impl_dn (HRa.out.behind (HB.out.mono HLa.out)) (Nat.le_trans HLa.out HB.out.size)).mono ?_
    rintro e' w3 ⟨bm, rfl, hbm, hO, hb⟩
    have HBm := Lib.hid (Nat.le_trans HB.out.size hbm)
    have HMap := Lib.hid hO
    replace HB := Lib.hid (HB.out.trans (hb.mono HB.out.size))
    clear hb
    clear c0 c1 d0 d1 hbm hO
    obtain ⟨c0, c1, _⟩ := scs (stands (l := 0) HA.out HB.out)
    obtain ⟨d0, d1, _⟩ := scs (stands (l := 0) HD.out HB.out)
    go_wp2_with fail
    go_loopw [7, 33] (fun n i wr => ∃ (j : Nat) (D : DataW Unit), i = .int .i64 j ∧ j ≤ ys.length ∧ n = .int .i64 ((mgs xs (ys.take j)).2 : Int) ∧ wr.ownsMap Try.prog 3 (plainElem (H := Unit) Try.prog 4) bm (xs.length + j) D ∧ MapIs D (mgs xs (ys.take j)).1 ∧ AllT D ∧ Below W0.heap.size W0 wr) (fun _ i _ => ys.length - (intOf i).toNat)
    case atStart =>
      exact ⟨0, _, rfl, Nat.zero_le _, rfl, HMap.out, MapIs.start HXo.out.1, AllT.mset _ _ (Nat.le_refl _), HB.out⟩
    case round =>
      obtain ⟨j, D, rfl, hj, rfl, hM, hI, hA, hB⟩ := hrel
      clear HB c0 c1 d0 d1 HMap
      have HB := Lib.hid hB
      have HMp := Lib.hid hM
      have HIs := Lib.hid hI
      have HAl := Lib.hid hA
      have hnj := (mgs_inv HXo.out.1 HYo.out.1 HXo.out.2 j hj).2.2.2.2
      have hlo := (mgs_inv HXo.out.1 HYo.out.1 HXo.out.2 j hj).1
      have hll : (mgs xs (ys.take j)).1.length ≤ 40 := by have := (mgs_inv HXo.out.1 HYo.out.1 HXo.out.2 j hj).2.2.2.1; omega
      have HLo := Lib.hid hlo
      have HLl := Lib.hid hll
      obtain ⟨t, ht⟩ : ∃ t, t = (mgs xs (ys.take j)).2 := ⟨_, rfl⟩
      rw [← ht] at hnj ⊢
      have HTw := Lib.hid ht
      obtain ⟨c0, c1, _⟩ := scs (stands (l := 0) HA.out HB.out)
      obtain ⟨d0, d1, _⟩ := scs (stands (l := 0) HD.out HB.out)
      clear hB hM hI hA hlo hll ht
      by_cases hlt : j < ys.length
      · have e2 : decide ((j : Int) < (ys.length : Int)) = true := by simp; omega
        have hji : (j : Int) < (ys.length : Int) := by omega
        obtain ⟨a, cp, hv, _, _, hc⟩ := HRb.out.open
        injection hv with hv1 _ hv3
        subst hv1 hv3
        obtain ⟨b, o, hp, hb, hcell⟩ := hc (by omega)
        have y1 := hcell _ (HB.out.mono HLb.out) j hlt
        have hw := HRb.out.wf hlt
        have HSt := Lib.hid (mg_step HXo.out.1 HYo.out.1 HXo.out.2 hlt)
        have HHit := Lib.hid (fun h => mg_hit (zs := xs) hlt h)
        have HNew := Lib.hid (fun h k => mg_new (zs := xs) hlt h k)
        have HOld := Lib.hid (fun h k => mg_old (zs := xs) hlt h k)
        obtain ⟨y, hy⟩ : ∃ y, y = ys.getD j 0 := ⟨_, rfl⟩
        rw [← hy] at y1 hw HSt HHit HNew HOld
        have HYw := Lib.hid hw
        obtain ⟨m, hm⟩ : ∃ m, m = memS xs y := ⟨_, rfl⟩
        have HMem := Lib.hid hm
        have HHas : Hid (Maps.has D (.int .i64 y) = m) := Lib.hid (by rw [HIs.out.2.1, HSt.out, hm])
        obtain ⟨s, hs⟩ : ∃ s, s = (mgs xs (ys.take j)).1.length := ⟨_, rfl⟩
        have HSz : Hid (Maps.size D = s) := Lib.hid (by rw [HIs.out.2.2, hs])
        have hs40 : s ≤ 40 := by rw [hs]; exact HLl.out
        have HSs := Lib.hid hs
        subst hp
        clear hc hcell hb hw hy hm hs
        cases m with
        | true =>
          have HE := Lib.hid (HHit.out HMem.out.symm)
          go_wp2_with (first
            | (at_lookup; refine wpList_lookup_own_bool _ rfl _ _ 66 rfl 3 4 lawInt Try.underlying66 Try.underlying4 (zeroB _) bm (xs.length + j) _ HAl.out rfl HMp.out _ _ rfl (keyOf_int_mk Try.underlying3 HYw.out) ?_; rw [HHas.out]))
          go_roundw
          case rel => exact ⟨j + 1, D, by simp, hlt, by rw [HE.out, ← HTw.out]; simp, HMp.out.mono (by omega), by rw [HE.out]; exact HIs.out, HAl.out, HB.out⟩
          case measure => simp [intOf]; omega
        | false =>
          by_cases hs : s < 40
          · have e3 : decide ((s : Int) < 40) = true := by simp; omega
            have HE := Lib.hid (HNew.out HMem.out.symm (by rw [← HSs.out]; exact hs))
            have HPut := Lib.hid (HIs.out.put (n := y) (by rw [HSt.out]; exact HMem.out.symm) (.lit (.bool true)))
            have HPa := Lib.hid (HAl.out.put HIs.out.1.isMap (show WideAt.IsKeyLit (.int .i64 y) from trivial))
            clear hs
            go_wp2_with (first
              | (at_lookup; refine wpList_lookup_own_bool _ rfl _ _ 66 rfl 3 4 lawInt Try.underlying66 Try.underlying4 (zeroB _) bm (xs.length + j) _ HAl.out rfl HMp.out _ _ rfl (keyOf_int_mk Try.underlying3 HYw.out) ?_; rw [HHas.out])
              | (at_len; refine wpList_len_own _ rfl _ 66 rfl 3 4 Try.underlying66 _ bm (xs.length + j) _ rfl HMp.out ?_; rw [HSz.out])
              | (at_mapUpdate; refine wpList_mapUpdate_own _ rfl _ _ _ 66 rfl 3 4 lawInt Try.underlying66 (plainElem (H := Unit) Try.prog 4) bm (xs.length + j) _ rfl HMp.out (by have := HN.out; unfold maxLen; omega) _ _ _ rfl rfl (keyOf_int_mk Try.underlying3 HYw.out) _ [] (plainElem_bool Try.underlying4 true) ?_; intro w4 hown hg))
            have HM4 := Lib.hid hown
            have HB4 := Lib.hid (HB.out.grown hg HB.out.size (fun k hk => by injection hk with hk; have := HBm.out; omega))
            clear hown hg
            go_wp2_with fail
            go_roundw
            case rel => exact ⟨j + 1, _, by simp, hlt, by rw [HE.out, ← HTw.out], HM4.out, by rw [HE.out]; exact HPut.out, HPa.out, HB4.out⟩
            case measure => simp [intOf]; omega
          · have e3 : decide ((s : Int) < 40) = false := by simp; omega
            have HE := Lib.hid (HOld.out HMem.out.symm (by rw [← HSs.out]; exact hs))
            clear hs
            go_wp2_with (first
              | (at_lookup; refine wpList_lookup_own_bool _ rfl _ _ 66 rfl 3 4 lawInt Try.underlying66 Try.underlying4 (zeroB _) bm (xs.length + j) _ HAl.out rfl HMp.out _ _ rfl (keyOf_int_mk Try.underlying3 HYw.out) ?_; rw [HHas.out])
              | (at_len; refine wpList_len_own _ rfl _ 66 rfl 3 4 Try.underlying66 _ bm (xs.length + j) _ rfl HMp.out ?_; rw [HSz.out]))
            go_roundw
            case rel => exact ⟨j + 1, D, by simp, hlt, by rw [HE.out, ← HTw.out], HMp.out.mono (by omega), by rw [HE.out]; exact HIs.out, HAl.out, HB.out⟩
            case measure => simp [intOf]; omega
      · have e2 : decide ((j : Int) < (ys.length : Int)) = false := by simp; omega
        have hje : ys.take j = ys := List.take_of_length_le (by omega)
        have HTk := Lib.hid hje
        have HEQ : Hid (mgL e f xs ys = (mgs xs (ys.take j)).1 ∧ mgN e f xs ys = (t : Int)) := Lib.hid (by rw [HTw.out, hje]; exact mg_yes HOk.out)
        clear hje
        go_wp2_with fail
        refine (impl_lsp HMp.out HIs.out HAl.out HLo.out (by have := HLl.out; omega)).mono ?_
        rintro e' w9 ⟨v9, rfl, hO, hb⟩
        replace hO := hO.mono HB.out.size
        replace HB := Lib.hid (HB.out.trans (hb.mono HB.out.size))
        clear hb
        obtain ⟨a, c, hv, _⟩ := hO.open
        subst hv
        obtain ⟨nl, hnl⟩ : ∃ x, x = ((mgs xs (ys.take j)).1 : List Int).length := ⟨_, rfl⟩
        rw [← hnl] at hO ⊢
        clear hnl
        have hk := stands (l := 0) HC.out HB.out
        obtain ⟨q0, q1, f0, f1⟩ := scs hk
        obtain ⟨k9, hB9, g9⟩ := res_put (x0 := .int .i64 e) (x1 := .slice a nl c) (HB0.out.trans (HB.out.mono HB0.out.size)) hk (by omega)
        obtain ⟨r0, r1, _⟩ := scs k9
        have hO9 := hO.kept g9 (Or.inr (fun hh => by have := (hO.lt _ hh).1; have := HLt.out; omega))
        have HB9 := Lib.hid hB9
        have HO9 := Lib.hid (hO9.mono HB0.out.size)
        clear k9 g9 hk hB9 hO9 hO
        go_wp2_with fail
        rw [HEQ.out.1, HEQ.out.2]
        exact bodyPost_ret (v := .tuple #[.agg #[.int .i64 e, .slice a nl c], .int .i64 t]) (by simp [results, Try.results18, go_sem, r0, r1]) rfl ⟨_, rfl, HO9.out, HB9.out⟩


set_option maxRecDepth 100000 in
set_option maxHeartbeats 16000000 in
/-- spec.MergeSpent -/
theorem spec_mrg {l1 l2 : Nat} {w : World} {u v : Value} {xs ys : List Int} {e f : Int} (hu : Rd l1 .i64 w u xs) (hv : Rd l2 .i64 w v ys) (hl1 : l1 ≤ w.heap.size) (hl2 : l2 ≤ w.heap.size) (hn : xs.length ≤ 17592186044414) (he : (Lit.int .i64 e).wf = true) (hf : (Lit.int .i64 f).wf = true) :
    Calls Try.prog 37 #[.agg #[.int .i64 e, u], .agg #[.int .i64 f, v]] w fun x w' => ∃ v', x = .returned (.tuple #[.agg #[.int .i64 e, v'], .int .i64 (mgN e f xs ys)]) ∧ Own 3 .i64 w.heap.size w' v' (mgL e f xs ys) ∧ Below w.heap.size w w' := by
  obtain ⟨p, cap, rfl, h1, h2, hc⟩ := hu.open
  obtain ⟨p2, cap2, rfl, k1, k2, kc⟩ := hv.open
  have K := blocks3T w (.cells #[.int .i64 e, .slice p xs.length cap] 26) (.cells #[.int .i64 f, .slice p2 ys.length cap2] 26) (.cells #[.int .i64 0, .slice none 0 0] 26)
  have hb := (((Below.refl w.heap.size w).alloc (Nat.le_refl _) (.cells #[.int .i64 e, .slice p xs.length cap] 26)).alloc (by simp) (.cells #[.int .i64 f, .slice p2 ys.length cap2] 26)).alloc (by simp; omega) (.cells #[.int .i64 0, .slice none 0 0] 26)
  obtain ⟨W0, hW0⟩ : ∃ W, W = ((w.alloc (.cells #[.int .i64 e, .slice p xs.length cap] 26)).alloc (.cells #[.int .i64 f, .slice p2 ys.length cap2] 26)).alloc (.cells #[.int .i64 0, .slice none 0 0] 26) := ⟨_, rfl⟩
  rw [← hW0] at K hb
  have HW0 := Lib.hid hW0
  have HA := Lib.hid K.1
  have HD := Lib.hid K.2.1
  have HC := Lib.hid K.2.2
  have HB0 := Lib.hid hb
  have HB := Lib.hid (Below.refl W0.heap.size W0)
  have HRa := Lib.hid (hu.behind (hb.mono hl1))
  have HRb := Lib.hid (hv.behind (hb.mono hl2))
  have HLa := Lib.hid (show l1 ≤ W0.heap.size from Nat.le_trans hl1 hb.size)
  have HLb := Lib.hid (show l2 ≤ W0.heap.size from Nat.le_trans hl2 hb.size)
  have HLt := Lib.hid (lt_of_block K.2.2)
  have HN := Lib.hid hn
  have HEw := Lib.hid he
  have HFw := Lib.hid hf
  obtain ⟨c0, c1, _⟩ := scs K.1
  obtain ⟨d0, d1, _⟩ := scs K.2.1
  rw [hW0] at c0 c1 d0 d1
  have hlen : ys.length ≤ 9223372036854775807 := by unfold maxLen at k2; omega
  obtain ⟨qa, hqa⟩ : ∃ q, q = slv e xs := ⟨_, rfl⟩
  obtain ⟨qb, hqb⟩ : ∃ q, q = slv f ys := ⟨_, rfl⟩
  have HQa := Lib.hid hqa
  have HQb := Lib.hid hqb
  clear hu hv hc kc K hb hW0 hn he hf hqa hqb h1 h2 k1 k2
  cases qa with
  | false =>
    have HEQ := Lib.hid (mg_no (e := e) (f := f) (zs := xs) (ys := ys) (by unfold mgq; rw [← HQa.out]; rfl))
    go_enter Try.func37, Try.ntmps37
    go_wp2_with fail
    rw [← HW0.out]
    refine (spec_cpy HRa.out HLa.out (by have := HN.out; omega)).mono ?_
    rintro e' wc ⟨vc, rfl, hO, hb⟩
    obtain ⟨a, c, hv, _⟩ := hO.open
    subst hv
    replace HB := Lib.hid (HB.out.trans (hb.mono HB.out.size))
    clear hb c0 c1 d0 d1
    have hE := heap_alloc_new wc (.cells #[.int .i64 e, .slice a xs.length c] 26)
    have hB := HB.out.alloc HB.out.size (.cells #[.int .i64 e, .slice a xs.length c] 26)
    have hO1 := hO.alloc (.cells #[.int .i64 e, .slice a xs.length c] 26)
    have hne : ∀ r, (Value.slice a xs.length c).ownBlock = some r → r ≠ wc.heap.size := fun r hr => by have := (hO.lt r hr).2; omega
    have HGe := Lib.hid HB.out.size
    obtain ⟨W1, hW1⟩ : ∃ W, W = wc.alloc (.cells #[.int .i64 e, .slice a xs.length c] 26) := ⟨_, rfl⟩
    obtain ⟨B, hBn⟩ : ∃ B, B = wc.heap.size := ⟨_, rfl⟩
    rw [← hBn] at hE hne HGe
    rw [← hW1] at hE hB hO1
    have HW1 : Hid (W1 = wc.alloc (.cells #[.int .i64 e, .slice a xs.length c] 26)) := Lib.hid hW1
    have HBn : Hid (B = wc.heap.size) := Lib.hid hBn
    have HE := Lib.hid hE
    have HO : Hid (Own 3 .i64 W0.heap.size W1 (.slice a xs.length c) xs) := Lib.hid hO1
    have HNe := Lib.hid hne
    replace HB := Lib.hid hB
    obtain ⟨c0, c1, _⟩ := scs (stands (l := 0) HA.out hB)
    obtain ⟨d0, d1, _⟩ := scs (stands (l := 0) HD.out hB)
    rw [hW1] at c0 c1 d0 d1
    clear hE hB hO1 hne hW1 hO hBn
    go_wp2_with fail
    rw [← HW1.out, ← HBn.out]
    refine (spec_vsl (HRa.out.behind (HB.out.mono HLa.out)) (Nat.le_trans HLa.out HB.out.size) HEw.out).mono ?_
    rw [← HQa.out]
    rintro e' w1 ⟨rfl, hb⟩
    have hE := (hb.block _ (lt_of_block HE.out)).trans HE.out
    have hO := HO.out.next hb
    replace HE := Lib.hid hE
    replace HO := Lib.hid hO
    replace HB := Lib.hid (HB.out.trans (hb.mono HB.out.size))
    clear hb hE hO
    clear c0 c1 d0 d1
    obtain ⟨c0, c1, _⟩ := scs (stands (l := 0) HA.out HB.out)
    obtain ⟨d0, d1, _⟩ := scs (stands (l := 0) HD.out HB.out)
    have hE := HE.out
    obtain ⟨x0, x1, _⟩ := scs hE
    obtain ⟨nl, hnl⟩ : ∃ x, x = xs.length := ⟨_, rfl⟩
    have hO := HO.out
    rw [← hnl] at hO x1 ⊢
    clear hnl hE
    have hk := stands (l := 0) HC.out HB.out
    obtain ⟨q0, q1, f0, f1⟩ := scs hk
    obtain ⟨k9, hB9, g9⟩ := res_put (x0 := .int .i64 e) (x1 := .slice a nl c) (HB0.out.trans (HB.out.mono HB0.out.size)) hk (by omega)
    obtain ⟨r0, r1, _⟩ := scs k9
    have hO9 := hO.kept g9 (Or.inr (fun hh => by have := (hO.lt _ hh).1; have := HLt.out; omega))
    have HB9 := Lib.hid hB9
    have HO9 := Lib.hid (hO9.mono HB0.out.size)
    clear k9 g9 hk hB9 hO9 hO
    go_wp2_with fail
    rw [HEQ.out.1, HEQ.out.2]
    exact bodyPost_ret (v := .tuple #[.agg #[.int .i64 e, .slice a nl c], .int .i64 0]) (by simp [results, Try.results37, go_sem, r0, r1]) rfl ⟨_, rfl, HO9.out, HB9.out⟩
  | true =>
  cases qb with
  | false =>
    have HEQ := Lib.hid (mg_no (e := e) (f := f) (zs := xs) (ys := ys) (by unfold mgq; rw [← HQb.out]; simp))
    go_enter Try.func37, Try.ntmps37
    go_wp2_with fail
    rw [← HW0.out]
    refine (spec_cpy HRa.out HLa.out (by have := HN.out; omega)).mono ?_
    rintro e' wc ⟨vc, rfl, hO, hb⟩
    obtain ⟨a, c, hv, _⟩ := hO.open
    subst hv
    replace HB := Lib.hid (HB.out.trans (hb.mono HB.out.size))
    clear hb c0 c1 d0 d1
    have hE := heap_alloc_new wc (.cells #[.int .i64 e, .slice a xs.length c] 26)
    have hB := HB.out.alloc HB.out.size (.cells #[.int .i64 e, .slice a xs.length c] 26)
    have hO1 := hO.alloc (.cells #[.int .i64 e, .slice a xs.length c] 26)
    have hne : ∀ r, (Value.slice a xs.length c).ownBlock = some r → r ≠ wc.heap.size := fun r hr => by have := (hO.lt r hr).2; omega
    have HGe := Lib.hid HB.out.size
    obtain ⟨W1, hW1⟩ : ∃ W, W = wc.alloc (.cells #[.int .i64 e, .slice a xs.length c] 26) := ⟨_, rfl⟩
    obtain ⟨B, hBn⟩ : ∃ B, B = wc.heap.size := ⟨_, rfl⟩
    rw [← hBn] at hE hne HGe
    rw [← hW1] at hE hB hO1
    have HW1 : Hid (W1 = wc.alloc (.cells #[.int .i64 e, .slice a xs.length c] 26)) := Lib.hid hW1
    have HBn : Hid (B = wc.heap.size) := Lib.hid hBn
    have HE := Lib.hid hE
    have HO : Hid (Own 3 .i64 W0.heap.size W1 (.slice a xs.length c) xs) := Lib.hid hO1
    have HNe := Lib.hid hne
    replace HB := Lib.hid hB
    obtain ⟨c0, c1, _⟩ := scs (stands (l := 0) HA.out hB)
    obtain ⟨d0, d1, _⟩ := scs (stands (l := 0) HD.out hB)
    rw [hW1] at c0 c1 d0 d1
    clear hE hB hO1 hne hW1 hO hBn
    go_wp2_with fail
    rw [← HW1.out, ← HBn.out]
    refine (spec_vsl (HRa.out.behind (HB.out.mono HLa.out)) (Nat.le_trans HLa.out HB.out.size) HEw.out).mono ?_
    rw [← HQa.out]
    rintro e' w1 ⟨rfl, hb⟩
    have hE := (hb.block _ (lt_of_block HE.out)).trans HE.out
    have hO := HO.out.next hb
    replace HE := Lib.hid hE
    replace HO := Lib.hid hO
    replace HB := Lib.hid (HB.out.trans (hb.mono HB.out.size))
    clear hb hE hO
    clear c0 c1 d0 d1
    obtain ⟨c0, c1, _⟩ := scs (stands (l := 0) HA.out HB.out)
    obtain ⟨d0, d1, _⟩ := scs (stands (l := 0) HD.out HB.out)
    go_wp2_with fail
    refine (spec_vsl (HRb.out.behind (HB.out.mono HLb.out)) (Nat.le_trans HLb.out HB.out.size) HFw.out).mono ?_
    rw [← HQb.out]
    rintro e' w2 ⟨rfl, hb⟩
    have hE := (hb.block _ (lt_of_block HE.out)).trans HE.out
    have hO := HO.out.next hb
    replace HE := Lib.hid hE
    replace HO := Lib.hid hO
    replace HB := Lib.hid (HB.out.trans (hb.mono HB.out.size))
    clear hb hE hO
    clear c0 c1 d0 d1
    obtain ⟨c0, c1, _⟩ := scs (stands (l := 0) HA.out HB.out)
    obtain ⟨d0, d1, _⟩ := scs (stands (l := 0) HD.out HB.out)
    have hE := HE.out
    obtain ⟨x0, x1, _⟩ := scs hE
    obtain ⟨nl, hnl⟩ : ∃ x, x = xs.length := ⟨_, rfl⟩
    have hO := HO.out
    rw [← hnl] at hO x1 ⊢
    clear hnl hE
    have hk := stands (l := 0) HC.out HB.out
    obtain ⟨q0, q1, f0, f1⟩ := scs hk
    obtain ⟨k9, hB9, g9⟩ := res_put (x0 := .int .i64 e) (x1 := .slice a nl c) (HB0.out.trans (HB.out.mono HB0.out.size)) hk (by omega)
    obtain ⟨r0, r1, _⟩ := scs k9
    have hO9 := hO.kept g9 (Or.inr (fun hh => by have := (hO.lt _ hh).1; have := HLt.out; omega))
    have HB9 := Lib.hid hB9
    have HO9 := Lib.hid (hO9.mono HB0.out.size)
    clear k9 g9 hk hB9 hO9 hO
    go_wp2_with fail
    rw [HEQ.out.1, HEQ.out.2]
    exact bodyPost_ret (v := .tuple #[.agg #[.int .i64 e, .slice a nl c], .int .i64 0]) (by simp [results, Try.results37, go_sem, r0, r1]) rfl ⟨_, rfl, HO9.out, HB9.out⟩
  | true =>
  by_cases hef : e = f
  case neg =>
    have HEQ := Lib.hid (mg_no (e := e) (f := f) (zs := xs) (ys := ys) (by unfold mgq; rw [beq_eq_false_iff_ne.2 hef]; simp))
    have e1 : (e != f) = true := by simp [bne, hef]
    clear hef
    go_enter Try.func37, Try.ntmps37
    go_wp2_with fail
    rw [← HW0.out]
    refine (spec_cpy HRa.out HLa.out (by have := HN.out; omega)).mono ?_
    rintro e' wc ⟨vc, rfl, hO, hb⟩
    obtain ⟨a, c, hv, _⟩ := hO.open
    subst hv
    replace HB := Lib.hid (HB.out.trans (hb.mono HB.out.size))
    clear hb c0 c1 d0 d1
    have hE := heap_alloc_new wc (.cells #[.int .i64 e, .slice a xs.length c] 26)
    have hB := HB.out.alloc HB.out.size (.cells #[.int .i64 e, .slice a xs.length c] 26)
    have hO1 := hO.alloc (.cells #[.int .i64 e, .slice a xs.length c] 26)
    have hne : ∀ r, (Value.slice a xs.length c).ownBlock = some r → r ≠ wc.heap.size := fun r hr => by have := (hO.lt r hr).2; omega
    have HGe := Lib.hid HB.out.size
    obtain ⟨W1, hW1⟩ : ∃ W, W = wc.alloc (.cells #[.int .i64 e, .slice a xs.length c] 26) := ⟨_, rfl⟩
    obtain ⟨B, hBn⟩ : ∃ B, B = wc.heap.size := ⟨_, rfl⟩
    rw [← hBn] at hE hne HGe
    rw [← hW1] at hE hB hO1
    have HW1 : Hid (W1 = wc.alloc (.cells #[.int .i64 e, .slice a xs.length c] 26)) := Lib.hid hW1
    have HBn : Hid (B = wc.heap.size) := Lib.hid hBn
    have HE := Lib.hid hE
    have HO : Hid (Own 3 .i64 W0.heap.size W1 (.slice a xs.length c) xs) := Lib.hid hO1
    have HNe := Lib.hid hne
    replace HB := Lib.hid hB
    obtain ⟨c0, c1, _⟩ := scs (stands (l := 0) HA.out hB)
    obtain ⟨d0, d1, _⟩ := scs (stands (l := 0) HD.out hB)
    rw [hW1] at c0 c1 d0 d1
    clear hE hB hO1 hne hW1 hO hBn
    go_wp2_with fail
    rw [← HW1.out, ← HBn.out]
    refine (spec_vsl (HRa.out.behind (HB.out.mono HLa.out)) (Nat.le_trans HLa.out HB.out.size) HEw.out).mono ?_
    rw [← HQa.out]
    rintro e' w1 ⟨rfl, hb⟩
    have hE := (hb.block _ (lt_of_block HE.out)).trans HE.out
    have hO := HO.out.next hb
    replace HE := Lib.hid hE
    replace HO := Lib.hid hO
    replace HB := Lib.hid (HB.out.trans (hb.mono HB.out.size))
    clear hb hE hO
    clear c0 c1 d0 d1
    obtain ⟨c0, c1, _⟩ := scs (stands (l := 0) HA.out HB.out)
    obtain ⟨d0, d1, _⟩ := scs (stands (l := 0) HD.out HB.out)
    go_wp2_with fail
    refine (spec_vsl (HRb.out.behind (HB.out.mono HLb.out)) (Nat.le_trans HLb.out HB.out.size) HFw.out).mono ?_
    rw [← HQb.out]
    rintro e' w2 ⟨rfl, hb⟩
    have hE := (hb.block _ (lt_of_block HE.out)).trans HE.out
    have hO := HO.out.next hb
    replace HE := Lib.hid hE
    replace HO := Lib.hid hO
    replace HB := Lib.hid (HB.out.trans (hb.mono HB.out.size))
    clear hb hE hO
    clear c0 c1 d0 d1
    obtain ⟨c0, c1, _⟩ := scs (stands (l := 0) HA.out HB.out)
    obtain ⟨d0, d1, _⟩ := scs (stands (l := 0) HD.out HB.out)
    have hE := HE.out
    obtain ⟨x0, x1, _⟩ := scs hE
    obtain ⟨nl, hnl⟩ : ∃ x, x = xs.length := ⟨_, rfl⟩
    have hO := HO.out
    rw [← hnl] at hO x1 ⊢
    clear hnl hE
    have hk := stands (l := 0) HC.out HB.out
    obtain ⟨q0, q1, f0, f1⟩ := scs hk
    obtain ⟨k9, hB9, g9⟩ := res_put (x0 := .int .i64 e) (x1 := .slice a nl c) (HB0.out.trans (HB.out.mono HB0.out.size)) hk (by omega)
    obtain ⟨r0, r1, _⟩ := scs k9
    have hO9 := hO.kept g9 (Or.inr (fun hh => by have := (hO.lt _ hh).1; have := HLt.out; omega))
    have HB9 := Lib.hid hB9
    have HO9 := Lib.hid (hO9.mono HB0.out.size)
    clear k9 g9 hk hB9 hO9 hO
    go_wp2_with fail
    rw [HEQ.out.1, HEQ.out.2]
    exact bodyPost_ret (v := .tuple #[.agg #[.int .i64 e, .slice a nl c], .int .i64 0]) (by simp [results, Try.results37, go_sem, r0, r1]) rfl ⟨_, rfl, HO9.out, HB9.out⟩
  case pos =>
    have HOk : Hid (mgq e f xs ys = true) := Lib.hid (by unfold mgq; rw [← HQa.out, ← HQb.out, beq_iff_eq.2 hef]; rfl)
    have e1 : (e != f) = false := by simp [bne, hef]
    have HXo := Lib.hid (slv_parts HQa.out.symm)
    have HYo := Lib.hid (slv_parts HQb.out.symm)
    have h40 := HYo.out.2
    clear hef
    go_enter Try.func37, Try.ntmps37
    go_wp2_with fail
    rw [← HW0.out]
    refine (spec_cpy HRa.out HLa.out (by have := HN.out; omega)).mono ?_
    rintro e' wc ⟨vc, rfl, hO, hb⟩
    obtain ⟨a, c, hv, _⟩ := hO.open
    subst hv
    replace HB := Lib.hid (HB.out.trans (hb.mono HB.out.size))
    clear hb c0 c1 d0 d1
    have hE := heap_alloc_new wc (.cells #[.int .i64 e, .slice a xs.length c] 26)
    have hB := HB.out.alloc HB.out.size (.cells #[.int .i64 e, .slice a xs.length c] 26)
    have hO1 := hO.alloc (.cells #[.int .i64 e, .slice a xs.length c] 26)
    have hne : ∀ r, (Value.slice a xs.length c).ownBlock = some r → r ≠ wc.heap.size := fun r hr => by have := (hO.lt r hr).2; omega
    have HGe := Lib.hid HB.out.size
    obtain ⟨W1, hW1⟩ : ∃ W, W = wc.alloc (.cells #[.int .i64 e, .slice a xs.length c] 26) := ⟨_, rfl⟩
    obtain ⟨B, hBn⟩ : ∃ B, B = wc.heap.size := ⟨_, rfl⟩
    rw [← hBn] at hE hne HGe
    rw [← hW1] at hE hB hO1
    have HW1 : Hid (W1 = wc.alloc (.cells #[.int .i64 e, .slice a xs.length c] 26)) := Lib.hid hW1
    have HBn : Hid (B = wc.heap.size) := Lib.hid hBn
    have HE := Lib.hid hE
    have HO : Hid (Own 3 .i64 W0.heap.size W1 (.slice a xs.length c) xs) := Lib.hid hO1
    have HNe := Lib.hid hne
    replace HB := Lib.hid hB
    obtain ⟨c0, c1, _⟩ := scs (stands (l := 0) HA.out hB)
    obtain ⟨d0, d1, _⟩ := scs (stands (l := 0) HD.out hB)
    rw [hW1] at c0 c1 d0 d1
    clear hE hB hO1 hne hW1 hO hBn
    go_wp2_with fail
    rw [← HW1.out, ← HBn.out]
    refine (spec_vsl (HRa.out.behind (HB.out.mono HLa.out)) (Nat.le_trans HLa.out HB.out.size) HEw.out).mono ?_
    rw [← HQa.out]
    rintro e' w1 ⟨rfl, hb⟩
    have hE := (hb.block _ (lt_of_block HE.out)).trans HE.out
    have hO := HO.out.next hb
    replace HE := Lib.hid hE
    replace HO := Lib.hid hO
    replace HB := Lib.hid (HB.out.trans (hb.mono HB.out.size))
    clear hb hE hO
    clear c0 c1 d0 d1
    obtain ⟨c0, c1, _⟩ := scs (stands (l := 0) HA.out HB.out)
    obtain ⟨d0, d1, _⟩ := scs (stands (l := 0) HD.out HB.out)
    go_wp2_with fail
    refine (spec_vsl (HRb.out.behind (HB.out.mono HLb.out)) (Nat.le_trans HLb.out HB.out.size) HFw.out).mono ?_
    rw [← HQb.out]
    rintro e' w2 ⟨rfl, hb⟩
    have hE := (hb.block _ (lt_of_block HE.out)).trans HE.out
    have hO := HO.out.next hb
    replace HE := Lib.hid hE
    replace HO := Lib.hid hO
    replace HB := Lib.hid (HB.out.trans (hb.mono HB.out.size))
    clear hb hE hO
    clear c0 c1 d0 d1
    obtain ⟨c0, c1, _⟩ := scs (stands (l := 0) HA.out HB.out)
    obtain ⟨d0, d1, _⟩ := scs (stands (l := 0) HD.out HB.out)
    go_wp2_with fail
    go_loopw [7, 8] (fun n i wr => ∃ (j : Nat) (vo : Value), i = .int .i64 j ∧ j ≤ ys.length ∧ n = .int .i64 ((mgs xs (ys.take j)).2 : Int) ∧ wr.heap[B]? = some (.cells #[.int .i64 e, vo] 26 (0, 0)) ∧ Own 3 .i64 W0.heap.size wr vo (mgs xs (ys.take j)).1 ∧ (∀ r, vo.ownBlock = some r → r ≠ B) ∧ Below W0.heap.size W0 wr) (fun _ i _ => ys.length - (intOf i).toNat)
    case atStart =>
      exact ⟨0, _, rfl, Nat.zero_le _, rfl, HE.out, HO.out, HNe.out, HB.out⟩
    case round =>
      obtain ⟨j, vo, rfl, hj, rfl, hE, hO, hne, hB⟩ := hrel
      clear HB c0 c1 d0 d1 HE HO HNe
      obtain ⟨a, c, hv, _⟩ := hO.open
      subst hv
      have HB := Lib.hid hB
      have hnj := (mgs_inv HXo.out.1 HYo.out.1 HXo.out.2 j hj).2.2.2.2
      have hll : (mgs xs (ys.take j)).1.length ≤ 40 := by have := (mgs_inv HXo.out.1 HYo.out.1 HXo.out.2 j hj).2.2.2.1; omega
      have HLl := Lib.hid hll
      obtain ⟨nl, hnl⟩ : ∃ x, x = (mgs xs (ys.take j)).1.length := ⟨_, rfl⟩
      rw [← hnl] at hE hO hne hll
      have HNl := Lib.hid hnl
      have HE := Lib.hid hE
      have HO := Lib.hid hO
      have HNe := Lib.hid hne
      obtain ⟨t, ht⟩ : ∃ t, t = (mgs xs (ys.take j)).2 := ⟨_, rfl⟩
      rw [← ht] at hnj ⊢
      have HTw := Lib.hid ht
      obtain ⟨c0, c1, _⟩ := scs (stands (l := 0) HA.out HB.out)
      obtain ⟨d0, d1, _⟩ := scs (stands (l := 0) HD.out HB.out)
      obtain ⟨x0, x1, _⟩ := scs HE.out
      clear hB hE hO hne ht hnl
      by_cases hlt : j < ys.length
      · have e2 : decide ((j : Int) < (ys.length : Int)) = true := by simp; omega
        have hji : (j : Int) < (ys.length : Int) := by omega
        obtain ⟨ay, cy, hv, _, _, hc⟩ := HRb.out.open
        injection hv with hv1 _ hv3
        subst hv1 hv3
        obtain ⟨b, o, hp, hb, hcell⟩ := hc (by omega)
        have y1 := hcell _ (HB.out.mono HLb.out) j hlt
        have hw := HRb.out.wf hlt
        have HHit := Lib.hid (fun h => mg_hit (zs := xs) hlt h)
        have HNew := Lib.hid (fun h k => mg_new (zs := xs) hlt h k)
        have HOld := Lib.hid (fun h k => mg_old (zs := xs) hlt h k)
        obtain ⟨y, hy⟩ : ∃ y, y = ys.getD j 0 := ⟨_, rfl⟩
        rw [← hy] at y1 hw HHit HNew HOld
        have HYw := Lib.hid hw
        have HYv := Lib.hid hy
        have HCell := Lib.hid hcell
        have HJ := Lib.hid hlt
        subst hp
        clear hc hcell hb hw hy
        cases hm : memS xs y with
        | true =>
          have HMem := Lib.hid hm
          have HEh := Lib.hid (HHit.out hm)
          clear hm
          go_wp2_with fail
          refine region_quiet_c (C := Below wr.heap.size wr) (by kernel_rfl) (by kernel_rfl) ((Below.refl _ _).drew) ?_
          repeat (first
            | go_big_quiet_skip
            | (apply quiet_on
               · kernel_rfl
               · intro wq hq
                 have hBq := HB.out.trans (hq.mono HB.out.size)
                 obtain ⟨c0, c1, _⟩ := scs (stands (l := 0) HA.out hBq)
                 obtain ⟨d0, d1, _⟩ := scs (stands (l := 0) HD.out hBq)
                 have y1 := HCell.out _ (hBq.mono HLb.out) j HJ.out
                 rw [← HYv.out] at y1
                 go_simp
                 first
                   | done
                   | (go_at_call 26
                      refine (spec_iss (HRa.out.behind (hBq.mono HLa.out)) (Nat.le_trans HLa.out hBq.size)).mono ?_
                      rintro e' w7 ⟨he, hb⟩
                      rw [HMem.out] at he
                      exact ⟨he, hq.trans (hb.mono hq.size)⟩)
                   | rfl
                   | exact ⟨rfl, hq⟩
               simp only [Act.put, List.setIfInBounds_toArray, List.set_cons_zero, List.set_cons_succ]))
          refine wpQuiet_nil ?_
          intro w7 hb
          have hE := (hb.block _ (lt_of_block HE.out)).trans HE.out
          have hO := HO.out.next hb
          replace HE := Lib.hid hE
          replace HO := Lib.hid hO
          replace HB := Lib.hid (HB.out.trans (hb.mono HB.out.size))
          clear hb hE hO
          clear c0 c1 d0 d1 x0 x1 y1
          obtain ⟨c0, c1, _⟩ := scs (stands (l := 0) HA.out HB.out)
          obtain ⟨d0, d1, _⟩ := scs (stands (l := 0) HD.out HB.out)
          obtain ⟨x0, x1, _⟩ := scs HE.out
          go_wp2_with fail
          go_roundw
          case rel => exact ⟨j + 1, _, by simp, HJ.out, by rw [HEh.out, ← HTw.out]; simp, HE.out, by rw [HEh.out]; exact HO.out, HNe.out, HB.out⟩
          case measure => simp [intOf]; omega
        | false =>
          have HMem := Lib.hid hm
          by_cases hs : nl < 40
          · have e3 : decide ((nl : Int) < 40) = true := by simp; omega
            have HEh := Lib.hid (HNew.out hm (by rw [← HNl.out]; exact hs))
            clear hs hm
            go_wp2_with fail
            refine region_quiet_c (C := Below wr.heap.size wr) (by kernel_rfl) (by kernel_rfl) ((Below.refl _ _).drew) ?_
            repeat (first
              | go_big_quiet_skip
              | (apply quiet_on
                 · kernel_rfl
                 · intro wq hq
                   have hBq := HB.out.trans (hq.mono HB.out.size)
                   obtain ⟨c0, c1, _⟩ := scs (stands (l := 0) HA.out hBq)
                   obtain ⟨d0, d1, _⟩ := scs (stands (l := 0) HD.out hBq)
                   have y1 := HCell.out _ (hBq.mono HLb.out) j HJ.out
                   rw [← HYv.out] at y1
                   go_simp
                   first
                     | done
                     | (go_at_call 26
                        refine (spec_iss (HRa.out.behind (hBq.mono HLa.out)) (Nat.le_trans HLa.out hBq.size)).mono ?_
                        rintro e' w7 ⟨he, hb⟩
                        rw [HMem.out] at he
                        exact ⟨he, hq.trans (hb.mono hq.size)⟩)
                     | rfl
                     | exact ⟨rfl, hq⟩
                 simp only [Act.put, List.setIfInBounds_toArray, List.set_cons_zero, List.set_cons_succ]))
            refine wpQuiet_nil ?_
            intro w7 hb
            have hE := (hb.block _ (lt_of_block HE.out)).trans HE.out
            have hO := HO.out.next hb
            replace HE := Lib.hid hE
            replace HO := Lib.hid hO
            replace HB := Lib.hid (HB.out.trans (hb.mono HB.out.size))
            clear hb hE hO
            clear c0 c1 d0 d1 x0 x1 y1
            obtain ⟨c0, c1, _⟩ := scs (stands (l := 0) HA.out HB.out)
            obtain ⟨d0, d1, _⟩ := scs (stands (l := 0) HD.out HB.out)
            obtain ⟨x0, x1, _⟩ := scs HE.out
            go_wp2_with fail
            refine region_till (fun x => x.cell? ⟨B, 0, none⟩ = some (.int .i64 e) ∧ x.cell? ⟨B, 1, none⟩ = some (.slice a nl c) ∧ x.cell? ⟨w.heap.size + 1, 1, none⟩ = some (.slice (some ⟨b, o, none⟩) ys.length cap2) ∧ x.cell? ⟨b, o + j, none⟩ = some (.int .i64 y)) 7 (by kernel_rfl) ?_
            obtain ⟨wd, hwd⟩ : ∃ x, x = w7.drew := ⟨_, rfl⟩
            have hb : Below w7.heap.size w7 wd := by rw [hwd]; exact (Below.refl _ _).drew
            rw [← hwd]
            have hE := (hb.block _ (lt_of_block HE.out)).trans HE.out
            have hO := HO.out.next hb
            replace HE := Lib.hid hE
            replace HO := Lib.hid hO
            replace HB := Lib.hid (HB.out.trans (hb.mono HB.out.size))
            clear hb hE hO
            clear c0 c1 d0 d1 x0 x1 hwd
            have y1 := HCell.out _ (HB.out.mono HLb.out) j HJ.out
            rw [← HYv.out] at y1
            have s0 : (wd.cell? ⟨B, 0, none⟩ = some (.int .i64 e) ∧ wd.cell? ⟨B, 1, none⟩ = some (.slice a nl c) ∧ wd.cell? ⟨w.heap.size + 1, 1, none⟩ = some (.slice (some ⟨b, o, none⟩) ys.length cap2) ∧ wd.cell? ⟨b, o + j, none⟩ = some (.int .i64 y)) := ⟨(scs HE.out).1, (scs HE.out).2.1, (scs (stands (l := 0) HD.out HB.out)).2.1, y1⟩
            clear y1
            apply Till.take (i := 0) [0, 6, 7]
            · simp only [List.getElem?_toArray, List.getElem?_cons_zero]
              rfl
            · kernel_rfl
            · kernel_rfl
            · kernel_rfl
            · kernel_rfl
            · exact fun _ _ _ h => h
            · first
                | exact Or.inr ⟨by rfl, rfl⟩
                | (refine Or.inl ⟨by rfl, fun wq hwq => ?_⟩
                   dsimp only at hwq
                   go_simp
                   first
                     | done
                     | rfl)
            · exact s0
            simp only [Act.put, List.setIfInBounds_toArray, List.set_cons_zero, List.set_cons_succ]
            apply Till.take (i := 1) [1, 2, 4, 5, 6, 7]
            · simp only [List.getElem?_toArray, List.getElem?_cons_succ, List.getElem?_cons_zero]
              rfl
            · kernel_rfl
            · kernel_rfl
            · kernel_rfl
            · kernel_rfl
            · exact fun _ _ _ h => h
            · first
                | exact Or.inr ⟨by rfl, rfl⟩
                | (refine Or.inl ⟨by rfl, fun wq hwq => ?_⟩
                   dsimp only at hwq
                   go_simp
                   first
                     | done
                     | rfl)
            · exact s0
            simp only [Act.put, List.setIfInBounds_toArray, List.set_cons_zero, List.set_cons_succ]
            apply Till.take (i := 2) [2, 4, 5, 6, 7]
            · simp only [List.getElem?_toArray, List.getElem?_cons_succ, List.getElem?_cons_zero]
              rfl
            · kernel_rfl
            · kernel_rfl
            · kernel_rfl
            · kernel_rfl
            · exact fun _ _ _ h => h
            · first
                | exact Or.inr ⟨by rfl, rfl⟩
                | (refine Or.inl ⟨by rfl, fun wq hwq => ?_⟩
                   dsimp only at hwq
                   go_simp
                   first
                     | done
                     | rfl)
            · exact s0
            simp only [Act.put, List.setIfInBounds_toArray, List.set_cons_zero, List.set_cons_succ]
            apply Till.take (i := 3) [3, 4, 5, 6, 7]
            · simp only [List.getElem?_toArray, List.getElem?_cons_succ, List.getElem?_cons_zero]
              rfl
            · kernel_rfl
            · kernel_rfl
            · kernel_rfl
            · kernel_rfl
            · exact fun _ _ _ h => h
            · first
                | exact Or.inr ⟨by rfl, rfl⟩
                | (refine Or.inl ⟨by rfl, fun wq hwq => ?_⟩
                   dsimp only at hwq
                   go_simp
                   first
                     | done
                     | rfl)
            · exact s0
            simp only [Act.put, List.setIfInBounds_toArray, List.set_cons_zero, List.set_cons_succ]
            apply Till.take (i := 4) [4, 5, 6, 7]
            · simp only [List.getElem?_toArray, List.getElem?_cons_succ, List.getElem?_cons_zero]
              rfl
            · kernel_rfl
            · kernel_rfl
            · kernel_rfl
            · kernel_rfl
            · exact fun _ _ _ h => h
            · first
                | exact Or.inr ⟨by rfl, rfl⟩
                | (refine Or.inl ⟨by rfl, fun wq hwq => ?_⟩
                   dsimp only at hwq
                   go_simp
                   first
                     | done
                     | rfl)
            · exact s0
            simp only [Act.put, List.setIfInBounds_toArray, List.set_cons_zero, List.set_cons_succ]
            apply Till.take (i := 5) [5, 6, 7]
            · simp only [List.getElem?_toArray, List.getElem?_cons_succ, List.getElem?_cons_zero]
              rfl
            · kernel_rfl
            · kernel_rfl
            · kernel_rfl
            · kernel_rfl
            · exact fun _ _ _ h => h
            · first
                | exact Or.inr ⟨by rfl, rfl⟩
                | (refine Or.inl ⟨by rfl, fun wq hwq => ?_⟩
                   dsimp only at hwq
                   go_simp
                   first
                     | done
                     | rfl)
            · exact s0
            simp only [Act.put, List.setIfInBounds_toArray, List.set_cons_zero, List.set_cons_succ]
            apply Till.one (i := 6)
            · kernel_rfl
            · simp only [List.getElem?_toArray, List.getElem?_cons_succ, List.getElem?_cons_zero]
              rfl
            intro K hK
            go_simp
            refine (spec_ins HO.out.rd (Nat.le_refl _) (by have := HLl.out; omega) HYw.out).mono ?_
            rintro e' w8 ⟨v8, he, hO8, hb⟩
            subst he
            obtain ⟨a8, c8, hv8, _⟩ := hO8.open
            subst hv8
            have HNe8 : Hid (∀ r, (Value.slice a8 (insS (mgs xs (ys.take j)).1 y).length c8).ownBlock = some r → r ≠ B) := Lib.hid (fun r hr => by have := (hO8.lt r hr).1; have := lt_of_block HE.out; omega)
            have HO8 := Lib.hid (hO8.mono HB.out.size)
            have hE := (hb.block _ (lt_of_block HE.out)).trans HE.out
            have hO := HO.out.next hb
            replace HE := Lib.hid hE
            replace HO := Lib.hid hO
            replace HB := Lib.hid (HB.out.trans (hb.mono HB.out.size))
            clear hb hE hO
            clear hO8
            have y1 := HCell.out _ (HB.out.mono HLb.out) j HJ.out
            rw [← HYv.out] at y1
            have s1 : (w8.cell? ⟨B, 0, none⟩ = some (.int .i64 e) ∧ w8.cell? ⟨B, 1, none⟩ = some (.slice a nl c) ∧ w8.cell? ⟨w.heap.size + 1, 1, none⟩ = some (.slice (some ⟨b, o, none⟩) ys.length cap2) ∧ w8.cell? ⟨b, o + j, none⟩ = some (.int .i64 y)) := ⟨(scs HE.out).1, (scs HE.out).2.1, (scs (stands (l := 0) HD.out HB.out)).2.1, y1⟩
            clear y1 s0
            obtain ⟨nl8, hnl8⟩ : ∃ x, x = (insS (mgs xs (ys.take j)).1 y).length := ⟨_, rfl⟩
            rw [← hnl8] at HO8 HNe8 ⊢
            have HNl8 := Lib.hid hnl8
            clear hnl8
            refine hK.out _ _ (Or.inr s1) ?_
            clear hK K
            try simp only [Act.put, List.setIfInBounds_toArray, List.set_cons_zero, List.set_cons_succ]
            obtain ⟨q0, q1, f0, f1⟩ := scs HE.out
            obtain ⟨k9, hB9, g9⟩ := res_put (x0 := .int .i64 e) (x1 := .slice a8 nl8 c8) HB.out HE.out HGe.out
            have HO9 := Lib.hid (HO8.out.kept g9 (Or.inr (fun hh => HNe8.out _ hh rfl)))
            have HB9 := Lib.hid hB9
            have HE9 := Lib.hid k9
            clear k9 hB9 g9 s1
            apply Till.one (i := 7)
            · kernel_rfl
            · simp only [List.getElem?_toArray, List.getElem?_cons_succ, List.getElem?_cons_zero]
              rfl
            intro K hK
            go_simp
            skip
            refine hK.out _ _ (Or.inl (by rfl)) ?_
            clear hK K
            try simp only [Act.put, List.setIfInBounds_toArray, List.set_cons_zero, List.set_cons_succ]
            refine Till.done (by kernel_rfl) ?_ _
            go_wp2_with fail
            go_roundw
            case rel => exact ⟨j + 1, _, by simp, HJ.out, by rw [HEh.out, ← HTw.out], HE9.out, by rw [HEh.out]; exact HO9.out, HNe8.out, HB9.out⟩
            case measure => simp [intOf]; omega
          · have e3 : decide ((nl : Int) < 40) = false := by simp; omega
            have HEh := Lib.hid (HOld.out hm (by rw [← HNl.out]; exact hs))
            clear hs hm
            go_wp2_with fail
            refine region_quiet_c (C := Below wr.heap.size wr) (by kernel_rfl) (by kernel_rfl) ((Below.refl _ _).drew) ?_
            repeat (first
              | go_big_quiet_skip
              | (apply quiet_on
                 · kernel_rfl
                 · intro wq hq
                   have hBq := HB.out.trans (hq.mono HB.out.size)
                   obtain ⟨c0, c1, _⟩ := scs (stands (l := 0) HA.out hBq)
                   obtain ⟨d0, d1, _⟩ := scs (stands (l := 0) HD.out hBq)
                   have y1 := HCell.out _ (hBq.mono HLb.out) j HJ.out
                   rw [← HYv.out] at y1
                   go_simp
                   first
                     | done
                     | (go_at_call 26
                        refine (spec_iss (HRa.out.behind (hBq.mono HLa.out)) (Nat.le_trans HLa.out hBq.size)).mono ?_
                        rintro e' w7 ⟨he, hb⟩
                        rw [HMem.out] at he
                        exact ⟨he, hq.trans (hb.mono hq.size)⟩)
                     | rfl
                     | exact ⟨rfl, hq⟩
                 simp only [Act.put, List.setIfInBounds_toArray, List.set_cons_zero, List.set_cons_succ]))
            refine wpQuiet_nil ?_
            intro w7 hb
            have hE := (hb.block _ (lt_of_block HE.out)).trans HE.out
            have hO := HO.out.next hb
            replace HE := Lib.hid hE
            replace HO := Lib.hid hO
            replace HB := Lib.hid (HB.out.trans (hb.mono HB.out.size))
            clear hb hE hO
            clear c0 c1 d0 d1 x0 x1 y1
            obtain ⟨c0, c1, _⟩ := scs (stands (l := 0) HA.out HB.out)
            obtain ⟨d0, d1, _⟩ := scs (stands (l := 0) HD.out HB.out)
            obtain ⟨x0, x1, _⟩ := scs HE.out
            go_wp2_with fail
            go_roundw
            case rel => exact ⟨j + 1, _, by simp, HJ.out, by rw [HEh.out, ← HTw.out], HE.out, by rw [HEh.out]; exact HO.out, HNe.out, HB.out⟩
            case measure => simp [intOf]; omega
      · have e2 : decide ((j : Int) < (ys.length : Int)) = false := by simp; omega
        have hje : ys.take j = ys := List.take_of_length_le (by omega)
        have HEQ : Hid (mgL e f xs ys = (mgs xs (ys.take j)).1 ∧ mgN e f xs ys = (t : Int)) := Lib.hid (by rw [HTw.out, hje]; exact mg_yes HOk.out)
        have hO := HO.out
        clear hje
        have hk := stands (l := 0) HC.out HB.out
        obtain ⟨q0, q1, f0, f1⟩ := scs hk
        obtain ⟨k9, hB9, g9⟩ := res_put (x0 := .int .i64 e) (x1 := .slice a nl c) (HB0.out.trans (HB.out.mono HB0.out.size)) hk (by omega)
        obtain ⟨r0, r1, _⟩ := scs k9
        have hO9 := hO.kept g9 (Or.inr (fun hh => by have := (hO.lt _ hh).1; have := HLt.out; omega))
        have HB9 := Lib.hid hB9
        have HO9 := Lib.hid (hO9.mono HB0.out.size)
        clear k9 g9 hk hB9 hO9 hO
        go_wp2_with fail
        rw [HEQ.out.1, HEQ.out.2]
        exact bodyPost_ret (v := .tuple #[.agg #[.int .i64 e, .slice a nl c], .int .i64 t]) (by simp [results, Try.results37, go_sem, r0, r1]) rfl ⟨_, rfl, HO9.out, HB9.out⟩


end Go.Proofs.Ytdlbpeippmibcaa


/-! Sp7 -/
namespace Go.Proofs.Ytdlbpeippmibcaa
open Go Go.RowKit Go.Maps
set_option linter.unusedVariables false
set_option maxRecDepth 20000
attribute [local irreducible] kh kid pwm tcm pw chl

theorem mem_snoc {ys : List Int} {t : Nat} (h : t < ys.length) (y : Int) : memS (ys.take (t + 1)) y = (memS (ys.take t) y || (ys.getD t 0 == y)) := by
  rw [Bool.eq_iff_iff, memS_iff, Bool.or_eq_true, memS_iff, beq_iff_eq, List.take_add_one, List.getElem?_eq_getElem h, List.mem_append, List.getD_eq_getElem?_getD, List.getElem?_eq_getElem h]
  simp [eq_comm]
theorem bud_succ (zs ys : List Int) (k : Nat) : budL zs ys (k + 1) = budL zs ys k + (if budAt zs ys k = true then 1 else 0) := rfl

set_option maxRecDepth 100000 in
set_option maxHeartbeats 8000000 in
/-- impl.BudgetLeft -/
theorem impl_bud {l1 l2 : Nat} {w : World} {u v : Value} {zs ys : List Int} {e : Int} (hu : Rd l1 .i64 w u zs) (hv : Rd l2 .i64 w v ys) (hl1 : l1 ≤ w.heap.size) (hl2 : l2 ≤ w.heap.size) :
    Calls Try.prog 23 #[.agg #[.int .i64 e, u], v] w fun x w' => x = .returned (.int .i64 ((budL zs ys ys.length : Nat) : Int)) ∧ Below w.heap.size w w' := by
  obtain ⟨p, cap, rfl, h1, h2, hc⟩ := hu.open
  obtain ⟨p2, cap2, rfl, k1, k2, kc⟩ := hv.open
  have hk := heap_alloc_new w (.cells #[.int .i64 e, .slice p zs.length cap] 26)
  have hb := (Below.refl w.heap.size w).alloc (Nat.le_refl _) (.cells #[.int .i64 e, .slice p zs.length cap] 26)
  obtain ⟨W0, hW0⟩ : ∃ W, W = w.alloc (.cells #[.int .i64 e, .slice p zs.length cap] 26) := ⟨_, rfl⟩
  rw [← hW0] at hk hb
  have HW0 := Lib.hid hW0
  have HA := Lib.hid hk
  have HB0 := Lib.hid hb
  have HB := Lib.hid (Below.refl W0.heap.size W0)
  have HRa := Lib.hid (hu.behind (hb.mono hl1))
  have HRb := Lib.hid (hv.behind (hb.mono hl2))
  have HLa := Lib.hid (show l1 ≤ W0.heap.size from Nat.le_trans hl1 hb.size)
  have HLb := Lib.hid (show l2 ≤ W0.heap.size from Nat.le_trans hl2 hb.size)
  obtain ⟨c0, c1, _⟩ := scs hk
  rw [hW0] at c0 c1
  have hla : zs.length ≤ 9223372036854775807 := by unfold maxLen at h2; omega
  have hlb : ys.length ≤ 9223372036854775807 := by unfold maxLen at k2; omega
  clear hu hv hc kc hk hb hW0 h1 h2 k1 k2
  obtain ⟨m, hm⟩ : ∃ m, m = budL zs ys ys.length := ⟨_, rfl⟩
  have hmb : m ≤ ys.length := by rw [hm]; exact budL_le _ _ _
  have HSz : Hid (Maps.size (delL (mset ys ys.length) zs) = m) := Lib.hid (by rw [hm]; exact size_bud zs ys _ (Nat.le_refl _))
  rw [← hm]
  clear hm
  go_enter Try.func23, Try.ntmps23
  go_wp2_with fail
  rw [← HW0.out]
  refine (impl_dn HRb.out HLb.out).mono ?_
  rintro e' w3 ⟨bm, rfl, hbm, hO, hb⟩
  have HBm := Lib.hid hbm
  have HMap := Lib.hid hO
  replace HB := Lib.hid hb
  clear c0 c1 hbm hO hb
  obtain ⟨c0, c1, _⟩ := scs (stands (l := 0) HA.out HB.out)
  go_wp2_with fail
  go_loopw [13] (fun i wr => ∃ j : Nat, i = .int .i64 j ∧ j ≤ zs.length ∧ wr.ownsMap Try.prog 3 (plainElem (H := Unit) Try.prog 4) bm ys.length (delL (mset ys ys.length) (zs.take j)) ∧ Below W0.heap.size W0 wr) (fun i _ => zs.length - (intOf i).toNat)
  case atStart => exact ⟨0, rfl, Nat.zero_le _, HMap.out, HB.out⟩
  case round =>
    obtain ⟨j, rfl, hj, hO, hB⟩ := hrel
    clear HB HMap c0 c1
    have HO := Lib.hid hO
    have HB := Lib.hid hB
    clear hO hB
    by_cases hlt : j < zs.length
    · have e1 : decide ((j : Int) < (zs.length : Int)) = true := by simp; omega
      obtain ⟨a, cp, hv, _, _, hc⟩ := HRa.out.open
      injection hv with hv1 _ hv3
      subst hv1 hv3
      obtain ⟨b, o, hp, hb, hcell⟩ := hc (by omega)
      have y1 := hcell _ (HB.out.mono HLa.out) j hlt
      have hw := HRa.out.wf hlt
      have HD := Lib.hid (delL_take (D := mset ys ys.length) hlt)
      obtain ⟨z, hz⟩ : ∃ z, z = zs.getD j 0 := ⟨_, rfl⟩
      rw [← hz] at y1 hw HD
      have HZw := Lib.hid hw
      subst hp
      clear hc hcell hb hw hz
      go_wp2_with (first
        | (at_delete; refine wpList_delete_own _ rfl _ _ 66 3 rfl 4 lawInt Try.underlying66 (plainElem (H := Unit) Try.prog 4) bm ys.length _ rfl HO.out _ _ rfl (keyOf_int_mk Try.underlying3 HZw.out) ?_; intro w4 hown hturn))
      rw [← HD.out] at hown
      have HO4 := Lib.hid hown
      have HB4 := Lib.hid (HB.out.grown hturn.grown HB.out.size (fun k hk => by injection hk with hk; have := HBm.out; omega))
      clear hown hturn
      go_wp2_with fail
      go_roundw
      case rel => exact ⟨j + 1, by simp, hlt, HO4.out, HB4.out⟩
      case measure => simp [intOf]; omega
    · have e1 : decide ((j : Int) < (zs.length : Int)) = false := by simp; omega
      have HTk : Hid (zs.take j = zs) := Lib.hid (List.take_of_length_le (by omega))
      have HO' := HO.out
      rw [HTk.out] at HO'
      replace HO := Lib.hid HO'
      clear HO'
      go_wp2_with (first
        | (at_len; refine wpList_len_own _ rfl _ 66 rfl 3 4 Try.underlying66 _ bm ys.length _ rfl HO.out ?_; rw [HSz.out]))
      go_ret
      exact ⟨rfl, HB0.out.trans (HB.out.mono HB0.out.size)⟩

set_option maxRecDepth 100000 in
set_option maxHeartbeats 8000000 in
/-- spec.BudgetLeft -/
theorem spec_bud {l1 l2 : Nat} {w : World} {u v : Value} {zs ys : List Int} {e : Int} (hu : Rd l1 .i64 w u zs) (hv : Rd l2 .i64 w v ys) (hl1 : l1 ≤ w.heap.size) (hl2 : l2 ≤ w.heap.size) :
    Calls Try.prog 38 #[.agg #[.int .i64 e, u], v] w fun x w' => x = .returned (.int .i64 ((budL zs ys ys.length : Nat) : Int)) ∧ Below w.heap.size w w' := by
  obtain ⟨p, cap, rfl, h1, h2, hc⟩ := hu.open
  obtain ⟨p2, cap2, rfl, k1, k2, kc⟩ := hv.open
  have hk := heap_alloc_new w (.cells #[.int .i64 e, .slice p zs.length cap] 26)
  have hb := (Below.refl w.heap.size w).alloc (Nat.le_refl _) (.cells #[.int .i64 e, .slice p zs.length cap] 26)
  obtain ⟨W0, hW0⟩ : ∃ W, W = w.alloc (.cells #[.int .i64 e, .slice p zs.length cap] 26) := ⟨_, rfl⟩
  rw [← hW0] at hk hb
  have HW0 := Lib.hid hW0
  have HA := Lib.hid hk
  have HB0 := Lib.hid hb
  have HB := Lib.hid (Below.refl W0.heap.size W0)
  have HRa := Lib.hid (hu.behind (hb.mono hl1))
  have HRb := Lib.hid (hv.behind (hb.mono hl2))
  have HLa := Lib.hid (show l1 ≤ W0.heap.size from Nat.le_trans hl1 hb.size)
  have HLb := Lib.hid (show l2 ≤ W0.heap.size from Nat.le_trans hl2 hb.size)
  obtain ⟨c0, c1, _⟩ := scs hk
  rw [hW0] at c0 c1
  have hla : zs.length ≤ 9223372036854775807 := by unfold maxLen at h2; omega
  have hlb : ys.length ≤ 9223372036854775807 := by unfold maxLen at k2; omega
  clear hu hv hc kc hk hb hW0 h1 h2 k1 k2
  go_enter Try.func38, Try.ntmps38
  go_wp2_with fail
  rw [← HW0.out]
  go_loopw [5, 6] (fun n i wr => ∃ j : Nat, i = .int .i64 j ∧ j ≤ ys.length ∧ n = .int .i64 ((budL zs ys j : Nat) : Int) ∧ Below W0.heap.size W0 wr) (fun _ i _ => ys.length - (intOf i).toNat)
  case atStart => exact ⟨0, rfl, Nat.zero_le _, rfl, HB.out⟩
  case round =>
    obtain ⟨j, rfl, hj, rfl, hB⟩ := hrel
    clear HB c0 c1
    have HB := Lib.hid hB
    obtain ⟨n, hn⟩ : ∃ n, n = budL zs ys j := ⟨_, rfl⟩
    have hnj : n ≤ j := by rw [hn]; exact budL_le _ _ _
    rw [← hn]
    have HNn := Lib.hid hn
    clear hB hn
    by_cases hlt : j < ys.length
    case neg =>
      have e1 : decide ((j : Int) < (ys.length : Int)) = false := by simp; omega
      have HE : Hid (budL zs ys ys.length = n) := Lib.hid (by rw [HNn.out, show j = ys.length by omega])
      go_wp2_with fail
      go_ret
      exact ⟨by rw [HE.out]; rfl, HB0.out.trans (HB.out.mono HB0.out.size)⟩
    have e1 : decide ((j : Int) < (ys.length : Int)) = true := by simp; omega
    have hji : (j : Int) < (ys.length : Int) := by omega
    obtain ⟨a, cp, hv, _, _, hc⟩ := HRb.out.open
    injection hv with hv1 _ hv3
    subst hv1 hv3
    obtain ⟨b, o, hp, hb, hcell⟩ := hc (by omega)
    have HCell := Lib.hid hcell
    have HJ := Lib.hid hlt
    obtain ⟨y, hy⟩ : ∃ y, y = ys.getD j 0 := ⟨_, rfl⟩
    have HYv := Lib.hid hy
    subst hp
    obtain ⟨wo, hwo⟩ : ∃ x, x = wr := ⟨_, rfl⟩
    subst hwo
    clear hc hcell hb hy
    go_wp2_with fail
    go_loopw [7, 8] (fun g k wr => ∃ t : Nat, k = .int .i64 t ∧ t ≤ j ∧ g = .bool (memS (ys.take t) y) ∧ Below W0.heap.size W0 wr) (fun _ k _ => j - (intOf k).toNat)
    case atStart => exact ⟨0, rfl, Nat.zero_le _, rfl, HB.out⟩
    case round =>
      obtain ⟨t, rfl, ht, rfl, hB⟩ := hrel
      clear HB
      have HB := Lib.hid hB
      clear hB
      by_cases htj : t < j
      · have e2 : decide ((t : Int) < (j : Int)) = true := by simp; omega
        have hti : (t : Int) < (ys.length : Int) := by omega
        have y1 := HCell.out _ (HB.out.mono HLb.out) j hlt
        have y2 := HCell.out _ (HB.out.mono HLb.out) t (by omega)
        rw [← HYv.out] at y1
        have HSn := Lib.hid (mem_snoc (ys := ys) (t := t) (by omega) y)
        obtain ⟨x, hx⟩ : ∃ x, x = ys.getD t 0 := ⟨_, rfl⟩
        rw [← hx] at y2 HSn
        obtain ⟨g, hg⟩ : ∃ g, g = memS (ys.take t) y := ⟨_, rfl⟩
        rw [← hg] at HSn ⊢
        obtain ⟨q, hq⟩ : ∃ q, (x == y) = q := ⟨_, rfl⟩
        clear hx hg
        cases g with
        | true =>
          have HE : Hid (memS (ys.take (t + 1)) y = true) := Lib.hid (by rw [HSn.out]; rfl)
          clear hq
          go_wp2_with fail
          go_quiet (fail)
          go_wp2_with fail
          go_roundw
          case rel => exact ⟨t + 1, by simp, htj, by rw [HE.out], HB.out.trans (below_drewN ⟨_, rfl⟩)⟩
          case measure => simp [intOf]; omega
        | false =>
          have HE : Hid (memS (ys.take (t + 1)) y = q) := Lib.hid (by rw [HSn.out, hq]; rfl)
          go_wp2_with fail
          go_quiet (fail)
          go_wp2_with fail
          go_roundw
          case rel => exact ⟨t + 1, by simp, htj, by rw [HE.out], HB.out.trans (below_drewN ⟨_, rfl⟩)⟩
          case measure => simp [intOf]; omega
      · have e2 : decide ((t : Int) < (j : Int)) = false := by simp; omega
        obtain rfl : j = t := by omega
        obtain ⟨g, hg⟩ : ∃ g, g = memS (ys.take j) y := ⟨_, rfl⟩
        obtain ⟨m, hm⟩ : ∃ m, m = memS zs y := ⟨_, rfl⟩
        have HBu : Hid (budL zs ys (j + 1) = n + (if (!g && !m) = true then 1 else 0)) := Lib.hid (by rw [bud_succ, ← HNn.out, hg, hm, HYv.out]; rfl)
        have HMem : Hid (memS zs y = m) := Lib.hid hm.symm
        rw [← hg]
        clear hg hm
        cases g with
        | true =>
          have HE : Hid (budL zs ys (j + 1) = n) := Lib.hid (by rw [HBu.out]; rfl)
          go_wp2_with fail
          refine region_quiet_c (C := Below wr.heap.size wr) (by kernel_rfl) (by kernel_rfl) ((Below.refl _ _).drew) ?_
          repeat (first
            | go_big_quiet_skip
            | (apply quiet_on
               · kernel_rfl
               · intro wq hq
                 have hBq := HB.out.trans (hq.mono HB.out.size)
                 obtain ⟨c0, c1, _⟩ := scs (stands (l := 0) HA.out hBq)
                 have y1 := HCell.out _ (hBq.mono HLb.out) j HJ.out
                 rw [← HYv.out] at y1
                 go_simp
                 first
                   | done
                   | rfl
                   | exact ⟨rfl, hq⟩
               simp only [Act.put, List.setIfInBounds_toArray, List.set_cons_zero, List.set_cons_succ]))
          refine wpQuiet_nil ?_
          intro w7 hb
          replace HB := Lib.hid (HB.out.trans (hb.mono HB.out.size))
          clear hb
          go_wp2_with fail
          go_roundw
          case rel => exact ⟨j + 1, by simp, HJ.out, by rw [HE.out], HB.out⟩
          case measure => simp [intOf]; omega
        | false =>
        cases m with
        | true =>
          have HE : Hid (budL zs ys (j + 1) = n) := Lib.hid (by rw [HBu.out]; rfl)
          go_wp2_with fail
          refine region_quiet_c (C := Below wr.heap.size wr) (by kernel_rfl) (by kernel_rfl) ((Below.refl _ _).drew) ?_
          repeat (first
            | go_big_quiet_skip
            | (apply quiet_on
               · kernel_rfl
               · intro wq hq
                 have hBq := HB.out.trans (hq.mono HB.out.size)
                 obtain ⟨c0, c1, _⟩ := scs (stands (l := 0) HA.out hBq)
                 have y1 := HCell.out _ (hBq.mono HLb.out) j HJ.out
                 rw [← HYv.out] at y1
                 go_simp
                 first
                   | done
                   | (go_at_call 26
                      refine (spec_iss (HRa.out.behind (hBq.mono HLa.out)) (Nat.le_trans HLa.out hBq.size)).mono ?_
                      rintro e' w7 ⟨he, hb⟩
                      rw [HMem.out] at he
                      exact ⟨he, hq.trans (hb.mono hq.size)⟩)
                   | rfl
                   | exact ⟨rfl, hq⟩
               simp only [Act.put, List.setIfInBounds_toArray, List.set_cons_zero, List.set_cons_succ]))
          refine wpQuiet_nil ?_
          intro w7 hb
          replace HB := Lib.hid (HB.out.trans (hb.mono HB.out.size))
          clear hb
          go_wp2_with fail
          go_roundw
          case rel => exact ⟨j + 1, by simp, HJ.out, by rw [HE.out], HB.out⟩
          case measure => simp [intOf]; omega
        | false =>
          have HE : Hid (budL zs ys (j + 1) = n + 1) := Lib.hid (by rw [HBu.out]; rfl)
          go_wp2_with fail
          refine region_quiet_c (C := Below wr.heap.size wr) (by kernel_rfl) (by kernel_rfl) ((Below.refl _ _).drew) ?_
          repeat (first
            | go_big_quiet_skip
            | (apply quiet_on
               · kernel_rfl
               · intro wq hq
                 have hBq := HB.out.trans (hq.mono HB.out.size)
                 obtain ⟨c0, c1, _⟩ := scs (stands (l := 0) HA.out hBq)
                 have y1 := HCell.out _ (hBq.mono HLb.out) j HJ.out
                 rw [← HYv.out] at y1
                 go_simp
                 first
                   | done
                   | (go_at_call 26
                      refine (spec_iss (HRa.out.behind (hBq.mono HLa.out)) (Nat.le_trans HLa.out hBq.size)).mono ?_
                      rintro e' w7 ⟨he, hb⟩
                      rw [HMem.out] at he
                      exact ⟨he, hq.trans (hb.mono hq.size)⟩)
                   | rfl
                   | exact ⟨rfl, hq⟩
               simp only [Act.put, List.setIfInBounds_toArray, List.set_cons_zero, List.set_cons_succ]))
          refine wpQuiet_nil ?_
          intro w7 hb
          replace HB := Lib.hid (HB.out.trans (hb.mono HB.out.size))
          clear hb
          go_wp2_with fail
          go_roundw
          case rel => exact ⟨j + 1, by simp, HJ.out, by rw [HE.out]; simp, HB.out⟩
          case measure => simp [intOf]; omega

end Go.Proofs.Ytdlbpeippmibcaa
