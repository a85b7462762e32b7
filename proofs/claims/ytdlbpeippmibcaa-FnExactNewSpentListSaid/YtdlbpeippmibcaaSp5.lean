/- Spent lists: SpendToken of the program and of the document. No conditions but numbers and lengths that a machine holds. -/
import Derived.Test.YtdlbpeippmibcaaSp4
import Derived.Test.YtdlbpeippmibcaaTk2
namespace Go.Proofs.Ytdlbpeippmibcaa
open Go Go.RowKit Go.Maps
set_option linter.unusedVariables false
set_option maxRecDepth 20000
attribute [local irreducible] kh kid pwm tcm pw chl

theorem zeroB (w : World) : (zeroValue 4).run Try.prog w = .ok (.bool false) w := by kernel_rfl
/-- A struct behind a call: the result's block, both cells written. -/
theorem res_put {w w1 : World} {b : Nat} {t : TypeId} {y0 y1 x0 x1 : Value} {B : Nat} (hB : Below B w w1) (hk : w1.heap[b]? = some (.cells #[y0, y1] t (0, 0))) (hb : B ≤ b) :
    ((w1.setCell ⟨b, 0, none⟩ x0).setCell ⟨b, 1, none⟩ x1).heap[b]? = some (.cells #[x0, x1] t (0, 0)) ∧ Below B w ((w1.setCell ⟨b, 0, none⟩ x0).setCell ⟨b, 1, none⟩ x1) ∧ w1.grownBy ((w1.setCell ⟨b, 0, none⟩ x0).setCell ⟨b, 1, none⟩ x1) (some b) := by
  obtain ⟨h1, h2⟩ := sst hk x0 x1
  exact ⟨h1, hB.grown h2 (by have := lt_of_block hk; omega) (fun k hk => by injection hk with hk; omega), h2⟩

set_option maxRecDepth 100000 in
set_option maxHeartbeats 16000000 in
/-- impl.SpendToken -/
theorem impl_spt {lim : Nat} {w : World} {v : Value} {zs : List Int} {e s n u : Int} (h : Rd lim .i64 w v zs) (hlim : lim ≤ w.heap.size) (hn : zs.length ≤ 17592186044414) (he : (Lit.int .i64 e).wf = true) (hs : (Lit.int .i64 s).wf = true) (hnw : (Lit.int .i64 n).wf = true) (huw : (Lit.int .i64 u).wf = true) :
    Calls Try.prog 15 #[.agg #[.int .i64 e, v], .int .i64 s, .agg #[.int .i64 n, .int .i64 u]] w fun x w' => ∃ v', x = .returned (.tuple #[.agg #[.int .i64 e, v'], .int .i64 (spR e zs s n u)]) ∧ Own 3 .i64 w.heap.size w' v' (spL e zs s n u) ∧ Below w.heap.size w w' := by
  obtain ⟨p, cap, rfl, h1, h2, hc⟩ := h.open
  have K := blocks3T w (.cells #[.int .i64 e, .slice p zs.length cap] 26) (.cells #[.int .i64 n, .int .i64 u] 28) (.cells #[.int .i64 0, .slice none 0 0] 26)
  have hb := (((Below.refl w.heap.size w).alloc (Nat.le_refl _) (.cells #[.int .i64 e, .slice p zs.length cap] 26)).alloc (by simp) (.cells #[.int .i64 n, .int .i64 u] 28)).alloc (by simp; omega) (.cells #[.int .i64 0, .slice none 0 0] 26)
  obtain ⟨W0, hW0⟩ : ∃ W, W = ((w.alloc (.cells #[.int .i64 e, .slice p zs.length cap] 26)).alloc (.cells #[.int .i64 n, .int .i64 u] 28)).alloc (.cells #[.int .i64 0, .slice none 0 0] 26) := ⟨_, rfl⟩
  rw [← hW0] at K hb
  have HW0 := Lib.hid hW0
  have HA := Lib.hid K.1
  have HT := Lib.hid K.2.1
  have HC := Lib.hid K.2.2
  have HB0 := Lib.hid hb
  have HB := Lib.hid (Below.refl W0.heap.size W0)
  have HRd := Lib.hid (h.behind (hb.mono hlim))
  have HLm := Lib.hid (show lim ≤ W0.heap.size from Nat.le_trans hlim hb.size)
  have HLt := Lib.hid (lt_of_block K.2.2)
  have HN := Lib.hid hn
  have HEw := Lib.hid he
  have HSw := Lib.hid hs
  have HNw := Lib.hid hnw
  have HUw := Lib.hid huw
  obtain ⟨c0, c1, _⟩ := scs K.1
  obtain ⟨t0, t1, _⟩ := scs K.2.1
  rw [hW0] at c0 c1 t0 t1
  have hlen : zs.length ≤ 9223372036854775807 := by unfold maxLen at h2; omega
  obtain ⟨q, hq⟩ : ∃ q, q = slv e zs := ⟨_, rfl⟩
  obtain ⟨t, ht⟩ : ∃ t, t = vtok s n u := ⟨_, rfl⟩
  have HQ := Lib.hid hq
  have HTk := Lib.hid ht
  clear h hc K hb hW0 hn he hs hnw huw hq ht h1 h2
  cases q with
  | false =>
    have HEQ := Lib.hid (sp_bad (e := e) (zs := zs) (s := s) (n := n) (v := u) (by rw [← HQ.out]; rfl))
    go_enter Try.func15, Try.ntmps15
    go_wp2_with fail
    rw [← HW0.out]
    refine (impl_vsl HRd.out HLm.out HEw.out).mono ?_
    rw [← HQ.out]
    rintro e' w1 ⟨rfl, hb⟩
    replace HB := Lib.hid (HB.out.trans (hb.mono HB.out.size))
    clear hb
    clear c0 c1 t0 t1
    obtain ⟨c0, c1, _⟩ := scs (stands (l := 0) HA.out HB.out)
    obtain ⟨t0, t1, _⟩ := scs (stands (l := 0) HT.out HB.out)
    go_wp2_with fail
    refine (impl_cpy (HRd.out.behind (HB.out.mono HLm.out)) (Nat.le_trans HLm.out HB.out.size) (by have := HN.out; omega)).mono ?_
    rintro e' w9 ⟨v9, rfl, hO, hb⟩
    replace hO := hO.mono HB.out.size
    replace HB := Lib.hid (HB.out.trans (hb.mono HB.out.size))
    clear hb
    obtain ⟨a, c, hv, _⟩ := hO.open
    subst hv
    obtain ⟨nl, hnl⟩ : ∃ x, x = (zs : List Int).length := ⟨_, rfl⟩
    rw [← hnl] at hO ⊢
    have hk := stands (l := 0) HC.out HB.out
    obtain ⟨q0, q1, f0, f1⟩ := scs hk
    obtain ⟨k9, hB9, g9⟩ := res_put (x0 := .int .i64 e) (x1 := .slice a nl c) (HB0.out.trans (HB.out.mono HB0.out.size)) hk (by omega)
    obtain ⟨r0, r1, _⟩ := scs k9
    have hO9 := hO.kept g9 (Or.inr (fun hh => by have := (hO.lt _ hh).1; have := HLt.out; omega))
    have HB9 := Lib.hid hB9
    have HO9 := Lib.hid (hO9.mono HB0.out.size)
    clear k9 g9 hk hB9 hO9 hO hnl
    go_wp2_with fail
    rw [HEQ.out.1, HEQ.out.2]
    exact bodyPost_ret (v := .tuple #[.agg #[.int .i64 e, .slice a nl c], .int .i64 1]) (by simp [results, Try.results15, go_sem, r0, r1]) rfl ⟨_, rfl, HO9.out, HB9.out⟩
  | true =>
  cases t with
  | false =>
    have HEQ := Lib.hid (sp_bad (e := e) (zs := zs) (s := s) (n := n) (v := u) (by rw [← HTk.out]; simp))
    go_enter Try.func15, Try.ntmps15
    go_wp2_with fail
    rw [← HW0.out]
    refine (impl_vsl HRd.out HLm.out HEw.out).mono ?_
    rw [← HQ.out]
    rintro e' w1 ⟨rfl, hb⟩
    replace HB := Lib.hid (HB.out.trans (hb.mono HB.out.size))
    clear hb
    clear c0 c1 t0 t1
    obtain ⟨c0, c1, _⟩ := scs (stands (l := 0) HA.out HB.out)
    obtain ⟨t0, t1, _⟩ := scs (stands (l := 0) HT.out HB.out)
    go_wp2_with fail
    refine (impl_vt HSw.out HNw.out HUw.out).mono ?_
    rw [← HTk.out]
    rintro e' w2 ⟨rfl, hb⟩
    replace HB := Lib.hid (HB.out.trans (hb.mono HB.out.size))
    clear hb
    clear c0 c1 t0 t1
    obtain ⟨c0, c1, _⟩ := scs (stands (l := 0) HA.out HB.out)
    obtain ⟨t0, t1, _⟩ := scs (stands (l := 0) HT.out HB.out)
    go_wp2_with fail
    refine (impl_cpy (HRd.out.behind (HB.out.mono HLm.out)) (Nat.le_trans HLm.out HB.out.size) (by have := HN.out; omega)).mono ?_
    rintro e' w9 ⟨v9, rfl, hO, hb⟩
    replace hO := hO.mono HB.out.size
    replace HB := Lib.hid (HB.out.trans (hb.mono HB.out.size))
    clear hb
    obtain ⟨a, c, hv, _⟩ := hO.open
    subst hv
    obtain ⟨nl, hnl⟩ : ∃ x, x = (zs : List Int).length := ⟨_, rfl⟩
    rw [← hnl] at hO ⊢
    have hk := stands (l := 0) HC.out HB.out
    obtain ⟨q0, q1, f0, f1⟩ := scs hk
    obtain ⟨k9, hB9, g9⟩ := res_put (x0 := .int .i64 e) (x1 := .slice a nl c) (HB0.out.trans (HB.out.mono HB0.out.size)) hk (by omega)
    obtain ⟨r0, r1, _⟩ := scs k9
    have hO9 := hO.kept g9 (Or.inr (fun hh => by have := (hO.lt _ hh).1; have := HLt.out; omega))
    have HB9 := Lib.hid hB9
    have HO9 := Lib.hid (hO9.mono HB0.out.size)
    clear k9 g9 hk hB9 hO9 hO hnl
    go_wp2_with fail
    rw [HEQ.out.1, HEQ.out.2]
    exact bodyPost_ret (v := .tuple #[.agg #[.int .i64 e, .slice a nl c], .int .i64 1]) (by simp [results, Try.results15, go_sem, r0, r1]) rfl ⟨_, rfl, HO9.out, HB9.out⟩
  | true =>
  have HOk : Hid ((slv e zs && vtok s n u) = true) := Lib.hid (by rw [← HQ.out, ← HTk.out]; rfl)
  have HZok : Hid (okSl zs = true) := Lib.hid (by have := HQ.out.symm; unfold slv at this; simp only [Bool.and_eq_true] at this; exact this.1)
  have h40 : zs.length ≤ 40 := by have := HQ.out.symm; unfold slv at this; simp only [Bool.and_eq_true, decide_eq_true_eq] at this; exact this.2.2
  obtain ⟨b, hb⟩ : ∃ b, b = memS zs n := ⟨_, rfl⟩
  have HMem := Lib.hid hb
  clear hb
  have HHas : Hid (Maps.has (mset zs zs.length) (.int .i64 n) = b) := Lib.hid (by rw [(MapIs.start HZok.out).2.1, HMem.out])
  have HSz : Hid (Maps.size (mset zs zs.length) = zs.length) := Lib.hid (MapIs.start HZok.out).2.2
  cases b with
  | true =>
    have HEQ := Lib.hid (sp_twice HOk.out HMem.out.symm)
    go_enter Try.func15, Try.ntmps15
    go_wp2_with fail
    rw [← HW0.out]
    refine (impl_vsl HRd.out HLm.out HEw.out).mono ?_
    rw [← HQ.out]
    rintro e' w1 ⟨rfl, hb⟩
    replace HB := Lib.hid (HB.out.trans (hb.mono HB.out.size))
    clear hb
    clear c0 c1 t0 t1
    obtain ⟨c0, c1, _⟩ := scs (stands (l := 0) HA.out HB.out)
    obtain ⟨t0, t1, _⟩ := scs (stands (l := 0) HT.out HB.out)
    go_wp2_with fail
    refine (impl_vt HSw.out HNw.out HUw.out).mono ?_
    rw [← HTk.out]
    rintro e' w2 ⟨rfl, hb⟩
    replace HB := Lib.hid (HB.out.trans (hb.mono HB.out.size))
    clear hb
    clear c0 c1 t0 t1
    obtain ⟨c0, c1, _⟩ := scs (stands (l := 0) HA.out HB.out)
    obtain ⟨t0, t1, _⟩ := scs (stands (l := 0) HT.out HB.out)
    go_wp2_with fail
    refine (impl_dn (HRd.out.behind (HB.out.mono HLm.out)) (Nat.le_trans HLm.out HB.out.size)).mono ?_
    rintro e' w3 ⟨bm, rfl, hbm, hO, hb⟩
    have HBm := Lib.hid (Nat.le_trans HB.out.size hbm)
    have HMap := Lib.hid hO
    replace HB := Lib.hid (HB.out.trans (hb.mono HB.out.size))
    clear hb
    clear c0 c1 t0 t1 hbm hO
    obtain ⟨c0, c1, _⟩ := scs (stands (l := 0) HA.out HB.out)
    obtain ⟨t0, t1, _⟩ := scs (stands (l := 0) HT.out HB.out)
    go_wp2_with (first
      | (at_lookup; refine wpList_lookup_own_bool _ rfl _ _ 66 rfl 3 4 lawInt Try.underlying66 Try.underlying4 (zeroB _) bm zs.length _ (AllT.mset zs zs.length (Nat.le_refl _)) rfl HMap.out _ _ rfl (keyOf_int_mk Try.underlying3 HNw.out) ?_; rw [HHas.out])
    )
    refine (impl_cpy (HRd.out.behind (HB.out.mono HLm.out)) (Nat.le_trans HLm.out HB.out.size) (by have := HN.out; omega)).mono ?_
    rintro e' w9 ⟨v9, rfl, hO, hb⟩
    replace hO := hO.mono HB.out.size
    replace HB := Lib.hid (HB.out.trans (hb.mono HB.out.size))
    clear hb
    obtain ⟨a, c, hv, _⟩ := hO.open
    subst hv
    obtain ⟨nl, hnl⟩ : ∃ x, x = (zs : List Int).length := ⟨_, rfl⟩
    rw [← hnl] at hO ⊢
    have hk := stands (l := 0) HC.out HB.out
    obtain ⟨q0, q1, f0, f1⟩ := scs hk
    obtain ⟨k9, hB9, g9⟩ := res_put (x0 := .int .i64 e) (x1 := .slice a nl c) (HB0.out.trans (HB.out.mono HB0.out.size)) hk (by omega)
    obtain ⟨r0, r1, _⟩ := scs k9
    have hO9 := hO.kept g9 (Or.inr (fun hh => by have := (hO.lt _ hh).1; have := HLt.out; omega))
    have HB9 := Lib.hid hB9
    have HO9 := Lib.hid (hO9.mono HB0.out.size)
    clear k9 g9 hk hB9 hO9 hO hnl
    go_wp2_with fail
    rw [HEQ.out.1, HEQ.out.2]
    exact bodyPost_ret (v := .tuple #[.agg #[.int .i64 e, .slice a nl c], .int .i64 2]) (by simp [results, Try.results15, go_sem, r0, r1]) rfl ⟨_, rfl, HO9.out, HB9.out⟩
  | false =>
  by_cases hf : zs.length = 40
  case pos =>
    have HEQ := Lib.hid (sp_full HOk.out HMem.out.symm (show 40 ≤ zs.length by omega))
    have e1 : ((zs.length : Int) == 40) = true := beq_iff_eq.2 (by omega)
    have HF := Lib.hid hf
    clear hf h40
    go_enter Try.func15, Try.ntmps15
    go_wp2_with fail
    rw [← HW0.out]
    refine (impl_vsl HRd.out HLm.out HEw.out).mono ?_
    rw [← HQ.out]
    rintro e' w1 ⟨rfl, hb⟩
    replace HB := Lib.hid (HB.out.trans (hb.mono HB.out.size))
    clear hb
    clear c0 c1 t0 t1
    obtain ⟨c0, c1, _⟩ := scs (stands (l := 0) HA.out HB.out)
    obtain ⟨t0, t1, _⟩ := scs (stands (l := 0) HT.out HB.out)
    go_wp2_with fail
    refine (impl_vt HSw.out HNw.out HUw.out).mono ?_
    rw [← HTk.out]
    rintro e' w2 ⟨rfl, hb⟩
    replace HB := Lib.hid (HB.out.trans (hb.mono HB.out.size))
    clear hb
    clear c0 c1 t0 t1
    obtain ⟨c0, c1, _⟩ := scs (stands (l := 0) HA.out HB.out)
    obtain ⟨t0, t1, _⟩ := scs (stands (l := 0) HT.out HB.out)
    go_wp2_with fail
    refine (impl_dn (HRd.out.behind (HB.out.mono HLm.out)) (Nat.le_trans HLm.out HB.out.size)).mono ?_
    rintro e' w3 ⟨bm, rfl, hbm, hO, hb⟩
    have HBm := Lib.hid (Nat.le_trans HB.out.size hbm)
    have HMap := Lib.hid hO
    replace HB := Lib.hid (HB.out.trans (hb.mono HB.out.size))
    clear hb
    clear c0 c1 t0 t1 hbm hO
    obtain ⟨c0, c1, _⟩ := scs (stands (l := 0) HA.out HB.out)
    obtain ⟨t0, t1, _⟩ := scs (stands (l := 0) HT.out HB.out)
    go_wp2_with (first
      | (at_lookup; refine wpList_lookup_own_bool _ rfl _ _ 66 rfl 3 4 lawInt Try.underlying66 Try.underlying4 (zeroB _) bm zs.length _ (AllT.mset zs zs.length (Nat.le_refl _)) rfl HMap.out _ _ rfl (keyOf_int_mk Try.underlying3 HNw.out) ?_; rw [HHas.out])
      | (at_len; refine wpList_len_own _ rfl _ 66 rfl 3 4 Try.underlying66 _ bm zs.length _ rfl HMap.out ?_; rw [HSz.out]))
    refine (impl_cpy (HRd.out.behind (HB.out.mono HLm.out)) (Nat.le_trans HLm.out HB.out.size) (by have := HN.out; omega)).mono ?_
    rintro e' w9 ⟨v9, rfl, hO, hb⟩
    replace hO := hO.mono HB.out.size
    replace HB := Lib.hid (HB.out.trans (hb.mono HB.out.size))
    clear hb
    obtain ⟨a, c, hv, _⟩ := hO.open
    subst hv
    obtain ⟨nl, hnl⟩ : ∃ x, x = (zs : List Int).length := ⟨_, rfl⟩
    rw [← hnl] at hO ⊢
    have hk := stands (l := 0) HC.out HB.out
    obtain ⟨q0, q1, f0, f1⟩ := scs hk
    obtain ⟨k9, hB9, g9⟩ := res_put (x0 := .int .i64 e) (x1 := .slice a nl c) (HB0.out.trans (HB.out.mono HB0.out.size)) hk (by omega)
    obtain ⟨r0, r1, _⟩ := scs k9
    have hO9 := hO.kept g9 (Or.inr (fun hh => by have := (hO.lt _ hh).1; have := HLt.out; omega))
    have HB9 := Lib.hid hB9
    have HO9 := Lib.hid (hO9.mono HB0.out.size)
    clear k9 g9 hk hB9 hO9 hO hnl
    go_wp2_with fail
    rw [HEQ.out.1, HEQ.out.2]
    exact bodyPost_ret (v := .tuple #[.agg #[.int .i64 e, .slice a nl c], .int .i64 3]) (by simp [results, Try.results15, go_sem, r0, r1]) rfl ⟨_, rfl, HO9.out, HB9.out⟩
  case neg =>
    have HEQ := Lib.hid (sp_ok HOk.out HMem.out.symm (show ¬ 40 ≤ zs.length by omega))
    have e1 : ((zs.length : Int) == 40) = false := beq_eq_false_iff_ne.2 (by omega)
    have HF := Lib.hid (show zs.length < 40 by omega)
    have HNb := Lib.hid (vtok_in HTk.out.symm)
    have HPut := Lib.hid ((MapIs.start HZok.out).put HMem.out.symm (.lit (.bool true)))
    have HPo := Lib.hid (insS_ok HZok.out HNb.out.1 HNb.out.2 (memS_no.1 HMem.out.symm))
    have HPa := Lib.hid ((AllT.mset zs zs.length (Nat.le_refl _)).put (MapIs.start HZok.out).1.isMap (show WideAt.IsKeyLit (.int .i64 n) from trivial))
    have HPl := Lib.hid (insS_len zs n)
    clear hf h40
    go_enter Try.func15, Try.ntmps15
    go_wp2_with fail
    rw [← HW0.out]
    refine (impl_vsl HRd.out HLm.out HEw.out).mono ?_
    rw [← HQ.out]
    rintro e' w1 ⟨rfl, hb⟩
    replace HB := Lib.hid (HB.out.trans (hb.mono HB.out.size))
    clear hb
    clear c0 c1 t0 t1
    obtain ⟨c0, c1, _⟩ := scs (stands (l := 0) HA.out HB.out)
    obtain ⟨t0, t1, _⟩ := scs (stands (l := 0) HT.out HB.out)
    go_wp2_with fail
    refine (impl_vt HSw.out HNw.out HUw.out).mono ?_
    rw [← HTk.out]
    rintro e' w2 ⟨rfl, hb⟩
    replace HB := Lib.hid (HB.out.trans (hb.mono HB.out.size))
    clear hb
    clear c0 c1 t0 t1
    obtain ⟨c0, c1, _⟩ := scs (stands (l := 0) HA.out HB.out)
    obtain ⟨t0, t1, _⟩ := scs (stands (l := 0) HT.out HB.out)
    go_wp2_with fail
    refine (impl_dn (HRd.out.behind (HB.out.mono HLm.out)) (Nat.le_trans HLm.out HB.out.size)).mono ?_
    rintro e' w3 ⟨bm, rfl, hbm, hO, hb⟩
    have HBm := Lib.hid (Nat.le_trans HB.out.size hbm)
    have HMap := Lib.hid hO
    replace HB := Lib.hid (HB.out.trans (hb.mono HB.out.size))
    clear hb
    clear c0 c1 t0 t1 hbm hO
    obtain ⟨c0, c1, _⟩ := scs (stands (l := 0) HA.out HB.out)
    obtain ⟨t0, t1, _⟩ := scs (stands (l := 0) HT.out HB.out)
    go_wp2_with (first
      | (at_lookup; refine wpList_lookup_own_bool _ rfl _ _ 66 rfl 3 4 lawInt Try.underlying66 Try.underlying4 (zeroB _) bm zs.length _ (AllT.mset zs zs.length (Nat.le_refl _)) rfl HMap.out _ _ rfl (keyOf_int_mk Try.underlying3 HNw.out) ?_; rw [HHas.out])
      | (at_len; refine wpList_len_own _ rfl _ 66 rfl 3 4 Try.underlying66 _ bm zs.length _ rfl HMap.out ?_; rw [HSz.out])
      | (at_mapUpdate; refine wpList_mapUpdate_own _ rfl _ _ _ 66 rfl 3 4 lawInt Try.underlying66 (plainElem (H := Unit) Try.prog 4) bm zs.length _ rfl HMap.out (by have := HF.out; unfold maxLen; omega) _ _ _ rfl rfl (keyOf_int_mk Try.underlying3 HNw.out) _ [] (plainElem_bool Try.underlying4 true) ?_))
    intro w4 hown hg
    have HMp := Lib.hid hown
    have hb := HB.out.grown hg HB.out.size (fun k hk => by injection hk with hk; have := HBm.out; omega)
    replace HB := Lib.hid hb
    clear hb hg hown c0 c1 t0 t1
    obtain ⟨c0, c1, _⟩ := scs (stands (l := 0) HA.out HB.out)
    obtain ⟨t0, t1, _⟩ := scs (stands (l := 0) HT.out HB.out)
    go_wp2_with fail
    refine (impl_lsp HMp.out HPut.out HPa.out HPo.out (by have := HPl.out; have := HF.out; omega)).mono ?_
    rintro e' w9 ⟨v9, rfl, hO, hb⟩
    replace hO := hO.mono HB.out.size
    replace HB := Lib.hid (HB.out.trans (hb.mono HB.out.size))
    clear hb
    obtain ⟨a, c, hv, _⟩ := hO.open
    subst hv
    obtain ⟨nl, hnl⟩ : ∃ x, x = (insS zs n : List Int).length := ⟨_, rfl⟩
    rw [← hnl] at hO ⊢
    have hk := stands (l := 0) HC.out HB.out
    obtain ⟨q0, q1, f0, f1⟩ := scs hk
    obtain ⟨k9, hB9, g9⟩ := res_put (x0 := .int .i64 e) (x1 := .slice a nl c) (HB0.out.trans (HB.out.mono HB0.out.size)) hk (by omega)
    obtain ⟨r0, r1, _⟩ := scs k9
    have hO9 := hO.kept g9 (Or.inr (fun hh => by have := (hO.lt _ hh).1; have := HLt.out; omega))
    have HB9 := Lib.hid hB9
    have HO9 := Lib.hid (hO9.mono HB0.out.size)
    clear k9 g9 hk hB9 hO9 hO hnl
    go_wp2_with fail
    rw [HEQ.out.1, HEQ.out.2]
    exact bodyPost_ret (v := .tuple #[.agg #[.int .i64 e, .slice a nl c], .int .i64 0]) (by simp [results, Try.results15, go_sem, r0, r1]) rfl ⟨_, rfl, HO9.out, HB9.out⟩

set_option maxRecDepth 100000 in
set_option maxHeartbeats 16000000 in
/-- spec.SpendToken -/
theorem spec_spt {lim : Nat} {w : World} {v : Value} {zs : List Int} {e s n u : Int} (h : Rd lim .i64 w v zs) (hlim : lim ≤ w.heap.size) (hn : zs.length ≤ 17592186044414) (he : (Lit.int .i64 e).wf = true) (hs : (Lit.int .i64 s).wf = true) (hnw : (Lit.int .i64 n).wf = true) (huw : (Lit.int .i64 u).wf = true) :
    Calls Try.prog 16 #[.agg #[.int .i64 e, v], .int .i64 s, .agg #[.int .i64 n, .int .i64 u]] w fun x w' => ∃ v', x = .returned (.tuple #[.agg #[.int .i64 e, v'], .int .i64 (spR e zs s n u)]) ∧ Own 3 .i64 w.heap.size w' v' (spL e zs s n u) ∧ Below w.heap.size w w' := by
  obtain ⟨p, cap, rfl, h1, h2, hc⟩ := h.open
  have K := blocks3T w (.cells #[.int .i64 e, .slice p zs.length cap] 26) (.cells #[.int .i64 n, .int .i64 u] 28) (.cells #[.int .i64 0, .slice none 0 0] 26)
  have hb := (((Below.refl w.heap.size w).alloc (Nat.le_refl _) (.cells #[.int .i64 e, .slice p zs.length cap] 26)).alloc (by simp) (.cells #[.int .i64 n, .int .i64 u] 28)).alloc (by simp; omega) (.cells #[.int .i64 0, .slice none 0 0] 26)
  obtain ⟨W0, hW0⟩ : ∃ W, W = ((w.alloc (.cells #[.int .i64 e, .slice p zs.length cap] 26)).alloc (.cells #[.int .i64 n, .int .i64 u] 28)).alloc (.cells #[.int .i64 0, .slice none 0 0] 26) := ⟨_, rfl⟩
  rw [← hW0] at K hb
  have HW0 := Lib.hid hW0
  have HA := Lib.hid K.1
  have HT := Lib.hid K.2.1
  have HC := Lib.hid K.2.2
  have HB0 := Lib.hid hb
  have HB := Lib.hid (Below.refl W0.heap.size W0)
  have HRd := Lib.hid (h.behind (hb.mono hlim))
  have HLm := Lib.hid (show lim ≤ W0.heap.size from Nat.le_trans hlim hb.size)
  have HLt := Lib.hid (lt_of_block K.2.2)
  have HN := Lib.hid hn
  have HEw := Lib.hid he
  have HSw := Lib.hid hs
  have HNw := Lib.hid hnw
  have HUw := Lib.hid huw
  obtain ⟨c0, c1, _⟩ := scs K.1
  obtain ⟨t0, t1, _⟩ := scs K.2.1
  rw [hW0] at c0 c1 t0 t1
  have hlen : zs.length ≤ 9223372036854775807 := by unfold maxLen at h2; omega
  obtain ⟨q, hq⟩ : ∃ q, q = slv e zs := ⟨_, rfl⟩
  obtain ⟨t, ht⟩ : ∃ t, t = vtok s n u := ⟨_, rfl⟩
  have HQ := Lib.hid hq
  have HTk := Lib.hid ht
  clear h hc K hb hW0 hn he hs hnw huw hq ht h1 h2
  cases q with
  | false =>
    have HEQ := Lib.hid (sp_bad (e := e) (zs := zs) (s := s) (n := n) (v := u) (by rw [← HQ.out]; rfl))
    go_enter Try.func16, Try.ntmps16
    go_wp2_with fail
    rw [← HW0.out]
    refine (spec_vsl HRd.out HLm.out HEw.out).mono ?_
    rw [← HQ.out]
    rintro e' w1 ⟨rfl, hb⟩
    replace HB := Lib.hid (HB.out.trans (hb.mono HB.out.size))
    clear hb
    clear c0 c1 t0 t1
    obtain ⟨c0, c1, _⟩ := scs (stands (l := 0) HA.out HB.out)
    obtain ⟨t0, t1, _⟩ := scs (stands (l := 0) HT.out HB.out)
    go_wp2_with fail
    refine (spec_cpy (HRd.out.behind (HB.out.mono HLm.out)) (Nat.le_trans HLm.out HB.out.size) (by have := HN.out; omega)).mono ?_
    rintro e' w9 ⟨v9, rfl, hO, hb⟩
    replace hO := hO.mono HB.out.size
    replace HB := Lib.hid (HB.out.trans (hb.mono HB.out.size))
    clear hb
    obtain ⟨a, c, hv, _⟩ := hO.open
    subst hv
    obtain ⟨nl, hnl⟩ : ∃ x, x = (zs : List Int).length := ⟨_, rfl⟩
    rw [← hnl] at hO ⊢
    have hk := stands (l := 0) HC.out HB.out
    obtain ⟨q0, q1, f0, f1⟩ := scs hk
    obtain ⟨k9, hB9, g9⟩ := res_put (x0 := .int .i64 e) (x1 := .slice a nl c) (HB0.out.trans (HB.out.mono HB0.out.size)) hk (by omega)
    obtain ⟨r0, r1, _⟩ := scs k9
    have hO9 := hO.kept g9 (Or.inr (fun hh => by have := (hO.lt _ hh).1; have := HLt.out; omega))
    have HB9 := Lib.hid hB9
    have HO9 := Lib.hid (hO9.mono HB0.out.size)
    clear k9 g9 hk hB9 hO9 hO hnl
    go_wp2_with fail
    rw [HEQ.out.1, HEQ.out.2]
    exact bodyPost_ret (v := .tuple #[.agg #[.int .i64 e, .slice a nl c], .int .i64 1]) (by simp [results, Try.results16, go_sem, r0, r1]) rfl ⟨_, rfl, HO9.out, HB9.out⟩
  | true =>
  cases t with
  | false =>
    have HEQ := Lib.hid (sp_bad (e := e) (zs := zs) (s := s) (n := n) (v := u) (by rw [← HTk.out]; simp))
    go_enter Try.func16, Try.ntmps16
    go_wp2_with fail
    rw [← HW0.out]
    refine (spec_vsl HRd.out HLm.out HEw.out).mono ?_
    rw [← HQ.out]
    rintro e' w1 ⟨rfl, hb⟩
    replace HB := Lib.hid (HB.out.trans (hb.mono HB.out.size))
    clear hb
    clear c0 c1 t0 t1
    obtain ⟨c0, c1, _⟩ := scs (stands (l := 0) HA.out HB.out)
    obtain ⟨t0, t1, _⟩ := scs (stands (l := 0) HT.out HB.out)
    go_wp2_with fail
    refine (spec_vt HSw.out HNw.out HUw.out).mono ?_
    rw [← HTk.out]
    rintro e' w2 ⟨rfl, hb⟩
    replace HB := Lib.hid (HB.out.trans (hb.mono HB.out.size))
    clear hb
    clear c0 c1 t0 t1
    obtain ⟨c0, c1, _⟩ := scs (stands (l := 0) HA.out HB.out)
    obtain ⟨t0, t1, _⟩ := scs (stands (l := 0) HT.out HB.out)
    go_wp2_with fail
    refine (spec_cpy (HRd.out.behind (HB.out.mono HLm.out)) (Nat.le_trans HLm.out HB.out.size) (by have := HN.out; omega)).mono ?_
    rintro e' w9 ⟨v9, rfl, hO, hb⟩
    replace hO := hO.mono HB.out.size
    replace HB := Lib.hid (HB.out.trans (hb.mono HB.out.size))
    clear hb
    obtain ⟨a, c, hv, _⟩ := hO.open
    subst hv
    obtain ⟨nl, hnl⟩ : ∃ x, x = (zs : List Int).length := ⟨_, rfl⟩
    rw [← hnl] at hO ⊢
    have hk := stands (l := 0) HC.out HB.out
    obtain ⟨q0, q1, f0, f1⟩ := scs hk
    obtain ⟨k9, hB9, g9⟩ := res_put (x0 := .int .i64 e) (x1 := .slice a nl c) (HB0.out.trans (HB.out.mono HB0.out.size)) hk (by omega)
    obtain ⟨r0, r1, _⟩ := scs k9
    have hO9 := hO.kept g9 (Or.inr (fun hh => by have := (hO.lt _ hh).1; have := HLt.out; omega))
    have HB9 := Lib.hid hB9
    have HO9 := Lib.hid (hO9.mono HB0.out.size)
    clear k9 g9 hk hB9 hO9 hO hnl
    go_wp2_with fail
    rw [HEQ.out.1, HEQ.out.2]
    exact bodyPost_ret (v := .tuple #[.agg #[.int .i64 e, .slice a nl c], .int .i64 1]) (by simp [results, Try.results16, go_sem, r0, r1]) rfl ⟨_, rfl, HO9.out, HB9.out⟩
  | true =>
  have HOk : Hid ((slv e zs && vtok s n u) = true) := Lib.hid (by rw [← HQ.out, ← HTk.out]; rfl)
  have HZok : Hid (okSl zs = true) := Lib.hid (by have := HQ.out.symm; unfold slv at this; simp only [Bool.and_eq_true] at this; exact this.1)
  have h40 : zs.length ≤ 40 := by have := HQ.out.symm; unfold slv at this; simp only [Bool.and_eq_true, decide_eq_true_eq] at this; exact this.2.2
  obtain ⟨b, hb⟩ : ∃ b, b = memS zs n := ⟨_, rfl⟩
  have HMem := Lib.hid hb
  clear hb
  cases b with
  | true =>
    have HEQ := Lib.hid (sp_twice HOk.out HMem.out.symm)
    go_enter Try.func16, Try.ntmps16
    go_wp2_with fail
    rw [← HW0.out]
    refine (spec_vsl HRd.out HLm.out HEw.out).mono ?_
    rw [← HQ.out]
    rintro e' w1 ⟨rfl, hb⟩
    replace HB := Lib.hid (HB.out.trans (hb.mono HB.out.size))
    clear hb
    clear c0 c1 t0 t1
    obtain ⟨c0, c1, _⟩ := scs (stands (l := 0) HA.out HB.out)
    obtain ⟨t0, t1, _⟩ := scs (stands (l := 0) HT.out HB.out)
    go_wp2_with fail
    refine (spec_vt HSw.out HNw.out HUw.out).mono ?_
    rw [← HTk.out]
    rintro e' w2 ⟨rfl, hb⟩
    replace HB := Lib.hid (HB.out.trans (hb.mono HB.out.size))
    clear hb
    clear c0 c1 t0 t1
    obtain ⟨c0, c1, _⟩ := scs (stands (l := 0) HA.out HB.out)
    obtain ⟨t0, t1, _⟩ := scs (stands (l := 0) HT.out HB.out)
    go_wp2_with fail
    refine (spec_iss (HRd.out.behind (HB.out.mono HLm.out)) (Nat.le_trans HLm.out HB.out.size)).mono ?_
    rw [← HMem.out]
    rintro e' w3 ⟨rfl, hb⟩
    replace HB := Lib.hid (HB.out.trans (hb.mono HB.out.size))
    clear hb
    clear c0 c1 t0 t1
    obtain ⟨c0, c1, _⟩ := scs (stands (l := 0) HA.out HB.out)
    obtain ⟨t0, t1, _⟩ := scs (stands (l := 0) HT.out HB.out)
    go_wp2_with fail
    refine (spec_cpy (HRd.out.behind (HB.out.mono HLm.out)) (Nat.le_trans HLm.out HB.out.size) (by have := HN.out; omega)).mono ?_
    rintro e' w9 ⟨v9, rfl, hO, hb⟩
    replace hO := hO.mono HB.out.size
    replace HB := Lib.hid (HB.out.trans (hb.mono HB.out.size))
    clear hb
    obtain ⟨a, c, hv, _⟩ := hO.open
    subst hv
    obtain ⟨nl, hnl⟩ : ∃ x, x = (zs : List Int).length := ⟨_, rfl⟩
    rw [← hnl] at hO ⊢
    have hk := stands (l := 0) HC.out HB.out
    obtain ⟨q0, q1, f0, f1⟩ := scs hk
    obtain ⟨k9, hB9, g9⟩ := res_put (x0 := .int .i64 e) (x1 := .slice a nl c) (HB0.out.trans (HB.out.mono HB0.out.size)) hk (by omega)
    obtain ⟨r0, r1, _⟩ := scs k9
    have hO9 := hO.kept g9 (Or.inr (fun hh => by have := (hO.lt _ hh).1; have := HLt.out; omega))
    have HB9 := Lib.hid hB9
    have HO9 := Lib.hid (hO9.mono HB0.out.size)
    clear k9 g9 hk hB9 hO9 hO hnl
    go_wp2_with fail
    rw [HEQ.out.1, HEQ.out.2]
    exact bodyPost_ret (v := .tuple #[.agg #[.int .i64 e, .slice a nl c], .int .i64 2]) (by simp [results, Try.results16, go_sem, r0, r1]) rfl ⟨_, rfl, HO9.out, HB9.out⟩
  | false =>
  by_cases hf : 40 ≤ zs.length
  case pos =>
    have HEQ := Lib.hid (sp_full HOk.out HMem.out.symm hf)
    have e1 : decide ((40 : Int) ≤ (zs.length : Int)) = true := by simp; omega
    clear h40
    go_enter Try.func16, Try.ntmps16
    go_wp2_with fail
    rw [← HW0.out]
    refine (spec_vsl HRd.out HLm.out HEw.out).mono ?_
    rw [← HQ.out]
    rintro e' w1 ⟨rfl, hb⟩
    replace HB := Lib.hid (HB.out.trans (hb.mono HB.out.size))
    clear hb
    clear c0 c1 t0 t1
    obtain ⟨c0, c1, _⟩ := scs (stands (l := 0) HA.out HB.out)
    obtain ⟨t0, t1, _⟩ := scs (stands (l := 0) HT.out HB.out)
    go_wp2_with fail
    refine (spec_vt HSw.out HNw.out HUw.out).mono ?_
    rw [← HTk.out]
    rintro e' w2 ⟨rfl, hb⟩
    replace HB := Lib.hid (HB.out.trans (hb.mono HB.out.size))
    clear hb
    clear c0 c1 t0 t1
    obtain ⟨c0, c1, _⟩ := scs (stands (l := 0) HA.out HB.out)
    obtain ⟨t0, t1, _⟩ := scs (stands (l := 0) HT.out HB.out)
    go_wp2_with fail
    refine (spec_iss (HRd.out.behind (HB.out.mono HLm.out)) (Nat.le_trans HLm.out HB.out.size)).mono ?_
    rw [← HMem.out]
    rintro e' w3 ⟨rfl, hb⟩
    replace HB := Lib.hid (HB.out.trans (hb.mono HB.out.size))
    clear hb
    clear c0 c1 t0 t1
    obtain ⟨c0, c1, _⟩ := scs (stands (l := 0) HA.out HB.out)
    obtain ⟨t0, t1, _⟩ := scs (stands (l := 0) HT.out HB.out)
    go_wp2_with fail
    refine (spec_cpy (HRd.out.behind (HB.out.mono HLm.out)) (Nat.le_trans HLm.out HB.out.size) (by have := HN.out; omega)).mono ?_
    rintro e' w9 ⟨v9, rfl, hO, hb⟩
    replace hO := hO.mono HB.out.size
    replace HB := Lib.hid (HB.out.trans (hb.mono HB.out.size))
    clear hb
    obtain ⟨a, c, hv, _⟩ := hO.open
    subst hv
    obtain ⟨nl, hnl⟩ : ∃ x, x = (zs : List Int).length := ⟨_, rfl⟩
    rw [← hnl] at hO ⊢
    have hk := stands (l := 0) HC.out HB.out
    obtain ⟨q0, q1, f0, f1⟩ := scs hk
    obtain ⟨k9, hB9, g9⟩ := res_put (x0 := .int .i64 e) (x1 := .slice a nl c) (HB0.out.trans (HB.out.mono HB0.out.size)) hk (by omega)
    obtain ⟨r0, r1, _⟩ := scs k9
    have hO9 := hO.kept g9 (Or.inr (fun hh => by have := (hO.lt _ hh).1; have := HLt.out; omega))
    have HB9 := Lib.hid hB9
    have HO9 := Lib.hid (hO9.mono HB0.out.size)
    clear k9 g9 hk hB9 hO9 hO hnl
    go_wp2_with fail
    rw [HEQ.out.1, HEQ.out.2]
    exact bodyPost_ret (v := .tuple #[.agg #[.int .i64 e, .slice a nl c], .int .i64 3]) (by simp [results, Try.results16, go_sem, r0, r1]) rfl ⟨_, rfl, HO9.out, HB9.out⟩
  case neg =>
    have HEQ := Lib.hid (sp_ok HOk.out HMem.out.symm hf)
    have e1 : decide ((40 : Int) ≤ (zs.length : Int)) = false := by simp; omega
    have HF := Lib.hid (show zs.length < 40 by omega)
    clear h40
    go_enter Try.func16, Try.ntmps16
    go_wp2_with fail
    rw [← HW0.out]
    refine (spec_vsl HRd.out HLm.out HEw.out).mono ?_
    rw [← HQ.out]
    rintro e' w1 ⟨rfl, hb⟩
    replace HB := Lib.hid (HB.out.trans (hb.mono HB.out.size))
    clear hb
    clear c0 c1 t0 t1
    obtain ⟨c0, c1, _⟩ := scs (stands (l := 0) HA.out HB.out)
    obtain ⟨t0, t1, _⟩ := scs (stands (l := 0) HT.out HB.out)
    go_wp2_with fail
    refine (spec_vt HSw.out HNw.out HUw.out).mono ?_
    rw [← HTk.out]
    rintro e' w2 ⟨rfl, hb⟩
    replace HB := Lib.hid (HB.out.trans (hb.mono HB.out.size))
    clear hb
    clear c0 c1 t0 t1
    obtain ⟨c0, c1, _⟩ := scs (stands (l := 0) HA.out HB.out)
    obtain ⟨t0, t1, _⟩ := scs (stands (l := 0) HT.out HB.out)
    go_wp2_with fail
    refine (spec_iss (HRd.out.behind (HB.out.mono HLm.out)) (Nat.le_trans HLm.out HB.out.size)).mono ?_
    rw [← HMem.out]
    rintro e' w3 ⟨rfl, hb⟩
    replace HB := Lib.hid (HB.out.trans (hb.mono HB.out.size))
    clear hb
    clear c0 c1 t0 t1
    obtain ⟨c0, c1, _⟩ := scs (stands (l := 0) HA.out HB.out)
    obtain ⟨t0, t1, _⟩ := scs (stands (l := 0) HT.out HB.out)
    go_wp2_with fail
    refine (spec_ins (HRd.out.behind (HB.out.mono HLm.out)) (Nat.le_trans HLm.out HB.out.size) HN.out HNw.out).mono ?_
    rintro e' w9 ⟨v9, rfl, hO, hb⟩
    replace hO := hO.mono HB.out.size
    replace HB := Lib.hid (HB.out.trans (hb.mono HB.out.size))
    clear hb
    obtain ⟨a, c, hv, _⟩ := hO.open
    subst hv
    obtain ⟨nl, hnl⟩ : ∃ x, x = (insS zs n : List Int).length := ⟨_, rfl⟩
    rw [← hnl] at hO ⊢
    have hk := stands (l := 0) HC.out HB.out
    obtain ⟨q0, q1, f0, f1⟩ := scs hk
    obtain ⟨k9, hB9, g9⟩ := res_put (x0 := .int .i64 e) (x1 := .slice a nl c) (HB0.out.trans (HB.out.mono HB0.out.size)) hk (by omega)
    obtain ⟨r0, r1, _⟩ := scs k9
    have hO9 := hO.kept g9 (Or.inr (fun hh => by have := (hO.lt _ hh).1; have := HLt.out; omega))
    have HB9 := Lib.hid hB9
    have HO9 := Lib.hid (hO9.mono HB0.out.size)
    clear k9 g9 hk hB9 hO9 hO hnl
    go_wp2_with fail
    rw [HEQ.out.1, HEQ.out.2]
    exact bodyPost_ret (v := .tuple #[.agg #[.int .i64 e, .slice a nl c], .int .i64 0]) (by simp [results, Try.results16, go_sem, r0, r1]) rfl ⟨_, rfl, HO9.out, HB9.out⟩

end Go.Proofs.Ytdlbpeippmibcaa
