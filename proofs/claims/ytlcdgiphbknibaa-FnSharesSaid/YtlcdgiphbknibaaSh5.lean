/- RefreshShares, the program's: what it gives. No conditions but a size that a machine holds. -/
import Derived.Test.YtlcdgiphbknibaaSh2
namespace Go.Proofs.Ytlcdgiphbknibaa
open Go Go.RowKit
set_option linter.unusedVariables false
attribute [local irreducible] kh

/-- append to a row of the call's own of what is read, with the place of the new row. -/
theorem append_rdF {P : Program} (w : World) {ops : Array Oper} {rest : List Oper} {o : Oper} {a : Act} {Q : Exit → Act → World → Prop} (hg : o.guard = none) (s x : Operand) (t : TypeId)
    (hop : o.op = .call { callee := .builtin .append, args := #[s, x], argTypes := #[t, t] }) (e : TypeId) (i : TypeInfo) (z : Value) (bytes : Nat) (ht : P.underlying t = some (.slice e)) (hi : P.info? e = some i) (hz : i.zero = some z)
    (hsize : i.size = 1) (hby : i.bytes = bytes) (hzs : z.cells.size = 1) (hb1 : 1 ≤ bytes) {k : IntKind} {B lim : Nat} {v u : Value} {xs ys : List Int} (hs : a.eval s = v) (hown : Own e k B w v xs) (hx : a.eval x = u) (hu : Rd lim k w u ys)
    (hle : (xs.length + ys.length) * bytes ≤ 140737488355328)
    (h : ∀ v' w', Own e k B w' v' (xs ++ ys) → w.grownBy w' v.ownBlock → (v'.ownBlock = v.ownBlock ∨ v'.ownBlock = some w.heap.size) → wpList P ops Q rest (a.put o.dst v') w') : wpList P ops Q (o :: rest) a w := by
  obtain ⟨uw, ua, ucap, rfl, u1, u2, u3⟩ := hu
  obtain ⟨vw, vB, vo⟩ := hown
  have hm : xs.length + ys.length ≤ maxLen := by
    have : (xs.length + ys.length) * 1 ≤ (xs.length + ys.length) * bytes := Nat.mul_le_mul_left _ hb1
    unfold maxLen; omega
  have key : ∀ v' w', w'.ownsRow B e 1 v' (xs.length + ys.length) (xs.map (Value.int k) ++ ys.map (Value.int k)) → w.grownBy w' v.ownBlock → (v'.ownBlock = v.ownBlock ∨ v'.ownBlock = some w.heap.size) → wpList P ops Q rest (a.put o.dst v') w' := fun v' w' h1 h2 h3 =>
    h v' w' ⟨by intro n hn; rcases List.mem_append.1 hn with h | h; exact vw n h; exact uw n h, Nat.le_trans vB h2.size, by simpa using h1⟩ h2 h3
  rcases u3 with ⟨rfl, rfl⟩ | ⟨y, rfl, hc, hbl⟩
  · have hy : ys = [] := List.eq_nil_of_length_eq_zero (by omega)
    subst hy
    refine wpList_append_own_none hg s x t hop B e i 1 ht hi v xs.length _ hs vo hx ?_
    exact key v w (by simpa using vo) (World.grownBy.refl _ _) (.inl rfl)
  · obtain ⟨v', w', hr, p1, p2, p4, p3⟩ := run_append_own_at (P := P) w B t o.type e i z 1 bytes ht hi hz hsize hby hzs (by decide) v xs.length _ vo y ys.length ucap (ys.map (Value.int k)) (by simp) (fun j n hn => by
        rw [List.getElem?_map] at hn
        rcases hj : ys[j]? with _ | q
        · simp [hj] at hn
        · simp [hj] at hn
          have hlt : j < ys.length := (List.getElem?_eq_some_iff.1 hj).1
          rw [hc j hlt, List.getD_eq_getElem?_getD, hj]
          simpa using hn) (fun n hn => by
        obtain ⟨q, _, rfl⟩ := List.mem_map.1 hn
        rfl) hm hle vB
    refine wpList_plain hg fun K hK => ?_
    unfold Oper.wp
    simp only [execOp, hop, resolve, invoke, builtin, Sem.run_bind, Sem.run_pure, Result.andThen_ok, List.map_toArray, List.map_cons, List.map_nil, hs, hx]
    rw [hr]
    exact hK _ _ (key v' w' p1 p2 p3)

/-- x[: n] of a row of the call's own: the same block. -/
theorem slice_own_h {P : Program} (w : World) {ops : Array Oper} {rest : List Oper} {o : Oper} {a : Act} {Q : Exit → Act → World → Prop} (hg : o.guard = none) (t : TypeId) (x : Operand)
    (e : TypeId) (i : TypeInfo) (ht : P.underlying t = some (.slice e)) (hi : P.info? e = some i) (hsz : i.size = 1) {k : IntKind} {B n : Nat} {v : Value} {zs : List Int} (hx : a.eval x = v) (hr : Own e k B w v zs)
    (hi' : Operand) (hop : o.op = .slice t x none (some hi') none) (hhi : a.eval hi' = .int .i64 (n : Int)) (hl : n ≤ zs.length)
    (h : ∀ a' c', (0 < n → ∃ g cap, v = .slice (some ⟨g, 0, none⟩) zs.length cap ∧ a' = some ⟨g, 0, none⟩) → wpList P ops Q rest (a.put o.dst (.slice a' n c')) w) : wpList P ops Q (o :: rest) a w := by
  refine wpList_plain hg fun K hK => ?_
  obtain ⟨_, p, cap, rfl, h1, h2, h3⟩ := hr.rd
  have hopn := hr.open
  obtain ⟨q, cq, hv, hq⟩ := hopn
  injection hv with e1 e2 e3
  subst e1
  unfold Oper.wp
  simp only [execOp, hop, Option.map_some, Option.map_none, hx, hhi]
  simp only [Sem.run_bind, Sem.run_pure, run_sliceAt_slice w t _ _ _ _ (und_elem t e ht), run_slice_h w t p zs.length cap (und_elem t e ht) .i64 (n : Int) (by omega) (by omega), size_elem t e i ht hi hsz, Result.andThen_ok, Int.toNat_natCast]
  refine hK _ _ ?_
  unfold Go.sliced
  rw [Nat.sub_zero, Nat.sub_zero]
  refine h _ _ fun hn => ?_
  obtain ⟨g, rfl⟩ := hq (by omega)
  refine ⟨g, cap, rfl, ?_⟩
  rw [if_neg (by omega), Option.map_some, Nat.mul_one, add_off']

set_option maxHeartbeats 1000000 in
/-- impl.xorInto: the exclusive or, into a row of the call's own, of another that lies apart. -/
theorem xorInto_own {w : World} {u v : Value} {xs ys : List Int} (hu : Own 5 .u8 0 w u xs) (hv : Own 5 .u8 0 w v ys) (hap : Apart v u) (hn : xs.length + ys.length ≤ 140737488355328) :
    Calls Try.prog 53 #[u, v] w fun e w' => ∃ v', e = .returned v' ∧ Own 5 .u8 0 w' v' (xorl xs ys) ∧ KeptF (fun b => u.ownBlock = some b) w w' ∧ (v'.ownBlock = u.ownBlock ∨ ∀ r, v'.ownBlock = some r → w.heap.size ≤ r) := by
  obtain ⟨i0, hi, hz0, hz1, hz2⟩ := info_parts infou8
  have Hhi := Lib.hid hi
  have HX := Lib.hid hu.u8s
  have HY := Lib.hid hv.u8s
  have HAp := Lib.hid hap
  obtain ⟨a, cap, rfl, ha⟩ := hu.open
  obtain ⟨a', cap', rfl, ha'⟩ := hv.open
  have HO := Lib.hid hu
  have HV := Lib.hid hv
  have Ha := Lib.hid ha
  have HN := Lib.hid hn
  have h1' := hv.rd.len
  unfold maxLen at h1'
  clear hu hv ha ha' hi hap
  obtain ⟨c, hc⟩ : ∃ c, c = min xs.length ys.length := ⟨_, rfl⟩
  have Hm : Hid (mn (xs.length : Int) (ys.length : Int) = (c : Int)) := Lib.hid (by rw [mn_nat, hc])
  have hcx : c ≤ xs.length := by omega
  have hcy : c ≤ ys.length := by omega
  have HP := Lib.hid (xorl_parts HX.out HY.out hc)
  clear hc
  go_enter Try.func53, Try.ntmps53
  go_wp2_with fail
  refine (impl_mn _ _ _ (wf_i64_of (by omega) (by omega)) (wf_i64_of (by omega) (by omega))).mono ?_
  rintro e w1 ⟨rfl, hb1⟩
  rw [Hm.out]
  have HO1 := Lib.hid (HO.out.next hb1)
  have HK1 : Hid (KeptF (fun b => (Value.slice a xs.length cap).ownBlock = some b) w w1) := Lib.hid (KeptF.of_below hb1)
  have HV1 := Lib.hid (HV.out.next hb1)
  clear hb1 HO HV
  go_wp2_with (first | (refine slice_own_h _ rfl _ _ _ i0 Try.underlying22 Hhi.out hz1 rfl HV1.out _ rfl rfl hcy ?_))
  intro a2 cap2 h2
  have H2 := Lib.hid h2
  have HU : Hid (Own 5 .u8 0 w1 (.slice a xs.length cap) (upt (fun i => bx (xs.getD i 0) (ys.getD i 0)) (fun i => xs.getD i 0) 0 xs.length)) := Lib.hid (by rw [upt_zero, range_getD]; exact HO1.out)
  clear h2 HO1
  go_wp2_with fail
  go_loopw [17] (fun i wr => ∃ j : Nat, i = .int .i64 j ∧ j ≤ c ∧ Own 5 .u8 0 wr (.slice a xs.length cap) (upt (fun i => bx (xs.getD i 0) (ys.getD i 0)) (fun i => xs.getD i 0) j xs.length) ∧ Own 5 .u8 0 wr (.slice a' ys.length cap') ys ∧ KeptF (fun b => (Value.slice a xs.length cap).ownBlock = some b) w wr) (fun i _ => c - (intOf i).toNat)
  case atStart => exact ⟨0, rfl, Nat.zero_le _, HU.out, HV1.out, HK1.out⟩
  case round =>
    obtain ⟨j, rfl, hj, hO, hV, hK⟩ := hrel
    have HO := Lib.hid hO
    have HV := Lib.hid hV
    have HK := Lib.hid hK
    clear hO hV hK
    by_cases hlt : j < c
    · have e1 : decide ((j : Int) < (c : Int)) = true := by simp; omega
      have hjx : j < xs.length := by omega
      have hjy : j < ys.length := by omega
      obtain ⟨g, rfl⟩ := Ha.out (by omega)
      obtain ⟨g', q1, rfl⟩ := H2.out (by omega)
      subst q1
      have c1 := HV.out.cellAt rfl hjy
      have c2 := HO.out.cellAt (upt_length _ _ _ _) hjx
      have f2 := HO.out.free (upt_length _ _ _ _) j
      have ev : (upt (fun i => bx (xs.getD i 0) (ys.getD i 0)) (fun i => xs.getD i 0) j xs.length).getD j 0 = xs.getD j 0 := by
        rw [List.getD_eq_getElem?_getD, upt_get _ _ _ _ _ hjx, if_neg (by omega)]; rfl
      rw [ev] at c2
      have e3 := u8_xor (HX.out.get j) (HY.out.get j)
      have HG := Lib.hid (bx_bound (HX.out.get j) (HY.out.get j))
      obtain ⟨m, hm⟩ : ∃ m, m = bx (xs.getD j 0) (ys.getD j 0) := ⟨_, rfl⟩
      rw [← hm] at e3
      have HM := Lib.hid hm
      obtain ⟨z, hz⟩ : ∃ z, z = xs.getD j 0 := ⟨_, rfl⟩
      obtain ⟨z', hz'⟩ : ∃ z, z = ys.getD j 0 := ⟨_, rfl⟩
      rw [← hz] at c2 e3
      rw [← hz'] at c1 e3
      clear hm hz hz' ev
      go_wp2
      go_roundw
      case rel =>
        obtain ⟨p1, p2⟩ := HO.out.put (f := fun i => bx (xs.getD i 0) (ys.getD i 0)) (j := j) (wf_u8_of HG.out.1 HG.out.2)
        rw [HM.out]
        exact ⟨j + 1, by simp, hlt, p1, HV.out.beside HAp.out p2, HK.out.trans (KeptF.of_grown p2 (fun b hb => by injection hb with hb; subst hb; rfl))⟩
      case measure => simp [intOf]; omega
    · have e1 : decide ((j : Int) < (c : Int)) = false := by simp; omega
      have ej : j = c := by omega
      have HO2 : Hid (Own 5 .u8 0 wr (.slice a xs.length cap) (upt (fun i => bx (xs.getD i 0) (ys.getD i 0)) (fun i => xs.getD i 0) c xs.length)) := Lib.hid (by have := HO.out; rw [ej] at this; exact this)
      have HV2 := Lib.hid HV.out.rd
      have HN2 : Hid (((upt (fun i => bx (xs.getD i 0) (ys.getD i 0)) (fun i => xs.getD i 0) c xs.length).length + (ys.drop c).length) * 1 ≤ 140737488355328) := Lib.hid (by have := HN.out; rw [upt_length, List.length_drop]; omega)
      clear ej HO
      go_wp2_with (first | (refine slice_rd_l _ rfl _ _ _ i0 Try.underlying22 Hhi.out hz1 rfl HV2.out _ rfl rfl hcy ?_))
      intro u3 hu3
      have HU3 := Lib.hid hu3
      clear hu3
      go_wp2_with (first | (at_builtin; refine append_rdF _ rfl _ _ 22 rfl 5 i0 (.int .u8 0) 1 Try.underlying22 Hhi.out hz0 hz1 hz2 rfl (by omega) rfl HO2.out rfl HU3.out HN2.out ?_))
      intro v4 w4 h3 h4 h5
      simp only [← List.getD_eq_getElem?_getD] at h3
      rw [HP.out] at h3
      have H3 := Lib.hid h3
      have H4 := Lib.hid (HK.out.trans (KeptF.of_grown (F := fun b => (Value.slice a xs.length cap).ownBlock = some b) h4 (fun b hb => hb)))
      have H5 : Hid (v4.ownBlock = (Value.slice a xs.length cap).ownBlock ∨ ∀ r, v4.ownBlock = some r → w.heap.size ≤ r) := Lib.hid (by
        rcases h5 with h5 | h5
        · exact .inl h5
        · refine .inr fun r hr => ?_
          rw [h5] at hr
          injection hr with hr
          have := HK.out.size
          omega)
      clear h3 h4 h5
      go_wp2
      go_ret
      exact ⟨_, rfl, H3.out, H4.out, H5.out⟩

/-- One of the rows is changed, or a fresh one put in its place. -/
theorem Own2.swap {t e : TypeId} {k : IntKind} {F : Nat → Prop} {w : World} {g cap n i : Nat} {zs : List Int} {zss : List (List Int)} (h : Own2 t e k F w (.slice (some ⟨g, 0, none⟩) n cap) zss) (hi : zss[i]? = some zs) (hlt : ∀ b, F b → b < w.heap.size) :
    ∃ u, w.cell? ⟨g, i, none⟩ = some u ∧ Own e k 0 w u zs ∧ In F u ∧ ∀ w1, KeptF (fun b => u.ownBlock = some b) w w1 → w1.cell? ⟨g, i, none⟩ = some u ∧ w1.frozen? ⟨g, i, none⟩ = false ∧
      ∀ u' zs', Own e k 0 w1 u' zs' → (u'.ownBlock = u.ownBlock ∨ ∀ r, u'.ownBlock = some r → w.heap.size ≤ r) →
        Own2 t e k (fun b => F b ∨ u'.ownBlock = some b) (w1.setCell ⟨g, i, none⟩ u') (.slice (some ⟨g, 0, none⟩) n cap) (zss.set i zs') ∧ w1.grownBy (w1.setCell ⟨g, i, none⟩ u') (some g) := by
  obtain ⟨us, e1, h1, h2, h3, h4⟩ := h
  have hi' : i < us.length := by have := (List.getElem?_eq_some_iff.1 hi).1; omega
  have hu := List.getElem?_eq_getElem hi'
  obtain ⟨o1, o2, o3⟩ := h3 i _ zs hu hi
  have hlen : us.length = n := by
    rcases h1.2 with ⟨h, _⟩ | ⟨g', cap', cur, h, _⟩
    · injection h with q1 q2 q3; cases q1
    · injection h with q1 q2 q3; exact q2.symm
  rw [hlen] at h1
  refine ⟨us[i], ?_, o1, o2, fun w1 hk => ?_⟩
  · rw [World.ownsRow.cellAt h1 i (by omega)]
    exact hu
  · have r1 : w1.ownsRow 0 t 1 (.slice (some ⟨g, 0, none⟩) n cap) n us := ownsRow_of_block h1 fun r hr => hk.block r (h1.lt r hr).2 fun e => o3 r e hr
    refine ⟨?_, r1.frozenAt i, fun u' zs' ho hpl => ?_⟩
    · rw [World.ownsRow.cellAt r1 i (by omega)]
      exact hu
    · obtain ⟨s1, s2⟩ := r1.stored i u'
      have hgF : F g := h2 g rfl
      have inF : ∀ (j : Nat) (y : Value), us[j]? = some y → In F y := fun j y hj => by
        have hla := (List.getElem?_eq_some_iff.1 hj).1
        exact (h3 j y _ hj (List.getElem?_eq_getElem (by omega))).2.1
      -- the new row lies apart from every row but the old one
      have hap : ∀ y, In F y → Apart us[i] y → Apart u' y := fun y hy ha r hr he => by
        rcases hpl with hpl | hpl
        · exact ha r (hpl ▸ hr) he
        · have h5 := hpl r hr
          have h6 := hlt r (hy r he)
          omega
      have huv : Apart u' (.slice (some ⟨g, 0, none⟩) n cap) := hap _ (fun r hr => by cases hr; exact hgF) o3
      refine ⟨⟨us.set i u', by rw [List.length_set, List.length_set]; exact e1, by rw [List.length_set, hlen]; exact s1, fun r hr => .inl (by cases hr; exact hgF), fun j y z hy hz => ?_, fun j j' y y' hjj hy hy' => ?_⟩, s2⟩
      · by_cases hij : i = j
        · subst hij
          rw [List.getElem?_set_self hi'] at hy
          rw [List.getElem?_set_self (by omega)] at hz
          injection hy with hy; injection hz with hz
          subst hy; subst hz
          exact ⟨⟨ho.1, Nat.zero_le _, ownsRow_of_block ho.2.2 fun r hr => s2.block r (ho.2.2.lt r hr).2 fun e => huv r hr e.symm⟩, fun r hr => .inr hr, huv⟩
        · rw [List.getElem?_set_ne hij] at hy hz
          obtain ⟨p1, p2, p3⟩ := h3 j y z hy hz
          have p1' : Own e k 0 w1 y z := p1.keptF hk fun r hr he => by
            rcases Nat.lt_or_gt_of_ne hij with hlt' | hgt
            · exact h4 i j _ _ hlt' hu hy r he hr
            · exact h4 j i _ _ hgt hy hu r hr he
          exact ⟨⟨p1'.1, Nat.zero_le _, ownsRow_of_block p1'.2.2 fun r hr => s2.block r (p1'.2.2.lt r hr).2 fun e => p3 r hr e.symm⟩, p2.mono fun b hb => .inl hb, p3⟩
      · by_cases hij : i = j
        · subst hij
          rw [List.getElem?_set_self hi'] at hy
          injection hy with hy; subst hy
          rw [List.getElem?_set_ne (by omega)] at hy'
          exact hap y' (inF _ _ hy') (h4 i j' _ _ hjj hu hy')
        · rw [List.getElem?_set_ne hij] at hy
          by_cases hij' : i = j'
          · subst hij'
            rw [List.getElem?_set_self hi'] at hy'
            injection hy' with hy'; subst hy'
            exact (hap y (inF _ _ hy) (h4 j i _ _ hjj hy hu).symm).symm
          · rw [List.getElem?_set_ne hij'] at hy'
            exact h4 j j' y y' hjj hy hy'

theorem refL_set {zss : List (List Int)} {s : List Int} {j : Nat} {zs : List Int} (h : zss[j]? = some zs) {y : List Int} (hy : y = xorl zs ((shB (zrs (zss.getD 0 []).length) s).getD j [])) :
    ((refL zss s).take j ++ zss.drop j).set j y = (refL zss s).take (j + 1) ++ zss.drop (j + 1) := by
  have hj := (List.getElem?_eq_some_iff.1 h).1
  have hlen : ((refL zss s).take j).length = j := by rw [List.length_take, refL_len]; omega
  rw [List.set_append_right _ _ (by omega), hlen, Nat.sub_self, List.drop_eq_getElem_cons hj, List.set_cons_zero, List.take_add_one, refL_get hj, getD_of h, ← hy]
  simp

theorem maxL_fl {zss : List (List Int)} (hn : tot zss ≤ 1099511627776) (j : Nat) : (zss.getD j []).length ≤ 1099511627776 := by
  have := fl_get_le (zss := zss) j
  unfold tot at hn
  omega

set_option maxHeartbeats 2000000 in
/-- impl.RefreshShares. -/
theorem impl_ref {l1 l2 : Nat} {w : World} {u v : Value} {zss : List (List Int)} {ss : List Int} (hu : Rd2 l1 .u8 w u zss) (hv : Rd l2 .i64 w v ss) (hl1 : l1 ≤ w.heap.size) (hl2 : l2 ≤ w.heap.size) (hn : tot zss ≤ 1099511627776) (hs : ss.length ≤ 1099511627776) :
    Calls Try.prog 16 #[u, v] w fun e w' => ∃ v', e = .returned (.tuple #[v', .bool (refOk zss ss)]) ∧ Own2 22 5 .u8 (ival w.heap.size w'.heap.size) w' v' (ref zss ss) ∧ Below w.heap.size w w' := by
  obtain ⟨i0, hi, hz0, hz1, hz2⟩ := info_parts infou8
  have Hhi := Lib.hid hi
  have HU := Lib.hid hu
  have HV := Lib.hid hv
  obtain ⟨a, cap, rfl, h1, h2, _⟩ := hu.open
  obtain ⟨a', cap', rfl, h1', h2', _⟩ := hv.open
  have HN := Lib.hid hn
  have hzl : zss.length ≤ 1099511627776 := by unfold tot at hn; omega
  unfold maxLen at h2 h2'
  have HNo := Lib.hid (ref_no (zss := zss) (s := ss))
  have HJl : Hid ((jsh zss).length ≤ 1099511627776) := Lib.hid (by have := jsh_len zss; unfold tot at hn; omega)
  have HJs := Lib.hid (jsh_len_same (zss := zss))
  clear hu hv hi
  obtain ⟨q, hq⟩ : ∃ q, q = okS zss := ⟨_, rfl⟩
  have HQ := Lib.hid hq
  by_cases hk : refOk zss ss = true
  · have HK := Lib.hid hk
    obtain ⟨k1, k2, k3⟩ := refOk_parts hk
    have hb2 := okS_bounds k1
    have HZ := Lib.hid (zrs_sh hk)
    have HYes := Lib.hid (ref_yes hk)
    have hq1 : q = true := by rw [hq, k1]
    have HL : Hid ((jsh zss).length = (zss.getD 0 []).length) := Lib.hid (HJs.out k1)
    rw [hk]
    subst hq1
    clear hq hk k1
    have e2 : ((ss.length : Int) != (zss.length : Int) - 1) = false := by simp; omega
    go_enter Try.func16, Try.ntmps16
    go_wp2_with fail
    refine (copyList_any HU.out hl1 HN.out).mono ?_
    rintro e w1 ⟨v1, rfl, hO1, hb1⟩
    have HO := Lib.hid hO1
    have HB1 := Lib.hid hb1
    have HU1 := Lib.hid (HU.out.behind (hb1.mono hl1))
    obtain ⟨a1, c1, hv1, _, hc1, hg1⟩ := hO1.open
    obtain ⟨g1, hg1, hF1⟩ := hg1 (by omega)
    subst hg1
    subst hv1
    unfold maxLen at hc1
    clear hO1 hb1 hF1
    go_wp2_with fail
    refine (impl_js HU1.out (Nat.le_trans hl1 HB1.out.size) HN.out).mono ?_
    rw [← HQ.out]
    rintro e w2 ⟨v2, rfl, hO2, hb2'⟩
    replace HO := Lib.hid (HO.out.next hb2')
    have HB2 := Lib.hid (HB1.out.trans (hb2'.mono HB1.out.size))
    have hs12 := Lib.hid hb2'.size
    have hlen2 := hO2.rd.len
    obtain ⟨a2, c2, hv2, _⟩ := hO2.open
    obtain ⟨L, hL⟩ : ∃ L, L = (jsh zss).length := ⟨_, rfl⟩
    rw [← hL] at hv2
    subst hv2
    have hL4 : L ≤ 400 := by rw [hL, HL.out]; exact k3
    have HLe : Hid (L = (zss.getD 0 []).length) := Lib.hid (by rw [hL, HL.out])
    have e3 : decide ((400 : Int) < (L : Int)) = false := by simp; omega
    clear hO2 hb2' hL hlen2 k3
    go_wp2_with (first | (at_make; refine wpList_make_full _ rfl _ _ 22 rfl w2.heap.size 5 i0 (.int .u8 0) 1 Try.underlying22 Hhi.out hz0 hz1 .i64 .i64 _ _ L rfl rfl rfl rfl (by rw [hz2]; omega) (by unfold maxLen; omega) (Nat.le_refl _) ?_))
    intro w3 hown hg
    have hZr := own_made hown hg.size (by decide)
    have HZr : Hid (Own 5 .u8 w2.heap.size w3 (.slice (some ⟨w2.heap.size, 0, none⟩) L L) (zrs L)) := Lib.hid hZr
    have hb3 := (Below.refl w2.heap.size w2).grown hg (Nat.le_refl _) (fun k hk => by cases hk)
    replace HO := Lib.hid (HO.out.next hb3)
    have HB3 := Lib.hid (HB2.out.trans (hb3.mono HB2.out.size))
    have HV3 := Lib.hid (HV.out.behind (HB3.out.mono hl2))
    have hs1 : Hid (w1.heap.size ≤ w3.heap.size) := Lib.hid (by have h5 := hs12.out; have h6 := hb3.size; omega)
    clear hown hg hZr hb3
    go_wp2_with fail
    refine (impl_shB HZr.out.rd HV3.out (Nat.le_refl _) (Nat.le_trans hl2 HB3.out.size) hs).mono ?_
    rintro e w4 ⟨v4, rfl, hO4, hb4⟩
    have hZ := HZ.out
    rw [← HLe.out] at hZ
    obtain ⟨R, hR⟩ : ∃ R, R = shB (zrs L) ss := ⟨_, rfl⟩
    rw [← hR] at hO4 hZ
    have HR : Hid (R = shB (zrs (zss.getD 0 []).length) ss) := Lib.hid (by rw [hR, HLe.out])
    have HRf : Hid (fl R ≤ 2800) := Lib.hid (by rw [hR]; exact shB_fl _ _)
    have HRl := Lib.hid hZ
    have HS := Lib.hid hO4
    replace HO := Lib.hid (HO.out.next hb4)
    have HB4 := Lib.hid (HB3.out.trans (hb4.mono HB3.out.size))
    obtain ⟨a4, c4, hv4, _, hc4, hg4⟩ := hO4.open
    rw [hZ] at hv4 hg4
    obtain ⟨g4, hg4, _⟩ := hg4 (by omega)
    subst hg4
    subst hv4
    unfold maxLen at hc4
    have hs4 : Hid (w3.heap.size ≤ w4.heap.size) := Lib.hid hb4.size
    clear hO4 hb4 hR hZ
    go_wp2_with fail
    go_loopw [40] (fun i wr => ∃ (j : Nat) (F : Nat → Prop), i = .int .i64 j ∧ j ≤ zss.length ∧ Own2 22 5 .u8 F wr (.slice (some ⟨g1, 0, none⟩) zss.length c1) ((refL zss ss).take j ++ zss.drop j) ∧ (∀ b, F b → w.heap.size ≤ b ∧ b < wr.heap.size) ∧ (∀ b, F b → ¬ ival w3.heap.size w4.heap.size b) ∧
      Own2 22 5 .u8 (ival w3.heap.size w4.heap.size) wr (.slice (some ⟨g4, 0, none⟩) zss.length c4) R ∧ w4.heap.size ≤ wr.heap.size ∧ Below w.heap.size w wr) (fun i _ => zss.length - (intOf i).toNat)
    case atStart =>
      exact ⟨0, _, rfl, Nat.zero_le _, by rw [List.take_zero, List.drop_zero]; exact HO.out, fun b hb => by have := hs1.out; have := hs4.out; unfold ival at hb; omega, fun b hb hb' => by have := hs1.out; unfold ival at hb hb'; omega, HS.out, Nat.le_refl _, HB4.out⟩
    case round =>
      obtain ⟨j, F, rfl, hj, hO, hF, hD, hS, hsz, hB⟩ := hrel
      replace HO := Lib.hid hO
      have HF := Lib.hid hF
      have HD := Lib.hid hD
      replace HS := Lib.hid hS
      have HSz := Lib.hid hsz
      have HB := Lib.hid hB
      clear hO hF hD hS hsz hB
      by_cases hlt : j < zss.length
      · have e4 : decide ((j : Int) < (zss.length : Int)) = true := by simp; omega
        obtain ⟨zs, hzs⟩ : ∃ zs, zss[j]? = some zs := ⟨_, List.getElem?_eq_getElem hlt⟩
        have hjR : j < R.length := by rw [HRl.out]; exact hlt
        obtain ⟨ys, hys⟩ : ∃ ys, R[j]? = some ys := ⟨_, List.getElem?_eq_getElem hjR⟩
        have hst : ((refL zss ss).take j ++ zss.drop j)[j]? = some zs := mid_get (by rw [List.length_take, refL_len]; omega) hzs
        obtain ⟨x, cx, ox, ix, hx⟩ := HO.out.swap hst (fun b hb => (HF.out b hb).2)
        obtain ⟨y, cy, oy, iy, _⟩ := HS.out.at hys
        have HApp : Hid (Apart y x) := Lib.hid (Apart.of_in iy ix (fun b hb hb' => HD.out b hb' hb))
        have HOx := Lib.hid ox
        have HOy := Lib.hid oy
        have HIx := Lib.hid ix
        have HX := Lib.hid hx
        have HLn : Hid (zs.length + ys.length ≤ 140737488355328) := Lib.hid (by
          have h5 := row_le hlt
          have h6 := row_le (zss := R) hjR
          rw [getD_of hzs] at h5
          rw [getD_of hys] at h6
          have h7 := HRf.out
          have h8 := HN.out
          unfold tot at h8
          omega)
        have HT : Hid (((refL zss ss).take j ++ zss.drop j).set j (xorl zs ys) = (refL zss ss).take (j + 1) ++ zss.drop (j + 1)) := Lib.hid (refL_set hzs (by rw [← HR.out, getD_of hys]))
        clear hzs hys hst ox oy ix iy hx
        go_wp2_with fail
        refine (xorInto_own HOx.out HOy.out HApp.out HLn.out).mono ?_
        rintro e w5 ⟨v5, rfl, h5, hk5, hp5⟩
        obtain ⟨d1, d2, d3⟩ := HX.out w5 hk5
        obtain ⟨d4, d5⟩ := d3 v5 _ h5 hp5
        rw [HT.out] at d4
        have D4 := Lib.hid d4
        have D5 := Lib.hid d5
        have HK5 := Lib.hid hk5
        have HP5 := Lib.hid hp5
        have HO5 := Lib.hid h5
        obtain ⟨a5, c5, hv5, _⟩ := h5.open
        obtain ⟨L5, hL5⟩ : ∃ L, L = (xorl zs ys).length := ⟨_, rfl⟩
        rw [← hL5] at hv5
        subst hv5
        clear h5 hk5 hp5 d3 d4 d5 hL5
        go_wp2_with fail
        go_roundw
        case rel =>
          have hgF : F g1 := HO.out.in_ g1 rfl
          have hsz5 := HK5.out.size
          have hszs : (w5.setCell ⟨g1, j, none⟩ (.slice a5 L5 c5)).heap.size = w5.heap.size := by simp [World.setCell]
          have hkF : KeptF F wr (w5.setCell ⟨g1, j, none⟩ (.slice a5 L5 c5)) := (HK5.out.mono (fun b hb => HIx.out b hb)).trans (KeptF.of_grown D5.out (fun b hb => by injection hb with hb; subst hb; exact hgF))
          refine ⟨j + 1, _, by simp, hlt, D4.out, fun b hb => ?_, fun b hb hb' => ?_, HS.out.keptF hkF (fun b hb hb' => HD.out b hb' hb), by rw [hszs]; have := HSz.out; omega, ?_⟩
          · rw [hszs]
            rcases hb with hb | hb
            · have := HF.out b hb; omega
            · have h6 := (HO5.out.lt b hb).2
              refine ⟨?_, h6⟩
              rcases HP5.out with h7 | h7
              · rw [h7] at hb
                exact (HF.out b (HIx.out b hb)).1
              · have := h7 b hb
                have := HB.out.size
                omega
          · rcases hb with hb | hb
            · exact HD.out b hb hb'
            · rcases HP5.out with h7 | h7
              · rw [h7] at hb
                exact HD.out b (HIx.out b hb) hb'
              · have h8 := h7 b hb
                have := HSz.out
                unfold ival at hb'
                omega
          · exact HB.out.trans (hkF.below (fun b hb => (HF.out b hb).1) HB.out.size)
        case measure => simp [intOf]; omega
      · have e4 : decide ((j : Int) < (zss.length : Int)) = false := by simp; omega
        have ej : j = zss.length := by omega
        have HE : Hid ((refL zss ss).take j ++ zss.drop j = ref zss ss) := Lib.hid (by
          rw [HYes.out, ej, List.take_of_length_le (by rw [refL_len]; exact Nat.le_refl _), List.drop_length, List.append_nil])
        clear ej
        go_wp2_with fail
        go_ret2
        refine ⟨_, rfl, ?_, HB.out⟩
        rw [← HE.out]
        exact HO.out.mono (fun b hb => HF.out b hb)
  · have hkf : refOk zss ss = false := by simpa using hk
    rw [hkf]
    have HRn := Lib.hid (HNo.out hkf)
    cases q
    · clear hk hkf hq
      go_enter Try.func16, Try.ntmps16
      go_wp2_with fail
      refine (copyList_any HU.out hl1 HN.out).mono ?_
      rintro e w1 ⟨v1, rfl, hO1, hb1⟩
      have HO := Lib.hid hO1
      have HB1 := Lib.hid hb1
      have HU1 := Lib.hid (HU.out.behind (hb1.mono hl1))
      clear hO1 hb1
      go_wp2_with fail
      refine (impl_js HU1.out (Nat.le_trans hl1 HB1.out.size) HN.out).mono ?_
      rw [← HQ.out]
      rintro e w2 ⟨v2, rfl, hO2, hb2'⟩
      replace HO := Lib.hid ((HO.out.next hb2').mono (G := ival w.heap.size w2.heap.size) (fun b hb => by have := hb2'.size; unfold ival at hb ⊢; omega))
      have HB2 := Lib.hid (HB1.out.trans (hb2'.mono HB1.out.size))
      clear hO2 hb2'
      go_wp2_with fail
      go_ret2
      exact ⟨_, rfl, by rw [HRn.out]; exact HO.out, HB2.out⟩
    · have k1 : okS zss = true := hq.symm
      have hb2 := okS_bounds k1
      have HL : Hid ((jsh zss).length = (zss.getD 0 []).length) := Lib.hid (HJs.out k1)
      by_cases hlen : ss.length + 1 = zss.length
      · have hbig : ¬ (zss.getD 0 []).length ≤ 400 := fun h => by rw [refOk_of k1 hlen h] at hkf; cases hkf
        have HBig : Hid (400 < (jsh zss).length) := Lib.hid (by rw [HL.out]; omega)
        have e2 : ((ss.length : Int) != (zss.length : Int) - 1) = false := by simp; omega
        clear hk hkf hq k1 hbig
        go_enter Try.func16, Try.ntmps16
        go_wp2_with fail
        refine (copyList_any HU.out hl1 HN.out).mono ?_
        rintro e w1 ⟨v1, rfl, hO1, hb1⟩
        have HO := Lib.hid hO1
        have HB1 := Lib.hid hb1
        have HU1 := Lib.hid (HU.out.behind (hb1.mono hl1))
        clear hO1 hb1
        go_wp2_with fail
        refine (impl_js HU1.out (Nat.le_trans hl1 HB1.out.size) HN.out).mono ?_
        rw [← HQ.out]
        rintro e w2 ⟨v2, rfl, hO2, hb2'⟩
        replace HO := Lib.hid ((HO.out.next hb2').mono (G := ival w.heap.size w2.heap.size) (fun b hb => by have := hb2'.size; unfold ival at hb ⊢; omega))
        have HB2 := Lib.hid (HB1.out.trans (hb2'.mono HB1.out.size))
        obtain ⟨a2, c2, hv2, _⟩ := hO2.open
        obtain ⟨L, hL⟩ : ∃ L, L = (jsh zss).length := ⟨_, rfl⟩
        rw [← hL] at hv2
        subst hv2
        have hL4 : 400 < L := by rw [hL]; exact HBig.out
        have hL5 : L ≤ 1099511627776 := by rw [hL]; exact HJl.out
        have e3 : decide ((400 : Int) < (L : Int)) = true := by simp; omega
        clear hO2 hb2' hL
        go_wp2_with fail
        go_ret2
        exact ⟨_, rfl, by rw [HRn.out]; exact HO.out, HB2.out⟩
      · have e2 : ((ss.length : Int) != (zss.length : Int) - 1) = true := by simp; omega
        clear hk hkf hq k1 hlen
        go_enter Try.func16, Try.ntmps16
        go_wp2_with fail
        refine (copyList_any HU.out hl1 HN.out).mono ?_
        rintro e w1 ⟨v1, rfl, hO1, hb1⟩
        have HO := Lib.hid hO1
        have HB1 := Lib.hid hb1
        have HU1 := Lib.hid (HU.out.behind (hb1.mono hl1))
        clear hO1 hb1
        go_wp2_with fail
        refine (impl_js HU1.out (Nat.le_trans hl1 HB1.out.size) HN.out).mono ?_
        rw [← HQ.out]
        rintro e w2 ⟨v2, rfl, hO2, hb2'⟩
        replace HO := Lib.hid ((HO.out.next hb2').mono (G := ival w.heap.size w2.heap.size) (fun b hb => by have := hb2'.size; unfold ival at hb ⊢; omega))
        have HB2 := Lib.hid (HB1.out.trans (hb2'.mono HB1.out.size))
        clear hO2 hb2'
        go_wp2_with fail
        go_ret2
        exact ⟨_, rfl, by rw [HRn.out]; exact HO.out, HB2.out⟩

end Go.Proofs.Ytlcdgiphbknibaa
