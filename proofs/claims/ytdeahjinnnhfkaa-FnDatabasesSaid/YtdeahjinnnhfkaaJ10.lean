import Derived.Test.YtdeahjinnnhfkaaDb1
import Derived.Test.YtdeahjinnnhfkaaRdStep
import Derived.Laws.AppendOwn
import Derived.Laws.AppendOwnNone
import Derived.RegionTactic

/- ReadRow, the program's and the document's: what each gives. No conditions but a size that a machine holds. -/
section
namespace Go.Proofs.Ytdeahjinnnhfkaa
open Go Go.RowKit
set_option linter.unusedVariables false
attribute [local irreducible] kh

theorem row_fl {zss : List (List Int)} (hn : tot zss ≤ 1099511627776) {j : Nat} {zs : List Int} (h : zss[j]? = some zs) : zs.length ≤ 1099511627776 := by
  have := tot_at h; omega

set_option maxHeartbeats 1000000 in
/-- impl.ReadRow -/
theorem impl_rr {lim : Nat} {w : World} {v : Value} {zss : List (List Int)} {i : Int} (h : Rd2 lim .u8 w v zss) (hlim : lim ≤ w.heap.size) (hi : (Lit.int .i64 i).wf = true) (hn : tot zss ≤ 1099511627776) :
    Calls Try.prog 22 #[.agg #[v], .int .i64 i] w fun e w' => ∃ v', e = .returned (.tuple #[v', .bool (hasR zss i)]) ∧ Own 5 .u8 w.heap.size w' v' (rdR zss i) ∧ Below w.heap.size w w' := by
  obtain ⟨a, cap, rfl, h1, h2, hc⟩ := h.open
  have HB := Lib.hid ((Below.refl w.heap.size w).alloc (Nat.le_refl _) (.cells #[.slice a zss.length cap] 30))
  have HBk := Lib.hid (heap_alloc_new w (.cells #[.slice a zss.length cap] 30))
  unfold maxLen at h2
  have Hc := Lib.hid hc
  have HW := Lib.hid hi
  have HN := Lib.hid hn
  have hzl : zss.length ≤ 1099511627776 := by unfold tot at hn; omega
  clear h hc hi hn
  by_cases hk : hasR zss i = true
  · obtain ⟨k, rfl, hlt⟩ := hasR_iff.1 hk
    have HK := Lib.hid hk
    obtain ⟨b, o, rfl, hbl, hcell⟩ := Hc.out (by omega)
    obtain ⟨zs, hzs⟩ : ∃ zs, zss[k]? = some zs := ⟨_, List.getElem?_eq_getElem hlt⟩
    have HE : Hid (rdR zss (k : Int) = zs) := Lib.hid (by rw [rdR_yes hlt, getD_of hzs])
    have HLz : Hid (zs.length ≤ 140737488355328) := Lib.hid (by have := row_fl HN.out hzs; omega)
    have HC := Lib.hid hcell
    have HZ := Lib.hid hzs
    have hlt' : (k : Int) < (zss.length : Int) := by omega
    rw [hk]
    clear hk hcell hzs
    go_enter Try.func22, Try.ntmps22
    go_wp2_with fail
    refine (hasRow_any HW.out (by omega)).mono ?_
    rw [HK.out]
    rintro e w1 ⟨rfl, hb1⟩
    have HB1 := Lib.hid (HB.out.trans (hb1.mono HB.out.size))
    have hK1 := (hb1.block w.heap.size (by simp)).trans HBk.out
    have cD := blk_cell hK1 0
    rw [one0] at cD
    obtain ⟨u, c1, hr⟩ := HC.out w1 (HB1.out.mono hlim) k zs HZ.out
    have Hr := Lib.hid hr
    clear hb1 hK1 hr
    go_wp2_with fail
    refine (copyBytes_any Hr.out (Nat.le_trans hlim HB1.out.size) HLz.out).mono ?_
    rintro e w2 ⟨v2, rfl, h2, hb2⟩
    have H2 := Lib.hid (h2.mono HB1.out.size)
    have HB2 := Lib.hid (HB1.out.trans (hb2.mono HB1.out.size))
    clear h2 hb2
    go_wp2_with fail
    go_ret2
    exact ⟨_, rfl, by rw [HE.out]; exact H2.out, HB2.out⟩
  · have hkf : hasR zss i = false := by simpa using hk
    have HK := Lib.hid hkf
    rw [hkf]
    have HE : Hid (rdR zss i = []) := Lib.hid (rdR_no hkf)
    clear hk hkf
    go_enter Try.func22, Try.ntmps22
    go_wp2_with fail
    refine (hasRow_any HW.out (by omega)).mono ?_
    rw [HK.out]
    rintro e w1 ⟨rfl, hb1⟩
    have HB1 := Lib.hid (HB.out.trans (hb1.mono HB.out.size))
    clear hb1
    go_wp2_with fail
    go_ret2
    exact ⟨_, rfl, by rw [HE.out]; exact Own.lit _ _ HB1.out.size, HB1.out.alloc HB1.out.size _⟩

set_option maxHeartbeats 1000000 in
/-- spec.ReadRow -/
theorem spec_rr {lim : Nat} {w : World} {v : Value} {zss : List (List Int)} {i : Int} (h : Rd2 lim .u8 w v zss) (hlim : lim ≤ w.heap.size) (hi : (Lit.int .i64 i).wf = true) (hn : tot zss ≤ 1099511627776) :
    Calls Try.prog 35 #[.agg #[v], .int .i64 i] w fun e w' => ∃ v', e = .returned (.tuple #[v', .bool (hasR zss i)]) ∧ Own 5 .u8 w.heap.size w' v' (rdR zss i) ∧ Below w.heap.size w w' := by
  obtain ⟨i0, hi0, hz0, hz1, hz2⟩ := info_parts infou8
  have Hhi := Lib.hid hi0
  obtain ⟨a, cap, rfl, h1, h2, hc⟩ := h.open
  have HB := Lib.hid ((Below.refl w.heap.size w).alloc (Nat.le_refl _) (.cells #[.slice a zss.length cap] 30))
  have HBk := Lib.hid (heap_alloc_new w (.cells #[.slice a zss.length cap] 30))
  unfold maxLen at h2
  have Hc := Lib.hid hc
  have HW := Lib.hid hi
  have HN := Lib.hid hn
  have hzl : zss.length ≤ 1099511627776 := by unfold tot at hn; omega
  have e0 : wrap64 ((zss.length : Int) - 1) = (zss.length : Int) - 1 := by unfold wrap64; omega
  clear h hc hi hn hi0
  by_cases hk : hasR zss i = true
  · obtain ⟨k, rfl, hlt⟩ := hasR_iff.1 hk
    have HK := Lib.hid hk
    obtain ⟨b, o, rfl, hbl, hcell⟩ := Hc.out (by omega)
    obtain ⟨zs, hzs⟩ : ∃ zs, zss[k]? = some zs := ⟨_, List.getElem?_eq_getElem hlt⟩
    have HE : Hid (rdR zss (k : Int) = zs) := Lib.hid (by rw [rdR_yes hlt, getD_of hzs])
    have HLz : Hid (zs.length ≤ 140737488355328) := Lib.hid (by have := row_fl HN.out hzs; omega)
    have HC := Lib.hid hcell
    have HZ := Lib.hid hzs
    have hlt' : (k : Int) < (zss.length : Int) := by omega
    rw [hk]
    clear hk hcell hzs
    go_enter Try.func35, Try.ntmps35
    go_wp2_with fail
    refine (spec_in _ _ _ _ HW.out).mono ?_
    rw [inR_hasR, HK.out]
    rintro e w1 ⟨rfl, hw1⟩
    obtain ⟨w2, hw2⟩ : ∃ w2, w2 = w.alloc (.cells #[.slice (some ⟨b, o, none⟩) zss.length cap] 30) := ⟨_, rfl⟩
    rw [← hw2] at hw1 HB HBk
    subst hw1
    have HB3 := Lib.hid (HB.out.alloc HB.out.size (.cells #[] 5))
    have hK1 := (heap_alloc_old w1 (.cells #[] 5) (lt_of_block HBk.out)).trans HBk.out
    have cD := blk_cell hK1 0
    rw [one0] at cD
    obtain ⟨u, c1, hr⟩ := HC.out _ (HB3.out.mono hlim) k zs HZ.out
    have Hr := Lib.hid hr
    have HO : Hid (Own 5 .u8 w.heap.size (w1.alloc (.cells #[] 5)) (.slice (some ⟨w1.heap.size, 0, none⟩) 0 0) []) := Lib.hid (Own.lit _ _ HB.out.size)
    clear hw2 hK1 hr
    go_wp2_with (first | (at_builtin; refine append_rd _ rfl _ _ 22 rfl 5 i0 (.int .u8 0) 1 Try.underlying22 Hhi.out hz0 hz1 hz2 rfl (by omega) rfl HO.out rfl Hr.out (by have := HLz.out; simpa using this) ?_))
    intro v5 w5 h5 hg5
    have H5 := Lib.hid h5
    have HB5 := Lib.hid (HB3.out.trans (HO.out.below (Nat.le_refl _) hg5))
    clear h5 hg5
    go_wp2_with fail
    go_ret2
    exact ⟨_, rfl, by rw [HE.out]; exact H5.out, HB5.out⟩
  · have hkf : hasR zss i = false := by simpa using hk
    have HK := Lib.hid hkf
    rw [hkf]
    have HE : Hid (rdR zss i = []) := Lib.hid (rdR_no hkf)
    clear hk hkf
    go_enter Try.func35, Try.ntmps35
    go_wp2_with fail
    refine (spec_in _ _ _ _ HW.out).mono ?_
    rw [inR_hasR, HK.out]
    rintro e w1 ⟨rfl, hw1⟩
    obtain ⟨w2, hw2⟩ : ∃ w2, w2 = w.alloc (.cells #[.slice a zss.length cap] 30) := ⟨_, rfl⟩
    rw [← hw2] at hw1 HB HBk
    subst hw1
    clear hw2
    go_wp2_with fail
    go_ret2
    exact ⟨_, rfl, by rw [HE.out]; exact Own.lit _ _ HB.out.size, HB.out.alloc HB.out.size _⟩

end Go.Proofs.Ytdeahjinnnhfkaa
end

/- append to a row of the call's own: at an operation, at a guarded operation. No program. -/
section
namespace Go.Proofs.Ytdeahjinnnhfkaa
open Go Go.RowKit
set_option linter.unusedVariables false

theorem wp_append_rd {P : Program} (w : World) {o : Oper} {a : Act} {K : Act → World → Prop} {Q : Exit → Act → World → Prop} (s x : Operand) (t : TypeId)
    (ho : o.op = .call { callee := .builtin .append, args := #[s, x], argTypes := #[t, t] }) (e : TypeId) (i : TypeInfo) (z : Value) (bytes : Nat) (ht : P.underlying t = some (.slice e)) (hi : P.info? e = some i) (hz : i.zero = some z)
    (hsize : i.size = 1) (hby : i.bytes = bytes) (hzs : z.cells.size = 1) (hb1 : 1 ≤ bytes) {k : IntKind} {B lim : Nat} {v u : Value} {xs ys : List Int} (hs : a.eval s = v) (hown : Own e k B w v xs)
    (hx : a.eval x = u) (hu : Rd lim k w u ys) (hle : (xs.length + ys.length) * bytes ≤ 140737488355328)
    (h : ∀ v' w', Own e k B w' v' (xs ++ ys) → w.grownBy w' v.ownBlock → K (a.put o.dst v') w') : Oper.wp P o a w K Q := by
  obtain ⟨uw, ua, ucap, rfl, u1, u2, u3⟩ := hu
  obtain ⟨vw, vB, vo⟩ := hown
  have hm : xs.length + ys.length ≤ maxLen := by
    have : (xs.length + ys.length) * 1 ≤ (xs.length + ys.length) * bytes := Nat.mul_le_mul_left _ hb1
    unfold maxLen; omega
  have key : ∀ v' w', w'.ownsRow B e 1 v' (xs.length + ys.length) (xs.map (Value.int k) ++ ys.map (Value.int k)) → w.grownBy w' v.ownBlock → K (a.put o.dst v') w' := fun v' w' h1 h2 =>
    h v' w' ⟨by intro n hn; rcases List.mem_append.1 hn with h | h; exact vw n h; exact uw n h, Nat.le_trans vB h2.size, by simpa using h1⟩ h2
  rcases u3 with ⟨rfl, rfl⟩ | ⟨y, rfl, hc, hbl⟩
  · have hy : ys = [] := List.eq_nil_of_length_eq_zero (by omega)
    subst hy
    have hrun := run_append_owned_none (P := P) (w := w) B t o.type e i 1 ht hi v xs.length _ vo
    unfold Oper.wp
    simp only [List.length_nil] at hx
    simp [execOp, ho, resolve, invoke, builtin, hs, hx, hrun, Result.andThen]
    exact key v w (by simpa using vo) (World.grownBy.refl _ _)
  · refine wp_append_own w s x t ho B e i z 1 bytes ht hi hz hsize hby hzs (by decide) v xs.length _ hs vo y ys.length ucap (ys.map (Value.int k)) hx (by simp) ?_ ?_ hm hle vB ?_
    · intro j n hn
      rw [List.getElem?_map] at hn
      rcases hj : ys[j]? with _ | q
      · simp [hj] at hn
      · simp [hj] at hn
        have hlt : j < ys.length := (List.getElem?_eq_some_iff.1 hj).1
        rw [hc j hlt, List.getD_eq_getElem?_getD, hj]
        simpa using hn
    · intro n hn
      obtain ⟨q, _, rfl⟩ := List.mem_map.1 hn
      rfl
    · intro v' w' h1 h2 _
      exact key v' w' h1 h2

/-- At a guarded operation of a plain region. -/
theorem append_rdg {P : Program} (w : World) {ops : Array Oper} {rest : List Oper} {o : Oper} {a : Act} {Q : Exit → Act → World → Prop} (hw : Region.wanted o (yielded ops a.tmps) = true) (s x : Operand) (t : TypeId)
    (ho : o.op = .call { callee := .builtin .append, args := #[s, x], argTypes := #[t, t] }) (e : TypeId) (i : TypeInfo) (z : Value) (bytes : Nat) (ht : P.underlying t = some (.slice e)) (hi : P.info? e = some i) (hz : i.zero = some z)
    (hsize : i.size = 1) (hby : i.bytes = bytes) (hzs : z.cells.size = 1) (hb1 : 1 ≤ bytes) {k : IntKind} {B lim : Nat} {v u : Value} {xs ys : List Int} (hs : a.eval s = v) (hown : Own e k B w v xs)
    (hx : a.eval x = u) (hu : Rd lim k w u ys) (hle : (xs.length + ys.length) * bytes ≤ 140737488355328)
    (h : ∀ v' w', Own e k B w' v' (xs ++ ys) → w.grownBy w' v.ownBlock → wpList P ops Q rest (a.put o.dst v') w') : wpList P ops Q (o :: rest) a w :=
  wpList_step fun K hK => by
    rw [if_pos hw]
    exact wp_append_rd w s x t ho e i z bytes ht hi hz hsize hby hzs hb1 hs hown hx hu hle fun v' w' h1 h2 => hK _ _ (h v' w' h1 h2)

/-- At a step of a region that draws its order, of any slice that reads these. -/
theorem step_append_rds {P : Program} (w : World) {ops : Array Oper} {o : Oper} {a : Act} {K : Act → World → Prop} {Q : Exit → Act → World → Prop} {E : Prop} (hgd : o.guard = none) (s x : Operand) (t : TypeId)
    (ho : o.op = .call { callee := .builtin .append, args := #[s, x], argTypes := #[t, t] }) (e : TypeId) (i : TypeInfo) (z : Value) (bytes : Nat) (ht : P.underlying t = some (.slice e)) (hi : P.info? e = some i) (hz : i.zero = some z)
    (hsize : i.size = 1) (hby : i.bytes = bytes) (hzs : z.cells.size = 1) (hb1 : 1 ≤ bytes) {k : IntKind} {B lim : Nat} {v u : Value} {xs ys : List Int} (hs : a.eval s = v) (hown : Own e k B w v xs)
    (hx : a.eval x = u) (hu : Rd lim k w u ys) (hle : (xs.length + ys.length) * bytes ≤ 140737488355328)
    (h : ∀ v' w', Own e k B w' v' (xs ++ ys) → w.grownBy w' v.ownBlock → K (a.put o.dst v') w') :
    if Region.wanted o (yielded ops a.tmps) = true then Oper.wp P o a w K Q else E := by
  have hw : Region.wanted o (yielded ops a.tmps) = true := by simp [Region.wanted, hgd]
  rw [if_pos hw]
  exact wp_append_rd w s x t ho e i z bytes ht hi hz hsize hby hzs hb1 hs hown hx hu hle h

/-- A store into a row of the call's own. -/
theorem Own.set {e : TypeId} {k : IntKind} {B : Nat} {w : World} {g cap : Nat} {zs : List Int} {x : Int} (h : Own e k B w (.slice (some ⟨g, 0, none⟩) zs.length cap) zs) (hx : (Lit.int k x).wf = true) (j : Nat) :
    Own e k B (w.setCell ⟨g, j, none⟩ (.int k x)) (.slice (some ⟨g, 0, none⟩) zs.length cap) (zs.set j x) ∧ w.grownBy (w.setCell ⟨g, j, none⟩ (.int k x)) (some g) := by
  obtain ⟨hw, hB, ho⟩ := h
  obtain ⟨h1, h2⟩ := ho.stored j (.int k x)
  rw [← List.map_set] at h1
  refine ⟨⟨?_, Nat.le_trans hB h2.size, by rw [List.length_set]; exact h1⟩, h2⟩
  intro z hz
  rcases List.mem_or_eq_of_mem_set hz with h | rfl
  · exact hw z h
  · exact hx

end Go.Proofs.Ytdeahjinnnhfkaa
end
