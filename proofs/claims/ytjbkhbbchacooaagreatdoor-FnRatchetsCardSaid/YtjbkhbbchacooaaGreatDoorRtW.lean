/- Chapter 19's contracts in the words of the exact laws: NewRatchet, IsValidRatchet, MessageKey, NextChain, Advance, KeyForStep, SealStep, EqualRatchets. No conditions but numbers and lengths that a machine holds. -/
import Derived.Test.YtjbkhbbchacooaaGreatDoorRt6
import Derived.Test.YtjbkhbbchacooaaGreatDoorRt8
import Derived.Test.YtjbkhbbchacooaaGreatDoorRt9
import Derived.Test.YtjbkhbbchacooaaGreatDoorRt10
import Derived.Test.YtjbkhbbchacooaaGreatDoorBaX
namespace Go.Proofs.YtjbkhbbchacooaaGreatDoor
open Go Go.RowKit
set_option linter.unusedVariables false
set_option maxRecDepth 20000
attribute [local irreducible] kh kid

theorem nrC_wf {k : Int} (h : (Lit.int .i64 k).wf = true) : (Lit.int .i64 (nrC k)).wf = true := by
  unfold nrC; split
  · exact h
  · decide
theorem adC_wf {c s : Int} {xs : Kept} (h : (Lit.int .i64 c).wf = true) : (Lit.int .i64 (adC c s xs)).wf = true := by
  unfold adC; split
  · exact nxc_wf _
  · exact h
theorem adS_wf {c s : Int} {xs : Kept} (h : (Lit.int .i64 s).wf = true) : (Lit.int .i64 (adS c s xs)).wf = true := by
  unfold adS; split
  · rename_i hq
    unfold adq at hq
    rw [Bool.and_eq_true] at hq
    have := (okR_iff.1 hq.1).2.1
    exact wf_i64_of (by omega) (by omega)
  · exact h
theorem ssC_wf {c s : Int} {xs : Kept} {b : List Int} (h : (Lit.int .i64 c).wf = true) : (Lit.int .i64 (ssC c s xs b)).wf = true := by
  unfold ssC; split
  · exact nxc_wf _
  · exact h
theorem ssS_wf {c s : Int} {xs : Kept} {b : List Int} (h : (Lit.int .i64 s).wf = true) : (Lit.int .i64 (ssS c s xs b)).wf = true := by
  unfold ssS; split
  · rename_i hq
    unfold ssq adq at hq
    rw [Bool.and_eq_true, Bool.and_eq_true] at hq
    have := (okR_iff.1 hq.1.1).2.1
    exact wf_i64_of (by omega) (by omega)
  · exact h
theorem kfC_wf {c s t : Int} {xs : Kept} (h : (Lit.int .i64 c).wf = true) : (Lit.int .i64 (kfC c s xs t)).wf = true := by
  unfold kfC; split
  · rename_i hq
    unfold kfn at hq
    rw [Bool.and_eq_true] at hq
    have := chn_bound (okR_iff.1 hq.1).1 ((t - s).toNat + 1)
    exact wf_i64_of (by omega) (by omega)
  · exact h
theorem kfS_wf {c s t : Int} {xs : Kept} (h : (Lit.int .i64 s).wf = true) : (Lit.int .i64 (kfS c s xs t)).wf = true := by
  unfold kfS; split
  · rename_i hq
    unfold kfn at hq
    simp only [Bool.and_eq_true, decide_eq_true_eq] at hq
    have := (okR_iff.1 hq.1).2.1
    exact wf_i64_of (by omega) (by omega)
  · exact h

section
variable {l : Nat} {w : World} {c : List Value} {x : VRatchet}
theorem rat_len (h : tyRatchet.tot x ≤ 1048576) : x.2.2.length ≤ 1048576 := by
  have h1 : totL tySkippedKey x.2.2 ≤ 1048576 := h
  have h2 : totL tySkippedKey x.2.2 = x.2.2.length := totL_flat (fun _ => rfl) x.2.2
  omega
theorem rat_own {B : Nat} {v : Value} {c s : Int} {xs : Kept} (hc : (Lit.int .i64 c).wf = true) (hs : (Lit.int .i64 s).wf = true) (h : OwnS kepE 61 B w v xs) : tyRatchet.own (fun b => v.ownBlock = some b) w [.int .i64 c, .int .i64 s, v] (c, s, xs) :=
  int_own (p := (c, s, xs)) hc (int_own (p := (s, xs)) hs (slo_of_ownS_in kep_flat h (fun r hr => hr)))

theorem spec_vr_t (h : tyRatchet.rd l w c x) (hl : l ≤ w.heap.size) : Calls Tryz.prog 63 #[.agg c.toArray] w fun e w' => e = .returned (.bool (okR x.1 x.2.1 x.2.2)) ∧ Below w.heap.size w w' := by
  obtain ⟨a, n, rfl, h0, h1, h2⟩ := rd_Ratchet h
  exact spec_vr (rds_of_sl kep_flat h2) hl h0 h1
theorem spec_mk_t {k : Int} (hk : (Lit.int .i64 k).wf = true) : Calls Tryz.prog 64 #[.int .i64 k] w fun e w' => e = .returned (.int .i64 (mky k)) ∧ Below w.heap.size w w' := spec_mky hk
theorem spec_nx_t {k : Int} (hk : (Lit.int .i64 k).wf = true) : Calls Tryz.prog 65 #[.int .i64 k] w fun e w' => e = .returned (.int .i64 (nxc k)) ∧ Below w.heap.size w w' := spec_nx hk
theorem spec_kf_t {t : Int} (h : tyRatchet.rd l w c x) (hl : l ≤ w.heap.size) (ht : (Lit.int .i64 t).wf = true) (hz : tyRatchet.tot x ≤ 1048576) : Calls Tryz.prog 41 #[.agg c.toArray, .int .i64 t] w fun e w' => ∃ (c' : List Value) (F : Nat → Prop), e = .returned (.tuple #[.agg c'.toArray, .int .i64 (kfM x.1 x.2.1 x.2.2 t), .bool (kfq x.1 x.2.1 x.2.2 t)]) ∧ tyRatchet.own F w' c' (kfC x.1 x.2.1 x.2.2 t, kfS x.1 x.2.1 x.2.2 t, kfL x.1 x.2.1 x.2.2 t) ∧ (∀ b, F b → w.heap.size ≤ b ∧ b < w'.heap.size) ∧ Below w.heap.size w w' := by
  obtain ⟨a, n, rfl, h0, h1, h2⟩ := rd_Ratchet h
  refine (spec_kf (rds_of_sl kep_flat h2) hl h0 h1 ht (rat_len hz)).mono ?_
  rintro e w' ⟨v, he, hO, hb⟩
  exact ⟨[.int .i64 _, .int .i64 _, v], _, he, rat_own (kfC_wf h0) (kfS_wf h1) hO, fun b h => hO.lt b h, hb⟩
theorem impl_nr_t {k : Int} (hk : (Lit.int .i64 k).wf = true) : Calls Tryz.prog 6 #[.int .i64 k] w fun e w' => ∃ (c' : List Value) (F : Nat → Prop), e = .returned (.agg c'.toArray) ∧ tyRatchet.own F w' c' (nrC k, 0, []) ∧ (∀ b, F b → w.heap.size ≤ b ∧ b < w'.heap.size) ∧ Below w.heap.size w w' := by
  refine (impl_nr hk).mono ?_
  rintro e w' ⟨he, hb⟩
  exact ⟨[.int .i64 (nrC k), .int .i64 0, .slice none 0 0], _, he, rat_own (nrC_wf hk) (by decide) (OwnS.nil kepE _ (B := w.heap.size) hb.size), (fun b h => (by cases h)), hb⟩
theorem impl_vr_t (h : tyRatchet.rd l w c x) (hl : l ≤ w.heap.size) : Calls Tryz.prog 12 #[.agg c.toArray] w fun e w' => e = .returned (.bool (okR x.1 x.2.1 x.2.2)) ∧ Below w.heap.size w w' := by
  obtain ⟨a, n, rfl, h0, h1, h2⟩ := rd_Ratchet h
  exact impl_vr (rds_of_sl kep_flat h2) hl h0 h1
theorem impl_mk_t {k : Int} (hk : (Lit.int .i64 k).wf = true) : Calls Tryz.prog 15 #[.int .i64 k] w fun e w' => e = .returned (.int .i64 (mky k)) ∧ Below w.heap.size w w' := impl_mky hk
theorem impl_nx_t {k : Int} (hk : (Lit.int .i64 k).wf = true) : Calls Tryz.prog 16 #[.int .i64 k] w fun e w' => e = .returned (.int .i64 (nxc k)) ∧ Below w.heap.size w w' := impl_nx hk
theorem impl_ad_t (h : tyRatchet.rd l w c x) (hl : l ≤ w.heap.size) (hz : tyRatchet.tot x ≤ 1048576) : Calls Tryz.prog 28 #[.agg c.toArray] w fun e w' => ∃ (c' : List Value) (F : Nat → Prop), e = .returned (.tuple #[.agg c'.toArray, .int .i64 (adM x.1 x.2.1 x.2.2), .bool (adq x.1 x.2.1 x.2.2)]) ∧ tyRatchet.own F w' c' (adC x.1 x.2.1 x.2.2, adS x.1 x.2.1 x.2.2, x.2.2) ∧ (∀ b, F b → w.heap.size ≤ b ∧ b < w'.heap.size) ∧ Below w.heap.size w w' := by
  obtain ⟨a, n, rfl, h0, h1, h2⟩ := rd_Ratchet h
  refine (impl_ad (rds_of_sl kep_flat h2) hl h0 h1 (rat_len hz)).mono ?_
  rintro e w' ⟨v, he, hO, hb⟩
  exact ⟨[.int .i64 _, .int .i64 _, v], _, he, rat_own (adC_wf h0) (adS_wf h1) hO, fun b h => hO.lt b h, hb⟩
theorem impl_kf_t {t : Int} (h : tyRatchet.rd l w c x) (hl : l ≤ w.heap.size) (ht : (Lit.int .i64 t).wf = true) (hz : tyRatchet.tot x ≤ 1048576) : Calls Tryz.prog 14 #[.agg c.toArray, .int .i64 t] w fun e w' => ∃ (c' : List Value) (F : Nat → Prop), e = .returned (.tuple #[.agg c'.toArray, .int .i64 (kfM x.1 x.2.1 x.2.2 t), .bool (kfq x.1 x.2.1 x.2.2 t)]) ∧ tyRatchet.own F w' c' (kfC x.1 x.2.1 x.2.2 t, kfS x.1 x.2.1 x.2.2 t, kfL x.1 x.2.1 x.2.2 t) ∧ (∀ b, F b → w.heap.size ≤ b ∧ b < w'.heap.size) ∧ Below w.heap.size w w' := by
  obtain ⟨a, n, rfl, h0, h1, h2⟩ := rd_Ratchet h
  refine (impl_kf (rds_of_sl kep_flat h2) hl h0 h1 ht (rat_len hz)).mono ?_
  rintro e w' ⟨v, he, hO, hb⟩
  exact ⟨[.int .i64 _, .int .i64 _, v], _, he, rat_own (kfC_wf h0) (kfS_wf h1) hO, fun b h => hO.lt b h, hb⟩
theorem impl_ss_t {l2 : Nat} {t : TypeId} {u : Value} {zs : List Int} (h : tyRatchet.rd l w c x) (hl : l ≤ w.heap.size) (k : (sliceT t u8T).rd l2 w [u] zs) (hl2 : l2 ≤ w.heap.size) (hz : tyRatchet.tot x ≤ 1048576) : Calls Tryz.prog 8 #[.agg c.toArray, u] w fun e w' => ∃ (c1 : List Value) (v2 : Value) (F1 F2 : Nat → Prop), e = .returned (.tuple #[.agg c1.toArray, .int .i64 (ssN x.1 x.2.1 x.2.2 zs), v2, .bool (ssq x.1 x.2.1 x.2.2 zs)]) ∧ tyRatchet.own F1 w' c1 (ssC x.1 x.2.1 x.2.2 zs, ssS x.1 x.2.1 x.2.2 zs, x.2.2) ∧ (sliceT 5 u8T).own F2 w' [v2] (ssB x.1 x.2.1 x.2.2 zs) ∧ (∀ b, F1 b → w.heap.size ≤ b ∧ b < w'.heap.size) ∧ (∀ b, F2 b → w.heap.size ≤ b ∧ b < w'.heap.size) ∧ (∀ b, F1 b → ¬ F2 b) ∧ Below w.heap.size w w' := by
  obtain ⟨a, n, rfl, h0, h1, h2⟩ := rd_Ratchet h
  refine (impl_ss (rds_of_sl kep_flat h2) hl h0 h1 (rd_of_sl k) hl2 (rat_len hz)).mono ?_
  rintro e w' ⟨v, u', he, hO, hU, hb⟩
  exact ⟨[.int .i64 _, .int .i64 _, v], u', _, (fun b => u'.ownBlock = some b), he, rat_own (ssC_wf h0) (ssS_wf h1) hO, slo_of_own_in hU (fun b h => h), fun b h => hO.lt b h, fun b h => hU.lt b h, fun b h h' => rows_apart (by decide) hO hU b h h', hb⟩
theorem impl_er_t {l2 : Nat} {d : List Value} {y : VRatchet} (h : tyRatchet.rd l w c x) (hl : l ≤ w.heap.size) (k : tyRatchet.rd l2 w d y) (hl2 : l2 ≤ w.heap.size) : Calls Tryz.prog 13 #[.agg c.toArray, .agg d.toArray] w fun e w' => e = .returned (.bool (eqRt x.1 x.2.1 x.2.2 y.1 y.2.1 y.2.2)) ∧ Below w.heap.size w w' := by
  obtain ⟨a, n, rfl, h0, h1, h2⟩ := rd_Ratchet h
  obtain ⟨a', n', rfl, k0, k1, k2⟩ := rd_Ratchet k
  exact impl_er (rds_of_sl kep_flat h2) (rds_of_sl kep_flat k2) hl hl2
end

/-! ### How many marks -/
theorem cnt_keps (xs : Kept) : cntL tySkippedKey xs = 2 * xs.length := by
  induction xs with
  | nil => rfl
  | cons c l ih =>
    have : cntL tySkippedKey (c :: l) = 2 + cntL tySkippedKey l := rfl
    rw [this, ih, List.length_cons]; omega
theorem vb_rt {x : VRatchet} (h : tyRatchet.tot x ≤ 1048576) : tyRatchet.vcnt x ≤ 1099511627776 := by
  show cntL tySkippedKey x.2.2 ≤ _
  have := rat_len h
  rw [cnt_keps]; omega
theorem vb_ra {x : VRatchet} (h : tyRatchet.tot x ≤ 1048576) (a b : Int) : tyRatchet.vcnt (a, b, x.2.2) ≤ 1099511627776 := vb_rt (x := x) h
theorem vb_r0 (a b : Int) : tyRatchet.vcnt (a, b, []) ≤ 1099511627776 := by
  show cntL tySkippedKey [] ≤ _
  decide
theorem vb_kf {x : VRatchet} (h : tyRatchet.tot x ≤ 1048576) (a b t : Int) : tyRatchet.vcnt (a, b, kfL x.1 x.2.1 x.2.2 t) ≤ 1099511627776 := by
  show cntL tySkippedKey (kfL x.1 x.2.1 x.2.2 t) ≤ _
  have := rat_len h
  have := kfL_len x.1 x.2.1 x.2.2 t
  rw [cnt_keps]; omega
theorem vb_rb {e : TypeId} {xs : List Int} (h : xs.length ≤ 1048576) : (sliceT e u8T).vcnt xs ≤ 1099511627776 := by
  show cntL u8T xs ≤ _
  have e : cntL u8T xs = xs.length := cntL_int _ _ _ _
  rw [e]; omega
theorem vb_ssb (e : TypeId) (c s : Int) (xs : Kept) (b : List Int) : (sliceT e u8T).vcnt (ssB c s xs b) ≤ 1099511627776 := by
  refine vb_rb ?_
  unfold ssB
  split
  · have := sealL_len (mky c) s 1 b; omega
  · simp

end Go.Proofs.YtjbkhbbchacooaaGreatDoor
