/- FnQueriesHide: the walk. No conditions. -/
import Derived.Test.YtgkacdaimhdcoaaBaD
import Derived.Test.YtgkacdaimhdcoaaBa4
import Derived.Test.YtgkacdaimhdcoaaQu3
import Derived.Test.YtgkacdaimhdcoaaQu4
import Derived.Test.YtgkacdaimhdcoaaQuP
import Derived.Test.YtgkacdaimhdcoaaBa8
import Derived.Deep.RegionHeld3
namespace Go.Proofs.Ytgkacdaimhdcoaa
open Go Go.RowKit
set_option linter.unusedVariables false
attribute [local irreducible] kh

/-- append of what is read to such a row, under a guard. -/
theorem append_valsg {P : Program} (w : World) {ops : Array Oper} {rest : List Oper} {o : Oper} {a : Act} {Q : Exit → Act → World → Prop} (hw : Region.wanted o (yielded ops a.tmps) = true) (s x : Operand) (tt : TypeId)
    (ho : o.op = .call { callee := .builtin .append, args := #[s, x], argTypes := #[tt, tt] }) (t : TypeId) (i : TypeInfo) (bytes : Nat) (ht : P.underlying tt = some (.slice t)) (hi : P.info? t = some i) (hz : i.zero = some (.slice none 0 0))
    (hsize : i.size = 1) (hby : i.bytes = bytes) (hb1 : 1 ≤ bytes) {B lim : Nat} {v u : Value} {us ys : List Value} (hs : a.eval s = v) (hown : OwnV t B w v us) (hx : a.eval x = u) (hu : RdV lim w u ys) (hone : ∀ y ∈ ys, y.oneCell' = true)
    (hle : (us.length + ys.length) * bytes ≤ 140737488355328)
    (h : ∀ v' w', OwnV t B w' v' (us ++ ys) → w.grownBy w' v.ownBlock → wpList P ops Q rest (a.put o.dst v') w') : wpList P ops Q (o :: rest) a w := by
  refine wpList_step fun K hK => ?_
  rw [if_pos hw]
  replace h : ∀ v' w', OwnV t B w' v' (us ++ ys) → w.grownBy w' v.ownBlock → K (a.put o.dst v') w' := fun v' w' h1 h2 => hK _ _ (h v' w' h1 h2)
  obtain ⟨p, cap, rfl, u1, u2, u3⟩ := hu
  obtain ⟨vw, vB, vo⟩ := hown
  have hm : us.length + ys.length ≤ maxLen := by
    have : (us.length + ys.length) * 1 ≤ (us.length + ys.length) * bytes := Nat.mul_le_mul_left _ hb1
    unfold maxLen; omega
  have one : ∀ y ∈ us ++ ys, y.oneCell' = true := fun y hy => by
    rcases List.mem_append.1 hy with h | h
    · exact vw y h
    · exact hone y h
  rcases u3 with ⟨rfl, rfl⟩ | ⟨y, rfl, hc, hbl⟩
  · have hy : ys = [] := List.eq_nil_of_length_eq_zero (by omega)
    subst hy
    have hrun := run_append_owned_none (P := P) (w := w) B tt o.type t i 1 ht hi v us.length _ vo
    unfold Oper.wp
    simp only [List.length_nil] at hx
    simp [execOp, ho, resolve, invoke, builtin, hs, hx, hrun, Result.andThen]
    exact h v w (by rw [List.append_nil]; exact ⟨vw, vB, vo⟩) (World.grownBy.refl _ _)
  · refine wp_append_own w s x tt ho B t i _ 1 bytes ht hi hz hsize hby rfl (by decide) v us.length us hs vo y ys.length cap ys hx (by simp) hc hone hm hle vB ?_
    intro v' w' h1 h2 _
    exact h v' w' ⟨one, Nat.le_trans vB h2.size, by rw [List.length_append]; exact h1⟩ h2

theorem unit_sel {n j : Nat} (h1 : 1 ≤ n) (h2 : n ≤ 64) (hj : j < n) : Sel n (unitV (n : Int) (j : Int)) := by
  have hl : (unitV (n : Int) (j : Int)).length ≠ 0 := by
    unfold unitV
    rw [if_pos (by omega)]
    simp; omega
  have := (unitV_sel hl).1
  rwa [Int.toNat_natCast] at this
theorem sel_tot {l : List (List Int)} {n : Nat} (h : ∀ z ∈ l, isel z (n : Int) = true) (hl : l.length ≤ 10) : tot l ≤ 1000 := by
  have := sum_le (n := 64) (zss := l) (fun z hz => by have := isel_len (h z hz); omega)
  unfold tot; omega
/-- All but one. -/
def delq (l : List (List Int)) (k : Nat) : List (List Int) := l.take k ++ l.drop (k + 1)
theorem delq_mem {l : List (List Int)} {k : Nat} {p : List Int → Prop} (h : ∀ z ∈ l, p z) : ∀ z ∈ delq l k, p z := fun z hz => by
  unfold delq at hz
  rcases List.mem_append.1 hz with hz | hz
  · exact h z (List.mem_of_mem_take hz)
  · exact h z (List.mem_of_mem_drop hz)
theorem delq_len {l : List (List Int)} {k : Nat} (h : k < l.length) : (delq l k).length = l.length - 1 := by
  unfold delq; rw [List.length_append, List.length_take, List.length_drop]; omega

set_option maxHeartbeats 8000000 in
set_option maxRecDepth 20000 in
theorem fnQueriesHide_walk (a : Option Addr) (len cap : Nat) (zs : List Int) (w : World) (hrow : IsRow .u8 w a len cap zs) :
    Calls Try.prog 4 #[.slice a len cap] w fun e w' => e = .returned (.bool true) ∧ Below w.heap.size w w' := by
  obtain ⟨hr, hl⟩ := row_own hrow
  obtain ⟨s, A, l⟩ : ∃ s, Rd w.heap.size .u8 w (.slice a len cap) s ∧ len = s.length := ⟨zs.take len, hrow.rd, hrow.rd.len_eq⟩
  subst l
  have HA := Lib.hid A
  have hl' : s.length ≤ 9223372036854775807 := by unfold maxLen at hl; omega
  clear hr hrow hl A
  by_cases hbig : 1048576 < s.length
  · have e0 : decide ((1048576 : Int) < (s.length : Int)) = true := by simp; omega
    go_enter Try.func4, Try.ntmps4
    go_wp2_with fail
    refine (big_is a s.length cap _ hl').mono ?_
    rw [e0]
    rintro e w0 ⟨rfl, rfl⟩
    go_wp2_with fail
    go_ret
    exact ⟨rfl, Below.refl _ _⟩
  have e0 : decide ((1048576 : Int) < (s.length : Int)) = false := by simp; omega
  have hs : s.length ≤ 1048576 := by omega
  clear hbig
  obtain ⟨i1, hi', hy0, hy1, hy2⟩ := info_parts infoi64s
  have Hhi' := Lib.hid hi'
  have HAt := Lib.hid (fun i => atv_bound (s := s) (fun i hi => HA.out.wf hi) i)
  clear hi'
  -- the numbers
  obtain ⟨q0, hq0⟩ : ∃ q, q = atv s 0 := ⟨_, rfl⟩
  obtain ⟨q1, hq1⟩ : ∃ q, q = atv s 1 := ⟨_, rfl⟩
  obtain ⟨q2, hq2⟩ : ∃ q, q = atv s 2 := ⟨_, rfl⟩
  obtain ⟨q3, hq3⟩ : ∃ q, q = atv s 3 := ⟨_, rfl⟩
  obtain ⟨q4, hq4⟩ : ∃ q, q = atv s 4 := ⟨_, rfl⟩
  have b0 := HAt.out 0
  have b1 := HAt.out 1
  have b2 := HAt.out 2
  have b3 := HAt.out 3
  have b4 := HAt.out 4
  rw [← hq0] at b0
  rw [← hq1] at b1
  rw [← hq2] at b2
  rw [← hq3] at b3
  rw [← hq4] at b4
  have HQ0 := Lib.hid hq0
  have HQ1 := Lib.hid hq1
  have HQ2 := Lib.hid hq2
  have HQ3 := Lib.hid hq3
  have HQ4 := Lib.hid hq4
  obtain ⟨m, hm⟩ : ∃ m : Nat, q0 % 20 = (m : Int) := ⟨(q0 % 20).toNat, by omega⟩
  have hm20 : m < 20 := by omega
  have hmt : q0.tmod 20 = (m : Int) := by rw [Int.tmod_eq_emod_of_nonneg b0.1]; exact hm
  obtain ⟨n, hn⟩ : ∃ n : Nat, n = m + 1 := ⟨_, rfl⟩
  have hmn : 1 + (m : Int) = (n : Int) := by omega
  have hn1 : 1 ≤ n := by omega
  have hn20 : n ≤ 20 := by omega
  obtain ⟨x, hx⟩ : ∃ x : Nat, q3 % (n : Int) = (x : Int) := ⟨(q3 % (n : Int)).toNat, by have := Int.emod_nonneg q3 (show (n : Int) ≠ 0 by omega); omega⟩
  have hxn : x < n := by have := Int.emod_lt_of_pos q3 (show (0 : Int) < (n : Int) by omega); omega
  have hxt : q3.tmod (n : Int) = (x : Int) := by rw [Int.tmod_eq_emod_of_nonneg b3.1]; exact hx
  obtain ⟨k, hk⟩ : ∃ k : Nat, q4 % 3 = (k : Int) := ⟨(q4 % 3).toNat, by omega⟩
  have hk3 : k < 3 := by omega
  have hkt : q4.tmod 3 = (k : Int) := by rw [Int.tmod_eq_emod_of_nonneg b4.1]; exact hk
  obtain ⟨z2, hz2⟩ : ∃ z, z = q2 + 300 := ⟨_, rfl⟩
  have hz2' : q2 + 300 = z2 := hz2.symm
  have hnz : ¬ n = 0 := by omega
  have hn0 : ((n : Int) == 0) = false := by simp; omega
  have HWn : Hid ((Lit.int .i64 (n : Int)).wf = true) := Lib.hid (wf_i64_of (by omega) (by omega))
  have HWx : Hid ((Lit.int .i64 (x : Int)).wf = true) := Lib.hid (wf_i64_of (by omega) (by omega))
  have HS := Lib.hid (Rd.two 3 .i64 w q1 z2 (wf_i64_of (by omega) (by omega)) (wf_i64_of (by omega) (by omega)))
  have HB := Lib.hid ((Below.refl w.heap.size w).alloc (Nat.le_refl _) (.cells #[.int .i64 q1, .int .i64 z2] 3))
  have HA1 := Lib.hid (HA.out.behind HB.out)
  have hxu : (unitV (n : Int) (x : Int)).length ≠ 0 := by rw [(unit_sel hn1 (by omega) hxn).1]; omega
  have HQj := Lib.hid (mkq_join (n := n) (x := (x : Int)) (s := [q1, z2]) ⟨hxu, by simp, by simp⟩)
  have HQl : Hid ((mkq (n : Int) (x : Int) [q1, z2]).length = 3) := Lib.hid (by rw [mkq_yes ⟨hxu, by simp, by simp⟩, List.length_append, rnds_len]; rfl)
  have HHn := Lib.hid hn
  have HHz := Lib.hid hz2
  clear hq0 hq1 hq2 hq3 hq4 hxu hn hz2
  go_enter Try.func4, Try.ntmps4
  go_wp2_with fail
  refine (big_is a s.length cap _ hl').mono ?_
  rw [e0]
  rintro e w0 ⟨rfl, hw0⟩
  obtain rfl : w = w0 := hw0.symm
  clear hw0
  go_wp2_with fail
  refine (at_any HA.out 0 (by omega) hs).mono ?_
  rw [← HQ0.out]
  rintro e w1 ⟨⟨rfl, _, _⟩, hw1⟩
  obtain rfl : w = w1 := hw1.symm
  clear hw1
  go_wp2_with fail
  refine (at_any HA.out 1 (by omega) hs).mono ?_
  rw [← HQ1.out]
  rintro e w1 ⟨⟨rfl, _, _⟩, hw1⟩
  obtain rfl : w = w1 := hw1.symm
  clear hw1
  go_wp2_with fail
  refine (at_any HA.out 2 (by omega) hs).mono ?_
  rw [← HQ2.out]
  rintro e w1 ⟨⟨rfl, _, _⟩, hw1⟩
  obtain rfl : w = w1 := hw1.symm
  clear hw1
  go_wp2_with fail
  refine (at_any HA1.out 3 (by omega) hs).mono ?_
  rw [← HQ3.out]
  rintro e w1 ⟨⟨rfl, _, _⟩, hw1⟩
  obtain ⟨W1, hW1⟩ : ∃ W, W = w.alloc (.cells #[.int .i64 q1, .int .i64 z2] 3) := ⟨_, rfl⟩
  obtain rfl : W1 = w1 := hW1.trans hw1.symm
  have HS1 : Hid (Rd W1.heap.size .i64 W1 (.slice (some ⟨w.heap.size, 0, none⟩) 2 2) [q1, z2]) := Lib.hid (by rw [hW1, World.size_alloc]; exact HS.out)
  rw [← hW1] at HB HA1
  clear hw1 HS HA hW1
  go_wp2_with fail
  refine (impl_mkq HS1.out (Nat.le_refl _) HWn.out HWx.out (by simp)).mono ?_
  obtain ⟨Q, hQ⟩ : ∃ Q, Q = mkq (n : Int) (x : Int) [q1, z2] := ⟨_, rfl⟩
  rw [← hQ] at HQj HQl ⊢
  clear hQ
  rintro e w2 ⟨vq, rfl, hq, hb⟩
  obtain ⟨aq, cl, rfl, hcl, hcm, hgl⟩ := hq.open
  unfold maxLen at hcm
  have HSel := Lib.hid HQj.out.2
  replace HA1 := Lib.hid (HA1.out.behind (hb.mono HB.out.size))
  replace HB := Lib.hid (HB.out.trans (hb.mono HB.out.size))
  have HLs := Lib.hid hq
  obtain ⟨gl, rfl, hFl⟩ := hgl (by rw [HQl.out]; omega)
  obtain ⟨N, hN⟩ : ∃ N, N = Q.length := ⟨_, rfl⟩
  rw [← hN] at hcl HLs HQl ⊢
  have Hn := Lib.hid hN
  have e3 : ((N : Int) != 3) = false := by rw [HQl.out]; rfl
  have hkN : k < N := by rw [HQl.out]; exact hk3
  clear hq hb hgl hFl HQj hN
  go_wp2_with fail
  refine (at_any HA1.out 4 (by omega) hs).mono ?_
  rw [← HQ4.out]
  rintro e w3 ⟨⟨rfl, _, _⟩, hw3⟩
  obtain rfl : w2 = w3 := hw3.symm
  clear hw3
  go_wp2_with fail
  -- all selections but one
  replace HLs := Lib.hid HLs.out.drew
  replace HB := Lib.hid HB.out.drew
  refine wp_region_held_drew (S := fun _ => True) (by kernel_rfl) trivial (fun _ => ?_)
  obtain ⟨wd, hwd⟩ : ∃ x, x = w2.drew := ⟨_, rfl⟩
  rw [← hwd] at HLs HB ⊢
  clear hwd
  obtain ⟨us, hus, hUs, hreads⟩ := HLs.out.rd2.parts
  have hun : us.length = N := by rw [hus, Hn.out]
  rw [show N = us.length from hun.symm] at hUs
  have HUs := Lib.hid hUs
  rw [hun] at HUs
  have HD1 := Lib.hid (HUs.out.head (n := k) (by omega))
  have HD2 := Lib.hid (HUs.out.tail (l := k + 1) (by omega))
  rw [hun] at HD2
  have Hreads := Lib.hid hreads
  have Hus := Lib.hid hus
  have HOne := Lib.hid (U3o hus hreads)
  clear hus hUs hreads
  have hkc : k ≤ cl := by omega
  have hk1 : k + 1 ≤ N := by omega
  have hkw : IntKind.i64.wrap ((k : Int) + 1) = (k : Int) + 1 := by rw [IntKind.wrap_i64]; omega
  have hN3 : N ≤ 3 := by rw [HQl.out]; omega
  apply wpAnyH_take (i := 1)
  · simp only [List.getElem?_toArray, List.getElem?_cons_succ, List.getElem?_cons_zero]
    rfl
  · kernel_rfl
  · kernel_rfl
  · kernel_rfl
  · exact fun _ _ _ h => h
  · first
      | exact Or.inr ⟨by rfl, rfl⟩
      | (refine Or.inl ⟨by rfl, fun _ _ => ?_⟩
         go_simp
         first
           | done
           | rfl)
  · trivial
  simp only [Act.put, List.setIfInBounds_toArray, List.set_cons_zero, List.set_cons_succ]
  apply wpAnyH_take (i := 2)
  · simp only [List.getElem?_toArray, List.getElem?_cons_succ, List.getElem?_cons_zero]
    rfl
  · kernel_rfl
  · kernel_rfl
  · kernel_rfl
  · exact fun _ _ _ h => h
  · first
      | exact Or.inr ⟨by rfl, rfl⟩
      | (refine Or.inl ⟨by rfl, fun _ _ => ?_⟩
         go_simp
         first
           | done
           | rfl)
  · trivial
  simp only [Act.put, List.setIfInBounds_toArray, List.set_cons_zero, List.set_cons_succ]
  apply wpAnyH_take (i := 5)
  · simp only [List.getElem?_toArray, List.getElem?_cons_succ, List.getElem?_cons_zero]
    rfl
  · kernel_rfl
  · kernel_rfl
  · kernel_rfl
  · exact fun _ _ _ h => h
  · first
      | exact Or.inr ⟨by rfl, rfl⟩
      | (refine Or.inl ⟨by rfl, fun _ _ => ?_⟩
         go_simp
         first
           | done
           | rfl)
  · trivial
  simp only [Act.put, List.setIfInBounds_toArray, List.set_cons_zero, List.set_cons_succ]
  apply wpAnyH_take (i := 6)
  · simp only [List.getElem?_toArray, List.getElem?_cons_succ, List.getElem?_cons_zero]
    rfl
  · kernel_rfl
  · kernel_rfl
  · kernel_rfl
  · exact fun _ _ _ h => h
  · first
      | exact Or.inr ⟨by rfl, rfl⟩
      | (refine Or.inl ⟨by rfl, fun _ _ => ?_⟩
         go_simp
         first
           | done
           | rfl)
  · trivial
  simp only [Act.put, List.setIfInBounds_toArray, List.set_cons_zero, List.set_cons_succ]
  apply wpAnyH_take (i := 7) (v := .int .i64 ((k + 1 : Nat) : Int))
  · simp only [List.getElem?_toArray, List.getElem?_cons_succ, List.getElem?_cons_zero]
    rfl
  · kernel_rfl
  · kernel_rfl
  · kernel_rfl
  · exact fun _ _ _ h => h
  · first
      | exact Or.inr ⟨by rfl, rfl⟩
      | (refine Or.inl ⟨by rfl, fun _ _ => ?_⟩
         go_simp
         first
           | done
           | rfl)
  · trivial
  simp only [Act.put, List.setIfInBounds_toArray, List.set_cons_zero, List.set_cons_succ]
  apply wpAnyH_take (i := 3)
  · simp only [List.getElem?_toArray, List.getElem?_cons_succ, List.getElem?_cons_zero]
    rfl
  · kernel_rfl
  · kernel_rfl
  · kernel_rfl
  · exact fun _ _ _ h => h
  · refine Or.inl ⟨by rfl, fun _ _ => ?_⟩
    exact run_slice_op_h _ 32 _ 27 i1 Try.underlying32 Hhi'.out hy1 (n := k) _ rfl rfl rfl hkc
  · trivial
  simp only [Act.put, List.setIfInBounds_toArray, List.set_cons_zero, List.set_cons_succ]
  obtain ⟨u1, hu1⟩ : ∃ u, u = Go.sliced (some ⟨gl, 0, none⟩) 0 k cl 1 := ⟨_, rfl⟩
  rw [← hu1] at HD1 ⊢
  clear hu1
  apply wpAnyH_take (i := 8)
  · simp only [List.getElem?_toArray, List.getElem?_cons_succ, List.getElem?_cons_zero]
    rfl
  · kernel_rfl
  · kernel_rfl
  · kernel_rfl
  · exact fun _ _ _ h => h
  · refine Or.inl ⟨by rfl, fun _ _ => ?_⟩
    exact run_slice_op_l _ 32 _ 27 i1 Try.underlying32 Hhi'.out hy1 (n := k + 1) _ rfl rfl rfl hk1
  · trivial
  simp only [Act.put, List.setIfInBounds_toArray, List.set_cons_zero, List.set_cons_succ]
  obtain ⟨u2, hu2⟩ : ∃ u, u = Go.sliced (some ⟨gl, 0, none⟩) (k + 1) N cl 1 := ⟨_, rfl⟩
  rw [← hu2] at HD2 ⊢
  clear hu2
  refine wpAnyH_ready (rs := [0]) (by kernel_rfl) (by simp) ?_
  apply AllReadyH.cons
  · simp only [List.getElem?_toArray, List.getElem?_cons_zero]
    rfl
  rotate_left
  · exact AllReadyH.nil
  intro K hK
  go_simp
  have V0 : Hid (OwnV 27 wd.heap.size (wd.alloc (.cells #[] 27)) (.slice (some ⟨wd.heap.size, 0, none⟩) 0 0) []) := Lib.hid (OwnV.lit _ (Nat.le_refl _))
  have B0 := Lib.hid ((Below.refl wd.heap.size wd).alloc (Nat.le_refl _) (.cells #[] 27))
  refine hK.out _ _ trivial (fun _ => ?_)
  clear hK K
  try simp only [Act.put, List.setIfInBounds_toArray, List.set_cons_zero, List.set_cons_succ]
  refine wpAnyH_ready (rs := [4]) (by kernel_rfl) (by simp) ?_
  apply AllReadyH.cons
  · simp only [List.getElem?_toArray, List.getElem?_cons_succ, List.getElem?_cons_zero]
    rfl
  rotate_left
  · exact AllReadyH.nil
  intro K hK
  refine step_append_vals _ (by rfl) _ _ 32 (by rfl) 27 i1 24 Try.underlying32 Hhi'.out hy0 hy1 hy2 (by omega) (by rfl) V0.out (by rfl) (HD1.out.behind B0.out) (fun y hy => HOne.out y (List.mem_of_mem_take hy)) (by rw [List.length_take]; simp only [List.length_nil]; omega) ?_
  intro v13 w13 h13 hg13
  rw [List.nil_append] at h13
  have V1 := Lib.hid h13
  have B1 := Lib.hid (B0.out.trans (V0.out.below (Nat.le_refl _) hg13))
  clear h13 hg13
  refine hK.out _ _ trivial (fun _ => ?_)
  clear hK K
  try simp only [Act.put, List.setIfInBounds_toArray, List.set_cons_zero, List.set_cons_succ]
  refine wpAnyH_ready (rs := [9]) (by kernel_rfl) (by simp) ?_
  apply AllReadyH.cons
  · simp only [List.getElem?_toArray, List.getElem?_cons_succ, List.getElem?_cons_zero]
    rfl
  rotate_left
  · exact AllReadyH.nil
  intro K hK
  refine step_append_vals _ (by rfl) _ _ 32 (by rfl) 27 i1 24 Try.underlying32 Hhi'.out hy0 hy1 hy2 (by omega) (by rfl) V1.out (by rfl) (HD2.out.behind B1.out) (fun y hy => HOne.out y (List.mem_of_mem_drop hy)) (by rw [List.length_take, List.length_drop]; omega) ?_
  intro v14 w14 h14 hg14
  have V2 := Lib.hid h14
  have B2 := Lib.hid (B1.out.trans (V1.out.below (Nat.le_refl _) hg14))
  clear h14 hg14
  refine hK.out _ _ trivial (fun _ => ?_)
  clear hK K
  try simp only [Act.put, List.setIfInBounds_toArray, List.set_cons_zero, List.set_cons_succ]
  apply wpAnyH_take (i := 10)
  · simp only [List.getElem?_toArray, List.getElem?_cons_succ, List.getElem?_cons_zero]
    rfl
  · kernel_rfl
  · kernel_rfl
  · kernel_rfl
  · exact fun _ _ _ h => h
  · first
      | exact Or.inr ⟨by rfl, rfl⟩
      | (refine Or.inl ⟨by rfl, fun _ _ => ?_⟩
         go_simp
         first
           | done
           | rfl)
  · trivial
  simp only [Act.put, List.setIfInBounds_toArray, List.set_cons_zero, List.set_cons_succ]
  refine wpAnyH_done (by kernel_rfl) ?_ _
  have hkQ : k < Q.length := by rw [← Hn.out]; exact hkN
  have HDl : Hid ((delq Q k).length = 2) := Lib.hid (by rw [delq_len hkQ, ← Hn.out, HQl.out])
  have hdu : (us.take k ++ us.drop (k + 1)).length = 2 := by rw [List.length_append, List.length_take, List.length_drop, hun]; have := HQl.out; omega
  have HRd : Hid (∀ (i : Nat) (u : Value) (zs : List Int), (us.take k ++ us.drop (k + 1))[i]? = some u → (delq Q k)[i]? = some zs → Rd wd.heap.size .i64 wd u zs) := Lib.hid (reads_del Hus.out Hreads.out hkQ)
  have HOd : Hid (∀ y ∈ us.take k ++ us.drop (k + 1), y.oneCell' = true) := Lib.hid (fun y hy => by
    rcases List.mem_append.1 hy with h | h
    · exact HOne.out y (List.mem_of_mem_take h)
    · exact HOne.out y (List.mem_of_mem_drop h))
  obtain ⟨ds, hds⟩ : ∃ ds, ds = us.take k ++ us.drop (k + 1) := ⟨_, rfl⟩
  rw [← hds] at HRd V2 hdu HOd
  obtain ⟨Dl, hDl⟩ : ∃ Dl, Dl = delq Q k := ⟨_, rfl⟩
  have HDs : Hid (∀ z ∈ Dl, isel z (n : Int) = true) := Lib.hid (by rw [hDl]; exact delq_mem HSel.out)
  rw [← hDl] at HDl HRd
  have HLd : Hid (ds.length = Dl.length) := Lib.hid (by rw [hdu, HDl.out])
  have HDr : Hid (Rd2 w14.heap.size .i64 w14 v14 Dl) := Lib.hid (V2.out.rd2 HLd.out HRd.out B2.out B2.out.size)
  have HVd : Hid (RdV w14.heap.size w14 v14 ds) := Lib.hid V2.out.rdv
  have HRd14 : Hid (∀ (i : Nat) (u : Value) (zs : List Int), ds[i]? = some u → Dl[i]? = some zs → Rd w14.heap.size .i64 w14 u zs) := Lib.hid (fun i u zs hu hz => ((HRd.out i u zs hu hz).behind B2.out).mono B2.out.size)
  have HBw := Lib.hid (HB.out.trans (B2.out.mono HB.out.size))
  have hdu2 := Lib.hid hdu
  clear HD1 HD2 V0 V1 V2 B0 B1 B2 HUs HOne Hreads Hus hds hDl HRd HLs HB hdu
  have B14 := Lib.hid (Below.refl w14.heap.size w14)
  clear hkt hk hxt hx hmt hm hmn hz2' hkw hkc hk1
  go_wp2_with fail
  go_loopw [8] (fun i wr => ∃ j : Nat, i = .int .i64 j ∧ j ≤ n ∧ Below w14.heap.size w14 wr) (fun i _ => n - (intOf i).toNat)
  case atStart => exact ⟨0, rfl, Nat.zero_le _, B14.out⟩
  case round =>
    obtain ⟨j, rfl, hj, hB⟩ := hrel
    replace B14 := Lib.hid hB
    clear hB
    by_cases hlt : j < n
    case pos =>
      have e5 : decide ((j : Int) < (n : Int)) = true := by simp; omega
      have HWj : Hid ((Lit.int .i64 (j : Int)).wf = true) := Lib.hid (wf_i64_of (by omega) (by omega))
      obtain ⟨E, hE⟩ : ∃ E, E = exq Dl (n : Int) (j : Int) := ⟨_, rfl⟩
      have hus := unit_sel hn1 (show n ≤ 64 by omega) hlt
      have hes := (xsAll_getD hus HDs.out).1
      have hjb := jnq_back (show (n : Int) ≤ 64 by omega) hus HDs.out
      rw [show xsAll (unitV (n : Int) (j : Int)) Dl = E from hE.symm] at hes hjb
      have HE := Lib.hid hE
      have HEl : Hid (E.length = n) := Lib.hid hes.1
      have HEi : Hid (isel E (n : Int) = true) := Lib.hid (hes.is (by omega))
      have HJ : Hid (jnq (Dl ++ [E]) = unitV (n : Int) (j : Int)) := Lib.hid hjb.1
      have HJt : Hid (tot (Dl ++ [E]) ≤ 1099511627776) := Lib.hid (by have := sel_tot hjb.2 (by rw [List.length_append, HDl.out, List.length_singleton]; decide); omega)
      clear hE hus hes hjb
      go_wp2_with fail
      refine (impl_exq (HDr.out.behind B14.out) B14.out.size HWn.out HWj.out).mono ?_
      rintro e w16 ⟨v16, he, h16, hb⟩
      rw [← HE.out] at he h16
      rw [HEl.out, decide_eq_true (show 0 < n by omega)] at he
      subst he
      obtain ⟨a16, c16, hv16, _⟩ := h16.open
      obtain ⟨L16, hL16⟩ : ∃ L, L = E.length := ⟨_, rfl⟩
      rw [← hL16] at hv16
      subst hv16
      have H16 := Lib.hid h16.rd
      have B16 := Lib.hid (B14.out.trans (hb.mono B14.out.size))
      clear h16 hb hL16
      go_wp2_with fail
      refine (impl_is H16.out (Nat.le_refl _) HWn.out).mono ?_
      rw [HEi.out]
      rintro e w17 ⟨rfl, hb⟩
      replace H16 := Lib.hid ((H16.out.behind hb).mono hb.size)
      replace B16 := Lib.hid (B16.out.trans (hb.mono B16.out.size))
      clear hb
      have V0 : Hid (OwnV 27 w17.heap.size (w17.alloc (.cells #[] 27)) (.slice (some ⟨w17.heap.size, 0, none⟩) 0 0) []) := Lib.hid (OwnV.lit _ (Nat.le_refl _))
      have B0 := Lib.hid ((Below.refl w17.heap.size w17).alloc (Nat.le_refl _) (.cells #[] 27))
      have HVr := Lib.hid (HVd.out.behind (B16.out.trans (B0.out.mono B16.out.size)))
      go_wp2_with (first | (at_builtin; go_loud (refine append_valsg _ (by rfl) _ _ 32 rfl 27 i1 24 Try.underlying32 Hhi'.out hy0 hy1 hy2 (by omega) rfl V0.out rfl HVr.out HOd.out (by rw [hdu2.out]; decide) ?_)))
      intro v18 w18 h18 hg18
      try rw [List.nil_append] at h18
      have V1 := Lib.hid (h18.alloc (.cells #[.slice a16 L16 c16] 27))
      have B1 := Lib.hid ((B0.out.trans (V0.out.below (Nat.le_refl _) hg18)).alloc (Nat.le_trans B0.out.size hg18.size) (.cells #[.slice a16 L16 c16] 27))
      clear h18 hg18 HVr
      go_wp2_with (first | (at_builtin; go_loud (refine append_valsg _ (by rfl) _ _ 32 rfl 27 i1 24 Try.underlying32 Hhi'.out hy0 hy1 hy2 (by omega) rfl V1.out rfl (RdV.one _ _ _) (fun y hy => by rw [List.mem_singleton.1 hy]; rfl) (by rw [hdu2.out, List.length_singleton]; decide) ?_)))
      intro v19 w19 h19 hg19
      have B2 := Lib.hid (B1.out.trans (V1.out.below (Nat.le_refl _) hg19))
      have HJr := Lib.hid (h19.rd2_snoc HLd.out (fun i u zs hu hz => ((HRd14.out i u zs hu hz).behind B16.out).mono B16.out.size) H16.out B2.out B2.out.size)
      clear h19 hg19 V0 V1 B0 B1
      go_wp2_with fail
      refine (impl_jnq HJr.out (Nat.le_refl _) HJt.out).mono ?_
      rw [HJ.out]
      rintro e w20 ⟨v20, rfl, h20, hb⟩
      have H20 := Lib.hid h20.rd
      replace B2 := Lib.hid (B2.out.trans (hb.mono B2.out.size))
      clear h20 hb HJr
      go_wp2_with fail
      refine (spec_us HWn.out HWj.out).mono ?_
      rintro e w21 ⟨v21, rfl, h21, hb⟩
      have H21 := Lib.hid h21.rd
      replace H20 := Lib.hid ((H20.out.behind hb).mono hb.size)
      replace B2 := Lib.hid (B2.out.trans (hb.mono B2.out.size))
      clear h21 hb
      go_wp2_with fail
      refine (sameInts_same H20.out H21.out (Nat.le_refl _) (Nat.le_refl _)).mono ?_
      rintro e w22 ⟨rfl, hb⟩
      replace B2 := Lib.hid (B2.out.trans (hb.mono B2.out.size))
      clear hb
      go_wp2_with fail
      go_roundw
      case rel => exact ⟨j + 1, by simp, hlt, B16.out.trans (B2.out.mono B16.out.size)⟩
      case measure => simp [intOf]; omega
    have e5 : decide ((j : Int) < (n : Int)) = false := by simp; omega
    go_wp2_with fail
    go_ret
    exact ⟨rfl, HBw.out.trans (B14.out.mono HBw.out.size)⟩

end Go.Proofs.Ytgkacdaimhdcoaa
