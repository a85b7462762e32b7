/- FnWritesHide: the walk. No conditions. -/
import Derived.Test.YtdipignajccdcaaBaD
import Derived.Test.YtdipignajccdcaaBa4
import Derived.Test.YtdipignajccdcaaBaZ
import Derived.Test.YtdipignajccdcaaWrA
import Derived.Test.YtdipignajccdcaaWr7
import Derived.Test.YtdipignajccdcaaWrP
import Derived.Test.YtdipignajccdcaaHeldL
import Derived.Deep.RegionHeld3
import Derived.Deep.DeepCutAuto
namespace Go.Proofs.Ytdipignajccdcaa
open Go Go.RowKit
set_option linter.unusedVariables false
attribute [local irreducible] kh

/-- The cell that covers. -/
def cov (s : Int) : List Int := strm (kh s [73]) 24
theorem cov_len (s : Int) : (cov s).length = 24 := strm24_len _
theorem cov_u8 (s : Int) : U8s (cov s) := strm_u8 _ _

set_option maxHeartbeats 1000000 in
/-- spec.CoverCell -/
theorem cover_any {w : World} {s : Int} (hs : (Lit.int .i64 s).wf = true) :
    Calls Try.prog 46 #[.int .i64 s] w fun e w' => ∃ v', e = .returned v' ∧ Own 5 .u8 w.heap.size w' v' (cov s) ∧ Below w.heap.size w w' := by
  have HR := Lib.hid (Rd.one 3 .i64 w 73 (by decide))
  have HS := Lib.hid hs
  have HB := Lib.hid ((Below.refl w.heap.size w).alloc (Nat.le_refl _) (.cells #[.int .i64 73] 3))
  have hb := kh_bound s [73]
  obtain ⟨q, hq⟩ : ∃ q, q = kh s [73] := ⟨_, rfl⟩
  rw [← hq] at hb
  have HQ := Lib.hid hq
  have HW : Hid ((Lit.int .i64 q).wf = true) := Lib.hid (wf_i64_of (by omega) (by omega))
  clear hs hq hb
  go_enter Try.func46, Try.ntmps46
  go_wp2_with fail
  refine (spec_kh HR.out (by simp) HS.out (by simp)).mono ?_
  rintro e w1 ⟨he, hw⟩
  rw [← HQ.out] at he
  subst he
  have HB1 := Lib.hid (HB.out.trans (hw.mono HB.out.size))
  clear hw
  go_wp2_with fail
  refine (spec_sb HW.out (by decide)).mono ?_
  rw [show strm q 24 = cov s by unfold cov; rw [HQ.out]]
  rintro e w2 ⟨v2, rfl, h2, hb⟩
  have H2 := Lib.hid (h2.mono HB1.out.size)
  have HB2 := Lib.hid (HB1.out.trans (hb.mono HB1.out.size))
  clear h2 hb
  go_wp2_with fail
  go_ret
  exact ⟨_, rfl, H2.out, HB2.out⟩

theorem Till.three {P : Program} {ops : Array Oper} {Q : Exit → Act → World → Prop} {md : Region.Mode} {S : World → Prop} {st i j k : Nat} {o o' o'' : Oper} {n : Nat} {l : Array Bool} {a : Act} {w : World} (hr : Region.ready md ops l = [i, j, k]) (ho : ops[i]? = some o) (ho' : ops[j]? = some o') (ho'' : ops[k]? = some o'')
    (h : ∀ K' : Act → World → Prop, Shut (∀ a w, ((l.setIfInBounds i true).getD st false = true ∨ S w) → Till P md ops Q S st n (l.setIfInBounds i true) a w → K' a w) → if Region.wanted o (yielded ops a.tmps) = true then Oper.wp P o a w K' Q else K' (a.put o.dst undef) w)
    (h' : ∀ K' : Act → World → Prop, Shut (∀ a w, ((l.setIfInBounds j true).getD st false = true ∨ S w) → Till P md ops Q S st n (l.setIfInBounds j true) a w → K' a w) → if Region.wanted o' (yielded ops a.tmps) = true then Oper.wp P o' a w K' Q else K' (a.put o'.dst undef) w)
    (h'' : ∀ K' : Act → World → Prop, Shut (∀ a w, ((l.setIfInBounds k true).getD st false = true ∨ S w) → Till P md ops Q S st n (l.setIfInBounds k true) a w → K' a w) → if Region.wanted o'' (yielded ops a.tmps) = true then Oper.wp P o'' a w K' Q else K' (a.put o''.dst undef) w) :
    Till P md ops Q S st (n + 1) l a w :=
  Till.all hr (by simp) fun q hq => by
    rcases (show q = i ∨ q = j ∨ q = k by simpa using hq) with rfl | rfl | rfl
    · exact wpOp_step ho (fun K' hK => h K' (fun a w hS hW => hK a w ⟨hS, hW⟩))
    · exact wpOp_step ho' (fun K' hK => h' K' (fun a w hS hW => hK a w ⟨hS, hW⟩))
    · exact wpOp_step ho'' (fun K' hK => h'' K' (fun a w hS hW => hK a w ⟨hS, hW⟩))

/-- All but one. -/
def delw (l : List VDatabase) (k : Nat) : List VDatabase := l.take k ++ l.drop (k + 1)
theorem delw_mem {l : List VDatabase} {k : Nat} {p : VDatabase → Prop} (h : ∀ z ∈ l, p z) : ∀ z ∈ delw l k, p z := fun z hz => by
  unfold delw at hz
  rcases List.mem_append.1 hz with hz | hz
  · exact h z (List.mem_of_mem_take hz)
  · exact h z (List.mem_of_mem_drop hz)
theorem delw_len {l : List VDatabase} {k : Nat} (h : k < l.length) : (delw l k).length = l.length - 1 := by
  unfold delw; rw [List.length_append, List.length_take, List.length_drop]; omega
theorem ty_one {l : Nat} {w : World} {u : Value} {x : VDatabase} (h : tyDatabase.rd l w [u] x) : u.oneCell' = true := tyDatabase.one h u (by simp)

set_option maxHeartbeats 16000000 in
set_option maxRecDepth 20000 in
theorem fnWritesHide_walk (a : Option Addr) (len cap : Nat) (zs : List Int) (w : World) (hrow : IsRow .u8 w a len cap zs) :
    Calls Try.prog 10 #[.slice a len cap] w fun e w' => e = .returned (.bool true) ∧ Below w.heap.size w w' := by
  obtain ⟨hr, hl⟩ := row_own hrow
  obtain ⟨s, A, l⟩ : ∃ s, Rd w.heap.size .u8 w (.slice a len cap) s ∧ len = s.length := ⟨zs.take len, hrow.rd, hrow.rd.len_eq⟩
  subst l
  have HA := Lib.hid A
  have hl' : s.length ≤ 9223372036854775807 := by unfold maxLen at hl; omega
  clear hr hrow hl A
  by_cases hbig : 1048576 < s.length
  · have e0 : decide ((1048576 : Int) < (s.length : Int)) = true := by simp; omega
    go_enter Try.func10, Try.ntmps10
    go_wp2_with fail
    refine (big_is a s.length cap _ hl').mono ?_
    rw [e0]
    rintro e w0 ⟨rfl, rfl⟩
    go_wp2_with fail
    go_ret
    exact ⟨rfl, Below.refl _ _⟩
  have e0 : decide ((1048576 : Int) < (s.length : Int)) = false := by simp; omega
  have hs : s.length ≤ 1048576 := by omega
  clear hbig
  obtain ⟨i1, hi', hy0, hy1, hy2⟩ := info_parts infoDatabase
  have Hhi' := Lib.hid hi'
  have HAt := Lib.hid (fun i => atv_bound (s := s) (fun i hi => HA.out.wf hi) i)
  clear hi'
  -- the numbers
  obtain ⟨q0, hq0⟩ : ∃ q, q = atv s 0 := ⟨_, rfl⟩
  have b0 := HAt.out 0
  rw [← hq0] at b0
  have HQ0 := Lib.hid hq0
  obtain ⟨q1, hq1⟩ : ∃ q, q = atv s 1 := ⟨_, rfl⟩
  have b1 := HAt.out 1
  rw [← hq1] at b1
  have HQ1 := Lib.hid hq1
  obtain ⟨q2, hq2⟩ : ∃ q, q = atv s 2 := ⟨_, rfl⟩
  have b2 := HAt.out 2
  rw [← hq2] at b2
  have HQ2 := Lib.hid hq2
  obtain ⟨q3, hq3⟩ : ∃ q, q = atv s 3 := ⟨_, rfl⟩
  have b3 := HAt.out 3
  rw [← hq3] at b3
  have HQ3 := Lib.hid hq3
  obtain ⟨q4, hq4⟩ : ∃ q, q = atv s 4 := ⟨_, rfl⟩
  have b4 := HAt.out 4
  rw [← hq4] at b4
  have HQ4 := Lib.hid hq4
  obtain ⟨q5, hq5⟩ : ∃ q, q = atv s 5 := ⟨_, rfl⟩
  have b5 := HAt.out 5
  rw [← hq5] at b5
  have HQ5 := Lib.hid hq5
  obtain ⟨q6, hq6⟩ : ∃ q, q = atv s 6 := ⟨_, rfl⟩
  have b6 := HAt.out 6
  rw [← hq6] at b6
  have HQ6 := Lib.hid hq6
  obtain ⟨m, hm⟩ : ∃ m : Nat, q0 % 6 = (m : Int) := ⟨(q0 % 6).toNat, by omega⟩
  have hm6 : m < 6 := by omega
  have hmt : q0.tmod 6 = (m : Int) := by rw [Int.tmod_eq_emod_of_nonneg b0.1]; exact hm
  obtain ⟨n, hn⟩ : ∃ n : Nat, n = m + 1 := ⟨_, rfl⟩
  have hmn : 1 + (m : Int) = (n : Int) := by omega
  have hn1 : 1 ≤ n := by omega
  have hn6 : n ≤ 6 := by omega
  obtain ⟨x, hx⟩ : ∃ x : Nat, q1 % (n : Int) = (x : Int) := ⟨(q1 % (n : Int)).toNat, by have := Int.emod_nonneg q1 (show (n : Int) ≠ 0 by omega); omega⟩
  have hxn : x < n := by have := Int.emod_lt_of_pos q1 (show (0 : Int) < (n : Int) by omega); omega
  have hxt : q1.tmod (n : Int) = (x : Int) := by rw [Int.tmod_eq_emod_of_nonneg b1.1]; exact hx
  obtain ⟨k, hk⟩ : ∃ k : Nat, q5 % 3 = (k : Int) := ⟨(q5 % 3).toNat, by omega⟩
  have hk3 : k < 3 := by omega
  have hkt : q5.tmod 3 = (k : Int) := by rw [Int.tmod_eq_emod_of_nonneg b5.1]; exact hk
  obtain ⟨z4, hz4⟩ : ∃ z, z = q4 + 300 := ⟨_, rfl⟩
  have hz4w : IntKind.i64.wrap (q4 + 300) = z4 := by rw [hz4, IntKind.wrap_i64]; omega
  have hnz : ¬ n = 0 := by omega
  have hn0 : ((n : Int) == 0) = false := by simp; omega
  have HWn : Hid ((Lit.int .i64 (n : Int)).wf = true) := Lib.hid (wf_i64_of (by omega) (by omega))
  have HWx : Hid ((Lit.int .i64 (x : Int)).wf = true) := Lib.hid (wf_i64_of (by omega) (by omega))
  have HW2 : Hid ((Lit.int .i64 q2).wf = true) := Lib.hid (wf_i64_of (by omega) (by omega))
  have HWs : Hid ((Lit.int .i64 q3).wf = true ∧ (Lit.int .i64 z4).wf = true) := Lib.hid ⟨wf_i64_of (by omega) (by omega), wf_i64_of (by omega) (by omega)⟩
  have hrx : rowOk (n : Int) (x : Int) (cov q2) = true := rowOk_iff.2 ⟨by omega, by omega, cov_len _⟩
  have hmk : mkwK (n : Int) (x : Int) (cov q2) [q3, z4] = true := by unfold mkwK; rw [hrx]; rfl
  have HMk := Lib.hid (mkw_all hmk (cov_u8 q2))
  have HRow : Hid (∀ j : Nat, j < n → ∀ c : List Int, c.length = 24 → rowOk (n : Int) (j : Int) c = true) := Lib.hid (fun j hj c hc => rowOk_iff.2 ⟨by omega, by omega, hc⟩)
  clear hq0 hq1 hq2 hq3 hq4 hq5 hq6 hrx hmk hn hz4
  go_enter Try.func10, Try.ntmps10
  go_wp2_with fail
  refine (big_is a s.length cap _ hl').mono ?_
  rw [e0]
  rintro e w0 ⟨rfl, hw0⟩
  obtain rfl : w = w0 := hw0.symm
  clear hw0
  go_wp2_with fail
  refine (at_any HA.out 0 (by omega) hs).mono ?_
  rw [← HQ0.out]
  rintro e w1 ⟨⟨rfl, _, _⟩, hw1⟩
  obtain rfl : w = w1 := hw1.symm
  clear hw1
  go_wp2_with fail
  -- the write
  have HBd := Lib.hid (Below.refl w.heap.size w).drew
  have HAd := Lib.hid HA.out.drew
  refine wp_region_held_drew (S := fun _ => True) (by kernel_rfl) trivial (fun _ => ?_)
  obtain ⟨wd, hwd⟩ : ∃ x, x = w.drew := ⟨_, rfl⟩
  have HSz : Hid (w.heap.size = wd.heap.size) := Lib.hid (by rw [hwd]; rfl)
  rw [← hwd] at HBd HAd ⊢
  clear hwd
  apply wpAnyH_take (i := 0)
  · simp only [List.getElem?_toArray, List.getElem?_cons_zero]
    rfl
  · kernel_rfl
  · kernel_rfl
  · kernel_rfl
  · exact fun _ _ _ h => h
  · first
      | exact Or.inr ⟨by rfl, rfl⟩
      | (refine Or.inl ⟨by rfl, fun _ _ => ?_⟩
         go_simp
         first
           | done
           | rfl)
  · trivial
  simp only [Act.put, List.setIfInBounds_toArray, List.set_cons_zero, List.set_cons_succ]
  apply wpAnyH_take (i := 1)
  · simp only [List.getElem?_toArray, List.getElem?_cons_succ, List.getElem?_cons_zero]
    rfl
  · kernel_rfl
  · kernel_rfl
  · kernel_rfl
  · exact fun _ _ _ h => h
  · first
      | exact Or.inr ⟨by rfl, rfl⟩
      | (refine Or.inl ⟨by rfl, fun _ _ => ?_⟩
         go_simp
         first
           | done
           | rfl)
  · trivial
  simp only [Act.put, List.setIfInBounds_toArray, List.set_cons_zero, List.set_cons_succ]
  apply wpAnyH_take (i := 3)
  · simp only [List.getElem?_toArray, List.getElem?_cons_succ, List.getElem?_cons_zero]
    rfl
  · kernel_rfl
  · kernel_rfl
  · kernel_rfl
  · exact fun _ _ _ h => h
  · first
      | exact Or.inr ⟨by rfl, rfl⟩
      | (refine Or.inl ⟨by rfl, fun _ _ => ?_⟩
         go_simp
         first
           | done
           | rfl)
  · trivial
  simp only [Act.put, List.setIfInBounds_toArray, List.set_cons_zero, List.set_cons_succ]
  apply wpAnyH_take (i := 5)
  · simp only [List.getElem?_toArray, List.getElem?_cons_succ, List.getElem?_cons_zero]
    rfl
  · kernel_rfl
  · kernel_rfl
  · kernel_rfl
  · exact fun _ _ _ h => h
  · first
      | exact Or.inr ⟨by rfl, rfl⟩
      | (refine Or.inl ⟨by rfl, fun _ _ => ?_⟩
         go_simp
         first
           | done
           | rfl)
  · trivial
  simp only [Act.put, List.setIfInBounds_toArray, List.set_cons_zero, List.set_cons_succ]
  apply wpAnyH_take (i := 8)
  · simp only [List.getElem?_toArray, List.getElem?_cons_succ, List.getElem?_cons_zero]
    rfl
  · kernel_rfl
  · kernel_rfl
  · kernel_rfl
  · exact fun _ _ _ h => h
  · first
      | exact Or.inr ⟨by rfl, rfl⟩
      | (refine Or.inl ⟨by rfl, fun _ _ => ?_⟩
         go_simp
         first
           | done
           | rfl)
  · trivial
  simp only [Act.put, List.setIfInBounds_toArray, List.set_cons_zero, List.set_cons_succ]
  apply wpAnyH_take (i := 10)
  · simp only [List.getElem?_toArray, List.getElem?_cons_succ, List.getElem?_cons_zero]
    rfl
  · kernel_rfl
  · kernel_rfl
  · kernel_rfl
  · exact fun _ _ _ h => h
  · first
      | exact Or.inr ⟨by rfl, rfl⟩
      | (refine Or.inl ⟨by rfl, fun _ _ => ?_⟩
         go_simp
         first
           | done
           | rfl)
  · trivial
  simp only [Act.put, List.setIfInBounds_toArray, List.set_cons_zero, List.set_cons_succ]
  refine wpAnyH_ready (rs := [2]) (by kernel_rfl) (by simp) ?_
  apply AllReadyH.cons
  · simp only [List.getElem?_toArray, List.getElem?_cons_succ, List.getElem?_cons_zero]
    rfl
  rotate_left
  · exact AllReadyH.nil
  intro K hK
  go_simp
  refine (at_any HAd.out 1 (by omega) hs).mono ?_
  rw [← HQ1.out]
  rintro e' w1 ⟨⟨he, _, _⟩, hw1⟩
  subst he
  obtain rfl : wd = w1 := hw1.symm
  refine hK.out _ _ trivial (fun _ => ?_)
  clear hK K
  try simp only [Act.put, List.setIfInBounds_toArray, List.set_cons_zero, List.set_cons_succ]
  apply wpAnyH_take (i := 4) (v := .int .i64 (x : Int))
  · simp only [List.getElem?_toArray, List.getElem?_cons_succ, List.getElem?_cons_zero]
    rfl
  · kernel_rfl
  · kernel_rfl
  · kernel_rfl
  · exact fun _ _ _ h => h
  · first
      | exact Or.inr ⟨by rfl, rfl⟩
      | (refine Or.inl ⟨by rfl, fun _ _ => ?_⟩
         go_simp
         first
           | done
           | rfl)
  · trivial
  simp only [Act.put, List.setIfInBounds_toArray, List.set_cons_zero, List.set_cons_succ]
  refine wpAnyH_ready (rs := [6]) (by kernel_rfl) (by simp) ?_
  apply AllReadyH.cons
  · simp only [List.getElem?_toArray, List.getElem?_cons_succ, List.getElem?_cons_zero]
    rfl
  rotate_left
  · exact AllReadyH.nil
  intro K hK
  go_simp
  refine (at_any HAd.out 2 (by omega) hs).mono ?_
  rw [← HQ2.out]
  rintro e' w1 ⟨⟨he, _, _⟩, hw1⟩
  subst he
  obtain rfl : wd = w1 := hw1.symm
  refine hK.out _ _ trivial (fun _ => ?_)
  clear hK K
  try simp only [Act.put, List.setIfInBounds_toArray, List.set_cons_zero, List.set_cons_succ]
  refine wpAnyH_ready (rs := [7]) (by kernel_rfl) (by simp) ?_
  apply AllReadyH.cons
  · simp only [List.getElem?_toArray, List.getElem?_cons_succ, List.getElem?_cons_zero]
    rfl
  rotate_left
  · exact AllReadyH.nil
  intro K hK
  go_simp
  refine (cover_any HW2.out).mono ?_
  rintro e' w2 ⟨v2, he, h2, hb⟩
  subst he
  obtain ⟨a2, c2, hv2, _⟩ := h2.open
  rw [cov_len] at hv2
  subst hv2
  have HC2 := Lib.hid h2.rd
  have HB2 := Lib.hid (HBd.out.trans (hb.mono (by rw [HSz.out]; exact Nat.le_refl _)))
  have HA2 := Lib.hid (HAd.out.behind (hb.mono (by rw [HSz.out]; exact Nat.le_refl _)))
  clear h2 hb
  refine hK.out _ _ trivial (fun _ => ?_)
  clear hK K
  try simp only [Act.put, List.setIfInBounds_toArray, List.set_cons_zero, List.set_cons_succ]
  refine wpAnyH_ready (rs := [9]) (by kernel_rfl) (by simp) ?_
  apply AllReadyH.cons
  · simp only [List.getElem?_toArray, List.getElem?_cons_succ, List.getElem?_cons_zero]
    rfl
  rotate_left
  · exact AllReadyH.nil
  intro K hK
  go_simp
  refine (at_any HA2.out 3 (by omega) hs).mono ?_
  rw [← HQ3.out]
  rintro e' w1 ⟨⟨he, _, _⟩, hw1⟩
  subst he
  obtain rfl : w2 = w1 := hw1.symm
  refine hK.out _ _ trivial (fun _ => ?_)
  clear hK K
  try simp only [Act.put, List.setIfInBounds_toArray, List.set_cons_zero, List.set_cons_succ]
  refine wpAnyH_ready (rs := [11]) (by kernel_rfl) (by simp) ?_
  apply AllReadyH.cons
  · simp only [List.getElem?_toArray, List.getElem?_cons_succ, List.getElem?_cons_zero]
    rfl
  rotate_left
  · exact AllReadyH.nil
  intro K hK
  go_simp
  refine (at_any HA2.out 4 (by omega) hs).mono ?_
  rw [← HQ4.out]
  rintro e' w1 ⟨⟨he, _, _⟩, hw1⟩
  subst he
  obtain rfl : w2 = w1 := hw1.symm
  refine hK.out _ _ trivial (fun _ => ?_)
  clear hK K
  try simp only [Act.put, List.setIfInBounds_toArray, List.set_cons_zero, List.set_cons_succ]
  apply wpAnyH_take (i := 12) (v := .int .i64 z4)
  · simp only [List.getElem?_toArray, List.getElem?_cons_succ, List.getElem?_cons_zero]
    rfl
  · kernel_rfl
  · kernel_rfl
  · kernel_rfl
  · exact fun _ _ _ h => h
  · first
      | exact Or.inr ⟨by rfl, rfl⟩
      | (refine Or.inl ⟨by rfl, fun _ _ => ?_⟩
         go_simp
         first
           | done
           | rfl)
  · trivial
  simp only [Act.put, List.setIfInBounds_toArray, List.set_cons_zero, List.set_cons_succ]
  refine wpAnyH_ready (rs := [13]) (by kernel_rfl) (by simp) ?_
  apply AllReadyH.cons
  · simp only [List.getElem?_toArray, List.getElem?_cons_succ, List.getElem?_cons_zero]
    rfl
  rotate_left
  · exact AllReadyH.nil
  intro K hK
  go_simp
  have hba := (Below.refl w2.heap.size w2).alloc (Nat.le_refl _) (.cells #[.int .i64 q3, .int .i64 z4] 3)
  have HS3 := Lib.hid (Rd.two 3 .i64 w2 q3 z4 HWs.out.1 HWs.out.2)
  obtain ⟨w3, hw3⟩ : ∃ x, x = w2.alloc (.cells #[.int .i64 q3, .int .i64 z4] 3) := ⟨_, rfl⟩
  have HZ3 : Hid (w3.heap.size = w2.heap.size + 1) := Lib.hid (by rw [hw3]; simp)
  rw [← hw3] at hba HS3 ⊢
  have HC3 := Lib.hid (HC2.out.behind hba)
  have HA3 := Lib.hid (HA2.out.behind (hba.mono HB2.out.size))
  have HB3 := Lib.hid (HB2.out.trans (hba.mono HB2.out.size))
  clear hba hw3
  refine hK.out _ _ trivial (fun _ => ?_)
  clear hK K
  try simp only [Act.put, List.setIfInBounds_toArray, List.set_cons_zero, List.set_cons_succ]
  refine wpAnyH_ready (rs := [14]) (by kernel_rfl) (by simp) ?_
  apply AllReadyH.cons
  · simp only [List.getElem?_toArray, List.getElem?_cons_succ, List.getElem?_cons_zero]
    rfl
  rotate_left
  · exact AllReadyH.nil
  intro K hK
  go_simp
  refine (impl_mkw HC3.out HS3.out (by have := HZ3.out; omega) (by have := HZ3.out; omega) HWn.out HWx.out).mono ?_
  obtain ⟨Q, hQ⟩ : ∃ Q, Q = mkw (n : Int) (x : Int) (cov q2) [q3, z4] := ⟨_, rfl⟩
  have HMq := HMk
  rw [← hQ] at HMq ⊢
  rintro e' w4 ⟨vq, he, hq, hb⟩
  subst he
  obtain ⟨aq, cl, hvq, hcl, hcm, hgl⟩ := slo_open hq
  have hvq := (List.cons.inj hvq).1
  subst hvq
  unfold maxLen at hcm
  have HQl : Hid (Q.length = 3) := Lib.hid HMq.out.1
  have HQv : Hid (∀ z ∈ Q, Vn n z) := Lib.hid (by have h := HMq.out.2.2.2.1; rwa [Int.toNat_natCast] at h)
  have HA4 := Lib.hid (HA3.out.behind (hb.mono HB3.out.size))
  have HB4 := Lib.hid (HB3.out.trans (hb.mono HB3.out.size))
  have HLs := Lib.hid ((sliceT 39 tyDatabase).ord hq)
  obtain ⟨gl, rfl, _⟩ := hgl (by rw [HQl.out]; decide)
  rw [HQl.out] at hcl HLs ⊢
  clear hq hb hgl HMq hQ
  refine hK.out _ _ trivial (fun _ => ?_)
  clear hK K
  try simp only [Act.put, List.setIfInBounds_toArray, List.set_cons_zero, List.set_cons_succ]
  apply wpAnyH_take (i := 15)
  · simp only [List.getElem?_toArray, List.getElem?_cons_succ, List.getElem?_cons_zero]
    rfl
  · kernel_rfl
  · kernel_rfl
  · kernel_rfl
  · exact fun _ _ _ h => h
  · first
      | exact Or.inr ⟨by rfl, rfl⟩
      | (refine Or.inl ⟨by rfl, fun _ _ => ?_⟩
         go_simp
         first
           | done
           | rfl)
  · trivial
  simp only [Act.put, List.setIfInBounds_toArray, List.set_cons_zero, List.set_cons_succ]
  refine wpAnyH_done (by kernel_rfl) ?_ _
  have HA := HA4
  clear HMk HAd HBd HC2 HB2 HA2 HS3 HC3 HA3 HB3 HZ3
  go_wp2_with fail
  refine (at_any HA.out 5 (by omega) hs).mono ?_
  rw [← HQ5.out]
  rintro e w5 ⟨⟨rfl, _, _⟩, hw5⟩
  obtain rfl : w4 = w5 := hw5.symm
  clear hw5
  go_wp2_with fail
  -- all databases but one
  replace HLs := Lib.hid ((sliceT 39 tyDatabase).drew HLs.out)
  have HBw := Lib.hid HB4.out.drew
  have HAw := Lib.hid HA.out.drew
  refine wp_region_held_drew (S := fun _ => True) (by kernel_rfl) trivial (fun _ => ?_)
  obtain ⟨wd2, hwd⟩ : ∃ x, x = w4.drew := ⟨_, rfl⟩
  have HS4 : Hid (w4.heap.size = wd2.heap.size) := Lib.hid (by rw [hwd]; rfl)
  rw [← hwd] at HLs HBw HAw ⊢
  clear hwd
  obtain ⟨us, hus, hUs, hreads⟩ := sl_parts rfl HLs.out
  have hun : us.length = 3 := by rw [hus, HQl.out]
  rw [show (3 : Nat) = us.length from hun.symm] at hUs
  have HUs := Lib.hid hUs
  rw [hun] at HUs
  have HD1 := Lib.hid (HUs.out.head (n := k) (by omega))
  have HD2 := Lib.hid (HUs.out.tail (l := k + 1) (by omega))
  rw [hun] at HD2
  have HPt : Hid (Pt (fun u x => tyDatabase.rd w4.heap.size wd2 [u] x) us Q) := Lib.hid ⟨hus, hreads⟩
  have HOne : Hid (∀ y ∈ us, y.oneCell' = true) := Lib.hid (fun y hy => by
    obtain ⟨i, hi⟩ := List.mem_iff_getElem?.1 hy
    have hlt := (List.getElem?_eq_some_iff.1 hi).1
    exact ty_one (hreads i y _ hi (List.getElem?_eq_getElem (by omega))))
  clear hus hUs hreads
  have hkc : k ≤ cl := by omega
  have hk1 : k + 1 ≤ 3 := by omega
  have hkw : IntKind.i64.wrap ((k : Int) + 1) = (k : Int) + 1 := by rw [IntKind.wrap_i64]; omega
  apply wpAnyH_take (i := 1)
  · simp only [List.getElem?_toArray, List.getElem?_cons_succ, List.getElem?_cons_zero]
    rfl
  · kernel_rfl
  · kernel_rfl
  · kernel_rfl
  · exact fun _ _ _ h => h
  · first
      | exact Or.inr ⟨by rfl, rfl⟩
      | (refine Or.inl ⟨by rfl, fun _ _ => ?_⟩
         go_simp
         first
           | done
           | rfl)
  · trivial
  simp only [Act.put, List.setIfInBounds_toArray, List.set_cons_zero, List.set_cons_succ]
  apply wpAnyH_take (i := 2)
  · simp only [List.getElem?_toArray, List.getElem?_cons_succ, List.getElem?_cons_zero]
    rfl
  · kernel_rfl
  · kernel_rfl
  · kernel_rfl
  · exact fun _ _ _ h => h
  · first
      | exact Or.inr ⟨by rfl, rfl⟩
      | (refine Or.inl ⟨by rfl, fun _ _ => ?_⟩
         go_simp
         first
           | done
           | rfl)
  · trivial
  simp only [Act.put, List.setIfInBounds_toArray, List.set_cons_zero, List.set_cons_succ]
  apply wpAnyH_take (i := 5)
  · simp only [List.getElem?_toArray, List.getElem?_cons_succ, List.getElem?_cons_zero]
    rfl
  · kernel_rfl
  · kernel_rfl
  · kernel_rfl
  · exact fun _ _ _ h => h
  · first
      | exact Or.inr ⟨by rfl, rfl⟩
      | (refine Or.inl ⟨by rfl, fun _ _ => ?_⟩
         go_simp
         first
           | done
           | rfl)
  · trivial
  simp only [Act.put, List.setIfInBounds_toArray, List.set_cons_zero, List.set_cons_succ]
  apply wpAnyH_take (i := 6)
  · simp only [List.getElem?_toArray, List.getElem?_cons_succ, List.getElem?_cons_zero]
    rfl
  · kernel_rfl
  · kernel_rfl
  · kernel_rfl
  · exact fun _ _ _ h => h
  · first
      | exact Or.inr ⟨by rfl, rfl⟩
      | (refine Or.inl ⟨by rfl, fun _ _ => ?_⟩
         go_simp
         first
           | done
           | rfl)
  · trivial
  simp only [Act.put, List.setIfInBounds_toArray, List.set_cons_zero, List.set_cons_succ]
  apply wpAnyH_take (i := 7) (v := .int .i64 ((k + 1 : Nat) : Int))
  · simp only [List.getElem?_toArray, List.getElem?_cons_succ, List.getElem?_cons_zero]
    rfl
  · kernel_rfl
  · kernel_rfl
  · kernel_rfl
  · exact fun _ _ _ h => h
  · first
      | exact Or.inr ⟨by rfl, rfl⟩
      | (refine Or.inl ⟨by rfl, fun _ _ => ?_⟩
         go_simp
         first
           | done
           | rfl)
  · trivial
  simp only [Act.put, List.setIfInBounds_toArray, List.set_cons_zero, List.set_cons_succ]
  apply wpAnyH_take (i := 3)
  · simp only [List.getElem?_toArray, List.getElem?_cons_succ, List.getElem?_cons_zero]
    rfl
  · kernel_rfl
  · kernel_rfl
  · kernel_rfl
  · exact fun _ _ _ h => h
  · refine Or.inl ⟨by rfl, fun _ _ => ?_⟩
    exact run_slice_op_h _ 24 _ 39 i1 Try.underlying24 Hhi'.out hy1 (n := k) _ rfl rfl rfl hkc
  · trivial
  simp only [Act.put, List.setIfInBounds_toArray, List.set_cons_zero, List.set_cons_succ]
  obtain ⟨u1, hu1⟩ : ∃ u, u = Go.sliced (some ⟨gl, 0, none⟩) 0 k cl 1 := ⟨_, rfl⟩
  rw [← hu1] at HD1 ⊢
  clear hu1
  apply wpAnyH_take (i := 8)
  · simp only [List.getElem?_toArray, List.getElem?_cons_succ, List.getElem?_cons_zero]
    rfl
  · kernel_rfl
  · kernel_rfl
  · kernel_rfl
  · exact fun _ _ _ h => h
  · refine Or.inl ⟨by rfl, fun _ _ => ?_⟩
    exact run_slice_op_l _ 24 _ 39 i1 Try.underlying24 Hhi'.out hy1 (n := k + 1) _ rfl rfl rfl hk1
  · trivial
  simp only [Act.put, List.setIfInBounds_toArray, List.set_cons_zero, List.set_cons_succ]
  obtain ⟨u2, hu2⟩ : ∃ u, u = Go.sliced (some ⟨gl, 0, none⟩) (k + 1) 3 cl 1 := ⟨_, rfl⟩
  rw [← hu2] at HD2 ⊢
  clear hu2
  refine wpAnyH_ready (rs := [0]) (by kernel_rfl) (by simp) ?_
  apply AllReadyH.cons
  · simp only [List.getElem?_toArray, List.getElem?_cons_zero]
    rfl
  rotate_left
  · exact AllReadyH.nil
  intro K hK
  go_simp
  have V0 : Hid (OwnV 39 wd2.heap.size (wd2.alloc (.cells #[] 39 )) (.slice (some ⟨wd2.heap.size, 0, none⟩) 0 0) []) := Lib.hid (OwnV.lit _ (Nat.le_refl _))
  have B0 := Lib.hid ((Below.refl wd2.heap.size wd2).alloc (Nat.le_refl _) (.cells #[] 39 ))
  refine hK.out _ _ trivial (fun _ => ?_)
  clear hK K
  try simp only [Act.put, List.setIfInBounds_toArray, List.set_cons_zero, List.set_cons_succ]
  refine wpAnyH_ready (rs := [4]) (by kernel_rfl) (by simp) ?_
  apply AllReadyH.cons
  · simp only [List.getElem?_toArray, List.getElem?_cons_succ, List.getElem?_cons_zero]
    rfl
  rotate_left
  · exact AllReadyH.nil
  intro K hK
  refine step_append_valsZ _ (by rfl) _ _ 24 (by rfl) 39 i1 (.agg #[.slice none 0 0]) 24 Try.underlying24 Hhi'.out hy0 hy1 hy2 rfl (by omega) (by rfl) V0.out (by rfl) (HD1.out.behind (B0.out.mono (by rw [HS4.out]; exact Nat.le_refl _))) (fun y hy => HOne.out y (List.mem_of_mem_take hy)) (by rw [List.length_take]; simp only [List.length_nil]; omega) ?_
  intro v13 w13 h13 hg13 _
  rw [List.nil_append] at h13
  have V1 := Lib.hid h13
  have B1 := Lib.hid (B0.out.trans (V0.out.below (Nat.le_refl _) hg13))
  clear h13 hg13
  refine hK.out _ _ trivial (fun _ => ?_)
  clear hK K
  try simp only [Act.put, List.setIfInBounds_toArray, List.set_cons_zero, List.set_cons_succ]
  refine wpAnyH_ready (rs := [9]) (by kernel_rfl) (by simp) ?_
  apply AllReadyH.cons
  · simp only [List.getElem?_toArray, List.getElem?_cons_succ, List.getElem?_cons_zero]
    rfl
  rotate_left
  · exact AllReadyH.nil
  intro K hK
  refine step_append_valsZ _ (by rfl) _ _ 24 (by rfl) 39 i1 (.agg #[.slice none 0 0]) 24 Try.underlying24 Hhi'.out hy0 hy1 hy2 rfl (by omega) (by rfl) V1.out (by rfl) (HD2.out.behind (B1.out.mono (by rw [HS4.out]; exact Nat.le_refl _))) (fun y hy => HOne.out y (List.mem_of_mem_drop hy)) (by rw [List.length_take, List.length_drop]; omega) ?_
  intro v14 w14 h14 hg14 _
  have V2 := Lib.hid h14
  have B2 := Lib.hid (B1.out.trans (V1.out.below (Nat.le_refl _) hg14))
  clear h14 hg14
  refine hK.out _ _ trivial (fun _ => ?_)
  clear hK K
  try simp only [Act.put, List.setIfInBounds_toArray, List.set_cons_zero, List.set_cons_succ]
  apply wpAnyH_take (i := 10)
  · simp only [List.getElem?_toArray, List.getElem?_cons_succ, List.getElem?_cons_zero]
    rfl
  · kernel_rfl
  · kernel_rfl
  · kernel_rfl
  · exact fun _ _ _ h => h
  · first
      | exact Or.inr ⟨by rfl, rfl⟩
      | (refine Or.inl ⟨by rfl, fun _ _ => ?_⟩
         go_simp
         first
           | done
           | rfl)
  · trivial
  simp only [Act.put, List.setIfInBounds_toArray, List.set_cons_zero, List.set_cons_succ]
  refine wpAnyH_done (by kernel_rfl) ?_ _
  have hkQ : k < Q.length := by rw [HQl.out]; exact hk3
  have HDl : Hid ((delw Q k).length = 2) := Lib.hid (by rw [delw_len hkQ, HQl.out])
  have HPd : Hid (Pt (fun u x => tyDatabase.rd w4.heap.size wd2 [u] x) (us.take k ++ us.drop (k + 1)) (delw Q k)) := Lib.hid ((HPt.out.take k).append (HPt.out.drop (k + 1)))
  have HOd : Hid (∀ y ∈ us.take k ++ us.drop (k + 1), y.oneCell' = true) := Lib.hid (fun y hy => by
    rcases List.mem_append.1 hy with h | h
    · exact HOne.out y (List.mem_of_mem_take h)
    · exact HOne.out y (List.mem_of_mem_drop h))
  obtain ⟨ds, hds⟩ : ∃ ds, ds = us.take k ++ us.drop (k + 1) := ⟨_, rfl⟩
  rw [← hds] at HPd V2 HOd
  obtain ⟨Dl, hDl⟩ : ∃ Dl, Dl = delw Q k := ⟨_, rfl⟩
  have HDs : Hid (∀ z ∈ Dl, Vn n z) := Lib.hid (by rw [hDl]; exact delw_mem HQv.out)
  rw [← hDl] at HDl HPd
  have hdl : ds.length = 2 := by rw [HPd.out.1, HDl.out]
  have HP14 : Hid (Pt (fun u x => tyDatabase.rd w14.heap.size w14 [u] x) ds Dl) := Lib.hid (HPd.out.mono (fun u x h => tyDatabase.mono (tyDatabase.behind h (B2.out.mono (by rw [HS4.out]; exact Nat.le_refl _))) (by rw [HS4.out]; exact B2.out.size)))
  have HVd : Hid (RdV w14.heap.size w14 v14 ds) := Lib.hid V2.out.rdv
  have HDr : Hid ((sliceT 39 tyDatabase).rd w14.heap.size w14 [v14] Dl) := Lib.hid (sl_of_vals rfl HVd.out HP14.out.1 HP14.out.2)
  have HTl : Hid (totL tyDatabase Dl ≤ 1099511627776) := Lib.hid (by have h := Vn_totL HDs.out; have := HDl.out; omega)
  have hb14 : Below w.heap.size w w14 := HBw.out.trans (B2.out.mono (by rw [← HS4.out]; exact HB4.out.size))
  have HB := Lib.hid hb14
  replace HA := Lib.hid (HAw.out.behind (B2.out.mono (by rw [← HS4.out]; exact HB4.out.size)))
  obtain ⟨av14, cv14, hv14, _⟩ := V2.out.rdv
  rw [hdl] at hv14
  subst hv14
  have Hdl := Lib.hid hdl
  clear HD1 HD2 V0 V1 V2 B0 B1 B2 HUs HOne HPt hds hDl HPd HLs HB4 HBw HAw hb14 hdl
  have B14 := Lib.hid (Below.refl w14.heap.size w14)
  clear hkt hk hxt hx hmt hm hmn hz4w hkw hkc hk1
  go_wp2_with fail
  go_loopw [7] (fun i wr => ∃ j : Nat, i = .int .i64 j ∧ j ≤ n ∧ Below w14.heap.size w14 wr) (fun i _ => n - (intOf i).toNat)
  case atStart => exact ⟨0, rfl, Nat.zero_le _, B14.out⟩
  case round =>
    obtain ⟨j, rfl, hj, hB⟩ := hrel
    replace B14 := Lib.hid hB
    clear hB
    by_cases hlt : j < n
    case pos =>
      have e5 : decide ((j : Int) < (n : Int)) = true := by simp; omega
      have HWj : Hid ((Lit.int .i64 (j : Int)).wf = true) := Lib.hid (wf_i64_of (by omega) (by omega))
      obtain ⟨z6, hz6⟩ : ∃ z, z = q6 + (j : Int) := ⟨_, rfl⟩
      have hz6' : q6 + (j : Int) = z6 := hz6.symm
      have HW6 : Hid ((Lit.int .i64 z6).wf = true) := Lib.hid (wf_i64_of (by omega) (by omega))
      have HRj := Lib.hid (HRow.out j hlt (cov z6) (cov_len z6))
      have HEx := Lib.hid (exw_all (l := Dl) HRj.out (cov_u8 z6) (by rw [Int.toNat_natCast]; exact HDs.out) (by rw [HDl.out]; decide) (by rw [HDl.out]; decide))
      have HAr := Lib.hid (HA.out.behind (B14.out.mono HB.out.size))
      clear hz6
      go_wp2_with fail
      refine (at_any HAr.out 6 (by omega) hs).mono ?_
      rw [← HQ6.out]
      rintro e w15 ⟨⟨rfl, _, _⟩, hw15⟩
      obtain rfl : wr = w15 := hw15.symm
      clear hw15
      go_wp2_with fail
      refine (cover_any HW6.out).mono ?_
      rintro e w16 ⟨v16, rfl, h16, hb⟩
      obtain ⟨a16, c16, hv16, _⟩ := h16.open
      rw [cov_len] at hv16
      subst hv16
      have HC := Lib.hid h16.rd
      have B16 := Lib.hid (B14.out.trans (hb.mono B14.out.size))
      clear h16 hb hz6'
      go_wp2_with fail
      refine (impl_exw ((sliceT 39 tyDatabase).behind HDr.out B16.out) HC.out B16.out.size (Nat.le_refl _) HWn.out HWj.out HTl.out).mono ?_
      obtain ⟨X, hX⟩ : ∃ X, X = exw Dl (n : Int) (j : Int) (cov z6) := ⟨_, rfl⟩
      obtain ⟨W, hW⟩ : ∃ W, W = whole (n : Int) (j : Int) (cov z6) := ⟨_, rfl⟩
      have HWh : Hid (tot W ≤ 1600 ∧ crw W ≤ 1 ∧ W[j]? = some (cov z6) ∧ W.length = n) := Lib.hid (by rw [hW]; exact ⟨vd_fl (whole_vd HRj.out), whole_crw HRj.out, whole_at HRj.out, by rw [whole_len HRj.out, Int.toNat_natCast]⟩)
      rw [HEx.out.1, ← hX]
      have HEj : Hid (jwK (Dl ++ [X]) = true ∧ jw (Dl ++ [X]) = W) := Lib.hid (by rw [hX, hW]; exact HEx.out.2.2)
      have HXv : Hid (Vn n X) := Lib.hid (by have h := HEx.out.2.1; rw [Int.toNat_natCast] at h; rw [hX]; exact h)
      have HTj : Hid (totL tyDatabase (Dl ++ [X]) ≤ 1099511627776) := Lib.hid (by
        have h := Vn_totL (n := n) (l := Dl ++ [X]) (fun z hz => by
          rcases List.mem_append.1 hz with h | h
          · exact HDs.out z h
          · rw [List.mem_singleton.1 h]; exact HXv.out)
        rw [List.length_append, HDl.out, List.length_singleton] at h
        omega)
      clear hX hW HEx
      rintro e w17 ⟨v17, rfl, h17, hb⟩
      obtain ⟨xa, xc, hv17, _⟩ := h17.open
      obtain ⟨xn, hxn⟩ : ∃ L, L = X.length := ⟨_, rfl⟩
      rw [← hxn] at hv17
      subst hv17
      have hba := (Below.refl w17.heap.size w17).alloc (Nat.le_refl _) (.cells #[.slice xa xn xc] 39)
      have hbx := heap_alloc_new w17 (.cells #[.slice xa xn xc] 39)
      have hx17 : tyDatabase.rd (w17.alloc (.cells #[.slice xa xn xc] 39)).heap.size (w17.alloc (.cells #[.slice xa xn xc] 39)) [.slice xa xn xc] X := tyDatabase.ord (slo2_of_own2 (h17.alloc (.cells #[.slice xa xn xc] 39)))
      obtain ⟨XB, hXB⟩ : ∃ b, b = w17.heap.size := ⟨_, rfl⟩
      obtain ⟨w18, hw18⟩ : ∃ x, x = w17.alloc (.cells #[.slice xa xn xc] 39) := ⟨_, rfl⟩
      rw [← hw18] at hba hbx hx17
      rw [← hXB] at hbx
      have HXB := Lib.hid hbx
      have HXr := Lib.hid hx17
      have HCx := Lib.hid (HC.out.behind (hb.trans (hba.mono hb.size)))
      have B18 := Lib.hid (B16.out.trans ((hb.trans (hba.mono hb.size)).mono B16.out.size))
      have HW18 := Lib.hid hw18
      have HSc : Hid (w16.heap.size ≤ w18.heap.size) := Lib.hid (Nat.le_trans hb.size hba.size)
      clear h17 hb hxn hba hbx hx17 HC B16 hw18
      go_wp2_with fail
      rw [← HW18.out, ← hXB]
      clear hXB HW18
      go_cut [11, 12] (fun p b wx => ∃ (E : Nat) (a : Option Addr) (m c : Nat), p = .pointer (some ⟨E, 0, none⟩) ∧ b = .bool true ∧ Rd2 wx.heap.size .u8 wx (.slice a m c) W ∧ n = m ∧ wx.heap[E]? = some (.cells #[.slice a m c] 39 ) ∧ Below w18.heap.size w18 wx)
      case first =>
        have hsd : w18.drew.heap[XB]? = some (.cells #[.slice xa xn xc] 39) := HXB.out
        have d0 : w18.drew.cell? ⟨XB, 0, none⟩ = some (.slice xa xn xc) := (blk_cell hsd 0).trans (one0 _)
        have hd18 : Below w18.heap.size w18 w18.drew := (Below.refl _ _).drew
        refine region_till (fun w' => w'.cell? ⟨XB, 0, none⟩ = some (.slice xa xn xc)) 12 (by kernel_rfl) ?_
        obtain ⟨wb, hwb⟩ : ∃ x, x = w18.drew := ⟨_, rfl⟩
        have HZb : Hid (w18.heap.size = wb.heap.size) := Lib.hid (by rw [hwb]; rfl)
        rw [← hwb] at hsd d0 hd18 ⊢
        have HXd := Lib.hid hsd
        have HBb := Lib.hid hd18
        have HSx : Hid (∀ w', Below wb.heap.size wb w' → w'.cell? ⟨XB, 0, none⟩ = some (.slice xa xn xc)) := Lib.hid (fun w' hb => (blk_cell ((hb.block _ (lt_of_block HXd.out)).trans HXd.out) 0).trans (one0 _))
        have HPb : Hid (Pt (fun u x => tyDatabase.rd wb.heap.size wb [u] x) ds Dl) := Lib.hid (HP14.out.mono (fun u x h => tyDatabase.mono (tyDatabase.behind h (B18.out.trans (HBb.out.mono B18.out.size))) (by rw [← HZb.out]; exact B18.out.size)))
        have HVb : Hid (RdV w14.heap.size wb (.slice av14 2 cv14) ds) := Lib.hid (HVd.out.behind (B18.out.trans (HBb.out.mono B18.out.size)))
        have HXb : Hid (tyDatabase.rd wb.heap.size wb [.slice xa xn xc] X) := Lib.hid (by have h := tyDatabase.behind HXr.out HBb.out; rw [HZb.out] at h; exact h)
        have HLb : Hid (w14.heap.size ≤ wb.heap.size) := Lib.hid (by rw [← HZb.out]; exact B18.out.size)
        have HB0 := Lib.hid (Below.refl wb.heap.size wb)
        clear hwb hsd hd18
        apply Till.take (i := 1) [1, 2, 5, 6, 7, 9, 12]
        · simp only [List.getElem?_toArray, List.getElem?_cons_succ, List.getElem?_cons_zero]
          rfl
        · kernel_rfl
        · kernel_rfl
        · kernel_rfl
        · kernel_rfl
        · exact fun _ _ _ h => h
        · first
            | exact Or.inr ⟨by rfl, rfl⟩
            | (refine Or.inl ⟨by rfl, fun wq hwq => ?_⟩
               dsimp only at hwq
               go_simp
               first
                 | done
                 | rfl)
        · exact d0
        simp only [Act.put, List.setIfInBounds_toArray, List.set_cons_zero, List.set_cons_succ]
        apply Till.take (i := 3) [3, 4, 5, 6, 7, 9, 12]
        · simp only [List.getElem?_toArray, List.getElem?_cons_succ, List.getElem?_cons_zero]
          rfl
        · kernel_rfl
        · kernel_rfl
        · kernel_rfl
        · kernel_rfl
        · exact fun _ _ _ h => h
        · first
            | exact Or.inr ⟨by rfl, rfl⟩
            | (refine Or.inl ⟨by rfl, fun wq hwq => ?_⟩
               dsimp only at hwq
               go_simp
               first
                 | done
                 | rfl)
        · exact d0
        simp only [Act.put, List.setIfInBounds_toArray, List.set_cons_zero, List.set_cons_succ]
        clear d0
        apply Till.three (i := 0) (j := 4) (k := 10)
        · kernel_rfl
        · simp only [List.getElem?_toArray, List.getElem?_cons_zero]
          rfl
        · simp only [List.getElem?_toArray, List.getElem?_cons_succ, List.getElem?_cons_zero]
          rfl
        · simp only [List.getElem?_toArray, List.getElem?_cons_succ, List.getElem?_cons_zero]
          rfl
        · intro K hK
          go_simp
          have hba : Below wb.heap.size wb (wb.alloc (.cells #[] 39)) := HB0.out.alloc HB0.out.size (.cells #[] 39)
          have d1 := HSx.out _ hba
          refine hK.out _ _ (Or.inr d1) ?_
          clear hK K
          try simp only [Act.put, List.setIfInBounds_toArray, List.set_cons_zero, List.set_cons_succ]
          clear d1
          obtain ⟨y1, hy⟩ : ∃ x, x = wb.alloc (.cells #[] 39) := ⟨_, rfl⟩
          have hsz : y1.heap.size = wb.heap.size + 1 := by rw [hy]; simp
          obtain ⟨ob, hob⟩ : ∃ b, b = wb.heap.size := ⟨_, rfl⟩
          have HV : Hid (OwnV 39 wb.heap.size y1 (.slice (some ⟨ob, 0, none⟩) 0 0) []) := Lib.hid (by rw [hob, hy]; exact OwnV.lit _ HB0.out.size)
          obtain ⟨ol, hol⟩ : ∃ l : List Value, l = [] := ⟨_, rfl⟩
          have HOl := Lib.hid hol
          rw [← hol] at HV
          rw [← hob]
          obtain ⟨ov, hov⟩ : ∃ v, v = Value.slice (some ⟨ob, 0, none⟩) 0 0 := ⟨_, rfl⟩
          rw [← hov] at HV ⊢
          have HOv := Lib.hid hov
          clear hol hob hov
          have HVl : Hid (∀ r, ov.ownBlock = some r → r < y1.heap.size) := Lib.hid (fun r hr => (HV.out.2.2.lt r hr).2)
          replace HB0 : Hid (Below wb.heap.size wb y1) := Lib.hid (by rw [hy]; exact hba)
          rw [← hy]
          clear hba hy hsz
          apply Till.three (i := 2) (j := 4) (k := 10)
          · kernel_rfl
          · simp only [List.getElem?_toArray, List.getElem?_cons_succ, List.getElem?_cons_zero]
            rfl
          · simp only [List.getElem?_toArray, List.getElem?_cons_succ, List.getElem?_cons_zero]
            rfl
          · simp only [List.getElem?_toArray, List.getElem?_cons_succ, List.getElem?_cons_zero]
            rfl
          · intro K hK
            refine step_append_valsZ _ (by rfl) _ _ 24 (by rfl) 39 i1 (.agg #[.slice none 0 0]) 24 Try.underlying24 Hhi'.out hy0 hy1 hy2 rfl (by omega) (by rfl) HV.out (by rfl) (HVb.out.behind (HB0.out.mono HLb.out)) HOd.out (by rw [HOl.out, Hdl.out]; decide) ?_
            intro v1 y2 h1 hg1 hp1
            have hb1 : Below wb.heap.size wb y2 := HB0.out.trans (HV.out.below (Nat.le_refl _) hg1)
            have d1 := HSx.out _ hb1
            refine hK.out _ _ (Or.inr d1) ?_
            clear hK K
            try simp only [Act.put, List.setIfInBounds_toArray, List.set_cons_zero, List.set_cons_succ]
            clear d1
            rw [HOl.out] at h1
            replace HV := Lib.hid h1
            replace HVl : Hid (∀ r, v1.ownBlock = some r → r < y2.heap.size) := Lib.hid (fun r hr => (HV.out.2.2.lt r hr).2)
            replace HB0 := Lib.hid hb1
            clear h1 hg1 hp1 hb1
            rw [List.nil_append] at HV
            clear HOv HOl
            obtain ⟨ol2, hol⟩ : ∃ l, l = ds := ⟨_, rfl⟩
            have HOl := Lib.hid hol
            rw [← hol] at HV
            clear hol
            obtain ⟨ov, hov⟩ : ∃ v, v = v1 := ⟨_, rfl⟩
            rw [← hov] at HV HVl ⊢
            clear hov ol
            obtain ⟨ol, hol⟩ : ∃ l, l = ol2 := ⟨_, rfl⟩
            rw [← hol] at HV HOl
            clear hol
            apply Till.two (i := 4) (j := 10)
            · kernel_rfl
            · simp only [List.getElem?_toArray, List.getElem?_cons_succ, List.getElem?_cons_zero]
              rfl
            · simp only [List.getElem?_toArray, List.getElem?_cons_succ, List.getElem?_cons_zero]
              rfl
            · intro K hK
              go_simp
              have hba : Below wb.heap.size wb (y2.alloc (.cells #[.slice xa xn xc] 39)) := HB0.out.alloc HB0.out.size (.cells #[.slice xa xn xc] 39)
              have d1 := HSx.out _ hba
              refine hK.out _ _ (Or.inr d1) ?_
              clear hK K
              try simp only [Act.put, List.setIfInBounds_toArray, List.set_cons_zero, List.set_cons_succ]
              clear d1
              obtain ⟨y3, hy⟩ : ∃ x, x = y2.alloc (.cells #[.slice xa xn xc] 39) := ⟨_, rfl⟩
              have hsz : y3.heap.size = y2.heap.size + 1 := by rw [hy]; simp
              replace HV : Hid (OwnV 39 wb.heap.size y3 ov ol) := Lib.hid (by rw [hy]; exact HV.out.alloc (.cells #[.slice xa xn xc] 39))
              have HX4 : Hid (y3.heap[y2.heap.size]? = some (.cells #[.slice xa xn xc] 39)) := Lib.hid (by rw [hy]; exact heap_alloc_new _ _)
              have H4V : Hid (∀ r, ov.ownBlock = some r → r ≠ y2.heap.size) := Lib.hid (fun r hr => by have h := HVl.out r hr; omega)
              obtain ⟨A4, hA4⟩ : ∃ b, b = y2.heap.size := ⟨_, rfl⟩
              have HL4 : Hid (A4 < y3.heap.size) := Lib.hid (by omega)
              rw [← hA4] at HX4 H4V ⊢
              clear hA4
              replace HVl : Hid (∀ r, ov.ownBlock = some r → r < y3.heap.size) := Lib.hid (fun r hr => (HV.out.2.2.lt r hr).2)
              replace HB0 : Hid (Below wb.heap.size wb y3) := Lib.hid (by rw [hy]; exact hba)
              rw [← hy]
              clear hba hy hsz
              apply Till.two (i := 5) (j := 10)
              · kernel_rfl
              · simp only [List.getElem?_toArray, List.getElem?_cons_succ, List.getElem?_cons_zero]
                rfl
              · simp only [List.getElem?_toArray, List.getElem?_cons_succ, List.getElem?_cons_zero]
                rfl
              · intro K hK
                refine step_append_valsZ _ (by rfl) _ _ 24 (by rfl) 39 i1 (.agg #[.slice none 0 0]) 24 Try.underlying24 Hhi'.out hy0 hy1 hy2 rfl (by omega) (by rfl) HV.out (by rfl) (rdv_one HX4.out) (fun y hy => by rw [List.mem_singleton.1 hy]; rfl) (by rw [HOl.out, Hdl.out, List.length_singleton]; decide) ?_
                intro v1 y4 h1 hg1 hp1
                have hb1 : Below wb.heap.size wb y4 := HB0.out.trans (HV.out.below (Nat.le_refl _) hg1)
                have d1 := HSx.out _ hb1
                refine hK.out _ _ (Or.inr d1) ?_
                clear hK K
                try simp only [Act.put, List.setIfInBounds_toArray, List.set_cons_zero, List.set_cons_succ]
                clear d1
                replace HX4 : Hid (y4.heap[A4]? = some (.cells #[.slice xa xn xc] 39)) := Lib.hid ((hg1.block A4 (lt_of_block HX4.out) (fun e => H4V.out A4 e.symm rfl)).trans HX4.out)
                replace H4V : Hid (∀ r, v1.ownBlock = some r → r ≠ A4) := Lib.hid (fun r hr => by rcases hp1 with h | h <;> rw [h] at hr; exact H4V.out r hr; (injection hr with hr; have := HL4.out; omega))
                replace HL4 : Hid (A4 < y4.heap.size) := Lib.hid (lt_of_block HX4.out)
                rw [HOl.out] at h1
                replace HV := Lib.hid h1
                replace HVl : Hid (∀ r, v1.ownBlock = some r → r < y4.heap.size) := Lib.hid (fun r hr => (HV.out.2.2.lt r hr).2)
                replace HB0 := Lib.hid hb1
                clear h1 hg1 hp1 hb1
                have HJ5 : Hid ((sliceT 39 tyDatabase).rd y4.heap.size y4 [v1] (Dl ++ [X])) := Lib.hid (by
                  have hp := (HPb.out.append (Pt.one HXb.out)).mono (fun u x h => tyDatabase.mono (tyDatabase.behind h HB0.out) HB0.out.size)
                  exact sl_of_vals rfl HV.out.rdv hp.1 hp.2)
                obtain ⟨ov2, hov⟩ : ∃ v, v = v1 := ⟨_, rfl⟩
                rw [← hov] at HJ5 HV HVl ⊢
                clear hov HX4 H4V HL4
                obtain ⟨ov, hov⟩ : ∃ v, v = ov2 := ⟨_, rfl⟩
                rw [← hov] at HJ5 HV HVl ⊢
                clear hov
                apply Till.two (i := 6) (j := 10)
                · kernel_rfl
                · simp only [List.getElem?_toArray, List.getElem?_cons_succ, List.getElem?_cons_zero]
                  rfl
                · simp only [List.getElem?_toArray, List.getElem?_cons_succ, List.getElem?_cons_zero]
                  rfl
                · intro K hK
                  go_simp
                  refine (impl_jw HJ5.out (Nat.le_refl _) HTj.out).mono ?_
                  rw [HEj.out.1, HEj.out.2]
                  rintro e' y5 ⟨v6, he, h6, hb6⟩
                  subst he
                  obtain ⟨a6, c6, hv6, _⟩ := h6.open
                  rw [HWh.out.2.2.2] at hv6
                  obtain ⟨n6, hn6⟩ : ∃ m, m = n := ⟨_, rfl⟩
                  rw [← hn6] at hv6
                  subst hv6
                  have HN6 := Lib.hid hn6
                  have hbb : Below wb.heap.size wb y5 := HB0.out.trans (hb6.mono HB0.out.size)
                  have d1 := HSx.out _ hbb
                  obtain ⟨F6, hF6⟩ : ∃ F : Nat → Prop, F = ival y4.heap.size y5.heap.size := ⟨_, rfl⟩
                  rw [← hF6] at h6
                  have HO6 := Lib.hid h6
                  replace HB0 := Lib.hid hbb
                  have HF6 : Hid (∀ b, F6 b → b < y5.heap.size) := Lib.hid (fun b hb => by rw [hF6] at hb; exact hb.2)
                  clear h6 hb6 hbb hn6 hF6 HJ5 HV HVl 
                  refine hK.out _ _ (Or.inr d1) ?_
                  clear hK K
                  try simp only [Act.put, List.setIfInBounds_toArray, List.set_cons_zero, List.set_cons_succ]
                  clear d1
                  apply Till.take (i := 7) [7, 9, 12]
                  · simp only [List.getElem?_toArray, List.getElem?_cons_succ, List.getElem?_cons_zero]
                    rfl
                  · kernel_rfl
                  · kernel_rfl
                  · kernel_rfl
                  · kernel_rfl
                  · exact fun _ _ _ h => h
                  · first
                      | exact Or.inr ⟨by rfl, rfl⟩
                      | (refine Or.inl ⟨by rfl, fun wq hwq => ?_⟩
                         dsimp only at hwq
                         go_simp
                         first
                           | done
                           | rfl)
                  · exact HSx.out _ HB0.out
                  simp only [Act.put, List.setIfInBounds_toArray, List.set_cons_zero, List.set_cons_succ]
                  apply Till.take (i := 8) [8, 11, 12]
                  · simp only [List.getElem?_toArray, List.getElem?_cons_succ, List.getElem?_cons_zero]
                    rfl
                  · kernel_rfl
                  · kernel_rfl
                  · kernel_rfl
                  · kernel_rfl
                  · exact fun _ _ _ h => h
                  · first
                      | exact Or.inr ⟨by rfl, rfl⟩
                      | (refine Or.inl ⟨by rfl, fun wq hwq => ?_⟩
                         dsimp only at hwq
                         go_simp
                         first
                           | done
                           | rfl)
                  · exact HSx.out _ HB0.out
                  simp only [Act.put, List.setIfInBounds_toArray, List.set_cons_zero, List.set_cons_succ]
                  apply Till.take (i := 9) [9, 12]
                  · simp only [List.getElem?_toArray, List.getElem?_cons_succ, List.getElem?_cons_zero]
                    rfl
                  · kernel_rfl
                  · kernel_rfl
                  · kernel_rfl
                  · kernel_rfl
                  · exact fun _ _ _ h => h
                  · first
                      | exact Or.inr ⟨by rfl, rfl⟩
                      | (refine Or.inl ⟨by rfl, fun wq hwq => ?_⟩
                         dsimp only at hwq
                         go_simp
                         first
                           | done
                           | rfl)
                  · exact HSx.out _ HB0.out
                  simp only [Act.put, List.setIfInBounds_toArray, List.set_cons_zero, List.set_cons_succ]
                  apply Till.one (i := 10)
                  · kernel_rfl
                  · simp only [List.getElem?_toArray, List.getElem?_cons_succ, List.getElem?_cons_zero]
                    rfl
                  intro K hK
                  go_simp
                  have hba : Below wb.heap.size wb (y5.alloc (.cells #[.slice none 0 0] 39)) := HB0.out.alloc HB0.out.size (.cells #[.slice none 0 0] 39)
                  have d1 := HSx.out _ hba
                  refine hK.out _ _ (Or.inr d1) ?_
                  clear hK K
                  try simp only [Act.put, List.setIfInBounds_toArray, List.set_cons_zero, List.set_cons_succ]
                  clear d1
                  obtain ⟨y6, hy⟩ : ∃ x, x = y5.alloc (.cells #[.slice none 0 0] 39) := ⟨_, rfl⟩
                  have hsz : y6.heap.size = y5.heap.size + 1 := by rw [hy]; simp
                  have HE : Hid (y6.heap[y5.heap.size]? = some (.cells #[.slice none 0 0] 39)) := Lib.hid (by rw [hy]; exact heap_alloc_new _ _)
                  obtain ⟨E, hE⟩ : ∃ b, b = y5.heap.size := ⟨_, rfl⟩
                  have HLE : Hid (E < y6.heap.size) := Lib.hid (by omega)
                  have HEb : Hid (wb.heap.size ≤ E) := Lib.hid (by have := HB0.out.size; omega)
                  have HE6 : Hid (E = y5.heap.size) := Lib.hid hE
                  rw [← hE] at HE ⊢
                  clear hE
                  replace HO6 : Hid (Own2 22 5 .u8 F6 y6 (.slice a6 n6 c6) W) := Lib.hid (by rw [hy]; exact HO6.out.alloc _)
                  have HF7 : Hid (∀ b, F6 b → b < y6.heap.size ∧ b ≠ E) := Lib.hid (fun b hb => by have h1 := HF6.out b hb; have h2 := HE6.out; omega)
                  clear HF6 HE6
                  replace HB0 : Hid (Below wb.heap.size wb y6) := Lib.hid (by rw [hy]; exact hba)
                  rw [← hy]
                  clear hba hy hsz
                  have cE := blk_cell HE.out 0
                  have fE := blk_free HE.out 0
                  rw [one0] at cE
                  obtain ⟨t1, t2, t3⟩ := store1 HE.out (.slice a6 n6 c6)
                  have hB9 : Below wb.heap.size wb (y6.setCell ⟨E, 0, none⟩ (.slice a6 n6 c6)) := HB0.out.trans (t3.below (fun b hb => by have := HEb.out; omega) HB0.out.size)
                  have d1 := HSx.out _ hB9
                  have HRr := Lib.hid (HO6.out.keptF t3 (fun b hb e => (HF7.out b hb).2 e)).rd2
                  have HT1 := Lib.hid t1
                  have HB9 := Lib.hid hB9
                  clear t1 t2 t3 hB9
                  apply Till.one (i := 11)
                  · kernel_rfl
                  · simp only [List.getElem?_toArray, List.getElem?_cons_succ, List.getElem?_cons_zero]
                    rfl
                  intro K hK
                  go_simp
                  skip
                  refine hK.out _ _ (Or.inr d1) ?_
                  clear hK K
                  try simp only [Act.put, List.setIfInBounds_toArray, List.set_cons_zero, List.set_cons_succ]
                  apply Till.one (i := 12)
                  · kernel_rfl
                  · simp only [List.getElem?_toArray, List.getElem?_cons_succ, List.getElem?_cons_zero]
                    rfl
                  intro K hK
                  go_simp
                  skip
                  refine hK.out _ _ (Or.inl (by rfl)) ?_
                  clear hK K
                  try simp only [Act.put, List.setIfInBounds_toArray, List.set_cons_zero, List.set_cons_succ]
                  refine Till.done (by kernel_rfl) ?_ _
                  clear cE fE d1
                  obtain ⟨wz, hwz⟩ : ∃ x, x = y6.setCell ⟨E, 0, none⟩ (.slice a6 n6 c6) := ⟨_, rfl⟩
                  rw [← hwz] at HT1 HRr HB9 ⊢
                  clear hwz
                  go_wp2_with fail
                  go_meet
                  case rel => exact ⟨E, a6, n6, c6, rfl, rfl, HRr.out, HN6.out.symm, HT1.out, HBb.out.trans (by have h := HB9.out; rw [← HZb.out] at h; exact h)⟩
                · intro K hK
                  go_simp
                  have hba : Below wb.heap.size wb (y4.alloc (.cells #[.slice none 0 0] 39)) := HB0.out.alloc HB0.out.size (.cells #[.slice none 0 0] 39)
                  have d1 := HSx.out _ hba
                  refine hK.out _ _ (Or.inr d1) ?_
                  clear hK K
                  try simp only [Act.put, List.setIfInBounds_toArray, List.set_cons_zero, List.set_cons_succ]
                  clear d1
                  obtain ⟨y7, hy⟩ : ∃ x, x = y4.alloc (.cells #[.slice none 0 0] 39) := ⟨_, rfl⟩
                  have hsz : y7.heap.size = y4.heap.size + 1 := by rw [hy]; simp
                  have HE : Hid (y7.heap[y4.heap.size]? = some (.cells #[.slice none 0 0] 39)) := Lib.hid (by rw [hy]; exact heap_alloc_new _ _)
                  obtain ⟨E, hE⟩ : ∃ b, b = y4.heap.size := ⟨_, rfl⟩
                  have HLE : Hid (E < y7.heap.size) := Lib.hid (by omega)
                  have HEb : Hid (wb.heap.size ≤ E) := Lib.hid (by have := HB0.out.size; omega)
                  have HE6 : Hid (E = y4.heap.size) := Lib.hid hE
                  rw [← hE] at HE ⊢
                  clear hE
                  replace HJ5 : Hid ((sliceT 39 tyDatabase).rd y7.heap.size y7 [ov] (Dl ++ [X])) := Lib.hid (by rw [hy]; exact (sliceT 39 tyDatabase).mono ((sliceT 39 tyDatabase).behind HJ5.out ((Below.refl _ _).alloc (Nat.le_refl _) _)) (by simp))
                  replace HB0 : Hid (Below wb.heap.size wb y7) := Lib.hid (by rw [hy]; exact hba)
                  rw [← hy]
                  clear hba hy hsz
                  apply Till.one (i := 6)
                  · kernel_rfl
                  · simp only [List.getElem?_toArray, List.getElem?_cons_succ, List.getElem?_cons_zero]
                    rfl
                  intro K hK
                  go_simp
                  refine (impl_jw HJ5.out (Nat.le_refl _) HTj.out).mono ?_
                  rw [HEj.out.1, HEj.out.2]
                  rintro e' y8 ⟨v6, he, h6, hb6⟩
                  subst he
                  obtain ⟨a6, c6, hv6, _⟩ := h6.open
                  rw [HWh.out.2.2.2] at hv6
                  obtain ⟨n6, hn6⟩ : ∃ m, m = n := ⟨_, rfl⟩
                  rw [← hn6] at hv6
                  subst hv6
                  have HN6 := Lib.hid hn6
                  have hbb : Below wb.heap.size wb y8 := HB0.out.trans (hb6.mono HB0.out.size)
                  have d1 := HSx.out _ hbb
                  obtain ⟨F6, hF6⟩ : ∃ F : Nat → Prop, F = ival y7.heap.size y8.heap.size := ⟨_, rfl⟩
                  rw [← hF6] at h6
                  have HO6 := Lib.hid h6
                  replace HB0 := Lib.hid hbb
                  have HF7 : Hid (∀ b, F6 b → b < y8.heap.size ∧ b ≠ E) := Lib.hid (fun b hb => by rw [hF6] at hb; unfold ival at hb; have := HLE.out; omega)
                  replace HE : Hid (y8.heap[E]? = some (.cells #[.slice none 0 0] 39)) := Lib.hid ((hb6.block E (lt_of_block HE.out)).trans HE.out)
                  replace HLE : Hid (E < y8.heap.size) := Lib.hid (lt_of_block HE.out)
                  clear h6 hb6 hbb hn6 hF6 HJ5 HV HVl 
                  refine hK.out _ _ (Or.inr d1) ?_
                  clear hK K
                  try simp only [Act.put, List.setIfInBounds_toArray, List.set_cons_zero, List.set_cons_succ]
                  clear d1
                  apply Till.take (i := 7) [7, 9, 12]
                  · simp only [List.getElem?_toArray, List.getElem?_cons_succ, List.getElem?_cons_zero]
                    rfl
                  · kernel_rfl
                  · kernel_rfl
                  · kernel_rfl
                  · kernel_rfl
                  · exact fun _ _ _ h => h
                  · first
                      | exact Or.inr ⟨by rfl, rfl⟩
                      | (refine Or.inl ⟨by rfl, fun wq hwq => ?_⟩
                         dsimp only at hwq
                         go_simp
                         first
                           | done
                           | rfl)
                  · exact HSx.out _ HB0.out
                  simp only [Act.put, List.setIfInBounds_toArray, List.set_cons_zero, List.set_cons_succ]
                  apply Till.take (i := 8) [8, 11, 12]
                  · simp only [List.getElem?_toArray, List.getElem?_cons_succ, List.getElem?_cons_zero]
                    rfl
                  · kernel_rfl
                  · kernel_rfl
                  · kernel_rfl
                  · kernel_rfl
                  · exact fun _ _ _ h => h
                  · first
                      | exact Or.inr ⟨by rfl, rfl⟩
                      | (refine Or.inl ⟨by rfl, fun wq hwq => ?_⟩
                         dsimp only at hwq
                         go_simp
                         first
                           | done
                           | rfl)
                  · exact HSx.out _ HB0.out
                  simp only [Act.put, List.setIfInBounds_toArray, List.set_cons_zero, List.set_cons_succ]
                  apply Till.take (i := 9) [9, 12]
                  · simp only [List.getElem?_toArray, List.getElem?_cons_succ, List.getElem?_cons_zero]
                    rfl
                  · kernel_rfl
                  · kernel_rfl
                  · kernel_rfl
                  · kernel_rfl
                  · exact fun _ _ _ h => h
                  · first
                      | exact Or.inr ⟨by rfl, rfl⟩
                      | (refine Or.inl ⟨by rfl, fun wq hwq => ?_⟩
                         dsimp only at hwq
                         go_simp
                         first
                           | done
                           | rfl)
                  · exact HSx.out _ HB0.out
                  simp only [Act.put, List.setIfInBounds_toArray, List.set_cons_zero, List.set_cons_succ]
                  have cE := blk_cell HE.out 0
                  have fE := blk_free HE.out 0
                  rw [one0] at cE
                  obtain ⟨t1, t2, t3⟩ := store1 HE.out (.slice a6 n6 c6)
                  have hB9 : Below wb.heap.size wb (y8.setCell ⟨E, 0, none⟩ (.slice a6 n6 c6)) := HB0.out.trans (t3.below (fun b hb => by have := HEb.out; omega) HB0.out.size)
                  have d1 := HSx.out _ hB9
                  have HRr := Lib.hid (HO6.out.keptF t3 (fun b hb e => (HF7.out b hb).2 e)).rd2
                  have HT1 := Lib.hid t1
                  have HB9 := Lib.hid hB9
                  clear t1 t2 t3 hB9
                  apply Till.one (i := 11)
                  · kernel_rfl
                  · simp only [List.getElem?_toArray, List.getElem?_cons_succ, List.getElem?_cons_zero]
                    rfl
                  intro K hK
                  go_simp
                  skip
                  refine hK.out _ _ (Or.inr d1) ?_
                  clear hK K
                  try simp only [Act.put, List.setIfInBounds_toArray, List.set_cons_zero, List.set_cons_succ]
                  apply Till.one (i := 12)
                  · kernel_rfl
                  · simp only [List.getElem?_toArray, List.getElem?_cons_succ, List.getElem?_cons_zero]
                    rfl
                  intro K hK
                  go_simp
                  skip
                  refine hK.out _ _ (Or.inl (by rfl)) ?_
                  clear hK K
                  try simp only [Act.put, List.setIfInBounds_toArray, List.set_cons_zero, List.set_cons_succ]
                  refine Till.done (by kernel_rfl) ?_ _
                  clear cE fE d1
                  obtain ⟨wz, hwz⟩ : ∃ x, x = y8.setCell ⟨E, 0, none⟩ (.slice a6 n6 c6) := ⟨_, rfl⟩
                  rw [← hwz] at HT1 HRr HB9 ⊢
                  clear hwz
                  go_wp2_with fail
                  go_meet
                  case rel => exact ⟨E, a6, n6, c6, rfl, rfl, HRr.out, HN6.out.symm, HT1.out, HBb.out.trans (by have h := HB9.out; rw [← HZb.out] at h; exact h)⟩
              · intro K hK
                go_simp
                have hba : Below wb.heap.size wb (y3.alloc (.cells #[.slice none 0 0] 39)) := HB0.out.alloc HB0.out.size (.cells #[.slice none 0 0] 39)
                have d1 := HSx.out _ hba
                refine hK.out _ _ (Or.inr d1) ?_
                clear hK K
                try simp only [Act.put, List.setIfInBounds_toArray, List.set_cons_zero, List.set_cons_succ]
                clear d1
                obtain ⟨y9, hy⟩ : ∃ x, x = y3.alloc (.cells #[.slice none 0 0] 39) := ⟨_, rfl⟩
                have hsz : y9.heap.size = y3.heap.size + 1 := by rw [hy]; simp
                replace HV : Hid (OwnV 39 wb.heap.size y9 ov ol) := Lib.hid (by rw [hy]; exact HV.out.alloc (.cells #[.slice none 0 0] 39))
                replace HX4 : Hid (y9.heap[A4]? = some (.cells #[.slice xa xn xc] 39)) := Lib.hid (by rw [hy]; exact (heap_alloc_old _ _ (lt_of_block HX4.out)).trans HX4.out)
                have HE : Hid (y9.heap[y3.heap.size]? = some (.cells #[.slice none 0 0] 39)) := Lib.hid (by rw [hy]; exact heap_alloc_new _ _)
                have HEV : Hid (∀ r, ov.ownBlock = some r → r ≠ y3.heap.size) := Lib.hid (fun r hr => by have h := HVl.out r hr; omega)
                obtain ⟨E, hE⟩ : ∃ b, b = y3.heap.size := ⟨_, rfl⟩
                have HLE : Hid (E < y9.heap.size) := Lib.hid (by omega)
                have HEb : Hid (wb.heap.size ≤ E) := Lib.hid (by have := HB0.out.size; omega)
                have HE6 : Hid (E = y3.heap.size) := Lib.hid hE
                rw [← hE] at HE HEV ⊢
                clear hE
                replace HL4 : Hid (A4 < y9.heap.size) := Lib.hid (by have := HL4.out; omega)
                replace HVl : Hid (∀ r, ov.ownBlock = some r → r < y9.heap.size) := Lib.hid (fun r hr => (HV.out.2.2.lt r hr).2)
                replace HB0 : Hid (Below wb.heap.size wb y9) := Lib.hid (by rw [hy]; exact hba)
                rw [← hy]
                clear hba hy hsz
                apply Till.one (i := 5)
                · kernel_rfl
                · simp only [List.getElem?_toArray, List.getElem?_cons_succ, List.getElem?_cons_zero]
                  rfl
                intro K hK
                refine step_append_valsZ _ (by rfl) _ _ 24 (by rfl) 39 i1 (.agg #[.slice none 0 0]) 24 Try.underlying24 Hhi'.out hy0 hy1 hy2 rfl (by omega) (by rfl) HV.out (by rfl) (rdv_one HX4.out) (fun y hy => by rw [List.mem_singleton.1 hy]; rfl) (by rw [HOl.out, Hdl.out, List.length_singleton]; decide) ?_
                intro v1 y10 h1 hg1 hp1
                have hb1 : Below wb.heap.size wb y10 := HB0.out.trans (HV.out.below (Nat.le_refl _) hg1)
                have d1 := HSx.out _ hb1
                refine hK.out _ _ (Or.inr d1) ?_
                clear hK K
                try simp only [Act.put, List.setIfInBounds_toArray, List.set_cons_zero, List.set_cons_succ]
                clear d1
                replace HX4 : Hid (y10.heap[A4]? = some (.cells #[.slice xa xn xc] 39)) := Lib.hid ((hg1.block A4 (lt_of_block HX4.out) (fun e => H4V.out A4 e.symm rfl)).trans HX4.out)
                replace H4V : Hid (∀ r, v1.ownBlock = some r → r ≠ A4) := Lib.hid (fun r hr => by rcases hp1 with h | h <;> rw [h] at hr; exact H4V.out r hr; (injection hr with hr; have := HL4.out; omega))
                replace HL4 : Hid (A4 < y10.heap.size) := Lib.hid (lt_of_block HX4.out)
                replace HE : Hid (y10.heap[E]? = some (.cells #[.slice none 0 0] 39)) := Lib.hid ((hg1.block E (lt_of_block HE.out) (fun e => HEV.out E e.symm rfl)).trans HE.out)
                replace HEV : Hid (∀ r, v1.ownBlock = some r → r ≠ E) := Lib.hid (fun r hr => by rcases hp1 with h | h <;> rw [h] at hr; exact HEV.out r hr; (injection hr with hr; have := HLE.out; omega))
                replace HLE : Hid (E < y10.heap.size) := Lib.hid (lt_of_block HE.out)
                rw [HOl.out] at h1
                replace HV := Lib.hid h1
                replace HVl : Hid (∀ r, v1.ownBlock = some r → r < y10.heap.size) := Lib.hid (fun r hr => (HV.out.2.2.lt r hr).2)
                replace HB0 := Lib.hid hb1
                clear h1 hg1 hp1 hb1
                have HJ5 : Hid ((sliceT 39 tyDatabase).rd y10.heap.size y10 [v1] (Dl ++ [X])) := Lib.hid (by
                  have hp := (HPb.out.append (Pt.one HXb.out)).mono (fun u x h => tyDatabase.mono (tyDatabase.behind h HB0.out) HB0.out.size)
                  exact sl_of_vals rfl HV.out.rdv hp.1 hp.2)
                obtain ⟨ov2, hov⟩ : ∃ v, v = v1 := ⟨_, rfl⟩
                rw [← hov] at HJ5 HV HVl HEV ⊢
                clear hov HX4 H4V HL4
                obtain ⟨ov, hov⟩ : ∃ v, v = ov2 := ⟨_, rfl⟩
                rw [← hov] at HJ5 HV HVl HEV ⊢
                clear hov
                apply Till.one (i := 6)
                · kernel_rfl
                · simp only [List.getElem?_toArray, List.getElem?_cons_succ, List.getElem?_cons_zero]
                  rfl
                intro K hK
                go_simp
                refine (impl_jw HJ5.out (Nat.le_refl _) HTj.out).mono ?_
                rw [HEj.out.1, HEj.out.2]
                rintro e' y11 ⟨v6, he, h6, hb6⟩
                subst he
                obtain ⟨a6, c6, hv6, _⟩ := h6.open
                rw [HWh.out.2.2.2] at hv6
                obtain ⟨n6, hn6⟩ : ∃ m, m = n := ⟨_, rfl⟩
                rw [← hn6] at hv6
                subst hv6
                have HN6 := Lib.hid hn6
                have hbb : Below wb.heap.size wb y11 := HB0.out.trans (hb6.mono HB0.out.size)
                have d1 := HSx.out _ hbb
                obtain ⟨F6, hF6⟩ : ∃ F : Nat → Prop, F = ival y10.heap.size y11.heap.size := ⟨_, rfl⟩
                rw [← hF6] at h6
                have HO6 := Lib.hid h6
                replace HB0 := Lib.hid hbb
                have HF7 : Hid (∀ b, F6 b → b < y11.heap.size ∧ b ≠ E) := Lib.hid (fun b hb => by rw [hF6] at hb; unfold ival at hb; have := HLE.out; omega)
                replace HE : Hid (y11.heap[E]? = some (.cells #[.slice none 0 0] 39)) := Lib.hid ((hb6.block E (lt_of_block HE.out)).trans HE.out)
                replace HLE : Hid (E < y11.heap.size) := Lib.hid (lt_of_block HE.out)
                clear h6 hb6 hbb hn6 hF6 HJ5 HV HVl HEV
                refine hK.out _ _ (Or.inr d1) ?_
                clear hK K
                try simp only [Act.put, List.setIfInBounds_toArray, List.set_cons_zero, List.set_cons_succ]
                clear d1
                apply Till.take (i := 7) [7, 9, 12]
                · simp only [List.getElem?_toArray, List.getElem?_cons_succ, List.getElem?_cons_zero]
                  rfl
                · kernel_rfl
                · kernel_rfl
                · kernel_rfl
                · kernel_rfl
                · exact fun _ _ _ h => h
                · first
                    | exact Or.inr ⟨by rfl, rfl⟩
                    | (refine Or.inl ⟨by rfl, fun wq hwq => ?_⟩
                       dsimp only at hwq
                       go_simp
                       first
                         | done
                         | rfl)
                · exact HSx.out _ HB0.out
                simp only [Act.put, List.setIfInBounds_toArray, List.set_cons_zero, List.set_cons_succ]
                apply Till.take (i := 8) [8, 11, 12]
                · simp only [List.getElem?_toArray, List.getElem?_cons_succ, List.getElem?_cons_zero]
                  rfl
                · kernel_rfl
                · kernel_rfl
                · kernel_rfl
                · kernel_rfl
                · exact fun _ _ _ h => h
                · first
                    | exact Or.inr ⟨by rfl, rfl⟩
                    | (refine Or.inl ⟨by rfl, fun wq hwq => ?_⟩
                       dsimp only at hwq
                       go_simp
                       first
                         | done
                         | rfl)
                · exact HSx.out _ HB0.out
                simp only [Act.put, List.setIfInBounds_toArray, List.set_cons_zero, List.set_cons_succ]
                apply Till.take (i := 9) [9, 12]
                · simp only [List.getElem?_toArray, List.getElem?_cons_succ, List.getElem?_cons_zero]
                  rfl
                · kernel_rfl
                · kernel_rfl
                · kernel_rfl
                · kernel_rfl
                · exact fun _ _ _ h => h
                · first
                    | exact Or.inr ⟨by rfl, rfl⟩
                    | (refine Or.inl ⟨by rfl, fun wq hwq => ?_⟩
                       dsimp only at hwq
                       go_simp
                       first
                         | done
                         | rfl)
                · exact HSx.out _ HB0.out
                simp only [Act.put, List.setIfInBounds_toArray, List.set_cons_zero, List.set_cons_succ]
                have cE := blk_cell HE.out 0
                have fE := blk_free HE.out 0
                rw [one0] at cE
                obtain ⟨t1, t2, t3⟩ := store1 HE.out (.slice a6 n6 c6)
                have hB9 : Below wb.heap.size wb (y11.setCell ⟨E, 0, none⟩ (.slice a6 n6 c6)) := HB0.out.trans (t3.below (fun b hb => by have := HEb.out; omega) HB0.out.size)
                have d1 := HSx.out _ hB9
                have HRr := Lib.hid (HO6.out.keptF t3 (fun b hb e => (HF7.out b hb).2 e)).rd2
                have HT1 := Lib.hid t1
                have HB9 := Lib.hid hB9
                clear t1 t2 t3 hB9
                apply Till.one (i := 11)
                · kernel_rfl
                · simp only [List.getElem?_toArray, List.getElem?_cons_succ, List.getElem?_cons_zero]
                  rfl
                intro K hK
                go_simp
                skip
                refine hK.out _ _ (Or.inr d1) ?_
                clear hK K
                try simp only [Act.put, List.setIfInBounds_toArray, List.set_cons_zero, List.set_cons_succ]
                apply Till.one (i := 12)
                · kernel_rfl
                · simp only [List.getElem?_toArray, List.getElem?_cons_succ, List.getElem?_cons_zero]
                  rfl
                intro K hK
                go_simp
                skip
                refine hK.out _ _ (Or.inl (by rfl)) ?_
                clear hK K
                try simp only [Act.put, List.setIfInBounds_toArray, List.set_cons_zero, List.set_cons_succ]
                refine Till.done (by kernel_rfl) ?_ _
                clear cE fE d1
                obtain ⟨wz, hwz⟩ : ∃ x, x = y11.setCell ⟨E, 0, none⟩ (.slice a6 n6 c6) := ⟨_, rfl⟩
                rw [← hwz] at HT1 HRr HB9 ⊢
                clear hwz
                go_wp2_with fail
                go_meet
                case rel => exact ⟨E, a6, n6, c6, rfl, rfl, HRr.out, HN6.out.symm, HT1.out, HBb.out.trans (by have h := HB9.out; rw [← HZb.out] at h; exact h)⟩
            · intro K hK
              go_simp
              have hba : Below wb.heap.size wb (y2.alloc (.cells #[.slice none 0 0] 39)) := HB0.out.alloc HB0.out.size (.cells #[.slice none 0 0] 39)
              have d1 := HSx.out _ hba
              refine hK.out _ _ (Or.inr d1) ?_
              clear hK K
              try simp only [Act.put, List.setIfInBounds_toArray, List.set_cons_zero, List.set_cons_succ]
              clear d1
              obtain ⟨y12, hy⟩ : ∃ x, x = y2.alloc (.cells #[.slice none 0 0] 39) := ⟨_, rfl⟩
              have hsz : y12.heap.size = y2.heap.size + 1 := by rw [hy]; simp
              replace HV : Hid (OwnV 39 wb.heap.size y12 ov ol) := Lib.hid (by rw [hy]; exact HV.out.alloc (.cells #[.slice none 0 0] 39))
              have HE : Hid (y12.heap[y2.heap.size]? = some (.cells #[.slice none 0 0] 39)) := Lib.hid (by rw [hy]; exact heap_alloc_new _ _)
              have HEV : Hid (∀ r, ov.ownBlock = some r → r ≠ y2.heap.size) := Lib.hid (fun r hr => by have h := HVl.out r hr; omega)
              obtain ⟨E, hE⟩ : ∃ b, b = y2.heap.size := ⟨_, rfl⟩
              have HLE : Hid (E < y12.heap.size) := Lib.hid (by omega)
              have HEb : Hid (wb.heap.size ≤ E) := Lib.hid (by have := HB0.out.size; omega)
              have HE6 : Hid (E = y2.heap.size) := Lib.hid hE
              rw [← hE] at HE HEV ⊢
              clear hE
              replace HVl : Hid (∀ r, ov.ownBlock = some r → r < y12.heap.size) := Lib.hid (fun r hr => (HV.out.2.2.lt r hr).2)
              replace HB0 : Hid (Below wb.heap.size wb y12) := Lib.hid (by rw [hy]; exact hba)
              rw [← hy]
              clear hba hy hsz
              apply Till.one (i := 4)
              · kernel_rfl
              · simp only [List.getElem?_toArray, List.getElem?_cons_succ, List.getElem?_cons_zero]
                rfl
              intro K hK
              go_simp
              have hba : Below wb.heap.size wb (y12.alloc (.cells #[.slice xa xn xc] 39)) := HB0.out.alloc HB0.out.size (.cells #[.slice xa xn xc] 39)
              have d1 := HSx.out _ hba
              refine hK.out _ _ (Or.inr d1) ?_
              clear hK K
              try simp only [Act.put, List.setIfInBounds_toArray, List.set_cons_zero, List.set_cons_succ]
              clear d1
              obtain ⟨y13, hy⟩ : ∃ x, x = y12.alloc (.cells #[.slice xa xn xc] 39) := ⟨_, rfl⟩
              have hsz : y13.heap.size = y12.heap.size + 1 := by rw [hy]; simp
              replace HV : Hid (OwnV 39 wb.heap.size y13 ov ol) := Lib.hid (by rw [hy]; exact HV.out.alloc (.cells #[.slice xa xn xc] 39))
              replace HE : Hid (y13.heap[E]? = some (.cells #[.slice none 0 0] 39)) := Lib.hid (by rw [hy]; exact (heap_alloc_old _ _ (lt_of_block HE.out)).trans HE.out)
              have HX4 : Hid (y13.heap[y12.heap.size]? = some (.cells #[.slice xa xn xc] 39)) := Lib.hid (by rw [hy]; exact heap_alloc_new _ _)
              have H4V : Hid (∀ r, ov.ownBlock = some r → r ≠ y12.heap.size) := Lib.hid (fun r hr => by have h := HVl.out r hr; omega)
              obtain ⟨A4, hA4⟩ : ∃ b, b = y12.heap.size := ⟨_, rfl⟩
              have HL4 : Hid (A4 < y13.heap.size) := Lib.hid (by omega)
              rw [← hA4] at HX4 H4V ⊢
              clear hA4
              replace HLE : Hid (E < y13.heap.size) := Lib.hid (by have := HLE.out; omega)
              replace HVl : Hid (∀ r, ov.ownBlock = some r → r < y13.heap.size) := Lib.hid (fun r hr => (HV.out.2.2.lt r hr).2)
              replace HB0 : Hid (Below wb.heap.size wb y13) := Lib.hid (by rw [hy]; exact hba)
              rw [← hy]
              clear hba hy hsz
              apply Till.one (i := 5)
              · kernel_rfl
              · simp only [List.getElem?_toArray, List.getElem?_cons_succ, List.getElem?_cons_zero]
                rfl
              intro K hK
              refine step_append_valsZ _ (by rfl) _ _ 24 (by rfl) 39 i1 (.agg #[.slice none 0 0]) 24 Try.underlying24 Hhi'.out hy0 hy1 hy2 rfl (by omega) (by rfl) HV.out (by rfl) (rdv_one HX4.out) (fun y hy => by rw [List.mem_singleton.1 hy]; rfl) (by rw [HOl.out, Hdl.out, List.length_singleton]; decide) ?_
              intro v1 y14 h1 hg1 hp1
              have hb1 : Below wb.heap.size wb y14 := HB0.out.trans (HV.out.below (Nat.le_refl _) hg1)
              have d1 := HSx.out _ hb1
              refine hK.out _ _ (Or.inr d1) ?_
              clear hK K
              try simp only [Act.put, List.setIfInBounds_toArray, List.set_cons_zero, List.set_cons_succ]
              clear d1
              replace HX4 : Hid (y14.heap[A4]? = some (.cells #[.slice xa xn xc] 39)) := Lib.hid ((hg1.block A4 (lt_of_block HX4.out) (fun e => H4V.out A4 e.symm rfl)).trans HX4.out)
              replace H4V : Hid (∀ r, v1.ownBlock = some r → r ≠ A4) := Lib.hid (fun r hr => by rcases hp1 with h | h <;> rw [h] at hr; exact H4V.out r hr; (injection hr with hr; have := HL4.out; omega))
              replace HL4 : Hid (A4 < y14.heap.size) := Lib.hid (lt_of_block HX4.out)
              replace HE : Hid (y14.heap[E]? = some (.cells #[.slice none 0 0] 39)) := Lib.hid ((hg1.block E (lt_of_block HE.out) (fun e => HEV.out E e.symm rfl)).trans HE.out)
              replace HEV : Hid (∀ r, v1.ownBlock = some r → r ≠ E) := Lib.hid (fun r hr => by rcases hp1 with h | h <;> rw [h] at hr; exact HEV.out r hr; (injection hr with hr; have := HLE.out; omega))
              replace HLE : Hid (E < y14.heap.size) := Lib.hid (lt_of_block HE.out)
              rw [HOl.out] at h1
              replace HV := Lib.hid h1
              replace HVl : Hid (∀ r, v1.ownBlock = some r → r < y14.heap.size) := Lib.hid (fun r hr => (HV.out.2.2.lt r hr).2)
              replace HB0 := Lib.hid hb1
              clear h1 hg1 hp1 hb1
              have HJ5 : Hid ((sliceT 39 tyDatabase).rd y14.heap.size y14 [v1] (Dl ++ [X])) := Lib.hid (by
                have hp := (HPb.out.append (Pt.one HXb.out)).mono (fun u x h => tyDatabase.mono (tyDatabase.behind h HB0.out) HB0.out.size)
                exact sl_of_vals rfl HV.out.rdv hp.1 hp.2)
              obtain ⟨ov2, hov⟩ : ∃ v, v = v1 := ⟨_, rfl⟩
              rw [← hov] at HJ5 HV HVl HEV ⊢
              clear hov HX4 H4V HL4
              obtain ⟨ov, hov⟩ : ∃ v, v = ov2 := ⟨_, rfl⟩
              rw [← hov] at HJ5 HV HVl HEV ⊢
              clear hov
              apply Till.one (i := 6)
              · kernel_rfl
              · simp only [List.getElem?_toArray, List.getElem?_cons_succ, List.getElem?_cons_zero]
                rfl
              intro K hK
              go_simp
              refine (impl_jw HJ5.out (Nat.le_refl _) HTj.out).mono ?_
              rw [HEj.out.1, HEj.out.2]
              rintro e' y15 ⟨v6, he, h6, hb6⟩
              subst he
              obtain ⟨a6, c6, hv6, _⟩ := h6.open
              rw [HWh.out.2.2.2] at hv6
              obtain ⟨n6, hn6⟩ : ∃ m, m = n := ⟨_, rfl⟩
              rw [← hn6] at hv6
              subst hv6
              have HN6 := Lib.hid hn6
              have hbb : Below wb.heap.size wb y15 := HB0.out.trans (hb6.mono HB0.out.size)
              have d1 := HSx.out _ hbb
              obtain ⟨F6, hF6⟩ : ∃ F : Nat → Prop, F = ival y14.heap.size y15.heap.size := ⟨_, rfl⟩
              rw [← hF6] at h6
              have HO6 := Lib.hid h6
              replace HB0 := Lib.hid hbb
              have HF7 : Hid (∀ b, F6 b → b < y15.heap.size ∧ b ≠ E) := Lib.hid (fun b hb => by rw [hF6] at hb; unfold ival at hb; have := HLE.out; omega)
              replace HE : Hid (y15.heap[E]? = some (.cells #[.slice none 0 0] 39)) := Lib.hid ((hb6.block E (lt_of_block HE.out)).trans HE.out)
              replace HLE : Hid (E < y15.heap.size) := Lib.hid (lt_of_block HE.out)
              clear h6 hb6 hbb hn6 hF6 HJ5 HV HVl HEV
              refine hK.out _ _ (Or.inr d1) ?_
              clear hK K
              try simp only [Act.put, List.setIfInBounds_toArray, List.set_cons_zero, List.set_cons_succ]
              clear d1
              apply Till.take (i := 7) [7, 9, 12]
              · simp only [List.getElem?_toArray, List.getElem?_cons_succ, List.getElem?_cons_zero]
                rfl
              · kernel_rfl
              · kernel_rfl
              · kernel_rfl
              · kernel_rfl
              · exact fun _ _ _ h => h
              · first
                  | exact Or.inr ⟨by rfl, rfl⟩
                  | (refine Or.inl ⟨by rfl, fun wq hwq => ?_⟩
                     dsimp only at hwq
                     go_simp
                     first
                       | done
                       | rfl)
              · exact HSx.out _ HB0.out
              simp only [Act.put, List.setIfInBounds_toArray, List.set_cons_zero, List.set_cons_succ]
              apply Till.take (i := 8) [8, 11, 12]
              · simp only [List.getElem?_toArray, List.getElem?_cons_succ, List.getElem?_cons_zero]
                rfl
              · kernel_rfl
              · kernel_rfl
              · kernel_rfl
              · kernel_rfl
              · exact fun _ _ _ h => h
              · first
                  | exact Or.inr ⟨by rfl, rfl⟩
                  | (refine Or.inl ⟨by rfl, fun wq hwq => ?_⟩
                     dsimp only at hwq
                     go_simp
                     first
                       | done
                       | rfl)
              · exact HSx.out _ HB0.out
              simp only [Act.put, List.setIfInBounds_toArray, List.set_cons_zero, List.set_cons_succ]
              apply Till.take (i := 9) [9, 12]
              · simp only [List.getElem?_toArray, List.getElem?_cons_succ, List.getElem?_cons_zero]
                rfl
              · kernel_rfl
              · kernel_rfl
              · kernel_rfl
              · kernel_rfl
              · exact fun _ _ _ h => h
              · first
                  | exact Or.inr ⟨by rfl, rfl⟩
                  | (refine Or.inl ⟨by rfl, fun wq hwq => ?_⟩
                     dsimp only at hwq
                     go_simp
                     first
                       | done
                       | rfl)
              · exact HSx.out _ HB0.out
              simp only [Act.put, List.setIfInBounds_toArray, List.set_cons_zero, List.set_cons_succ]
              have cE := blk_cell HE.out 0
              have fE := blk_free HE.out 0
              rw [one0] at cE
              obtain ⟨t1, t2, t3⟩ := store1 HE.out (.slice a6 n6 c6)
              have hB9 : Below wb.heap.size wb (y15.setCell ⟨E, 0, none⟩ (.slice a6 n6 c6)) := HB0.out.trans (t3.below (fun b hb => by have := HEb.out; omega) HB0.out.size)
              have d1 := HSx.out _ hB9
              have HRr := Lib.hid (HO6.out.keptF t3 (fun b hb e => (HF7.out b hb).2 e)).rd2
              have HT1 := Lib.hid t1
              have HB9 := Lib.hid hB9
              clear t1 t2 t3 hB9
              apply Till.one (i := 11)
              · kernel_rfl
              · simp only [List.getElem?_toArray, List.getElem?_cons_succ, List.getElem?_cons_zero]
                rfl
              intro K hK
              go_simp
              skip
              refine hK.out _ _ (Or.inr d1) ?_
              clear hK K
              try simp only [Act.put, List.setIfInBounds_toArray, List.set_cons_zero, List.set_cons_succ]
              apply Till.one (i := 12)
              · kernel_rfl
              · simp only [List.getElem?_toArray, List.getElem?_cons_succ, List.getElem?_cons_zero]
                rfl
              intro K hK
              go_simp
              skip
              refine hK.out _ _ (Or.inl (by rfl)) ?_
              clear hK K
              try simp only [Act.put, List.setIfInBounds_toArray, List.set_cons_zero, List.set_cons_succ]
              refine Till.done (by kernel_rfl) ?_ _
              clear cE fE d1
              obtain ⟨wz, hwz⟩ : ∃ x, x = y15.setCell ⟨E, 0, none⟩ (.slice a6 n6 c6) := ⟨_, rfl⟩
              rw [← hwz] at HT1 HRr HB9 ⊢
              clear hwz
              go_wp2_with fail
              go_meet
              case rel => exact ⟨E, a6, n6, c6, rfl, rfl, HRr.out, HN6.out.symm, HT1.out, HBb.out.trans (by have h := HB9.out; rw [← HZb.out] at h; exact h)⟩
          · intro K hK
            go_simp
            have hba : Below wb.heap.size wb (y1.alloc (.cells #[.slice xa xn xc] 39)) := HB0.out.alloc HB0.out.size (.cells #[.slice xa xn xc] 39)
            have d1 := HSx.out _ hba
            refine hK.out _ _ (Or.inr d1) ?_
            clear hK K
            try simp only [Act.put, List.setIfInBounds_toArray, List.set_cons_zero, List.set_cons_succ]
            clear d1
            obtain ⟨y16, hy⟩ : ∃ x, x = y1.alloc (.cells #[.slice xa xn xc] 39) := ⟨_, rfl⟩
            have hsz : y16.heap.size = y1.heap.size + 1 := by rw [hy]; simp
            replace HV : Hid (OwnV 39 wb.heap.size y16 ov ol) := Lib.hid (by rw [hy]; exact HV.out.alloc (.cells #[.slice xa xn xc] 39))
            have HX4 : Hid (y16.heap[y1.heap.size]? = some (.cells #[.slice xa xn xc] 39)) := Lib.hid (by rw [hy]; exact heap_alloc_new _ _)
            have H4V : Hid (∀ r, ov.ownBlock = some r → r ≠ y1.heap.size) := Lib.hid (fun r hr => by have h := HVl.out r hr; omega)
            obtain ⟨A4, hA4⟩ : ∃ b, b = y1.heap.size := ⟨_, rfl⟩
            have HL4 : Hid (A4 < y16.heap.size) := Lib.hid (by omega)
            rw [← hA4] at HX4 H4V ⊢
            clear hA4
            replace HVl : Hid (∀ r, ov.ownBlock = some r → r < y16.heap.size) := Lib.hid (fun r hr => (HV.out.2.2.lt r hr).2)
            replace HB0 : Hid (Below wb.heap.size wb y16) := Lib.hid (by rw [hy]; exact hba)
            rw [← hy]
            clear hba hy hsz
            apply Till.two (i := 2) (j := 10)
            · kernel_rfl
            · simp only [List.getElem?_toArray, List.getElem?_cons_succ, List.getElem?_cons_zero]
              rfl
            · simp only [List.getElem?_toArray, List.getElem?_cons_succ, List.getElem?_cons_zero]
              rfl
            · intro K hK
              refine step_append_valsZ _ (by rfl) _ _ 24 (by rfl) 39 i1 (.agg #[.slice none 0 0]) 24 Try.underlying24 Hhi'.out hy0 hy1 hy2 rfl (by omega) (by rfl) HV.out (by rfl) (HVb.out.behind (HB0.out.mono HLb.out)) HOd.out (by rw [HOl.out, Hdl.out]; decide) ?_
              intro v1 y17 h1 hg1 hp1
              have hb1 : Below wb.heap.size wb y17 := HB0.out.trans (HV.out.below (Nat.le_refl _) hg1)
              have d1 := HSx.out _ hb1
              refine hK.out _ _ (Or.inr d1) ?_
              clear hK K
              try simp only [Act.put, List.setIfInBounds_toArray, List.set_cons_zero, List.set_cons_succ]
              clear d1
              replace HX4 : Hid (y17.heap[A4]? = some (.cells #[.slice xa xn xc] 39)) := Lib.hid ((hg1.block A4 (lt_of_block HX4.out) (fun e => H4V.out A4 e.symm rfl)).trans HX4.out)
              replace H4V : Hid (∀ r, v1.ownBlock = some r → r ≠ A4) := Lib.hid (fun r hr => by rcases hp1 with h | h <;> rw [h] at hr; exact H4V.out r hr; (injection hr with hr; have := HL4.out; omega))
              replace HL4 : Hid (A4 < y17.heap.size) := Lib.hid (lt_of_block HX4.out)
              rw [HOl.out] at h1
              replace HV := Lib.hid h1
              replace HVl : Hid (∀ r, v1.ownBlock = some r → r < y17.heap.size) := Lib.hid (fun r hr => (HV.out.2.2.lt r hr).2)
              replace HB0 := Lib.hid hb1
              clear h1 hg1 hp1 hb1
              rw [List.nil_append] at HV
              clear HOv HOl
              obtain ⟨ol2, hol⟩ : ∃ l, l = ds := ⟨_, rfl⟩
              have HOl := Lib.hid hol
              rw [← hol] at HV
              clear hol
              obtain ⟨ov, hov⟩ : ∃ v, v = v1 := ⟨_, rfl⟩
              rw [← hov] at HV HVl H4V ⊢
              clear hov ol
              obtain ⟨ol, hol⟩ : ∃ l, l = ol2 := ⟨_, rfl⟩
              rw [← hol] at HV HOl
              clear hol
              apply Till.two (i := 5) (j := 10)
              · kernel_rfl
              · simp only [List.getElem?_toArray, List.getElem?_cons_succ, List.getElem?_cons_zero]
                rfl
              · simp only [List.getElem?_toArray, List.getElem?_cons_succ, List.getElem?_cons_zero]
                rfl
              · intro K hK
                refine step_append_valsZ _ (by rfl) _ _ 24 (by rfl) 39 i1 (.agg #[.slice none 0 0]) 24 Try.underlying24 Hhi'.out hy0 hy1 hy2 rfl (by omega) (by rfl) HV.out (by rfl) (rdv_one HX4.out) (fun y hy => by rw [List.mem_singleton.1 hy]; rfl) (by rw [HOl.out, Hdl.out, List.length_singleton]; decide) ?_
                intro v1 y18 h1 hg1 hp1
                have hb1 : Below wb.heap.size wb y18 := HB0.out.trans (HV.out.below (Nat.le_refl _) hg1)
                have d1 := HSx.out _ hb1
                refine hK.out _ _ (Or.inr d1) ?_
                clear hK K
                try simp only [Act.put, List.setIfInBounds_toArray, List.set_cons_zero, List.set_cons_succ]
                clear d1
                replace HX4 : Hid (y18.heap[A4]? = some (.cells #[.slice xa xn xc] 39)) := Lib.hid ((hg1.block A4 (lt_of_block HX4.out) (fun e => H4V.out A4 e.symm rfl)).trans HX4.out)
                replace H4V : Hid (∀ r, v1.ownBlock = some r → r ≠ A4) := Lib.hid (fun r hr => by rcases hp1 with h | h <;> rw [h] at hr; exact H4V.out r hr; (injection hr with hr; have := HL4.out; omega))
                replace HL4 : Hid (A4 < y18.heap.size) := Lib.hid (lt_of_block HX4.out)
                rw [HOl.out] at h1
                replace HV := Lib.hid h1
                replace HVl : Hid (∀ r, v1.ownBlock = some r → r < y18.heap.size) := Lib.hid (fun r hr => (HV.out.2.2.lt r hr).2)
                replace HB0 := Lib.hid hb1
                clear h1 hg1 hp1 hb1
                have HJ5 : Hid ((sliceT 39 tyDatabase).rd y18.heap.size y18 [v1] (Dl ++ [X])) := Lib.hid (by
                  have hp := (HPb.out.append (Pt.one HXb.out)).mono (fun u x h => tyDatabase.mono (tyDatabase.behind h HB0.out) HB0.out.size)
                  exact sl_of_vals rfl HV.out.rdv hp.1 hp.2)
                obtain ⟨ov2, hov⟩ : ∃ v, v = v1 := ⟨_, rfl⟩
                rw [← hov] at HJ5 HV HVl ⊢
                clear hov HX4 H4V HL4
                obtain ⟨ov, hov⟩ : ∃ v, v = ov2 := ⟨_, rfl⟩
                rw [← hov] at HJ5 HV HVl ⊢
                clear hov
                apply Till.two (i := 6) (j := 10)
                · kernel_rfl
                · simp only [List.getElem?_toArray, List.getElem?_cons_succ, List.getElem?_cons_zero]
                  rfl
                · simp only [List.getElem?_toArray, List.getElem?_cons_succ, List.getElem?_cons_zero]
                  rfl
                · intro K hK
                  go_simp
                  refine (impl_jw HJ5.out (Nat.le_refl _) HTj.out).mono ?_
                  rw [HEj.out.1, HEj.out.2]
                  rintro e' y19 ⟨v6, he, h6, hb6⟩
                  subst he
                  obtain ⟨a6, c6, hv6, _⟩ := h6.open
                  rw [HWh.out.2.2.2] at hv6
                  obtain ⟨n6, hn6⟩ : ∃ m, m = n := ⟨_, rfl⟩
                  rw [← hn6] at hv6
                  subst hv6
                  have HN6 := Lib.hid hn6
                  have hbb : Below wb.heap.size wb y19 := HB0.out.trans (hb6.mono HB0.out.size)
                  have d1 := HSx.out _ hbb
                  obtain ⟨F6, hF6⟩ : ∃ F : Nat → Prop, F = ival y18.heap.size y19.heap.size := ⟨_, rfl⟩
                  rw [← hF6] at h6
                  have HO6 := Lib.hid h6
                  replace HB0 := Lib.hid hbb
                  have HF6 : Hid (∀ b, F6 b → b < y19.heap.size) := Lib.hid (fun b hb => by rw [hF6] at hb; exact hb.2)
                  clear h6 hb6 hbb hn6 hF6 HJ5 HV HVl 
                  refine hK.out _ _ (Or.inr d1) ?_
                  clear hK K
                  try simp only [Act.put, List.setIfInBounds_toArray, List.set_cons_zero, List.set_cons_succ]
                  clear d1
                  apply Till.take (i := 7) [7, 9, 12]
                  · simp only [List.getElem?_toArray, List.getElem?_cons_succ, List.getElem?_cons_zero]
                    rfl
                  · kernel_rfl
                  · kernel_rfl
                  · kernel_rfl
                  · kernel_rfl
                  · exact fun _ _ _ h => h
                  · first
                      | exact Or.inr ⟨by rfl, rfl⟩
                      | (refine Or.inl ⟨by rfl, fun wq hwq => ?_⟩
                         dsimp only at hwq
                         go_simp
                         first
                           | done
                           | rfl)
                  · exact HSx.out _ HB0.out
                  simp only [Act.put, List.setIfInBounds_toArray, List.set_cons_zero, List.set_cons_succ]
                  apply Till.take (i := 8) [8, 11, 12]
                  · simp only [List.getElem?_toArray, List.getElem?_cons_succ, List.getElem?_cons_zero]
                    rfl
                  · kernel_rfl
                  · kernel_rfl
                  · kernel_rfl
                  · kernel_rfl
                  · exact fun _ _ _ h => h
                  · first
                      | exact Or.inr ⟨by rfl, rfl⟩
                      | (refine Or.inl ⟨by rfl, fun wq hwq => ?_⟩
                         dsimp only at hwq
                         go_simp
                         first
                           | done
                           | rfl)
                  · exact HSx.out _ HB0.out
                  simp only [Act.put, List.setIfInBounds_toArray, List.set_cons_zero, List.set_cons_succ]
                  apply Till.take (i := 9) [9, 12]
                  · simp only [List.getElem?_toArray, List.getElem?_cons_succ, List.getElem?_cons_zero]
                    rfl
                  · kernel_rfl
                  · kernel_rfl
                  · kernel_rfl
                  · kernel_rfl
                  · exact fun _ _ _ h => h
                  · first
                      | exact Or.inr ⟨by rfl, rfl⟩
                      | (refine Or.inl ⟨by rfl, fun wq hwq => ?_⟩
                         dsimp only at hwq
                         go_simp
                         first
                           | done
                           | rfl)
                  · exact HSx.out _ HB0.out
                  simp only [Act.put, List.setIfInBounds_toArray, List.set_cons_zero, List.set_cons_succ]
                  apply Till.one (i := 10)
                  · kernel_rfl
                  · simp only [List.getElem?_toArray, List.getElem?_cons_succ, List.getElem?_cons_zero]
                    rfl
                  intro K hK
                  go_simp
                  have hba : Below wb.heap.size wb (y19.alloc (.cells #[.slice none 0 0] 39)) := HB0.out.alloc HB0.out.size (.cells #[.slice none 0 0] 39)
                  have d1 := HSx.out _ hba
                  refine hK.out _ _ (Or.inr d1) ?_
                  clear hK K
                  try simp only [Act.put, List.setIfInBounds_toArray, List.set_cons_zero, List.set_cons_succ]
                  clear d1
                  obtain ⟨y20, hy⟩ : ∃ x, x = y19.alloc (.cells #[.slice none 0 0] 39) := ⟨_, rfl⟩
                  have hsz : y20.heap.size = y19.heap.size + 1 := by rw [hy]; simp
                  have HE : Hid (y20.heap[y19.heap.size]? = some (.cells #[.slice none 0 0] 39)) := Lib.hid (by rw [hy]; exact heap_alloc_new _ _)
                  obtain ⟨E, hE⟩ : ∃ b, b = y19.heap.size := ⟨_, rfl⟩
                  have HLE : Hid (E < y20.heap.size) := Lib.hid (by omega)
                  have HEb : Hid (wb.heap.size ≤ E) := Lib.hid (by have := HB0.out.size; omega)
                  have HE6 : Hid (E = y19.heap.size) := Lib.hid hE
                  rw [← hE] at HE ⊢
                  clear hE
                  replace HO6 : Hid (Own2 22 5 .u8 F6 y20 (.slice a6 n6 c6) W) := Lib.hid (by rw [hy]; exact HO6.out.alloc _)
                  have HF7 : Hid (∀ b, F6 b → b < y20.heap.size ∧ b ≠ E) := Lib.hid (fun b hb => by have h1 := HF6.out b hb; have h2 := HE6.out; omega)
                  clear HF6 HE6
                  replace HB0 : Hid (Below wb.heap.size wb y20) := Lib.hid (by rw [hy]; exact hba)
                  rw [← hy]
                  clear hba hy hsz
                  have cE := blk_cell HE.out 0
                  have fE := blk_free HE.out 0
                  rw [one0] at cE
                  obtain ⟨t1, t2, t3⟩ := store1 HE.out (.slice a6 n6 c6)
                  have hB9 : Below wb.heap.size wb (y20.setCell ⟨E, 0, none⟩ (.slice a6 n6 c6)) := HB0.out.trans (t3.below (fun b hb => by have := HEb.out; omega) HB0.out.size)
                  have d1 := HSx.out _ hB9
                  have HRr := Lib.hid (HO6.out.keptF t3 (fun b hb e => (HF7.out b hb).2 e)).rd2
                  have HT1 := Lib.hid t1
                  have HB9 := Lib.hid hB9
                  clear t1 t2 t3 hB9
                  apply Till.one (i := 11)
                  · kernel_rfl
                  · simp only [List.getElem?_toArray, List.getElem?_cons_succ, List.getElem?_cons_zero]
                    rfl
                  intro K hK
                  go_simp
                  skip
                  refine hK.out _ _ (Or.inr d1) ?_
                  clear hK K
                  try simp only [Act.put, List.setIfInBounds_toArray, List.set_cons_zero, List.set_cons_succ]
                  apply Till.one (i := 12)
                  · kernel_rfl
                  · simp only [List.getElem?_toArray, List.getElem?_cons_succ, List.getElem?_cons_zero]
                    rfl
                  intro K hK
                  go_simp
                  skip
                  refine hK.out _ _ (Or.inl (by rfl)) ?_
                  clear hK K
                  try simp only [Act.put, List.setIfInBounds_toArray, List.set_cons_zero, List.set_cons_succ]
                  refine Till.done (by kernel_rfl) ?_ _
                  clear cE fE d1
                  obtain ⟨wz, hwz⟩ : ∃ x, x = y20.setCell ⟨E, 0, none⟩ (.slice a6 n6 c6) := ⟨_, rfl⟩
                  rw [← hwz] at HT1 HRr HB9 ⊢
                  clear hwz
                  go_wp2_with fail
                  go_meet
                  case rel => exact ⟨E, a6, n6, c6, rfl, rfl, HRr.out, HN6.out.symm, HT1.out, HBb.out.trans (by have h := HB9.out; rw [← HZb.out] at h; exact h)⟩
                · intro K hK
                  go_simp
                  have hba : Below wb.heap.size wb (y18.alloc (.cells #[.slice none 0 0] 39)) := HB0.out.alloc HB0.out.size (.cells #[.slice none 0 0] 39)
                  have d1 := HSx.out _ hba
                  refine hK.out _ _ (Or.inr d1) ?_
                  clear hK K
                  try simp only [Act.put, List.setIfInBounds_toArray, List.set_cons_zero, List.set_cons_succ]
                  clear d1
                  obtain ⟨y21, hy⟩ : ∃ x, x = y18.alloc (.cells #[.slice none 0 0] 39) := ⟨_, rfl⟩
                  have hsz : y21.heap.size = y18.heap.size + 1 := by rw [hy]; simp
                  have HE : Hid (y21.heap[y18.heap.size]? = some (.cells #[.slice none 0 0] 39)) := Lib.hid (by rw [hy]; exact heap_alloc_new _ _)
                  obtain ⟨E, hE⟩ : ∃ b, b = y18.heap.size := ⟨_, rfl⟩
                  have HLE : Hid (E < y21.heap.size) := Lib.hid (by omega)
                  have HEb : Hid (wb.heap.size ≤ E) := Lib.hid (by have := HB0.out.size; omega)
                  have HE6 : Hid (E = y18.heap.size) := Lib.hid hE
                  rw [← hE] at HE ⊢
                  clear hE
                  replace HJ5 : Hid ((sliceT 39 tyDatabase).rd y21.heap.size y21 [ov] (Dl ++ [X])) := Lib.hid (by rw [hy]; exact (sliceT 39 tyDatabase).mono ((sliceT 39 tyDatabase).behind HJ5.out ((Below.refl _ _).alloc (Nat.le_refl _) _)) (by simp))
                  replace HB0 : Hid (Below wb.heap.size wb y21) := Lib.hid (by rw [hy]; exact hba)
                  rw [← hy]
                  clear hba hy hsz
                  apply Till.one (i := 6)
                  · kernel_rfl
                  · simp only [List.getElem?_toArray, List.getElem?_cons_succ, List.getElem?_cons_zero]
                    rfl
                  intro K hK
                  go_simp
                  refine (impl_jw HJ5.out (Nat.le_refl _) HTj.out).mono ?_
                  rw [HEj.out.1, HEj.out.2]
                  rintro e' y22 ⟨v6, he, h6, hb6⟩
                  subst he
                  obtain ⟨a6, c6, hv6, _⟩ := h6.open
                  rw [HWh.out.2.2.2] at hv6
                  obtain ⟨n6, hn6⟩ : ∃ m, m = n := ⟨_, rfl⟩
                  rw [← hn6] at hv6
                  subst hv6
                  have HN6 := Lib.hid hn6
                  have hbb : Below wb.heap.size wb y22 := HB0.out.trans (hb6.mono HB0.out.size)
                  have d1 := HSx.out _ hbb
                  obtain ⟨F6, hF6⟩ : ∃ F : Nat → Prop, F = ival y21.heap.size y22.heap.size := ⟨_, rfl⟩
                  rw [← hF6] at h6
                  have HO6 := Lib.hid h6
                  replace HB0 := Lib.hid hbb
                  have HF7 : Hid (∀ b, F6 b → b < y22.heap.size ∧ b ≠ E) := Lib.hid (fun b hb => by rw [hF6] at hb; unfold ival at hb; have := HLE.out; omega)
                  replace HE : Hid (y22.heap[E]? = some (.cells #[.slice none 0 0] 39)) := Lib.hid ((hb6.block E (lt_of_block HE.out)).trans HE.out)
                  replace HLE : Hid (E < y22.heap.size) := Lib.hid (lt_of_block HE.out)
                  clear h6 hb6 hbb hn6 hF6 HJ5 HV HVl 
                  refine hK.out _ _ (Or.inr d1) ?_
                  clear hK K
                  try simp only [Act.put, List.setIfInBounds_toArray, List.set_cons_zero, List.set_cons_succ]
                  clear d1
                  apply Till.take (i := 7) [7, 9, 12]
                  · simp only [List.getElem?_toArray, List.getElem?_cons_succ, List.getElem?_cons_zero]
                    rfl
                  · kernel_rfl
                  · kernel_rfl
                  · kernel_rfl
                  · kernel_rfl
                  · exact fun _ _ _ h => h
                  · first
                      | exact Or.inr ⟨by rfl, rfl⟩
                      | (refine Or.inl ⟨by rfl, fun wq hwq => ?_⟩
                         dsimp only at hwq
                         go_simp
                         first
                           | done
                           | rfl)
                  · exact HSx.out _ HB0.out
                  simp only [Act.put, List.setIfInBounds_toArray, List.set_cons_zero, List.set_cons_succ]
                  apply Till.take (i := 8) [8, 11, 12]
                  · simp only [List.getElem?_toArray, List.getElem?_cons_succ, List.getElem?_cons_zero]
                    rfl
                  · kernel_rfl
                  · kernel_rfl
                  · kernel_rfl
                  · kernel_rfl
                  · exact fun _ _ _ h => h
                  · first
                      | exact Or.inr ⟨by rfl, rfl⟩
                      | (refine Or.inl ⟨by rfl, fun wq hwq => ?_⟩
                         dsimp only at hwq
                         go_simp
                         first
                           | done
                           | rfl)
                  · exact HSx.out _ HB0.out
                  simp only [Act.put, List.setIfInBounds_toArray, List.set_cons_zero, List.set_cons_succ]
                  apply Till.take (i := 9) [9, 12]
                  · simp only [List.getElem?_toArray, List.getElem?_cons_succ, List.getElem?_cons_zero]
                    rfl
                  · kernel_rfl
                  · kernel_rfl
                  · kernel_rfl
                  · kernel_rfl
                  · exact fun _ _ _ h => h
                  · first
                      | exact Or.inr ⟨by rfl, rfl⟩
                      | (refine Or.inl ⟨by rfl, fun wq hwq => ?_⟩
                         dsimp only at hwq
                         go_simp
                         first
                           | done
                           | rfl)
                  · exact HSx.out _ HB0.out
                  simp only [Act.put, List.setIfInBounds_toArray, List.set_cons_zero, List.set_cons_succ]
                  have cE := blk_cell HE.out 0
                  have fE := blk_free HE.out 0
                  rw [one0] at cE
                  obtain ⟨t1, t2, t3⟩ := store1 HE.out (.slice a6 n6 c6)
                  have hB9 : Below wb.heap.size wb (y22.setCell ⟨E, 0, none⟩ (.slice a6 n6 c6)) := HB0.out.trans (t3.below (fun b hb => by have := HEb.out; omega) HB0.out.size)
                  have d1 := HSx.out _ hB9
                  have HRr := Lib.hid (HO6.out.keptF t3 (fun b hb e => (HF7.out b hb).2 e)).rd2
                  have HT1 := Lib.hid t1
                  have HB9 := Lib.hid hB9
                  clear t1 t2 t3 hB9
                  apply Till.one (i := 11)
                  · kernel_rfl
                  · simp only [List.getElem?_toArray, List.getElem?_cons_succ, List.getElem?_cons_zero]
                    rfl
                  intro K hK
                  go_simp
                  skip
                  refine hK.out _ _ (Or.inr d1) ?_
                  clear hK K
                  try simp only [Act.put, List.setIfInBounds_toArray, List.set_cons_zero, List.set_cons_succ]
                  apply Till.one (i := 12)
                  · kernel_rfl
                  · simp only [List.getElem?_toArray, List.getElem?_cons_succ, List.getElem?_cons_zero]
                    rfl
                  intro K hK
                  go_simp
                  skip
                  refine hK.out _ _ (Or.inl (by rfl)) ?_
                  clear hK K
                  try simp only [Act.put, List.setIfInBounds_toArray, List.set_cons_zero, List.set_cons_succ]
                  refine Till.done (by kernel_rfl) ?_ _
                  clear cE fE d1
                  obtain ⟨wz, hwz⟩ : ∃ x, x = y22.setCell ⟨E, 0, none⟩ (.slice a6 n6 c6) := ⟨_, rfl⟩
                  rw [← hwz] at HT1 HRr HB9 ⊢
                  clear hwz
                  go_wp2_with fail
                  go_meet
                  case rel => exact ⟨E, a6, n6, c6, rfl, rfl, HRr.out, HN6.out.symm, HT1.out, HBb.out.trans (by have h := HB9.out; rw [← HZb.out] at h; exact h)⟩
              · intro K hK
                go_simp
                have hba : Below wb.heap.size wb (y17.alloc (.cells #[.slice none 0 0] 39)) := HB0.out.alloc HB0.out.size (.cells #[.slice none 0 0] 39)
                have d1 := HSx.out _ hba
                refine hK.out _ _ (Or.inr d1) ?_
                clear hK K
                try simp only [Act.put, List.setIfInBounds_toArray, List.set_cons_zero, List.set_cons_succ]
                clear d1
                obtain ⟨y23, hy⟩ : ∃ x, x = y17.alloc (.cells #[.slice none 0 0] 39) := ⟨_, rfl⟩
                have hsz : y23.heap.size = y17.heap.size + 1 := by rw [hy]; simp
                replace HV : Hid (OwnV 39 wb.heap.size y23 ov ol) := Lib.hid (by rw [hy]; exact HV.out.alloc (.cells #[.slice none 0 0] 39))
                replace HX4 : Hid (y23.heap[A4]? = some (.cells #[.slice xa xn xc] 39)) := Lib.hid (by rw [hy]; exact (heap_alloc_old _ _ (lt_of_block HX4.out)).trans HX4.out)
                have HE : Hid (y23.heap[y17.heap.size]? = some (.cells #[.slice none 0 0] 39)) := Lib.hid (by rw [hy]; exact heap_alloc_new _ _)
                have HEV : Hid (∀ r, ov.ownBlock = some r → r ≠ y17.heap.size) := Lib.hid (fun r hr => by have h := HVl.out r hr; omega)
                obtain ⟨E, hE⟩ : ∃ b, b = y17.heap.size := ⟨_, rfl⟩
                have HLE : Hid (E < y23.heap.size) := Lib.hid (by omega)
                have HEb : Hid (wb.heap.size ≤ E) := Lib.hid (by have := HB0.out.size; omega)
                have HE6 : Hid (E = y17.heap.size) := Lib.hid hE
                rw [← hE] at HE HEV ⊢
                clear hE
                replace HL4 : Hid (A4 < y23.heap.size) := Lib.hid (by have := HL4.out; omega)
                replace HVl : Hid (∀ r, ov.ownBlock = some r → r < y23.heap.size) := Lib.hid (fun r hr => (HV.out.2.2.lt r hr).2)
                replace HB0 : Hid (Below wb.heap.size wb y23) := Lib.hid (by rw [hy]; exact hba)
                rw [← hy]
                clear hba hy hsz
                apply Till.one (i := 5)
                · kernel_rfl
                · simp only [List.getElem?_toArray, List.getElem?_cons_succ, List.getElem?_cons_zero]
                  rfl
                intro K hK
                refine step_append_valsZ _ (by rfl) _ _ 24 (by rfl) 39 i1 (.agg #[.slice none 0 0]) 24 Try.underlying24 Hhi'.out hy0 hy1 hy2 rfl (by omega) (by rfl) HV.out (by rfl) (rdv_one HX4.out) (fun y hy => by rw [List.mem_singleton.1 hy]; rfl) (by rw [HOl.out, Hdl.out, List.length_singleton]; decide) ?_
                intro v1 y24 h1 hg1 hp1
                have hb1 : Below wb.heap.size wb y24 := HB0.out.trans (HV.out.below (Nat.le_refl _) hg1)
                have d1 := HSx.out _ hb1
                refine hK.out _ _ (Or.inr d1) ?_
                clear hK K
                try simp only [Act.put, List.setIfInBounds_toArray, List.set_cons_zero, List.set_cons_succ]
                clear d1
                replace HX4 : Hid (y24.heap[A4]? = some (.cells #[.slice xa xn xc] 39)) := Lib.hid ((hg1.block A4 (lt_of_block HX4.out) (fun e => H4V.out A4 e.symm rfl)).trans HX4.out)
                replace H4V : Hid (∀ r, v1.ownBlock = some r → r ≠ A4) := Lib.hid (fun r hr => by rcases hp1 with h | h <;> rw [h] at hr; exact H4V.out r hr; (injection hr with hr; have := HL4.out; omega))
                replace HL4 : Hid (A4 < y24.heap.size) := Lib.hid (lt_of_block HX4.out)
                replace HE : Hid (y24.heap[E]? = some (.cells #[.slice none 0 0] 39)) := Lib.hid ((hg1.block E (lt_of_block HE.out) (fun e => HEV.out E e.symm rfl)).trans HE.out)
                replace HEV : Hid (∀ r, v1.ownBlock = some r → r ≠ E) := Lib.hid (fun r hr => by rcases hp1 with h | h <;> rw [h] at hr; exact HEV.out r hr; (injection hr with hr; have := HLE.out; omega))
                replace HLE : Hid (E < y24.heap.size) := Lib.hid (lt_of_block HE.out)
                rw [HOl.out] at h1
                replace HV := Lib.hid h1
                replace HVl : Hid (∀ r, v1.ownBlock = some r → r < y24.heap.size) := Lib.hid (fun r hr => (HV.out.2.2.lt r hr).2)
                replace HB0 := Lib.hid hb1
                clear h1 hg1 hp1 hb1
                have HJ5 : Hid ((sliceT 39 tyDatabase).rd y24.heap.size y24 [v1] (Dl ++ [X])) := Lib.hid (by
                  have hp := (HPb.out.append (Pt.one HXb.out)).mono (fun u x h => tyDatabase.mono (tyDatabase.behind h HB0.out) HB0.out.size)
                  exact sl_of_vals rfl HV.out.rdv hp.1 hp.2)
                obtain ⟨ov2, hov⟩ : ∃ v, v = v1 := ⟨_, rfl⟩
                rw [← hov] at HJ5 HV HVl HEV ⊢
                clear hov HX4 H4V HL4
                obtain ⟨ov, hov⟩ : ∃ v, v = ov2 := ⟨_, rfl⟩
                rw [← hov] at HJ5 HV HVl HEV ⊢
                clear hov
                apply Till.one (i := 6)
                · kernel_rfl
                · simp only [List.getElem?_toArray, List.getElem?_cons_succ, List.getElem?_cons_zero]
                  rfl
                intro K hK
                go_simp
                refine (impl_jw HJ5.out (Nat.le_refl _) HTj.out).mono ?_
                rw [HEj.out.1, HEj.out.2]
                rintro e' y25 ⟨v6, he, h6, hb6⟩
                subst he
                obtain ⟨a6, c6, hv6, _⟩ := h6.open
                rw [HWh.out.2.2.2] at hv6
                obtain ⟨n6, hn6⟩ : ∃ m, m = n := ⟨_, rfl⟩
                rw [← hn6] at hv6
                subst hv6
                have HN6 := Lib.hid hn6
                have hbb : Below wb.heap.size wb y25 := HB0.out.trans (hb6.mono HB0.out.size)
                have d1 := HSx.out _ hbb
                obtain ⟨F6, hF6⟩ : ∃ F : Nat → Prop, F = ival y24.heap.size y25.heap.size := ⟨_, rfl⟩
                rw [← hF6] at h6
                have HO6 := Lib.hid h6
                replace HB0 := Lib.hid hbb
                have HF7 : Hid (∀ b, F6 b → b < y25.heap.size ∧ b ≠ E) := Lib.hid (fun b hb => by rw [hF6] at hb; unfold ival at hb; have := HLE.out; omega)
                replace HE : Hid (y25.heap[E]? = some (.cells #[.slice none 0 0] 39)) := Lib.hid ((hb6.block E (lt_of_block HE.out)).trans HE.out)
                replace HLE : Hid (E < y25.heap.size) := Lib.hid (lt_of_block HE.out)
                clear h6 hb6 hbb hn6 hF6 HJ5 HV HVl HEV
                refine hK.out _ _ (Or.inr d1) ?_
                clear hK K
                try simp only [Act.put, List.setIfInBounds_toArray, List.set_cons_zero, List.set_cons_succ]
                clear d1
                apply Till.take (i := 7) [7, 9, 12]
                · simp only [List.getElem?_toArray, List.getElem?_cons_succ, List.getElem?_cons_zero]
                  rfl
                · kernel_rfl
                · kernel_rfl
                · kernel_rfl
                · kernel_rfl
                · exact fun _ _ _ h => h
                · first
                    | exact Or.inr ⟨by rfl, rfl⟩
                    | (refine Or.inl ⟨by rfl, fun wq hwq => ?_⟩
                       dsimp only at hwq
                       go_simp
                       first
                         | done
                         | rfl)
                · exact HSx.out _ HB0.out
                simp only [Act.put, List.setIfInBounds_toArray, List.set_cons_zero, List.set_cons_succ]
                apply Till.take (i := 8) [8, 11, 12]
                · simp only [List.getElem?_toArray, List.getElem?_cons_succ, List.getElem?_cons_zero]
                  rfl
                · kernel_rfl
                · kernel_rfl
                · kernel_rfl
                · kernel_rfl
                · exact fun _ _ _ h => h
                · first
                    | exact Or.inr ⟨by rfl, rfl⟩
                    | (refine Or.inl ⟨by rfl, fun wq hwq => ?_⟩
                       dsimp only at hwq
                       go_simp
                       first
                         | done
                         | rfl)
                · exact HSx.out _ HB0.out
                simp only [Act.put, List.setIfInBounds_toArray, List.set_cons_zero, List.set_cons_succ]
                apply Till.take (i := 9) [9, 12]
                · simp only [List.getElem?_toArray, List.getElem?_cons_succ, List.getElem?_cons_zero]
                  rfl
                · kernel_rfl
                · kernel_rfl
                · kernel_rfl
                · kernel_rfl
                · exact fun _ _ _ h => h
                · first
                    | exact Or.inr ⟨by rfl, rfl⟩
                    | (refine Or.inl ⟨by rfl, fun wq hwq => ?_⟩
                       dsimp only at hwq
                       go_simp
                       first
                         | done
                         | rfl)
                · exact HSx.out _ HB0.out
                simp only [Act.put, List.setIfInBounds_toArray, List.set_cons_zero, List.set_cons_succ]
                have cE := blk_cell HE.out 0
                have fE := blk_free HE.out 0
                rw [one0] at cE
                obtain ⟨t1, t2, t3⟩ := store1 HE.out (.slice a6 n6 c6)
                have hB9 : Below wb.heap.size wb (y25.setCell ⟨E, 0, none⟩ (.slice a6 n6 c6)) := HB0.out.trans (t3.below (fun b hb => by have := HEb.out; omega) HB0.out.size)
                have d1 := HSx.out _ hB9
                have HRr := Lib.hid (HO6.out.keptF t3 (fun b hb e => (HF7.out b hb).2 e)).rd2
                have HT1 := Lib.hid t1
                have HB9 := Lib.hid hB9
                clear t1 t2 t3 hB9
                apply Till.one (i := 11)
                · kernel_rfl
                · simp only [List.getElem?_toArray, List.getElem?_cons_succ, List.getElem?_cons_zero]
                  rfl
                intro K hK
                go_simp
                skip
                refine hK.out _ _ (Or.inr d1) ?_
                clear hK K
                try simp only [Act.put, List.setIfInBounds_toArray, List.set_cons_zero, List.set_cons_succ]
                apply Till.one (i := 12)
                · kernel_rfl
                · simp only [List.getElem?_toArray, List.getElem?_cons_succ, List.getElem?_cons_zero]
                  rfl
                intro K hK
                go_simp
                skip
                refine hK.out _ _ (Or.inl (by rfl)) ?_
                clear hK K
                try simp only [Act.put, List.setIfInBounds_toArray, List.set_cons_zero, List.set_cons_succ]
                refine Till.done (by kernel_rfl) ?_ _
                clear cE fE d1
                obtain ⟨wz, hwz⟩ : ∃ x, x = y25.setCell ⟨E, 0, none⟩ (.slice a6 n6 c6) := ⟨_, rfl⟩
                rw [← hwz] at HT1 HRr HB9 ⊢
                clear hwz
                go_wp2_with fail
                go_meet
                case rel => exact ⟨E, a6, n6, c6, rfl, rfl, HRr.out, HN6.out.symm, HT1.out, HBb.out.trans (by have h := HB9.out; rw [← HZb.out] at h; exact h)⟩
            · intro K hK
              go_simp
              have hba : Below wb.heap.size wb (y16.alloc (.cells #[.slice none 0 0] 39)) := HB0.out.alloc HB0.out.size (.cells #[.slice none 0 0] 39)
              have d1 := HSx.out _ hba
              refine hK.out _ _ (Or.inr d1) ?_
              clear hK K
              try simp only [Act.put, List.setIfInBounds_toArray, List.set_cons_zero, List.set_cons_succ]
              clear d1
              obtain ⟨y26, hy⟩ : ∃ x, x = y16.alloc (.cells #[.slice none 0 0] 39) := ⟨_, rfl⟩
              have hsz : y26.heap.size = y16.heap.size + 1 := by rw [hy]; simp
              replace HV : Hid (OwnV 39 wb.heap.size y26 ov ol) := Lib.hid (by rw [hy]; exact HV.out.alloc (.cells #[.slice none 0 0] 39))
              replace HX4 : Hid (y26.heap[A4]? = some (.cells #[.slice xa xn xc] 39)) := Lib.hid (by rw [hy]; exact (heap_alloc_old _ _ (lt_of_block HX4.out)).trans HX4.out)
              have HE : Hid (y26.heap[y16.heap.size]? = some (.cells #[.slice none 0 0] 39)) := Lib.hid (by rw [hy]; exact heap_alloc_new _ _)
              have HEV : Hid (∀ r, ov.ownBlock = some r → r ≠ y16.heap.size) := Lib.hid (fun r hr => by have h := HVl.out r hr; omega)
              obtain ⟨E, hE⟩ : ∃ b, b = y16.heap.size := ⟨_, rfl⟩
              have HLE : Hid (E < y26.heap.size) := Lib.hid (by omega)
              have HEb : Hid (wb.heap.size ≤ E) := Lib.hid (by have := HB0.out.size; omega)
              have HE6 : Hid (E = y16.heap.size) := Lib.hid hE
              rw [← hE] at HE HEV ⊢
              clear hE
              replace HL4 : Hid (A4 < y26.heap.size) := Lib.hid (by have := HL4.out; omega)
              replace HVl : Hid (∀ r, ov.ownBlock = some r → r < y26.heap.size) := Lib.hid (fun r hr => (HV.out.2.2.lt r hr).2)
              replace HB0 : Hid (Below wb.heap.size wb y26) := Lib.hid (by rw [hy]; exact hba)
              rw [← hy]
              clear hba hy hsz
              apply Till.one (i := 2)
              · kernel_rfl
              · simp only [List.getElem?_toArray, List.getElem?_cons_succ, List.getElem?_cons_zero]
                rfl
              intro K hK
              refine step_append_valsZ _ (by rfl) _ _ 24 (by rfl) 39 i1 (.agg #[.slice none 0 0]) 24 Try.underlying24 Hhi'.out hy0 hy1 hy2 rfl (by omega) (by rfl) HV.out (by rfl) (HVb.out.behind (HB0.out.mono HLb.out)) HOd.out (by rw [HOl.out, Hdl.out]; decide) ?_
              intro v1 y27 h1 hg1 hp1
              have hb1 : Below wb.heap.size wb y27 := HB0.out.trans (HV.out.below (Nat.le_refl _) hg1)
              have d1 := HSx.out _ hb1
              refine hK.out _ _ (Or.inr d1) ?_
              clear hK K
              try simp only [Act.put, List.setIfInBounds_toArray, List.set_cons_zero, List.set_cons_succ]
              clear d1
              replace HX4 : Hid (y27.heap[A4]? = some (.cells #[.slice xa xn xc] 39)) := Lib.hid ((hg1.block A4 (lt_of_block HX4.out) (fun e => H4V.out A4 e.symm rfl)).trans HX4.out)
              replace H4V : Hid (∀ r, v1.ownBlock = some r → r ≠ A4) := Lib.hid (fun r hr => by rcases hp1 with h | h <;> rw [h] at hr; exact H4V.out r hr; (injection hr with hr; have := HL4.out; omega))
              replace HL4 : Hid (A4 < y27.heap.size) := Lib.hid (lt_of_block HX4.out)
              replace HE : Hid (y27.heap[E]? = some (.cells #[.slice none 0 0] 39)) := Lib.hid ((hg1.block E (lt_of_block HE.out) (fun e => HEV.out E e.symm rfl)).trans HE.out)
              replace HEV : Hid (∀ r, v1.ownBlock = some r → r ≠ E) := Lib.hid (fun r hr => by rcases hp1 with h | h <;> rw [h] at hr; exact HEV.out r hr; (injection hr with hr; have := HLE.out; omega))
              replace HLE : Hid (E < y27.heap.size) := Lib.hid (lt_of_block HE.out)
              rw [HOl.out] at h1
              replace HV := Lib.hid h1
              replace HVl : Hid (∀ r, v1.ownBlock = some r → r < y27.heap.size) := Lib.hid (fun r hr => (HV.out.2.2.lt r hr).2)
              replace HB0 := Lib.hid hb1
              clear h1 hg1 hp1 hb1
              rw [List.nil_append] at HV
              clear HOv HOl
              obtain ⟨ol2, hol⟩ : ∃ l, l = ds := ⟨_, rfl⟩
              have HOl := Lib.hid hol
              rw [← hol] at HV
              clear hol
              obtain ⟨ov, hov⟩ : ∃ v, v = v1 := ⟨_, rfl⟩
              rw [← hov] at HV HVl H4V HEV ⊢
              clear hov ol
              obtain ⟨ol, hol⟩ : ∃ l, l = ol2 := ⟨_, rfl⟩
              rw [← hol] at HV HOl
              clear hol
              apply Till.one (i := 5)
              · kernel_rfl
              · simp only [List.getElem?_toArray, List.getElem?_cons_succ, List.getElem?_cons_zero]
                rfl
              intro K hK
              refine step_append_valsZ _ (by rfl) _ _ 24 (by rfl) 39 i1 (.agg #[.slice none 0 0]) 24 Try.underlying24 Hhi'.out hy0 hy1 hy2 rfl (by omega) (by rfl) HV.out (by rfl) (rdv_one HX4.out) (fun y hy => by rw [List.mem_singleton.1 hy]; rfl) (by rw [HOl.out, Hdl.out, List.length_singleton]; decide) ?_
              intro v1 y28 h1 hg1 hp1
              have hb1 : Below wb.heap.size wb y28 := HB0.out.trans (HV.out.below (Nat.le_refl _) hg1)
              have d1 := HSx.out _ hb1
              refine hK.out _ _ (Or.inr d1) ?_
              clear hK K
              try simp only [Act.put, List.setIfInBounds_toArray, List.set_cons_zero, List.set_cons_succ]
              clear d1
              replace HX4 : Hid (y28.heap[A4]? = some (.cells #[.slice xa xn xc] 39)) := Lib.hid ((hg1.block A4 (lt_of_block HX4.out) (fun e => H4V.out A4 e.symm rfl)).trans HX4.out)
              replace H4V : Hid (∀ r, v1.ownBlock = some r → r ≠ A4) := Lib.hid (fun r hr => by rcases hp1 with h | h <;> rw [h] at hr; exact H4V.out r hr; (injection hr with hr; have := HL4.out; omega))
              replace HL4 : Hid (A4 < y28.heap.size) := Lib.hid (lt_of_block HX4.out)
              replace HE : Hid (y28.heap[E]? = some (.cells #[.slice none 0 0] 39)) := Lib.hid ((hg1.block E (lt_of_block HE.out) (fun e => HEV.out E e.symm rfl)).trans HE.out)
              replace HEV : Hid (∀ r, v1.ownBlock = some r → r ≠ E) := Lib.hid (fun r hr => by rcases hp1 with h | h <;> rw [h] at hr; exact HEV.out r hr; (injection hr with hr; have := HLE.out; omega))
              replace HLE : Hid (E < y28.heap.size) := Lib.hid (lt_of_block HE.out)
              rw [HOl.out] at h1
              replace HV := Lib.hid h1
              replace HVl : Hid (∀ r, v1.ownBlock = some r → r < y28.heap.size) := Lib.hid (fun r hr => (HV.out.2.2.lt r hr).2)
              replace HB0 := Lib.hid hb1
              clear h1 hg1 hp1 hb1
              have HJ5 : Hid ((sliceT 39 tyDatabase).rd y28.heap.size y28 [v1] (Dl ++ [X])) := Lib.hid (by
                have hp := (HPb.out.append (Pt.one HXb.out)).mono (fun u x h => tyDatabase.mono (tyDatabase.behind h HB0.out) HB0.out.size)
                exact sl_of_vals rfl HV.out.rdv hp.1 hp.2)
              obtain ⟨ov2, hov⟩ : ∃ v, v = v1 := ⟨_, rfl⟩
              rw [← hov] at HJ5 HV HVl HEV ⊢
              clear hov HX4 H4V HL4
              obtain ⟨ov, hov⟩ : ∃ v, v = ov2 := ⟨_, rfl⟩
              rw [← hov] at HJ5 HV HVl HEV ⊢
              clear hov
              apply Till.one (i := 6)
              · kernel_rfl
              · simp only [List.getElem?_toArray, List.getElem?_cons_succ, List.getElem?_cons_zero]
                rfl
              intro K hK
              go_simp
              refine (impl_jw HJ5.out (Nat.le_refl _) HTj.out).mono ?_
              rw [HEj.out.1, HEj.out.2]
              rintro e' y29 ⟨v6, he, h6, hb6⟩
              subst he
              obtain ⟨a6, c6, hv6, _⟩ := h6.open
              rw [HWh.out.2.2.2] at hv6
              obtain ⟨n6, hn6⟩ : ∃ m, m = n := ⟨_, rfl⟩
              rw [← hn6] at hv6
              subst hv6
              have HN6 := Lib.hid hn6
              have hbb : Below wb.heap.size wb y29 := HB0.out.trans (hb6.mono HB0.out.size)
              have d1 := HSx.out _ hbb
              obtain ⟨F6, hF6⟩ : ∃ F : Nat → Prop, F = ival y28.heap.size y29.heap.size := ⟨_, rfl⟩
              rw [← hF6] at h6
              have HO6 := Lib.hid h6
              replace HB0 := Lib.hid hbb
              have HF7 : Hid (∀ b, F6 b → b < y29.heap.size ∧ b ≠ E) := Lib.hid (fun b hb => by rw [hF6] at hb; unfold ival at hb; have := HLE.out; omega)
              replace HE : Hid (y29.heap[E]? = some (.cells #[.slice none 0 0] 39)) := Lib.hid ((hb6.block E (lt_of_block HE.out)).trans HE.out)
              replace HLE : Hid (E < y29.heap.size) := Lib.hid (lt_of_block HE.out)
              clear h6 hb6 hbb hn6 hF6 HJ5 HV HVl HEV
              refine hK.out _ _ (Or.inr d1) ?_
              clear hK K
              try simp only [Act.put, List.setIfInBounds_toArray, List.set_cons_zero, List.set_cons_succ]
              clear d1
              apply Till.take (i := 7) [7, 9, 12]
              · simp only [List.getElem?_toArray, List.getElem?_cons_succ, List.getElem?_cons_zero]
                rfl
              · kernel_rfl
              · kernel_rfl
              · kernel_rfl
              · kernel_rfl
              · exact fun _ _ _ h => h
              · first
                  | exact Or.inr ⟨by rfl, rfl⟩
                  | (refine Or.inl ⟨by rfl, fun wq hwq => ?_⟩
                     dsimp only at hwq
                     go_simp
                     first
                       | done
                       | rfl)
              · exact HSx.out _ HB0.out
              simp only [Act.put, List.setIfInBounds_toArray, List.set_cons_zero, List.set_cons_succ]
              apply Till.take (i := 8) [8, 11, 12]
              · simp only [List.getElem?_toArray, List.getElem?_cons_succ, List.getElem?_cons_zero]
                rfl
              · kernel_rfl
              · kernel_rfl
              · kernel_rfl
              · kernel_rfl
              · exact fun _ _ _ h => h
              · first
                  | exact Or.inr ⟨by rfl, rfl⟩
                  | (refine Or.inl ⟨by rfl, fun wq hwq => ?_⟩
                     dsimp only at hwq
                     go_simp
                     first
                       | done
                       | rfl)
              · exact HSx.out _ HB0.out
              simp only [Act.put, List.setIfInBounds_toArray, List.set_cons_zero, List.set_cons_succ]
              apply Till.take (i := 9) [9, 12]
              · simp only [List.getElem?_toArray, List.getElem?_cons_succ, List.getElem?_cons_zero]
                rfl
              · kernel_rfl
              · kernel_rfl
              · kernel_rfl
              · kernel_rfl
              · exact fun _ _ _ h => h
              · first
                  | exact Or.inr ⟨by rfl, rfl⟩
                  | (refine Or.inl ⟨by rfl, fun wq hwq => ?_⟩
                     dsimp only at hwq
                     go_simp
                     first
                       | done
                       | rfl)
              · exact HSx.out _ HB0.out
              simp only [Act.put, List.setIfInBounds_toArray, List.set_cons_zero, List.set_cons_succ]
              have cE := blk_cell HE.out 0
              have fE := blk_free HE.out 0
              rw [one0] at cE
              obtain ⟨t1, t2, t3⟩ := store1 HE.out (.slice a6 n6 c6)
              have hB9 : Below wb.heap.size wb (y29.setCell ⟨E, 0, none⟩ (.slice a6 n6 c6)) := HB0.out.trans (t3.below (fun b hb => by have := HEb.out; omega) HB0.out.size)
              have d1 := HSx.out _ hB9
              have HRr := Lib.hid (HO6.out.keptF t3 (fun b hb e => (HF7.out b hb).2 e)).rd2
              have HT1 := Lib.hid t1
              have HB9 := Lib.hid hB9
              clear t1 t2 t3 hB9
              apply Till.one (i := 11)
              · kernel_rfl
              · simp only [List.getElem?_toArray, List.getElem?_cons_succ, List.getElem?_cons_zero]
                rfl
              intro K hK
              go_simp
              skip
              refine hK.out _ _ (Or.inr d1) ?_
              clear hK K
              try simp only [Act.put, List.setIfInBounds_toArray, List.set_cons_zero, List.set_cons_succ]
              apply Till.one (i := 12)
              · kernel_rfl
              · simp only [List.getElem?_toArray, List.getElem?_cons_succ, List.getElem?_cons_zero]
                rfl
              intro K hK
              go_simp
              skip
              refine hK.out _ _ (Or.inl (by rfl)) ?_
              clear hK K
              try simp only [Act.put, List.setIfInBounds_toArray, List.set_cons_zero, List.set_cons_succ]
              refine Till.done (by kernel_rfl) ?_ _
              clear cE fE d1
              obtain ⟨wz, hwz⟩ : ∃ x, x = y29.setCell ⟨E, 0, none⟩ (.slice a6 n6 c6) := ⟨_, rfl⟩
              rw [← hwz] at HT1 HRr HB9 ⊢
              clear hwz
              go_wp2_with fail
              go_meet
              case rel => exact ⟨E, a6, n6, c6, rfl, rfl, HRr.out, HN6.out.symm, HT1.out, HBb.out.trans (by have h := HB9.out; rw [← HZb.out] at h; exact h)⟩
          · intro K hK
            go_simp
            have hba : Below wb.heap.size wb (y1.alloc (.cells #[.slice none 0 0] 39)) := HB0.out.alloc HB0.out.size (.cells #[.slice none 0 0] 39)
            have d1 := HSx.out _ hba
            refine hK.out _ _ (Or.inr d1) ?_
            clear hK K
            try simp only [Act.put, List.setIfInBounds_toArray, List.set_cons_zero, List.set_cons_succ]
            clear d1
            obtain ⟨y30, hy⟩ : ∃ x, x = y1.alloc (.cells #[.slice none 0 0] 39) := ⟨_, rfl⟩
            have hsz : y30.heap.size = y1.heap.size + 1 := by rw [hy]; simp
            replace HV : Hid (OwnV 39 wb.heap.size y30 ov ol) := Lib.hid (by rw [hy]; exact HV.out.alloc (.cells #[.slice none 0 0] 39))
            have HE : Hid (y30.heap[y1.heap.size]? = some (.cells #[.slice none 0 0] 39)) := Lib.hid (by rw [hy]; exact heap_alloc_new _ _)
            have HEV : Hid (∀ r, ov.ownBlock = some r → r ≠ y1.heap.size) := Lib.hid (fun r hr => by have h := HVl.out r hr; omega)
            obtain ⟨E, hE⟩ : ∃ b, b = y1.heap.size := ⟨_, rfl⟩
            have HLE : Hid (E < y30.heap.size) := Lib.hid (by omega)
            have HEb : Hid (wb.heap.size ≤ E) := Lib.hid (by have := HB0.out.size; omega)
            have HE6 : Hid (E = y1.heap.size) := Lib.hid hE
            rw [← hE] at HE HEV ⊢
            clear hE
            replace HVl : Hid (∀ r, ov.ownBlock = some r → r < y30.heap.size) := Lib.hid (fun r hr => (HV.out.2.2.lt r hr).2)
            replace HB0 : Hid (Below wb.heap.size wb y30) := Lib.hid (by rw [hy]; exact hba)
            rw [← hy]
            clear hba hy hsz
            apply Till.two (i := 2) (j := 4)
            · kernel_rfl
            · simp only [List.getElem?_toArray, List.getElem?_cons_succ, List.getElem?_cons_zero]
              rfl
            · simp only [List.getElem?_toArray, List.getElem?_cons_succ, List.getElem?_cons_zero]
              rfl
            · intro K hK
              refine step_append_valsZ _ (by rfl) _ _ 24 (by rfl) 39 i1 (.agg #[.slice none 0 0]) 24 Try.underlying24 Hhi'.out hy0 hy1 hy2 rfl (by omega) (by rfl) HV.out (by rfl) (HVb.out.behind (HB0.out.mono HLb.out)) HOd.out (by rw [HOl.out, Hdl.out]; decide) ?_
              intro v1 y31 h1 hg1 hp1
              have hb1 : Below wb.heap.size wb y31 := HB0.out.trans (HV.out.below (Nat.le_refl _) hg1)
              have d1 := HSx.out _ hb1
              refine hK.out _ _ (Or.inr d1) ?_
              clear hK K
              try simp only [Act.put, List.setIfInBounds_toArray, List.set_cons_zero, List.set_cons_succ]
              clear d1
              replace HE : Hid (y31.heap[E]? = some (.cells #[.slice none 0 0] 39)) := Lib.hid ((hg1.block E (lt_of_block HE.out) (fun e => HEV.out E e.symm rfl)).trans HE.out)
              replace HEV : Hid (∀ r, v1.ownBlock = some r → r ≠ E) := Lib.hid (fun r hr => by rcases hp1 with h | h <;> rw [h] at hr; exact HEV.out r hr; (injection hr with hr; have := HLE.out; omega))
              replace HLE : Hid (E < y31.heap.size) := Lib.hid (lt_of_block HE.out)
              rw [HOl.out] at h1
              replace HV := Lib.hid h1
              replace HVl : Hid (∀ r, v1.ownBlock = some r → r < y31.heap.size) := Lib.hid (fun r hr => (HV.out.2.2.lt r hr).2)
              replace HB0 := Lib.hid hb1
              clear h1 hg1 hp1 hb1
              rw [List.nil_append] at HV
              clear HOv HOl
              obtain ⟨ol2, hol⟩ : ∃ l, l = ds := ⟨_, rfl⟩
              have HOl := Lib.hid hol
              rw [← hol] at HV
              clear hol
              obtain ⟨ov, hov⟩ : ∃ v, v = v1 := ⟨_, rfl⟩
              rw [← hov] at HV HVl HEV ⊢
              clear hov ol
              obtain ⟨ol, hol⟩ : ∃ l, l = ol2 := ⟨_, rfl⟩
              rw [← hol] at HV HOl
              clear hol
              apply Till.one (i := 4)
              · kernel_rfl
              · simp only [List.getElem?_toArray, List.getElem?_cons_succ, List.getElem?_cons_zero]
                rfl
              intro K hK
              go_simp
              have hba : Below wb.heap.size wb (y31.alloc (.cells #[.slice xa xn xc] 39)) := HB0.out.alloc HB0.out.size (.cells #[.slice xa xn xc] 39)
              have d1 := HSx.out _ hba
              refine hK.out _ _ (Or.inr d1) ?_
              clear hK K
              try simp only [Act.put, List.setIfInBounds_toArray, List.set_cons_zero, List.set_cons_succ]
              clear d1
              obtain ⟨y32, hy⟩ : ∃ x, x = y31.alloc (.cells #[.slice xa xn xc] 39) := ⟨_, rfl⟩
              have hsz : y32.heap.size = y31.heap.size + 1 := by rw [hy]; simp
              replace HV : Hid (OwnV 39 wb.heap.size y32 ov ol) := Lib.hid (by rw [hy]; exact HV.out.alloc (.cells #[.slice xa xn xc] 39))
              replace HE : Hid (y32.heap[E]? = some (.cells #[.slice none 0 0] 39)) := Lib.hid (by rw [hy]; exact (heap_alloc_old _ _ (lt_of_block HE.out)).trans HE.out)
              have HX4 : Hid (y32.heap[y31.heap.size]? = some (.cells #[.slice xa xn xc] 39)) := Lib.hid (by rw [hy]; exact heap_alloc_new _ _)
              have H4V : Hid (∀ r, ov.ownBlock = some r → r ≠ y31.heap.size) := Lib.hid (fun r hr => by have h := HVl.out r hr; omega)
              obtain ⟨A4, hA4⟩ : ∃ b, b = y31.heap.size := ⟨_, rfl⟩
              have HL4 : Hid (A4 < y32.heap.size) := Lib.hid (by omega)
              rw [← hA4] at HX4 H4V ⊢
              clear hA4
              replace HLE : Hid (E < y32.heap.size) := Lib.hid (by have := HLE.out; omega)
              replace HVl : Hid (∀ r, ov.ownBlock = some r → r < y32.heap.size) := Lib.hid (fun r hr => (HV.out.2.2.lt r hr).2)
              replace HB0 : Hid (Below wb.heap.size wb y32) := Lib.hid (by rw [hy]; exact hba)
              rw [← hy]
              clear hba hy hsz
              apply Till.one (i := 5)
              · kernel_rfl
              · simp only [List.getElem?_toArray, List.getElem?_cons_succ, List.getElem?_cons_zero]
                rfl
              intro K hK
              refine step_append_valsZ _ (by rfl) _ _ 24 (by rfl) 39 i1 (.agg #[.slice none 0 0]) 24 Try.underlying24 Hhi'.out hy0 hy1 hy2 rfl (by omega) (by rfl) HV.out (by rfl) (rdv_one HX4.out) (fun y hy => by rw [List.mem_singleton.1 hy]; rfl) (by rw [HOl.out, Hdl.out, List.length_singleton]; decide) ?_
              intro v1 y33 h1 hg1 hp1
              have hb1 : Below wb.heap.size wb y33 := HB0.out.trans (HV.out.below (Nat.le_refl _) hg1)
              have d1 := HSx.out _ hb1
              refine hK.out _ _ (Or.inr d1) ?_
              clear hK K
              try simp only [Act.put, List.setIfInBounds_toArray, List.set_cons_zero, List.set_cons_succ]
              clear d1
              replace HX4 : Hid (y33.heap[A4]? = some (.cells #[.slice xa xn xc] 39)) := Lib.hid ((hg1.block A4 (lt_of_block HX4.out) (fun e => H4V.out A4 e.symm rfl)).trans HX4.out)
              replace H4V : Hid (∀ r, v1.ownBlock = some r → r ≠ A4) := Lib.hid (fun r hr => by rcases hp1 with h | h <;> rw [h] at hr; exact H4V.out r hr; (injection hr with hr; have := HL4.out; omega))
              replace HL4 : Hid (A4 < y33.heap.size) := Lib.hid (lt_of_block HX4.out)
              replace HE : Hid (y33.heap[E]? = some (.cells #[.slice none 0 0] 39)) := Lib.hid ((hg1.block E (lt_of_block HE.out) (fun e => HEV.out E e.symm rfl)).trans HE.out)
              replace HEV : Hid (∀ r, v1.ownBlock = some r → r ≠ E) := Lib.hid (fun r hr => by rcases hp1 with h | h <;> rw [h] at hr; exact HEV.out r hr; (injection hr with hr; have := HLE.out; omega))
              replace HLE : Hid (E < y33.heap.size) := Lib.hid (lt_of_block HE.out)
              rw [HOl.out] at h1
              replace HV := Lib.hid h1
              replace HVl : Hid (∀ r, v1.ownBlock = some r → r < y33.heap.size) := Lib.hid (fun r hr => (HV.out.2.2.lt r hr).2)
              replace HB0 := Lib.hid hb1
              clear h1 hg1 hp1 hb1
              have HJ5 : Hid ((sliceT 39 tyDatabase).rd y33.heap.size y33 [v1] (Dl ++ [X])) := Lib.hid (by
                have hp := (HPb.out.append (Pt.one HXb.out)).mono (fun u x h => tyDatabase.mono (tyDatabase.behind h HB0.out) HB0.out.size)
                exact sl_of_vals rfl HV.out.rdv hp.1 hp.2)
              obtain ⟨ov2, hov⟩ : ∃ v, v = v1 := ⟨_, rfl⟩
              rw [← hov] at HJ5 HV HVl HEV ⊢
              clear hov HX4 H4V HL4
              obtain ⟨ov, hov⟩ : ∃ v, v = ov2 := ⟨_, rfl⟩
              rw [← hov] at HJ5 HV HVl HEV ⊢
              clear hov
              apply Till.one (i := 6)
              · kernel_rfl
              · simp only [List.getElem?_toArray, List.getElem?_cons_succ, List.getElem?_cons_zero]
                rfl
              intro K hK
              go_simp
              refine (impl_jw HJ5.out (Nat.le_refl _) HTj.out).mono ?_
              rw [HEj.out.1, HEj.out.2]
              rintro e' y34 ⟨v6, he, h6, hb6⟩
              subst he
              obtain ⟨a6, c6, hv6, _⟩ := h6.open
              rw [HWh.out.2.2.2] at hv6
              obtain ⟨n6, hn6⟩ : ∃ m, m = n := ⟨_, rfl⟩
              rw [← hn6] at hv6
              subst hv6
              have HN6 := Lib.hid hn6
              have hbb : Below wb.heap.size wb y34 := HB0.out.trans (hb6.mono HB0.out.size)
              have d1 := HSx.out _ hbb
              obtain ⟨F6, hF6⟩ : ∃ F : Nat → Prop, F = ival y33.heap.size y34.heap.size := ⟨_, rfl⟩
              rw [← hF6] at h6
              have HO6 := Lib.hid h6
              replace HB0 := Lib.hid hbb
              have HF7 : Hid (∀ b, F6 b → b < y34.heap.size ∧ b ≠ E) := Lib.hid (fun b hb => by rw [hF6] at hb; unfold ival at hb; have := HLE.out; omega)
              replace HE : Hid (y34.heap[E]? = some (.cells #[.slice none 0 0] 39)) := Lib.hid ((hb6.block E (lt_of_block HE.out)).trans HE.out)
              replace HLE : Hid (E < y34.heap.size) := Lib.hid (lt_of_block HE.out)
              clear h6 hb6 hbb hn6 hF6 HJ5 HV HVl HEV
              refine hK.out _ _ (Or.inr d1) ?_
              clear hK K
              try simp only [Act.put, List.setIfInBounds_toArray, List.set_cons_zero, List.set_cons_succ]
              clear d1
              apply Till.take (i := 7) [7, 9, 12]
              · simp only [List.getElem?_toArray, List.getElem?_cons_succ, List.getElem?_cons_zero]
                rfl
              · kernel_rfl
              · kernel_rfl
              · kernel_rfl
              · kernel_rfl
              · exact fun _ _ _ h => h
              · first
                  | exact Or.inr ⟨by rfl, rfl⟩
                  | (refine Or.inl ⟨by rfl, fun wq hwq => ?_⟩
                     dsimp only at hwq
                     go_simp
                     first
                       | done
                       | rfl)
              · exact HSx.out _ HB0.out
              simp only [Act.put, List.setIfInBounds_toArray, List.set_cons_zero, List.set_cons_succ]
              apply Till.take (i := 8) [8, 11, 12]
              · simp only [List.getElem?_toArray, List.getElem?_cons_succ, List.getElem?_cons_zero]
                rfl
              · kernel_rfl
              · kernel_rfl
              · kernel_rfl
              · kernel_rfl
              · exact fun _ _ _ h => h
              · first
                  | exact Or.inr ⟨by rfl, rfl⟩
                  | (refine Or.inl ⟨by rfl, fun wq hwq => ?_⟩
                     dsimp only at hwq
                     go_simp
                     first
                       | done
                       | rfl)
              · exact HSx.out _ HB0.out
              simp only [Act.put, List.setIfInBounds_toArray, List.set_cons_zero, List.set_cons_succ]
              apply Till.take (i := 9) [9, 12]
              · simp only [List.getElem?_toArray, List.getElem?_cons_succ, List.getElem?_cons_zero]
                rfl
              · kernel_rfl
              · kernel_rfl
              · kernel_rfl
              · kernel_rfl
              · exact fun _ _ _ h => h
              · first
                  | exact Or.inr ⟨by rfl, rfl⟩
                  | (refine Or.inl ⟨by rfl, fun wq hwq => ?_⟩
                     dsimp only at hwq
                     go_simp
                     first
                       | done
                       | rfl)
              · exact HSx.out _ HB0.out
              simp only [Act.put, List.setIfInBounds_toArray, List.set_cons_zero, List.set_cons_succ]
              have cE := blk_cell HE.out 0
              have fE := blk_free HE.out 0
              rw [one0] at cE
              obtain ⟨t1, t2, t3⟩ := store1 HE.out (.slice a6 n6 c6)
              have hB9 : Below wb.heap.size wb (y34.setCell ⟨E, 0, none⟩ (.slice a6 n6 c6)) := HB0.out.trans (t3.below (fun b hb => by have := HEb.out; omega) HB0.out.size)
              have d1 := HSx.out _ hB9
              have HRr := Lib.hid (HO6.out.keptF t3 (fun b hb e => (HF7.out b hb).2 e)).rd2
              have HT1 := Lib.hid t1
              have HB9 := Lib.hid hB9
              clear t1 t2 t3 hB9
              apply Till.one (i := 11)
              · kernel_rfl
              · simp only [List.getElem?_toArray, List.getElem?_cons_succ, List.getElem?_cons_zero]
                rfl
              intro K hK
              go_simp
              skip
              refine hK.out _ _ (Or.inr d1) ?_
              clear hK K
              try simp only [Act.put, List.setIfInBounds_toArray, List.set_cons_zero, List.set_cons_succ]
              apply Till.one (i := 12)
              · kernel_rfl
              · simp only [List.getElem?_toArray, List.getElem?_cons_succ, List.getElem?_cons_zero]
                rfl
              intro K hK
              go_simp
              skip
              refine hK.out _ _ (Or.inl (by rfl)) ?_
              clear hK K
              try simp only [Act.put, List.setIfInBounds_toArray, List.set_cons_zero, List.set_cons_succ]
              refine Till.done (by kernel_rfl) ?_ _
              clear cE fE d1
              obtain ⟨wz, hwz⟩ : ∃ x, x = y34.setCell ⟨E, 0, none⟩ (.slice a6 n6 c6) := ⟨_, rfl⟩
              rw [← hwz] at HT1 HRr HB9 ⊢
              clear hwz
              go_wp2_with fail
              go_meet
              case rel => exact ⟨E, a6, n6, c6, rfl, rfl, HRr.out, HN6.out.symm, HT1.out, HBb.out.trans (by have h := HB9.out; rw [← HZb.out] at h; exact h)⟩
            · intro K hK
              go_simp
              have hba : Below wb.heap.size wb (y30.alloc (.cells #[.slice xa xn xc] 39)) := HB0.out.alloc HB0.out.size (.cells #[.slice xa xn xc] 39)
              have d1 := HSx.out _ hba
              refine hK.out _ _ (Or.inr d1) ?_
              clear hK K
              try simp only [Act.put, List.setIfInBounds_toArray, List.set_cons_zero, List.set_cons_succ]
              clear d1
              obtain ⟨y35, hy⟩ : ∃ x, x = y30.alloc (.cells #[.slice xa xn xc] 39) := ⟨_, rfl⟩
              have hsz : y35.heap.size = y30.heap.size + 1 := by rw [hy]; simp
              replace HV : Hid (OwnV 39 wb.heap.size y35 ov ol) := Lib.hid (by rw [hy]; exact HV.out.alloc (.cells #[.slice xa xn xc] 39))
              replace HE : Hid (y35.heap[E]? = some (.cells #[.slice none 0 0] 39)) := Lib.hid (by rw [hy]; exact (heap_alloc_old _ _ (lt_of_block HE.out)).trans HE.out)
              have HX4 : Hid (y35.heap[y30.heap.size]? = some (.cells #[.slice xa xn xc] 39)) := Lib.hid (by rw [hy]; exact heap_alloc_new _ _)
              have H4V : Hid (∀ r, ov.ownBlock = some r → r ≠ y30.heap.size) := Lib.hid (fun r hr => by have h := HVl.out r hr; omega)
              obtain ⟨A4, hA4⟩ : ∃ b, b = y30.heap.size := ⟨_, rfl⟩
              have HL4 : Hid (A4 < y35.heap.size) := Lib.hid (by omega)
              rw [← hA4] at HX4 H4V ⊢
              clear hA4
              replace HLE : Hid (E < y35.heap.size) := Lib.hid (by have := HLE.out; omega)
              replace HVl : Hid (∀ r, ov.ownBlock = some r → r < y35.heap.size) := Lib.hid (fun r hr => (HV.out.2.2.lt r hr).2)
              replace HB0 : Hid (Below wb.heap.size wb y35) := Lib.hid (by rw [hy]; exact hba)
              rw [← hy]
              clear hba hy hsz
              apply Till.one (i := 2)
              · kernel_rfl
              · simp only [List.getElem?_toArray, List.getElem?_cons_succ, List.getElem?_cons_zero]
                rfl
              intro K hK
              refine step_append_valsZ _ (by rfl) _ _ 24 (by rfl) 39 i1 (.agg #[.slice none 0 0]) 24 Try.underlying24 Hhi'.out hy0 hy1 hy2 rfl (by omega) (by rfl) HV.out (by rfl) (HVb.out.behind (HB0.out.mono HLb.out)) HOd.out (by rw [HOl.out, Hdl.out]; decide) ?_
              intro v1 y36 h1 hg1 hp1
              have hb1 : Below wb.heap.size wb y36 := HB0.out.trans (HV.out.below (Nat.le_refl _) hg1)
              have d1 := HSx.out _ hb1
              refine hK.out _ _ (Or.inr d1) ?_
              clear hK K
              try simp only [Act.put, List.setIfInBounds_toArray, List.set_cons_zero, List.set_cons_succ]
              clear d1
              replace HX4 : Hid (y36.heap[A4]? = some (.cells #[.slice xa xn xc] 39)) := Lib.hid ((hg1.block A4 (lt_of_block HX4.out) (fun e => H4V.out A4 e.symm rfl)).trans HX4.out)
              replace H4V : Hid (∀ r, v1.ownBlock = some r → r ≠ A4) := Lib.hid (fun r hr => by rcases hp1 with h | h <;> rw [h] at hr; exact H4V.out r hr; (injection hr with hr; have := HL4.out; omega))
              replace HL4 : Hid (A4 < y36.heap.size) := Lib.hid (lt_of_block HX4.out)
              replace HE : Hid (y36.heap[E]? = some (.cells #[.slice none 0 0] 39)) := Lib.hid ((hg1.block E (lt_of_block HE.out) (fun e => HEV.out E e.symm rfl)).trans HE.out)
              replace HEV : Hid (∀ r, v1.ownBlock = some r → r ≠ E) := Lib.hid (fun r hr => by rcases hp1 with h | h <;> rw [h] at hr; exact HEV.out r hr; (injection hr with hr; have := HLE.out; omega))
              replace HLE : Hid (E < y36.heap.size) := Lib.hid (lt_of_block HE.out)
              rw [HOl.out] at h1
              replace HV := Lib.hid h1
              replace HVl : Hid (∀ r, v1.ownBlock = some r → r < y36.heap.size) := Lib.hid (fun r hr => (HV.out.2.2.lt r hr).2)
              replace HB0 := Lib.hid hb1
              clear h1 hg1 hp1 hb1
              rw [List.nil_append] at HV
              clear HOv HOl
              obtain ⟨ol2, hol⟩ : ∃ l, l = ds := ⟨_, rfl⟩
              have HOl := Lib.hid hol
              rw [← hol] at HV
              clear hol
              obtain ⟨ov, hov⟩ : ∃ v, v = v1 := ⟨_, rfl⟩
              rw [← hov] at HV HVl H4V HEV ⊢
              clear hov ol
              obtain ⟨ol, hol⟩ : ∃ l, l = ol2 := ⟨_, rfl⟩
              rw [← hol] at HV HOl
              clear hol
              apply Till.one (i := 5)
              · kernel_rfl
              · simp only [List.getElem?_toArray, List.getElem?_cons_succ, List.getElem?_cons_zero]
                rfl
              intro K hK
              refine step_append_valsZ _ (by rfl) _ _ 24 (by rfl) 39 i1 (.agg #[.slice none 0 0]) 24 Try.underlying24 Hhi'.out hy0 hy1 hy2 rfl (by omega) (by rfl) HV.out (by rfl) (rdv_one HX4.out) (fun y hy => by rw [List.mem_singleton.1 hy]; rfl) (by rw [HOl.out, Hdl.out, List.length_singleton]; decide) ?_
              intro v1 y37 h1 hg1 hp1
              have hb1 : Below wb.heap.size wb y37 := HB0.out.trans (HV.out.below (Nat.le_refl _) hg1)
              have d1 := HSx.out _ hb1
              refine hK.out _ _ (Or.inr d1) ?_
              clear hK K
              try simp only [Act.put, List.setIfInBounds_toArray, List.set_cons_zero, List.set_cons_succ]
              clear d1
              replace HX4 : Hid (y37.heap[A4]? = some (.cells #[.slice xa xn xc] 39)) := Lib.hid ((hg1.block A4 (lt_of_block HX4.out) (fun e => H4V.out A4 e.symm rfl)).trans HX4.out)
              replace H4V : Hid (∀ r, v1.ownBlock = some r → r ≠ A4) := Lib.hid (fun r hr => by rcases hp1 with h | h <;> rw [h] at hr; exact H4V.out r hr; (injection hr with hr; have := HL4.out; omega))
              replace HL4 : Hid (A4 < y37.heap.size) := Lib.hid (lt_of_block HX4.out)
              replace HE : Hid (y37.heap[E]? = some (.cells #[.slice none 0 0] 39)) := Lib.hid ((hg1.block E (lt_of_block HE.out) (fun e => HEV.out E e.symm rfl)).trans HE.out)
              replace HEV : Hid (∀ r, v1.ownBlock = some r → r ≠ E) := Lib.hid (fun r hr => by rcases hp1 with h | h <;> rw [h] at hr; exact HEV.out r hr; (injection hr with hr; have := HLE.out; omega))
              replace HLE : Hid (E < y37.heap.size) := Lib.hid (lt_of_block HE.out)
              rw [HOl.out] at h1
              replace HV := Lib.hid h1
              replace HVl : Hid (∀ r, v1.ownBlock = some r → r < y37.heap.size) := Lib.hid (fun r hr => (HV.out.2.2.lt r hr).2)
              replace HB0 := Lib.hid hb1
              clear h1 hg1 hp1 hb1
              have HJ5 : Hid ((sliceT 39 tyDatabase).rd y37.heap.size y37 [v1] (Dl ++ [X])) := Lib.hid (by
                have hp := (HPb.out.append (Pt.one HXb.out)).mono (fun u x h => tyDatabase.mono (tyDatabase.behind h HB0.out) HB0.out.size)
                exact sl_of_vals rfl HV.out.rdv hp.1 hp.2)
              obtain ⟨ov2, hov⟩ : ∃ v, v = v1 := ⟨_, rfl⟩
              rw [← hov] at HJ5 HV HVl HEV ⊢
              clear hov HX4 H4V HL4
              obtain ⟨ov, hov⟩ : ∃ v, v = ov2 := ⟨_, rfl⟩
              rw [← hov] at HJ5 HV HVl HEV ⊢
              clear hov
              apply Till.one (i := 6)
              · kernel_rfl
              · simp only [List.getElem?_toArray, List.getElem?_cons_succ, List.getElem?_cons_zero]
                rfl
              intro K hK
              go_simp
              refine (impl_jw HJ5.out (Nat.le_refl _) HTj.out).mono ?_
              rw [HEj.out.1, HEj.out.2]
              rintro e' y38 ⟨v6, he, h6, hb6⟩
              subst he
              obtain ⟨a6, c6, hv6, _⟩ := h6.open
              rw [HWh.out.2.2.2] at hv6
              obtain ⟨n6, hn6⟩ : ∃ m, m = n := ⟨_, rfl⟩
              rw [← hn6] at hv6
              subst hv6
              have HN6 := Lib.hid hn6
              have hbb : Below wb.heap.size wb y38 := HB0.out.trans (hb6.mono HB0.out.size)
              have d1 := HSx.out _ hbb
              obtain ⟨F6, hF6⟩ : ∃ F : Nat → Prop, F = ival y37.heap.size y38.heap.size := ⟨_, rfl⟩
              rw [← hF6] at h6
              have HO6 := Lib.hid h6
              replace HB0 := Lib.hid hbb
              have HF7 : Hid (∀ b, F6 b → b < y38.heap.size ∧ b ≠ E) := Lib.hid (fun b hb => by rw [hF6] at hb; unfold ival at hb; have := HLE.out; omega)
              replace HE : Hid (y38.heap[E]? = some (.cells #[.slice none 0 0] 39)) := Lib.hid ((hb6.block E (lt_of_block HE.out)).trans HE.out)
              replace HLE : Hid (E < y38.heap.size) := Lib.hid (lt_of_block HE.out)
              clear h6 hb6 hbb hn6 hF6 HJ5 HV HVl HEV
              refine hK.out _ _ (Or.inr d1) ?_
              clear hK K
              try simp only [Act.put, List.setIfInBounds_toArray, List.set_cons_zero, List.set_cons_succ]
              clear d1
              apply Till.take (i := 7) [7, 9, 12]
              · simp only [List.getElem?_toArray, List.getElem?_cons_succ, List.getElem?_cons_zero]
                rfl
              · kernel_rfl
              · kernel_rfl
              · kernel_rfl
              · kernel_rfl
              · exact fun _ _ _ h => h
              · first
                  | exact Or.inr ⟨by rfl, rfl⟩
                  | (refine Or.inl ⟨by rfl, fun wq hwq => ?_⟩
                     dsimp only at hwq
                     go_simp
                     first
                       | done
                       | rfl)
              · exact HSx.out _ HB0.out
              simp only [Act.put, List.setIfInBounds_toArray, List.set_cons_zero, List.set_cons_succ]
              apply Till.take (i := 8) [8, 11, 12]
              · simp only [List.getElem?_toArray, List.getElem?_cons_succ, List.getElem?_cons_zero]
                rfl
              · kernel_rfl
              · kernel_rfl
              · kernel_rfl
              · kernel_rfl
              · exact fun _ _ _ h => h
              · first
                  | exact Or.inr ⟨by rfl, rfl⟩
                  | (refine Or.inl ⟨by rfl, fun wq hwq => ?_⟩
                     dsimp only at hwq
                     go_simp
                     first
                       | done
                       | rfl)
              · exact HSx.out _ HB0.out
              simp only [Act.put, List.setIfInBounds_toArray, List.set_cons_zero, List.set_cons_succ]
              apply Till.take (i := 9) [9, 12]
              · simp only [List.getElem?_toArray, List.getElem?_cons_succ, List.getElem?_cons_zero]
                rfl
              · kernel_rfl
              · kernel_rfl
              · kernel_rfl
              · kernel_rfl
              · exact fun _ _ _ h => h
              · first
                  | exact Or.inr ⟨by rfl, rfl⟩
                  | (refine Or.inl ⟨by rfl, fun wq hwq => ?_⟩
                     dsimp only at hwq
                     go_simp
                     first
                       | done
                       | rfl)
              · exact HSx.out _ HB0.out
              simp only [Act.put, List.setIfInBounds_toArray, List.set_cons_zero, List.set_cons_succ]
              have cE := blk_cell HE.out 0
              have fE := blk_free HE.out 0
              rw [one0] at cE
              obtain ⟨t1, t2, t3⟩ := store1 HE.out (.slice a6 n6 c6)
              have hB9 : Below wb.heap.size wb (y38.setCell ⟨E, 0, none⟩ (.slice a6 n6 c6)) := HB0.out.trans (t3.below (fun b hb => by have := HEb.out; omega) HB0.out.size)
              have d1 := HSx.out _ hB9
              have HRr := Lib.hid (HO6.out.keptF t3 (fun b hb e => (HF7.out b hb).2 e)).rd2
              have HT1 := Lib.hid t1
              have HB9 := Lib.hid hB9
              clear t1 t2 t3 hB9
              apply Till.one (i := 11)
              · kernel_rfl
              · simp only [List.getElem?_toArray, List.getElem?_cons_succ, List.getElem?_cons_zero]
                rfl
              intro K hK
              go_simp
              skip
              refine hK.out _ _ (Or.inr d1) ?_
              clear hK K
              try simp only [Act.put, List.setIfInBounds_toArray, List.set_cons_zero, List.set_cons_succ]
              apply Till.one (i := 12)
              · kernel_rfl
              · simp only [List.getElem?_toArray, List.getElem?_cons_succ, List.getElem?_cons_zero]
                rfl
              intro K hK
              go_simp
              skip
              refine hK.out _ _ (Or.inl (by rfl)) ?_
              clear hK K
              try simp only [Act.put, List.setIfInBounds_toArray, List.set_cons_zero, List.set_cons_succ]
              refine Till.done (by kernel_rfl) ?_ _
              clear cE fE d1
              obtain ⟨wz, hwz⟩ : ∃ x, x = y38.setCell ⟨E, 0, none⟩ (.slice a6 n6 c6) := ⟨_, rfl⟩
              rw [← hwz] at HT1 HRr HB9 ⊢
              clear hwz
              go_wp2_with fail
              go_meet
              case rel => exact ⟨E, a6, n6, c6, rfl, rfl, HRr.out, HN6.out.symm, HT1.out, HBb.out.trans (by have h := HB9.out; rw [← HZb.out] at h; exact h)⟩
        · intro K hK
          go_simp
          have hba : Below wb.heap.size wb (wb.alloc (.cells #[.slice xa xn xc] 39)) := HB0.out.alloc HB0.out.size (.cells #[.slice xa xn xc] 39)
          have d1 := HSx.out _ hba
          refine hK.out _ _ (Or.inr d1) ?_
          clear hK K
          try simp only [Act.put, List.setIfInBounds_toArray, List.set_cons_zero, List.set_cons_succ]
          clear d1
          obtain ⟨y39, hy⟩ : ∃ x, x = wb.alloc (.cells #[.slice xa xn xc] 39) := ⟨_, rfl⟩
          have hsz : y39.heap.size = wb.heap.size + 1 := by rw [hy]; simp
          have HX4 : Hid (y39.heap[wb.heap.size]? = some (.cells #[.slice xa xn xc] 39)) := Lib.hid (by rw [hy]; exact heap_alloc_new _ _)
          obtain ⟨A4, hA4⟩ : ∃ b, b = wb.heap.size := ⟨_, rfl⟩
          have HL4 : Hid (A4 < y39.heap.size) := Lib.hid (by omega)
          rw [← hA4] at HX4 ⊢
          clear hA4
          replace HB0 : Hid (Below wb.heap.size wb y39) := Lib.hid (by rw [hy]; exact hba)
          rw [← hy]
          clear hba hy hsz
          apply Till.two (i := 0) (j := 10)
          · kernel_rfl
          · simp only [List.getElem?_toArray, List.getElem?_cons_zero]
            rfl
          · simp only [List.getElem?_toArray, List.getElem?_cons_succ, List.getElem?_cons_zero]
            rfl
          · intro K hK
            go_simp
            have hba : Below wb.heap.size wb (y39.alloc (.cells #[] 39)) := HB0.out.alloc HB0.out.size (.cells #[] 39)
            have d1 := HSx.out _ hba
            refine hK.out _ _ (Or.inr d1) ?_
            clear hK K
            try simp only [Act.put, List.setIfInBounds_toArray, List.set_cons_zero, List.set_cons_succ]
            clear d1
            obtain ⟨y40, hy⟩ : ∃ x, x = y39.alloc (.cells #[] 39) := ⟨_, rfl⟩
            have hsz : y40.heap.size = y39.heap.size + 1 := by rw [hy]; simp
            replace HX4 : Hid (y40.heap[A4]? = some (.cells #[.slice xa xn xc] 39)) := Lib.hid (by rw [hy]; exact (heap_alloc_old _ _ (lt_of_block HX4.out)).trans HX4.out)
            obtain ⟨ob, hob⟩ : ∃ b, b = y39.heap.size := ⟨_, rfl⟩
            have HV : Hid (OwnV 39 wb.heap.size y40 (.slice (some ⟨ob, 0, none⟩) 0 0) []) := Lib.hid (by rw [hob, hy]; exact OwnV.lit _ HB0.out.size)
            obtain ⟨ol, hol⟩ : ∃ l : List Value, l = [] := ⟨_, rfl⟩
            have HOl := Lib.hid hol
            rw [← hol] at HV
            have H4V : Hid (∀ r, (Value.slice (some ⟨ob, 0, none⟩) 0 0).ownBlock = some r → r ≠ A4) := Lib.hid (fun r hr => by have hr' : some ob = some r := hr; injection hr' with hr'; have h1 := HL4.out; omega)
            rw [← hob]
            obtain ⟨ov, hov⟩ : ∃ v, v = Value.slice (some ⟨ob, 0, none⟩) 0 0 := ⟨_, rfl⟩
            rw [← hov] at HV H4V ⊢
            have HOv := Lib.hid hov
            clear hol hob hov
            replace HL4 : Hid (A4 < y40.heap.size) := Lib.hid (by have := HL4.out; omega)
            have HVl : Hid (∀ r, ov.ownBlock = some r → r < y40.heap.size) := Lib.hid (fun r hr => (HV.out.2.2.lt r hr).2)
            replace HB0 : Hid (Below wb.heap.size wb y40) := Lib.hid (by rw [hy]; exact hba)
            rw [← hy]
            clear hba hy hsz
            apply Till.two (i := 2) (j := 10)
            · kernel_rfl
            · simp only [List.getElem?_toArray, List.getElem?_cons_succ, List.getElem?_cons_zero]
              rfl
            · simp only [List.getElem?_toArray, List.getElem?_cons_succ, List.getElem?_cons_zero]
              rfl
            · intro K hK
              refine step_append_valsZ _ (by rfl) _ _ 24 (by rfl) 39 i1 (.agg #[.slice none 0 0]) 24 Try.underlying24 Hhi'.out hy0 hy1 hy2 rfl (by omega) (by rfl) HV.out (by rfl) (HVb.out.behind (HB0.out.mono HLb.out)) HOd.out (by rw [HOl.out, Hdl.out]; decide) ?_
              intro v1 y41 h1 hg1 hp1
              have hb1 : Below wb.heap.size wb y41 := HB0.out.trans (HV.out.below (Nat.le_refl _) hg1)
              have d1 := HSx.out _ hb1
              refine hK.out _ _ (Or.inr d1) ?_
              clear hK K
              try simp only [Act.put, List.setIfInBounds_toArray, List.set_cons_zero, List.set_cons_succ]
              clear d1
              replace HX4 : Hid (y41.heap[A4]? = some (.cells #[.slice xa xn xc] 39)) := Lib.hid ((hg1.block A4 (lt_of_block HX4.out) (fun e => H4V.out A4 e.symm rfl)).trans HX4.out)
              replace H4V : Hid (∀ r, v1.ownBlock = some r → r ≠ A4) := Lib.hid (fun r hr => by rcases hp1 with h | h <;> rw [h] at hr; exact H4V.out r hr; (injection hr with hr; have := HL4.out; omega))
              replace HL4 : Hid (A4 < y41.heap.size) := Lib.hid (lt_of_block HX4.out)
              rw [HOl.out] at h1
              replace HV := Lib.hid h1
              replace HVl : Hid (∀ r, v1.ownBlock = some r → r < y41.heap.size) := Lib.hid (fun r hr => (HV.out.2.2.lt r hr).2)
              replace HB0 := Lib.hid hb1
              clear h1 hg1 hp1 hb1
              rw [List.nil_append] at HV
              clear HOv HOl
              obtain ⟨ol2, hol⟩ : ∃ l, l = ds := ⟨_, rfl⟩
              have HOl := Lib.hid hol
              rw [← hol] at HV
              clear hol
              obtain ⟨ov, hov⟩ : ∃ v, v = v1 := ⟨_, rfl⟩
              rw [← hov] at HV HVl H4V ⊢
              clear hov ol
              obtain ⟨ol, hol⟩ : ∃ l, l = ol2 := ⟨_, rfl⟩
              rw [← hol] at HV HOl
              clear hol
              apply Till.two (i := 5) (j := 10)
              · kernel_rfl
              · simp only [List.getElem?_toArray, List.getElem?_cons_succ, List.getElem?_cons_zero]
                rfl
              · simp only [List.getElem?_toArray, List.getElem?_cons_succ, List.getElem?_cons_zero]
                rfl
              · intro K hK
                refine step_append_valsZ _ (by rfl) _ _ 24 (by rfl) 39 i1 (.agg #[.slice none 0 0]) 24 Try.underlying24 Hhi'.out hy0 hy1 hy2 rfl (by omega) (by rfl) HV.out (by rfl) (rdv_one HX4.out) (fun y hy => by rw [List.mem_singleton.1 hy]; rfl) (by rw [HOl.out, Hdl.out, List.length_singleton]; decide) ?_
                intro v1 y42 h1 hg1 hp1
                have hb1 : Below wb.heap.size wb y42 := HB0.out.trans (HV.out.below (Nat.le_refl _) hg1)
                have d1 := HSx.out _ hb1
                refine hK.out _ _ (Or.inr d1) ?_
                clear hK K
                try simp only [Act.put, List.setIfInBounds_toArray, List.set_cons_zero, List.set_cons_succ]
                clear d1
                replace HX4 : Hid (y42.heap[A4]? = some (.cells #[.slice xa xn xc] 39)) := Lib.hid ((hg1.block A4 (lt_of_block HX4.out) (fun e => H4V.out A4 e.symm rfl)).trans HX4.out)
                replace H4V : Hid (∀ r, v1.ownBlock = some r → r ≠ A4) := Lib.hid (fun r hr => by rcases hp1 with h | h <;> rw [h] at hr; exact H4V.out r hr; (injection hr with hr; have := HL4.out; omega))
                replace HL4 : Hid (A4 < y42.heap.size) := Lib.hid (lt_of_block HX4.out)
                rw [HOl.out] at h1
                replace HV := Lib.hid h1
                replace HVl : Hid (∀ r, v1.ownBlock = some r → r < y42.heap.size) := Lib.hid (fun r hr => (HV.out.2.2.lt r hr).2)
                replace HB0 := Lib.hid hb1
                clear h1 hg1 hp1 hb1
                have HJ5 : Hid ((sliceT 39 tyDatabase).rd y42.heap.size y42 [v1] (Dl ++ [X])) := Lib.hid (by
                  have hp := (HPb.out.append (Pt.one HXb.out)).mono (fun u x h => tyDatabase.mono (tyDatabase.behind h HB0.out) HB0.out.size)
                  exact sl_of_vals rfl HV.out.rdv hp.1 hp.2)
                obtain ⟨ov2, hov⟩ : ∃ v, v = v1 := ⟨_, rfl⟩
                rw [← hov] at HJ5 HV HVl ⊢
                clear hov HX4 H4V HL4
                obtain ⟨ov, hov⟩ : ∃ v, v = ov2 := ⟨_, rfl⟩
                rw [← hov] at HJ5 HV HVl ⊢
                clear hov
                apply Till.two (i := 6) (j := 10)
                · kernel_rfl
                · simp only [List.getElem?_toArray, List.getElem?_cons_succ, List.getElem?_cons_zero]
                  rfl
                · simp only [List.getElem?_toArray, List.getElem?_cons_succ, List.getElem?_cons_zero]
                  rfl
                · intro K hK
                  go_simp
                  refine (impl_jw HJ5.out (Nat.le_refl _) HTj.out).mono ?_
                  rw [HEj.out.1, HEj.out.2]
                  rintro e' y43 ⟨v6, he, h6, hb6⟩
                  subst he
                  obtain ⟨a6, c6, hv6, _⟩ := h6.open
                  rw [HWh.out.2.2.2] at hv6
                  obtain ⟨n6, hn6⟩ : ∃ m, m = n := ⟨_, rfl⟩
                  rw [← hn6] at hv6
                  subst hv6
                  have HN6 := Lib.hid hn6
                  have hbb : Below wb.heap.size wb y43 := HB0.out.trans (hb6.mono HB0.out.size)
                  have d1 := HSx.out _ hbb
                  obtain ⟨F6, hF6⟩ : ∃ F : Nat → Prop, F = ival y42.heap.size y43.heap.size := ⟨_, rfl⟩
                  rw [← hF6] at h6
                  have HO6 := Lib.hid h6
                  replace HB0 := Lib.hid hbb
                  have HF6 : Hid (∀ b, F6 b → b < y43.heap.size) := Lib.hid (fun b hb => by rw [hF6] at hb; exact hb.2)
                  clear h6 hb6 hbb hn6 hF6 HJ5 HV HVl 
                  refine hK.out _ _ (Or.inr d1) ?_
                  clear hK K
                  try simp only [Act.put, List.setIfInBounds_toArray, List.set_cons_zero, List.set_cons_succ]
                  clear d1
                  apply Till.take (i := 7) [7, 9, 12]
                  · simp only [List.getElem?_toArray, List.getElem?_cons_succ, List.getElem?_cons_zero]
                    rfl
                  · kernel_rfl
                  · kernel_rfl
                  · kernel_rfl
                  · kernel_rfl
                  · exact fun _ _ _ h => h
                  · first
                      | exact Or.inr ⟨by rfl, rfl⟩
                      | (refine Or.inl ⟨by rfl, fun wq hwq => ?_⟩
                         dsimp only at hwq
                         go_simp
                         first
                           | done
                           | rfl)
                  · exact HSx.out _ HB0.out
                  simp only [Act.put, List.setIfInBounds_toArray, List.set_cons_zero, List.set_cons_succ]
                  apply Till.take (i := 8) [8, 11, 12]
                  · simp only [List.getElem?_toArray, List.getElem?_cons_succ, List.getElem?_cons_zero]
                    rfl
                  · kernel_rfl
                  · kernel_rfl
                  · kernel_rfl
                  · kernel_rfl
                  · exact fun _ _ _ h => h
                  · first
                      | exact Or.inr ⟨by rfl, rfl⟩
                      | (refine Or.inl ⟨by rfl, fun wq hwq => ?_⟩
                         dsimp only at hwq
                         go_simp
                         first
                           | done
                           | rfl)
                  · exact HSx.out _ HB0.out
                  simp only [Act.put, List.setIfInBounds_toArray, List.set_cons_zero, List.set_cons_succ]
                  apply Till.take (i := 9) [9, 12]
                  · simp only [List.getElem?_toArray, List.getElem?_cons_succ, List.getElem?_cons_zero]
                    rfl
                  · kernel_rfl
                  · kernel_rfl
                  · kernel_rfl
                  · kernel_rfl
                  · exact fun _ _ _ h => h
                  · first
                      | exact Or.inr ⟨by rfl, rfl⟩
                      | (refine Or.inl ⟨by rfl, fun wq hwq => ?_⟩
                         dsimp only at hwq
                         go_simp
                         first
                           | done
                           | rfl)
                  · exact HSx.out _ HB0.out
                  simp only [Act.put, List.setIfInBounds_toArray, List.set_cons_zero, List.set_cons_succ]
                  apply Till.one (i := 10)
                  · kernel_rfl
                  · simp only [List.getElem?_toArray, List.getElem?_cons_succ, List.getElem?_cons_zero]
                    rfl
                  intro K hK
                  go_simp
                  have hba : Below wb.heap.size wb (y43.alloc (.cells #[.slice none 0 0] 39)) := HB0.out.alloc HB0.out.size (.cells #[.slice none 0 0] 39)
                  have d1 := HSx.out _ hba
                  refine hK.out _ _ (Or.inr d1) ?_
                  clear hK K
                  try simp only [Act.put, List.setIfInBounds_toArray, List.set_cons_zero, List.set_cons_succ]
                  clear d1
                  obtain ⟨y44, hy⟩ : ∃ x, x = y43.alloc (.cells #[.slice none 0 0] 39) := ⟨_, rfl⟩
                  have hsz : y44.heap.size = y43.heap.size + 1 := by rw [hy]; simp
                  have HE : Hid (y44.heap[y43.heap.size]? = some (.cells #[.slice none 0 0] 39)) := Lib.hid (by rw [hy]; exact heap_alloc_new _ _)
                  obtain ⟨E, hE⟩ : ∃ b, b = y43.heap.size := ⟨_, rfl⟩
                  have HLE : Hid (E < y44.heap.size) := Lib.hid (by omega)
                  have HEb : Hid (wb.heap.size ≤ E) := Lib.hid (by have := HB0.out.size; omega)
                  have HE6 : Hid (E = y43.heap.size) := Lib.hid hE
                  rw [← hE] at HE ⊢
                  clear hE
                  replace HO6 : Hid (Own2 22 5 .u8 F6 y44 (.slice a6 n6 c6) W) := Lib.hid (by rw [hy]; exact HO6.out.alloc _)
                  have HF7 : Hid (∀ b, F6 b → b < y44.heap.size ∧ b ≠ E) := Lib.hid (fun b hb => by have h1 := HF6.out b hb; have h2 := HE6.out; omega)
                  clear HF6 HE6
                  replace HB0 : Hid (Below wb.heap.size wb y44) := Lib.hid (by rw [hy]; exact hba)
                  rw [← hy]
                  clear hba hy hsz
                  have cE := blk_cell HE.out 0
                  have fE := blk_free HE.out 0
                  rw [one0] at cE
                  obtain ⟨t1, t2, t3⟩ := store1 HE.out (.slice a6 n6 c6)
                  have hB9 : Below wb.heap.size wb (y44.setCell ⟨E, 0, none⟩ (.slice a6 n6 c6)) := HB0.out.trans (t3.below (fun b hb => by have := HEb.out; omega) HB0.out.size)
                  have d1 := HSx.out _ hB9
                  have HRr := Lib.hid (HO6.out.keptF t3 (fun b hb e => (HF7.out b hb).2 e)).rd2
                  have HT1 := Lib.hid t1
                  have HB9 := Lib.hid hB9
                  clear t1 t2 t3 hB9
                  apply Till.one (i := 11)
                  · kernel_rfl
                  · simp only [List.getElem?_toArray, List.getElem?_cons_succ, List.getElem?_cons_zero]
                    rfl
                  intro K hK
                  go_simp
                  skip
                  refine hK.out _ _ (Or.inr d1) ?_
                  clear hK K
                  try simp only [Act.put, List.setIfInBounds_toArray, List.set_cons_zero, List.set_cons_succ]
                  apply Till.one (i := 12)
                  · kernel_rfl
                  · simp only [List.getElem?_toArray, List.getElem?_cons_succ, List.getElem?_cons_zero]
                    rfl
                  intro K hK
                  go_simp
                  skip
                  refine hK.out _ _ (Or.inl (by rfl)) ?_
                  clear hK K
                  try simp only [Act.put, List.setIfInBounds_toArray, List.set_cons_zero, List.set_cons_succ]
                  refine Till.done (by kernel_rfl) ?_ _
                  clear cE fE d1
                  obtain ⟨wz, hwz⟩ : ∃ x, x = y44.setCell ⟨E, 0, none⟩ (.slice a6 n6 c6) := ⟨_, rfl⟩
                  rw [← hwz] at HT1 HRr HB9 ⊢
                  clear hwz
                  go_wp2_with fail
                  go_meet
                  case rel => exact ⟨E, a6, n6, c6, rfl, rfl, HRr.out, HN6.out.symm, HT1.out, HBb.out.trans (by have h := HB9.out; rw [← HZb.out] at h; exact h)⟩
                · intro K hK
                  go_simp
                  have hba : Below wb.heap.size wb (y42.alloc (.cells #[.slice none 0 0] 39)) := HB0.out.alloc HB0.out.size (.cells #[.slice none 0 0] 39)
                  have d1 := HSx.out _ hba
                  refine hK.out _ _ (Or.inr d1) ?_
                  clear hK K
                  try simp only [Act.put, List.setIfInBounds_toArray, List.set_cons_zero, List.set_cons_succ]
                  clear d1
                  obtain ⟨y45, hy⟩ : ∃ x, x = y42.alloc (.cells #[.slice none 0 0] 39) := ⟨_, rfl⟩
                  have hsz : y45.heap.size = y42.heap.size + 1 := by rw [hy]; simp
                  have HE : Hid (y45.heap[y42.heap.size]? = some (.cells #[.slice none 0 0] 39)) := Lib.hid (by rw [hy]; exact heap_alloc_new _ _)
                  obtain ⟨E, hE⟩ : ∃ b, b = y42.heap.size := ⟨_, rfl⟩
                  have HLE : Hid (E < y45.heap.size) := Lib.hid (by omega)
                  have HEb : Hid (wb.heap.size ≤ E) := Lib.hid (by have := HB0.out.size; omega)
                  have HE6 : Hid (E = y42.heap.size) := Lib.hid hE
                  rw [← hE] at HE ⊢
                  clear hE
                  replace HJ5 : Hid ((sliceT 39 tyDatabase).rd y45.heap.size y45 [ov] (Dl ++ [X])) := Lib.hid (by rw [hy]; exact (sliceT 39 tyDatabase).mono ((sliceT 39 tyDatabase).behind HJ5.out ((Below.refl _ _).alloc (Nat.le_refl _) _)) (by simp))
                  replace HB0 : Hid (Below wb.heap.size wb y45) := Lib.hid (by rw [hy]; exact hba)
                  rw [← hy]
                  clear hba hy hsz
                  apply Till.one (i := 6)
                  · kernel_rfl
                  · simp only [List.getElem?_toArray, List.getElem?_cons_succ, List.getElem?_cons_zero]
                    rfl
                  intro K hK
                  go_simp
                  refine (impl_jw HJ5.out (Nat.le_refl _) HTj.out).mono ?_
                  rw [HEj.out.1, HEj.out.2]
                  rintro e' y46 ⟨v6, he, h6, hb6⟩
                  subst he
                  obtain ⟨a6, c6, hv6, _⟩ := h6.open
                  rw [HWh.out.2.2.2] at hv6
                  obtain ⟨n6, hn6⟩ : ∃ m, m = n := ⟨_, rfl⟩
                  rw [← hn6] at hv6
                  subst hv6
                  have HN6 := Lib.hid hn6
                  have hbb : Below wb.heap.size wb y46 := HB0.out.trans (hb6.mono HB0.out.size)
                  have d1 := HSx.out _ hbb
                  obtain ⟨F6, hF6⟩ : ∃ F : Nat → Prop, F = ival y45.heap.size y46.heap.size := ⟨_, rfl⟩
                  rw [← hF6] at h6
                  have HO6 := Lib.hid h6
                  replace HB0 := Lib.hid hbb
                  have HF7 : Hid (∀ b, F6 b → b < y46.heap.size ∧ b ≠ E) := Lib.hid (fun b hb => by rw [hF6] at hb; unfold ival at hb; have := HLE.out; omega)
                  replace HE : Hid (y46.heap[E]? = some (.cells #[.slice none 0 0] 39)) := Lib.hid ((hb6.block E (lt_of_block HE.out)).trans HE.out)
                  replace HLE : Hid (E < y46.heap.size) := Lib.hid (lt_of_block HE.out)
                  clear h6 hb6 hbb hn6 hF6 HJ5 HV HVl 
                  refine hK.out _ _ (Or.inr d1) ?_
                  clear hK K
                  try simp only [Act.put, List.setIfInBounds_toArray, List.set_cons_zero, List.set_cons_succ]
                  clear d1
                  apply Till.take (i := 7) [7, 9, 12]
                  · simp only [List.getElem?_toArray, List.getElem?_cons_succ, List.getElem?_cons_zero]
                    rfl
                  · kernel_rfl
                  · kernel_rfl
                  · kernel_rfl
                  · kernel_rfl
                  · exact fun _ _ _ h => h
                  · first
                      | exact Or.inr ⟨by rfl, rfl⟩
                      | (refine Or.inl ⟨by rfl, fun wq hwq => ?_⟩
                         dsimp only at hwq
                         go_simp
                         first
                           | done
                           | rfl)
                  · exact HSx.out _ HB0.out
                  simp only [Act.put, List.setIfInBounds_toArray, List.set_cons_zero, List.set_cons_succ]
                  apply Till.take (i := 8) [8, 11, 12]
                  · simp only [List.getElem?_toArray, List.getElem?_cons_succ, List.getElem?_cons_zero]
                    rfl
                  · kernel_rfl
                  · kernel_rfl
                  · kernel_rfl
                  · kernel_rfl
                  · exact fun _ _ _ h => h
                  · first
                      | exact Or.inr ⟨by rfl, rfl⟩
                      | (refine Or.inl ⟨by rfl, fun wq hwq => ?_⟩
                         dsimp only at hwq
                         go_simp
                         first
                           | done
                           | rfl)
                  · exact HSx.out _ HB0.out
                  simp only [Act.put, List.setIfInBounds_toArray, List.set_cons_zero, List.set_cons_succ]
                  apply Till.take (i := 9) [9, 12]
                  · simp only [List.getElem?_toArray, List.getElem?_cons_succ, List.getElem?_cons_zero]
                    rfl
                  · kernel_rfl
                  · kernel_rfl
                  · kernel_rfl
                  · kernel_rfl
                  · exact fun _ _ _ h => h
                  · first
                      | exact Or.inr ⟨by rfl, rfl⟩
                      | (refine Or.inl ⟨by rfl, fun wq hwq => ?_⟩
                         dsimp only at hwq
                         go_simp
                         first
                           | done
                           | rfl)
                  · exact HSx.out _ HB0.out
                  simp only [Act.put, List.setIfInBounds_toArray, List.set_cons_zero, List.set_cons_succ]
                  have cE := blk_cell HE.out 0
                  have fE := blk_free HE.out 0
                  rw [one0] at cE
                  obtain ⟨t1, t2, t3⟩ := store1 HE.out (.slice a6 n6 c6)
                  have hB9 : Below wb.heap.size wb (y46.setCell ⟨E, 0, none⟩ (.slice a6 n6 c6)) := HB0.out.trans (t3.below (fun b hb => by have := HEb.out; omega) HB0.out.size)
                  have d1 := HSx.out _ hB9
                  have HRr := Lib.hid (HO6.out.keptF t3 (fun b hb e => (HF7.out b hb).2 e)).rd2
                  have HT1 := Lib.hid t1
                  have HB9 := Lib.hid hB9
                  clear t1 t2 t3 hB9
                  apply Till.one (i := 11)
                  · kernel_rfl
                  · simp only [List.getElem?_toArray, List.getElem?_cons_succ, List.getElem?_cons_zero]
                    rfl
                  intro K hK
                  go_simp
                  skip
                  refine hK.out _ _ (Or.inr d1) ?_
                  clear hK K
                  try simp only [Act.put, List.setIfInBounds_toArray, List.set_cons_zero, List.set_cons_succ]
                  apply Till.one (i := 12)
                  · kernel_rfl
                  · simp only [List.getElem?_toArray, List.getElem?_cons_succ, List.getElem?_cons_zero]
                    rfl
                  intro K hK
                  go_simp
                  skip
                  refine hK.out _ _ (Or.inl (by rfl)) ?_
                  clear hK K
                  try simp only [Act.put, List.setIfInBounds_toArray, List.set_cons_zero, List.set_cons_succ]
                  refine Till.done (by kernel_rfl) ?_ _
                  clear cE fE d1
                  obtain ⟨wz, hwz⟩ : ∃ x, x = y46.setCell ⟨E, 0, none⟩ (.slice a6 n6 c6) := ⟨_, rfl⟩
                  rw [← hwz] at HT1 HRr HB9 ⊢
                  clear hwz
                  go_wp2_with fail
                  go_meet
                  case rel => exact ⟨E, a6, n6, c6, rfl, rfl, HRr.out, HN6.out.symm, HT1.out, HBb.out.trans (by have h := HB9.out; rw [← HZb.out] at h; exact h)⟩
              · intro K hK
                go_simp
                have hba : Below wb.heap.size wb (y41.alloc (.cells #[.slice none 0 0] 39)) := HB0.out.alloc HB0.out.size (.cells #[.slice none 0 0] 39)
                have d1 := HSx.out _ hba
                refine hK.out _ _ (Or.inr d1) ?_
                clear hK K
                try simp only [Act.put, List.setIfInBounds_toArray, List.set_cons_zero, List.set_cons_succ]
                clear d1
                obtain ⟨y47, hy⟩ : ∃ x, x = y41.alloc (.cells #[.slice none 0 0] 39) := ⟨_, rfl⟩
                have hsz : y47.heap.size = y41.heap.size + 1 := by rw [hy]; simp
                replace HV : Hid (OwnV 39 wb.heap.size y47 ov ol) := Lib.hid (by rw [hy]; exact HV.out.alloc (.cells #[.slice none 0 0] 39))
                replace HX4 : Hid (y47.heap[A4]? = some (.cells #[.slice xa xn xc] 39)) := Lib.hid (by rw [hy]; exact (heap_alloc_old _ _ (lt_of_block HX4.out)).trans HX4.out)
                have HE : Hid (y47.heap[y41.heap.size]? = some (.cells #[.slice none 0 0] 39)) := Lib.hid (by rw [hy]; exact heap_alloc_new _ _)
                have HEV : Hid (∀ r, ov.ownBlock = some r → r ≠ y41.heap.size) := Lib.hid (fun r hr => by have h := HVl.out r hr; omega)
                obtain ⟨E, hE⟩ : ∃ b, b = y41.heap.size := ⟨_, rfl⟩
                have HLE : Hid (E < y47.heap.size) := Lib.hid (by omega)
                have HEb : Hid (wb.heap.size ≤ E) := Lib.hid (by have := HB0.out.size; omega)
                have HE6 : Hid (E = y41.heap.size) := Lib.hid hE
                rw [← hE] at HE HEV ⊢
                clear hE
                replace HL4 : Hid (A4 < y47.heap.size) := Lib.hid (by have := HL4.out; omega)
                replace HVl : Hid (∀ r, ov.ownBlock = some r → r < y47.heap.size) := Lib.hid (fun r hr => (HV.out.2.2.lt r hr).2)
                replace HB0 : Hid (Below wb.heap.size wb y47) := Lib.hid (by rw [hy]; exact hba)
                rw [← hy]
                clear hba hy hsz
                apply Till.one (i := 5)
                · kernel_rfl
                · simp only [List.getElem?_toArray, List.getElem?_cons_succ, List.getElem?_cons_zero]
                  rfl
                intro K hK
                refine step_append_valsZ _ (by rfl) _ _ 24 (by rfl) 39 i1 (.agg #[.slice none 0 0]) 24 Try.underlying24 Hhi'.out hy0 hy1 hy2 rfl (by omega) (by rfl) HV.out (by rfl) (rdv_one HX4.out) (fun y hy => by rw [List.mem_singleton.1 hy]; rfl) (by rw [HOl.out, Hdl.out, List.length_singleton]; decide) ?_
                intro v1 y48 h1 hg1 hp1
                have hb1 : Below wb.heap.size wb y48 := HB0.out.trans (HV.out.below (Nat.le_refl _) hg1)
                have d1 := HSx.out _ hb1
                refine hK.out _ _ (Or.inr d1) ?_
                clear hK K
                try simp only [Act.put, List.setIfInBounds_toArray, List.set_cons_zero, List.set_cons_succ]
                clear d1
                replace HX4 : Hid (y48.heap[A4]? = some (.cells #[.slice xa xn xc] 39)) := Lib.hid ((hg1.block A4 (lt_of_block HX4.out) (fun e => H4V.out A4 e.symm rfl)).trans HX4.out)
                replace H4V : Hid (∀ r, v1.ownBlock = some r → r ≠ A4) := Lib.hid (fun r hr => by rcases hp1 with h | h <;> rw [h] at hr; exact H4V.out r hr; (injection hr with hr; have := HL4.out; omega))
                replace HL4 : Hid (A4 < y48.heap.size) := Lib.hid (lt_of_block HX4.out)
                replace HE : Hid (y48.heap[E]? = some (.cells #[.slice none 0 0] 39)) := Lib.hid ((hg1.block E (lt_of_block HE.out) (fun e => HEV.out E e.symm rfl)).trans HE.out)
                replace HEV : Hid (∀ r, v1.ownBlock = some r → r ≠ E) := Lib.hid (fun r hr => by rcases hp1 with h | h <;> rw [h] at hr; exact HEV.out r hr; (injection hr with hr; have := HLE.out; omega))
                replace HLE : Hid (E < y48.heap.size) := Lib.hid (lt_of_block HE.out)
                rw [HOl.out] at h1
                replace HV := Lib.hid h1
                replace HVl : Hid (∀ r, v1.ownBlock = some r → r < y48.heap.size) := Lib.hid (fun r hr => (HV.out.2.2.lt r hr).2)
                replace HB0 := Lib.hid hb1
                clear h1 hg1 hp1 hb1
                have HJ5 : Hid ((sliceT 39 tyDatabase).rd y48.heap.size y48 [v1] (Dl ++ [X])) := Lib.hid (by
                  have hp := (HPb.out.append (Pt.one HXb.out)).mono (fun u x h => tyDatabase.mono (tyDatabase.behind h HB0.out) HB0.out.size)
                  exact sl_of_vals rfl HV.out.rdv hp.1 hp.2)
                obtain ⟨ov2, hov⟩ : ∃ v, v = v1 := ⟨_, rfl⟩
                rw [← hov] at HJ5 HV HVl HEV ⊢
                clear hov HX4 H4V HL4
                obtain ⟨ov, hov⟩ : ∃ v, v = ov2 := ⟨_, rfl⟩
                rw [← hov] at HJ5 HV HVl HEV ⊢
                clear hov
                apply Till.one (i := 6)
                · kernel_rfl
                · simp only [List.getElem?_toArray, List.getElem?_cons_succ, List.getElem?_cons_zero]
                  rfl
                intro K hK
                go_simp
                refine (impl_jw HJ5.out (Nat.le_refl _) HTj.out).mono ?_
                rw [HEj.out.1, HEj.out.2]
                rintro e' y49 ⟨v6, he, h6, hb6⟩
                subst he
                obtain ⟨a6, c6, hv6, _⟩ := h6.open
                rw [HWh.out.2.2.2] at hv6
                obtain ⟨n6, hn6⟩ : ∃ m, m = n := ⟨_, rfl⟩
                rw [← hn6] at hv6
                subst hv6
                have HN6 := Lib.hid hn6
                have hbb : Below wb.heap.size wb y49 := HB0.out.trans (hb6.mono HB0.out.size)
                have d1 := HSx.out _ hbb
                obtain ⟨F6, hF6⟩ : ∃ F : Nat → Prop, F = ival y48.heap.size y49.heap.size := ⟨_, rfl⟩
                rw [← hF6] at h6
                have HO6 := Lib.hid h6
                replace HB0 := Lib.hid hbb
                have HF7 : Hid (∀ b, F6 b → b < y49.heap.size ∧ b ≠ E) := Lib.hid (fun b hb => by rw [hF6] at hb; unfold ival at hb; have := HLE.out; omega)
                replace HE : Hid (y49.heap[E]? = some (.cells #[.slice none 0 0] 39)) := Lib.hid ((hb6.block E (lt_of_block HE.out)).trans HE.out)
                replace HLE : Hid (E < y49.heap.size) := Lib.hid (lt_of_block HE.out)
                clear h6 hb6 hbb hn6 hF6 HJ5 HV HVl HEV
                refine hK.out _ _ (Or.inr d1) ?_
                clear hK K
                try simp only [Act.put, List.setIfInBounds_toArray, List.set_cons_zero, List.set_cons_succ]
                clear d1
                apply Till.take (i := 7) [7, 9, 12]
                · simp only [List.getElem?_toArray, List.getElem?_cons_succ, List.getElem?_cons_zero]
                  rfl
                · kernel_rfl
                · kernel_rfl
                · kernel_rfl
                · kernel_rfl
                · exact fun _ _ _ h => h
                · first
                    | exact Or.inr ⟨by rfl, rfl⟩
                    | (refine Or.inl ⟨by rfl, fun wq hwq => ?_⟩
                       dsimp only at hwq
                       go_simp
                       first
                         | done
                         | rfl)
                · exact HSx.out _ HB0.out
                simp only [Act.put, List.setIfInBounds_toArray, List.set_cons_zero, List.set_cons_succ]
                apply Till.take (i := 8) [8, 11, 12]
                · simp only [List.getElem?_toArray, List.getElem?_cons_succ, List.getElem?_cons_zero]
                  rfl
                · kernel_rfl
                · kernel_rfl
                · kernel_rfl
                · kernel_rfl
                · exact fun _ _ _ h => h
                · first
                    | exact Or.inr ⟨by rfl, rfl⟩
                    | (refine Or.inl ⟨by rfl, fun wq hwq => ?_⟩
                       dsimp only at hwq
                       go_simp
                       first
                         | done
                         | rfl)
                · exact HSx.out _ HB0.out
                simp only [Act.put, List.setIfInBounds_toArray, List.set_cons_zero, List.set_cons_succ]
                apply Till.take (i := 9) [9, 12]
                · simp only [List.getElem?_toArray, List.getElem?_cons_succ, List.getElem?_cons_zero]
                  rfl
                · kernel_rfl
                · kernel_rfl
                · kernel_rfl
                · kernel_rfl
                · exact fun _ _ _ h => h
                · first
                    | exact Or.inr ⟨by rfl, rfl⟩
                    | (refine Or.inl ⟨by rfl, fun wq hwq => ?_⟩
                       dsimp only at hwq
                       go_simp
                       first
                         | done
                         | rfl)
                · exact HSx.out _ HB0.out
                simp only [Act.put, List.setIfInBounds_toArray, List.set_cons_zero, List.set_cons_succ]
                have cE := blk_cell HE.out 0
                have fE := blk_free HE.out 0
                rw [one0] at cE
                obtain ⟨t1, t2, t3⟩ := store1 HE.out (.slice a6 n6 c6)
                have hB9 : Below wb.heap.size wb (y49.setCell ⟨E, 0, none⟩ (.slice a6 n6 c6)) := HB0.out.trans (t3.below (fun b hb => by have := HEb.out; omega) HB0.out.size)
                have d1 := HSx.out _ hB9
                have HRr := Lib.hid (HO6.out.keptF t3 (fun b hb e => (HF7.out b hb).2 e)).rd2
                have HT1 := Lib.hid t1
                have HB9 := Lib.hid hB9
                clear t1 t2 t3 hB9
                apply Till.one (i := 11)
                · kernel_rfl
                · simp only [List.getElem?_toArray, List.getElem?_cons_succ, List.getElem?_cons_zero]
                  rfl
                intro K hK
                go_simp
                skip
                refine hK.out _ _ (Or.inr d1) ?_
                clear hK K
                try simp only [Act.put, List.setIfInBounds_toArray, List.set_cons_zero, List.set_cons_succ]
                apply Till.one (i := 12)
                · kernel_rfl
                · simp only [List.getElem?_toArray, List.getElem?_cons_succ, List.getElem?_cons_zero]
                  rfl
                intro K hK
                go_simp
                skip
                refine hK.out _ _ (Or.inl (by rfl)) ?_
                clear hK K
                try simp only [Act.put, List.setIfInBounds_toArray, List.set_cons_zero, List.set_cons_succ]
                refine Till.done (by kernel_rfl) ?_ _
                clear cE fE d1
                obtain ⟨wz, hwz⟩ : ∃ x, x = y49.setCell ⟨E, 0, none⟩ (.slice a6 n6 c6) := ⟨_, rfl⟩
                rw [← hwz] at HT1 HRr HB9 ⊢
                clear hwz
                go_wp2_with fail
                go_meet
                case rel => exact ⟨E, a6, n6, c6, rfl, rfl, HRr.out, HN6.out.symm, HT1.out, HBb.out.trans (by have h := HB9.out; rw [← HZb.out] at h; exact h)⟩
            · intro K hK
              go_simp
              have hba : Below wb.heap.size wb (y40.alloc (.cells #[.slice none 0 0] 39)) := HB0.out.alloc HB0.out.size (.cells #[.slice none 0 0] 39)
              have d1 := HSx.out _ hba
              refine hK.out _ _ (Or.inr d1) ?_
              clear hK K
              try simp only [Act.put, List.setIfInBounds_toArray, List.set_cons_zero, List.set_cons_succ]
              clear d1
              obtain ⟨y50, hy⟩ : ∃ x, x = y40.alloc (.cells #[.slice none 0 0] 39) := ⟨_, rfl⟩
              have hsz : y50.heap.size = y40.heap.size + 1 := by rw [hy]; simp
              replace HV : Hid (OwnV 39 wb.heap.size y50 ov ol) := Lib.hid (by rw [hy]; exact HV.out.alloc (.cells #[.slice none 0 0] 39))
              replace HX4 : Hid (y50.heap[A4]? = some (.cells #[.slice xa xn xc] 39)) := Lib.hid (by rw [hy]; exact (heap_alloc_old _ _ (lt_of_block HX4.out)).trans HX4.out)
              have HE : Hid (y50.heap[y40.heap.size]? = some (.cells #[.slice none 0 0] 39)) := Lib.hid (by rw [hy]; exact heap_alloc_new _ _)
              have HEV : Hid (∀ r, ov.ownBlock = some r → r ≠ y40.heap.size) := Lib.hid (fun r hr => by have h := HVl.out r hr; omega)
              obtain ⟨E, hE⟩ : ∃ b, b = y40.heap.size := ⟨_, rfl⟩
              have HLE : Hid (E < y50.heap.size) := Lib.hid (by omega)
              have HEb : Hid (wb.heap.size ≤ E) := Lib.hid (by have := HB0.out.size; omega)
              have HE6 : Hid (E = y40.heap.size) := Lib.hid hE
              rw [← hE] at HE HEV ⊢
              clear hE
              replace HL4 : Hid (A4 < y50.heap.size) := Lib.hid (by have := HL4.out; omega)
              replace HVl : Hid (∀ r, ov.ownBlock = some r → r < y50.heap.size) := Lib.hid (fun r hr => (HV.out.2.2.lt r hr).2)
              replace HB0 : Hid (Below wb.heap.size wb y50) := Lib.hid (by rw [hy]; exact hba)
              rw [← hy]
              clear hba hy hsz
              apply Till.one (i := 2)
              · kernel_rfl
              · simp only [List.getElem?_toArray, List.getElem?_cons_succ, List.getElem?_cons_zero]
                rfl
              intro K hK
              refine step_append_valsZ _ (by rfl) _ _ 24 (by rfl) 39 i1 (.agg #[.slice none 0 0]) 24 Try.underlying24 Hhi'.out hy0 hy1 hy2 rfl (by omega) (by rfl) HV.out (by rfl) (HVb.out.behind (HB0.out.mono HLb.out)) HOd.out (by rw [HOl.out, Hdl.out]; decide) ?_
              intro v1 y51 h1 hg1 hp1
              have hb1 : Below wb.heap.size wb y51 := HB0.out.trans (HV.out.below (Nat.le_refl _) hg1)
              have d1 := HSx.out _ hb1
              refine hK.out _ _ (Or.inr d1) ?_
              clear hK K
              try simp only [Act.put, List.setIfInBounds_toArray, List.set_cons_zero, List.set_cons_succ]
              clear d1
              replace HX4 : Hid (y51.heap[A4]? = some (.cells #[.slice xa xn xc] 39)) := Lib.hid ((hg1.block A4 (lt_of_block HX4.out) (fun e => H4V.out A4 e.symm rfl)).trans HX4.out)
              replace H4V : Hid (∀ r, v1.ownBlock = some r → r ≠ A4) := Lib.hid (fun r hr => by rcases hp1 with h | h <;> rw [h] at hr; exact H4V.out r hr; (injection hr with hr; have := HL4.out; omega))
              replace HL4 : Hid (A4 < y51.heap.size) := Lib.hid (lt_of_block HX4.out)
              replace HE : Hid (y51.heap[E]? = some (.cells #[.slice none 0 0] 39)) := Lib.hid ((hg1.block E (lt_of_block HE.out) (fun e => HEV.out E e.symm rfl)).trans HE.out)
              replace HEV : Hid (∀ r, v1.ownBlock = some r → r ≠ E) := Lib.hid (fun r hr => by rcases hp1 with h | h <;> rw [h] at hr; exact HEV.out r hr; (injection hr with hr; have := HLE.out; omega))
              replace HLE : Hid (E < y51.heap.size) := Lib.hid (lt_of_block HE.out)
              rw [HOl.out] at h1
              replace HV := Lib.hid h1
              replace HVl : Hid (∀ r, v1.ownBlock = some r → r < y51.heap.size) := Lib.hid (fun r hr => (HV.out.2.2.lt r hr).2)
              replace HB0 := Lib.hid hb1
              clear h1 hg1 hp1 hb1
              rw [List.nil_append] at HV
              clear HOv HOl
              obtain ⟨ol2, hol⟩ : ∃ l, l = ds := ⟨_, rfl⟩
              have HOl := Lib.hid hol
              rw [← hol] at HV
              clear hol
              obtain ⟨ov, hov⟩ : ∃ v, v = v1 := ⟨_, rfl⟩
              rw [← hov] at HV HVl H4V HEV ⊢
              clear hov ol
              obtain ⟨ol, hol⟩ : ∃ l, l = ol2 := ⟨_, rfl⟩
              rw [← hol] at HV HOl
              clear hol
              apply Till.one (i := 5)
              · kernel_rfl
              · simp only [List.getElem?_toArray, List.getElem?_cons_succ, List.getElem?_cons_zero]
                rfl
              intro K hK
              refine step_append_valsZ _ (by rfl) _ _ 24 (by rfl) 39 i1 (.agg #[.slice none 0 0]) 24 Try.underlying24 Hhi'.out hy0 hy1 hy2 rfl (by omega) (by rfl) HV.out (by rfl) (rdv_one HX4.out) (fun y hy => by rw [List.mem_singleton.1 hy]; rfl) (by rw [HOl.out, Hdl.out, List.length_singleton]; decide) ?_
              intro v1 y52 h1 hg1 hp1
              have hb1 : Below wb.heap.size wb y52 := HB0.out.trans (HV.out.below (Nat.le_refl _) hg1)
              have d1 := HSx.out _ hb1
              refine hK.out _ _ (Or.inr d1) ?_
              clear hK K
              try simp only [Act.put, List.setIfInBounds_toArray, List.set_cons_zero, List.set_cons_succ]
              clear d1
              replace HX4 : Hid (y52.heap[A4]? = some (.cells #[.slice xa xn xc] 39)) := Lib.hid ((hg1.block A4 (lt_of_block HX4.out) (fun e => H4V.out A4 e.symm rfl)).trans HX4.out)
              replace H4V : Hid (∀ r, v1.ownBlock = some r → r ≠ A4) := Lib.hid (fun r hr => by rcases hp1 with h | h <;> rw [h] at hr; exact H4V.out r hr; (injection hr with hr; have := HL4.out; omega))
              replace HL4 : Hid (A4 < y52.heap.size) := Lib.hid (lt_of_block HX4.out)
              replace HE : Hid (y52.heap[E]? = some (.cells #[.slice none 0 0] 39)) := Lib.hid ((hg1.block E (lt_of_block HE.out) (fun e => HEV.out E e.symm rfl)).trans HE.out)
              replace HEV : Hid (∀ r, v1.ownBlock = some r → r ≠ E) := Lib.hid (fun r hr => by rcases hp1 with h | h <;> rw [h] at hr; exact HEV.out r hr; (injection hr with hr; have := HLE.out; omega))
              replace HLE : Hid (E < y52.heap.size) := Lib.hid (lt_of_block HE.out)
              rw [HOl.out] at h1
              replace HV := Lib.hid h1
              replace HVl : Hid (∀ r, v1.ownBlock = some r → r < y52.heap.size) := Lib.hid (fun r hr => (HV.out.2.2.lt r hr).2)
              replace HB0 := Lib.hid hb1
              clear h1 hg1 hp1 hb1
              have HJ5 : Hid ((sliceT 39 tyDatabase).rd y52.heap.size y52 [v1] (Dl ++ [X])) := Lib.hid (by
                have hp := (HPb.out.append (Pt.one HXb.out)).mono (fun u x h => tyDatabase.mono (tyDatabase.behind h HB0.out) HB0.out.size)
                exact sl_of_vals rfl HV.out.rdv hp.1 hp.2)
              obtain ⟨ov2, hov⟩ : ∃ v, v = v1 := ⟨_, rfl⟩
              rw [← hov] at HJ5 HV HVl HEV ⊢
              clear hov HX4 H4V HL4
              obtain ⟨ov, hov⟩ : ∃ v, v = ov2 := ⟨_, rfl⟩
              rw [← hov] at HJ5 HV HVl HEV ⊢
              clear hov
              apply Till.one (i := 6)
              · kernel_rfl
              · simp only [List.getElem?_toArray, List.getElem?_cons_succ, List.getElem?_cons_zero]
                rfl
              intro K hK
              go_simp
              refine (impl_jw HJ5.out (Nat.le_refl _) HTj.out).mono ?_
              rw [HEj.out.1, HEj.out.2]
              rintro e' y53 ⟨v6, he, h6, hb6⟩
              subst he
              obtain ⟨a6, c6, hv6, _⟩ := h6.open
              rw [HWh.out.2.2.2] at hv6
              obtain ⟨n6, hn6⟩ : ∃ m, m = n := ⟨_, rfl⟩
              rw [← hn6] at hv6
              subst hv6
              have HN6 := Lib.hid hn6
              have hbb : Below wb.heap.size wb y53 := HB0.out.trans (hb6.mono HB0.out.size)
              have d1 := HSx.out _ hbb
              obtain ⟨F6, hF6⟩ : ∃ F : Nat → Prop, F = ival y52.heap.size y53.heap.size := ⟨_, rfl⟩
              rw [← hF6] at h6
              have HO6 := Lib.hid h6
              replace HB0 := Lib.hid hbb
              have HF7 : Hid (∀ b, F6 b → b < y53.heap.size ∧ b ≠ E) := Lib.hid (fun b hb => by rw [hF6] at hb; unfold ival at hb; have := HLE.out; omega)
              replace HE : Hid (y53.heap[E]? = some (.cells #[.slice none 0 0] 39)) := Lib.hid ((hb6.block E (lt_of_block HE.out)).trans HE.out)
              replace HLE : Hid (E < y53.heap.size) := Lib.hid (lt_of_block HE.out)
              clear h6 hb6 hbb hn6 hF6 HJ5 HV HVl HEV
              refine hK.out _ _ (Or.inr d1) ?_
              clear hK K
              try simp only [Act.put, List.setIfInBounds_toArray, List.set_cons_zero, List.set_cons_succ]
              clear d1
              apply Till.take (i := 7) [7, 9, 12]
              · simp only [List.getElem?_toArray, List.getElem?_cons_succ, List.getElem?_cons_zero]
                rfl
              · kernel_rfl
              · kernel_rfl
              · kernel_rfl
              · kernel_rfl
              · exact fun _ _ _ h => h
              · first
                  | exact Or.inr ⟨by rfl, rfl⟩
                  | (refine Or.inl ⟨by rfl, fun wq hwq => ?_⟩
                     dsimp only at hwq
                     go_simp
                     first
                       | done
                       | rfl)
              · exact HSx.out _ HB0.out
              simp only [Act.put, List.setIfInBounds_toArray, List.set_cons_zero, List.set_cons_succ]
              apply Till.take (i := 8) [8, 11, 12]
              · simp only [List.getElem?_toArray, List.getElem?_cons_succ, List.getElem?_cons_zero]
                rfl
              · kernel_rfl
              · kernel_rfl
              · kernel_rfl
              · kernel_rfl
              · exact fun _ _ _ h => h
              · first
                  | exact Or.inr ⟨by rfl, rfl⟩
                  | (refine Or.inl ⟨by rfl, fun wq hwq => ?_⟩
                     dsimp only at hwq
                     go_simp
                     first
                       | done
                       | rfl)
              · exact HSx.out _ HB0.out
              simp only [Act.put, List.setIfInBounds_toArray, List.set_cons_zero, List.set_cons_succ]
              apply Till.take (i := 9) [9, 12]
              · simp only [List.getElem?_toArray, List.getElem?_cons_succ, List.getElem?_cons_zero]
                rfl
              · kernel_rfl
              · kernel_rfl
              · kernel_rfl
              · kernel_rfl
              · exact fun _ _ _ h => h
              · first
                  | exact Or.inr ⟨by rfl, rfl⟩
                  | (refine Or.inl ⟨by rfl, fun wq hwq => ?_⟩
                     dsimp only at hwq
                     go_simp
                     first
                       | done
                       | rfl)
              · exact HSx.out _ HB0.out
              simp only [Act.put, List.setIfInBounds_toArray, List.set_cons_zero, List.set_cons_succ]
              have cE := blk_cell HE.out 0
              have fE := blk_free HE.out 0
              rw [one0] at cE
              obtain ⟨t1, t2, t3⟩ := store1 HE.out (.slice a6 n6 c6)
              have hB9 : Below wb.heap.size wb (y53.setCell ⟨E, 0, none⟩ (.slice a6 n6 c6)) := HB0.out.trans (t3.below (fun b hb => by have := HEb.out; omega) HB0.out.size)
              have d1 := HSx.out _ hB9
              have HRr := Lib.hid (HO6.out.keptF t3 (fun b hb e => (HF7.out b hb).2 e)).rd2
              have HT1 := Lib.hid t1
              have HB9 := Lib.hid hB9
              clear t1 t2 t3 hB9
              apply Till.one (i := 11)
              · kernel_rfl
              · simp only [List.getElem?_toArray, List.getElem?_cons_succ, List.getElem?_cons_zero]
                rfl
              intro K hK
              go_simp
              skip
              refine hK.out _ _ (Or.inr d1) ?_
              clear hK K
              try simp only [Act.put, List.setIfInBounds_toArray, List.set_cons_zero, List.set_cons_succ]
              apply Till.one (i := 12)
              · kernel_rfl
              · simp only [List.getElem?_toArray, List.getElem?_cons_succ, List.getElem?_cons_zero]
                rfl
              intro K hK
              go_simp
              skip
              refine hK.out _ _ (Or.inl (by rfl)) ?_
              clear hK K
              try simp only [Act.put, List.setIfInBounds_toArray, List.set_cons_zero, List.set_cons_succ]
              refine Till.done (by kernel_rfl) ?_ _
              clear cE fE d1
              obtain ⟨wz, hwz⟩ : ∃ x, x = y53.setCell ⟨E, 0, none⟩ (.slice a6 n6 c6) := ⟨_, rfl⟩
              rw [← hwz] at HT1 HRr HB9 ⊢
              clear hwz
              go_wp2_with fail
              go_meet
              case rel => exact ⟨E, a6, n6, c6, rfl, rfl, HRr.out, HN6.out.symm, HT1.out, HBb.out.trans (by have h := HB9.out; rw [← HZb.out] at h; exact h)⟩
          · intro K hK
            go_simp
            have hba : Below wb.heap.size wb (y39.alloc (.cells #[.slice none 0 0] 39)) := HB0.out.alloc HB0.out.size (.cells #[.slice none 0 0] 39)
            have d1 := HSx.out _ hba
            refine hK.out _ _ (Or.inr d1) ?_
            clear hK K
            try simp only [Act.put, List.setIfInBounds_toArray, List.set_cons_zero, List.set_cons_succ]
            clear d1
            obtain ⟨y54, hy⟩ : ∃ x, x = y39.alloc (.cells #[.slice none 0 0] 39) := ⟨_, rfl⟩
            have hsz : y54.heap.size = y39.heap.size + 1 := by rw [hy]; simp
            replace HX4 : Hid (y54.heap[A4]? = some (.cells #[.slice xa xn xc] 39)) := Lib.hid (by rw [hy]; exact (heap_alloc_old _ _ (lt_of_block HX4.out)).trans HX4.out)
            have HE : Hid (y54.heap[y39.heap.size]? = some (.cells #[.slice none 0 0] 39)) := Lib.hid (by rw [hy]; exact heap_alloc_new _ _)
            obtain ⟨E, hE⟩ : ∃ b, b = y39.heap.size := ⟨_, rfl⟩
            have HLE : Hid (E < y54.heap.size) := Lib.hid (by omega)
            have HEb : Hid (wb.heap.size ≤ E) := Lib.hid (by have := HB0.out.size; omega)
            have HE6 : Hid (E = y39.heap.size) := Lib.hid hE
            rw [← hE] at HE ⊢
            clear hE
            replace HL4 : Hid (A4 < y54.heap.size) := Lib.hid (by have := HL4.out; omega)
            replace HB0 : Hid (Below wb.heap.size wb y54) := Lib.hid (by rw [hy]; exact hba)
            rw [← hy]
            clear hba hy hsz
            apply Till.one (i := 0)
            · kernel_rfl
            · simp only [List.getElem?_toArray, List.getElem?_cons_zero]
              rfl
            intro K hK
            go_simp
            have hba : Below wb.heap.size wb (y54.alloc (.cells #[] 39)) := HB0.out.alloc HB0.out.size (.cells #[] 39)
            have d1 := HSx.out _ hba
            refine hK.out _ _ (Or.inr d1) ?_
            clear hK K
            try simp only [Act.put, List.setIfInBounds_toArray, List.set_cons_zero, List.set_cons_succ]
            clear d1
            obtain ⟨y55, hy⟩ : ∃ x, x = y54.alloc (.cells #[] 39) := ⟨_, rfl⟩
            have hsz : y55.heap.size = y54.heap.size + 1 := by rw [hy]; simp
            replace HX4 : Hid (y55.heap[A4]? = some (.cells #[.slice xa xn xc] 39)) := Lib.hid (by rw [hy]; exact (heap_alloc_old _ _ (lt_of_block HX4.out)).trans HX4.out)
            replace HE : Hid (y55.heap[E]? = some (.cells #[.slice none 0 0] 39)) := Lib.hid (by rw [hy]; exact (heap_alloc_old _ _ (lt_of_block HE.out)).trans HE.out)
            obtain ⟨ob, hob⟩ : ∃ b, b = y54.heap.size := ⟨_, rfl⟩
            have HV : Hid (OwnV 39 wb.heap.size y55 (.slice (some ⟨ob, 0, none⟩) 0 0) []) := Lib.hid (by rw [hob, hy]; exact OwnV.lit _ HB0.out.size)
            obtain ⟨ol, hol⟩ : ∃ l : List Value, l = [] := ⟨_, rfl⟩
            have HOl := Lib.hid hol
            rw [← hol] at HV
            have H4V : Hid (∀ r, (Value.slice (some ⟨ob, 0, none⟩) 0 0).ownBlock = some r → r ≠ A4) := Lib.hid (fun r hr => by have hr' : some ob = some r := hr; injection hr' with hr'; have h1 := HL4.out; omega)
            have HEV : Hid (∀ r, (Value.slice (some ⟨ob, 0, none⟩) 0 0).ownBlock = some r → r ≠ E) := Lib.hid (fun r hr => by have hr' : some ob = some r := hr; injection hr' with hr'; have h1 := HLE.out; omega)
            rw [← hob]
            obtain ⟨ov, hov⟩ : ∃ v, v = Value.slice (some ⟨ob, 0, none⟩) 0 0 := ⟨_, rfl⟩
            rw [← hov] at HV H4V HEV ⊢
            have HOv := Lib.hid hov
            clear hol hob hov
            replace HL4 : Hid (A4 < y55.heap.size) := Lib.hid (by have := HL4.out; omega)
            replace HLE : Hid (E < y55.heap.size) := Lib.hid (by have := HLE.out; omega)
            have HVl : Hid (∀ r, ov.ownBlock = some r → r < y55.heap.size) := Lib.hid (fun r hr => (HV.out.2.2.lt r hr).2)
            replace HB0 : Hid (Below wb.heap.size wb y55) := Lib.hid (by rw [hy]; exact hba)
            rw [← hy]
            clear hba hy hsz
            apply Till.one (i := 2)
            · kernel_rfl
            · simp only [List.getElem?_toArray, List.getElem?_cons_succ, List.getElem?_cons_zero]
              rfl
            intro K hK
            refine step_append_valsZ _ (by rfl) _ _ 24 (by rfl) 39 i1 (.agg #[.slice none 0 0]) 24 Try.underlying24 Hhi'.out hy0 hy1 hy2 rfl (by omega) (by rfl) HV.out (by rfl) (HVb.out.behind (HB0.out.mono HLb.out)) HOd.out (by rw [HOl.out, Hdl.out]; decide) ?_
            intro v1 y56 h1 hg1 hp1
            have hb1 : Below wb.heap.size wb y56 := HB0.out.trans (HV.out.below (Nat.le_refl _) hg1)
            have d1 := HSx.out _ hb1
            refine hK.out _ _ (Or.inr d1) ?_
            clear hK K
            try simp only [Act.put, List.setIfInBounds_toArray, List.set_cons_zero, List.set_cons_succ]
            clear d1
            replace HX4 : Hid (y56.heap[A4]? = some (.cells #[.slice xa xn xc] 39)) := Lib.hid ((hg1.block A4 (lt_of_block HX4.out) (fun e => H4V.out A4 e.symm rfl)).trans HX4.out)
            replace H4V : Hid (∀ r, v1.ownBlock = some r → r ≠ A4) := Lib.hid (fun r hr => by rcases hp1 with h | h <;> rw [h] at hr; exact H4V.out r hr; (injection hr with hr; have := HL4.out; omega))
            replace HL4 : Hid (A4 < y56.heap.size) := Lib.hid (lt_of_block HX4.out)
            replace HE : Hid (y56.heap[E]? = some (.cells #[.slice none 0 0] 39)) := Lib.hid ((hg1.block E (lt_of_block HE.out) (fun e => HEV.out E e.symm rfl)).trans HE.out)
            replace HEV : Hid (∀ r, v1.ownBlock = some r → r ≠ E) := Lib.hid (fun r hr => by rcases hp1 with h | h <;> rw [h] at hr; exact HEV.out r hr; (injection hr with hr; have := HLE.out; omega))
            replace HLE : Hid (E < y56.heap.size) := Lib.hid (lt_of_block HE.out)
            rw [HOl.out] at h1
            replace HV := Lib.hid h1
            replace HVl : Hid (∀ r, v1.ownBlock = some r → r < y56.heap.size) := Lib.hid (fun r hr => (HV.out.2.2.lt r hr).2)
            replace HB0 := Lib.hid hb1
            clear h1 hg1 hp1 hb1
            rw [List.nil_append] at HV
            clear HOv HOl
            obtain ⟨ol2, hol⟩ : ∃ l, l = ds := ⟨_, rfl⟩
            have HOl := Lib.hid hol
            rw [← hol] at HV
            clear hol
            obtain ⟨ov, hov⟩ : ∃ v, v = v1 := ⟨_, rfl⟩
            rw [← hov] at HV HVl H4V HEV ⊢
            clear hov ol
            obtain ⟨ol, hol⟩ : ∃ l, l = ol2 := ⟨_, rfl⟩
            rw [← hol] at HV HOl
            clear hol
            apply Till.one (i := 5)
            · kernel_rfl
            · simp only [List.getElem?_toArray, List.getElem?_cons_succ, List.getElem?_cons_zero]
              rfl
            intro K hK
            refine step_append_valsZ _ (by rfl) _ _ 24 (by rfl) 39 i1 (.agg #[.slice none 0 0]) 24 Try.underlying24 Hhi'.out hy0 hy1 hy2 rfl (by omega) (by rfl) HV.out (by rfl) (rdv_one HX4.out) (fun y hy => by rw [List.mem_singleton.1 hy]; rfl) (by rw [HOl.out, Hdl.out, List.length_singleton]; decide) ?_
            intro v1 y57 h1 hg1 hp1
            have hb1 : Below wb.heap.size wb y57 := HB0.out.trans (HV.out.below (Nat.le_refl _) hg1)
            have d1 := HSx.out _ hb1
            refine hK.out _ _ (Or.inr d1) ?_
            clear hK K
            try simp only [Act.put, List.setIfInBounds_toArray, List.set_cons_zero, List.set_cons_succ]
            clear d1
            replace HX4 : Hid (y57.heap[A4]? = some (.cells #[.slice xa xn xc] 39)) := Lib.hid ((hg1.block A4 (lt_of_block HX4.out) (fun e => H4V.out A4 e.symm rfl)).trans HX4.out)
            replace H4V : Hid (∀ r, v1.ownBlock = some r → r ≠ A4) := Lib.hid (fun r hr => by rcases hp1 with h | h <;> rw [h] at hr; exact H4V.out r hr; (injection hr with hr; have := HL4.out; omega))
            replace HL4 : Hid (A4 < y57.heap.size) := Lib.hid (lt_of_block HX4.out)
            replace HE : Hid (y57.heap[E]? = some (.cells #[.slice none 0 0] 39)) := Lib.hid ((hg1.block E (lt_of_block HE.out) (fun e => HEV.out E e.symm rfl)).trans HE.out)
            replace HEV : Hid (∀ r, v1.ownBlock = some r → r ≠ E) := Lib.hid (fun r hr => by rcases hp1 with h | h <;> rw [h] at hr; exact HEV.out r hr; (injection hr with hr; have := HLE.out; omega))
            replace HLE : Hid (E < y57.heap.size) := Lib.hid (lt_of_block HE.out)
            rw [HOl.out] at h1
            replace HV := Lib.hid h1
            replace HVl : Hid (∀ r, v1.ownBlock = some r → r < y57.heap.size) := Lib.hid (fun r hr => (HV.out.2.2.lt r hr).2)
            replace HB0 := Lib.hid hb1
            clear h1 hg1 hp1 hb1
            have HJ5 : Hid ((sliceT 39 tyDatabase).rd y57.heap.size y57 [v1] (Dl ++ [X])) := Lib.hid (by
              have hp := (HPb.out.append (Pt.one HXb.out)).mono (fun u x h => tyDatabase.mono (tyDatabase.behind h HB0.out) HB0.out.size)
              exact sl_of_vals rfl HV.out.rdv hp.1 hp.2)
            obtain ⟨ov2, hov⟩ : ∃ v, v = v1 := ⟨_, rfl⟩
            rw [← hov] at HJ5 HV HVl HEV ⊢
            clear hov HX4 H4V HL4
            obtain ⟨ov, hov⟩ : ∃ v, v = ov2 := ⟨_, rfl⟩
            rw [← hov] at HJ5 HV HVl HEV ⊢
            clear hov
            apply Till.one (i := 6)
            · kernel_rfl
            · simp only [List.getElem?_toArray, List.getElem?_cons_succ, List.getElem?_cons_zero]
              rfl
            intro K hK
            go_simp
            refine (impl_jw HJ5.out (Nat.le_refl _) HTj.out).mono ?_
            rw [HEj.out.1, HEj.out.2]
            rintro e' y58 ⟨v6, he, h6, hb6⟩
            subst he
            obtain ⟨a6, c6, hv6, _⟩ := h6.open
            rw [HWh.out.2.2.2] at hv6
            obtain ⟨n6, hn6⟩ : ∃ m, m = n := ⟨_, rfl⟩
            rw [← hn6] at hv6
            subst hv6
            have HN6 := Lib.hid hn6
            have hbb : Below wb.heap.size wb y58 := HB0.out.trans (hb6.mono HB0.out.size)
            have d1 := HSx.out _ hbb
            obtain ⟨F6, hF6⟩ : ∃ F : Nat → Prop, F = ival y57.heap.size y58.heap.size := ⟨_, rfl⟩
            rw [← hF6] at h6
            have HO6 := Lib.hid h6
            replace HB0 := Lib.hid hbb
            have HF7 : Hid (∀ b, F6 b → b < y58.heap.size ∧ b ≠ E) := Lib.hid (fun b hb => by rw [hF6] at hb; unfold ival at hb; have := HLE.out; omega)
            replace HE : Hid (y58.heap[E]? = some (.cells #[.slice none 0 0] 39)) := Lib.hid ((hb6.block E (lt_of_block HE.out)).trans HE.out)
            replace HLE : Hid (E < y58.heap.size) := Lib.hid (lt_of_block HE.out)
            clear h6 hb6 hbb hn6 hF6 HJ5 HV HVl HEV
            refine hK.out _ _ (Or.inr d1) ?_
            clear hK K
            try simp only [Act.put, List.setIfInBounds_toArray, List.set_cons_zero, List.set_cons_succ]
            clear d1
            apply Till.take (i := 7) [7, 9, 12]
            · simp only [List.getElem?_toArray, List.getElem?_cons_succ, List.getElem?_cons_zero]
              rfl
            · kernel_rfl
            · kernel_rfl
            · kernel_rfl
            · kernel_rfl
            · exact fun _ _ _ h => h
            · first
                | exact Or.inr ⟨by rfl, rfl⟩
                | (refine Or.inl ⟨by rfl, fun wq hwq => ?_⟩
                   dsimp only at hwq
                   go_simp
                   first
                     | done
                     | rfl)
            · exact HSx.out _ HB0.out
            simp only [Act.put, List.setIfInBounds_toArray, List.set_cons_zero, List.set_cons_succ]
            apply Till.take (i := 8) [8, 11, 12]
            · simp only [List.getElem?_toArray, List.getElem?_cons_succ, List.getElem?_cons_zero]
              rfl
            · kernel_rfl
            · kernel_rfl
            · kernel_rfl
            · kernel_rfl
            · exact fun _ _ _ h => h
            · first
                | exact Or.inr ⟨by rfl, rfl⟩
                | (refine Or.inl ⟨by rfl, fun wq hwq => ?_⟩
                   dsimp only at hwq
                   go_simp
                   first
                     | done
                     | rfl)
            · exact HSx.out _ HB0.out
            simp only [Act.put, List.setIfInBounds_toArray, List.set_cons_zero, List.set_cons_succ]
            apply Till.take (i := 9) [9, 12]
            · simp only [List.getElem?_toArray, List.getElem?_cons_succ, List.getElem?_cons_zero]
              rfl
            · kernel_rfl
            · kernel_rfl
            · kernel_rfl
            · kernel_rfl
            · exact fun _ _ _ h => h
            · first
                | exact Or.inr ⟨by rfl, rfl⟩
                | (refine Or.inl ⟨by rfl, fun wq hwq => ?_⟩
                   dsimp only at hwq
                   go_simp
                   first
                     | done
                     | rfl)
            · exact HSx.out _ HB0.out
            simp only [Act.put, List.setIfInBounds_toArray, List.set_cons_zero, List.set_cons_succ]
            have cE := blk_cell HE.out 0
            have fE := blk_free HE.out 0
            rw [one0] at cE
            obtain ⟨t1, t2, t3⟩ := store1 HE.out (.slice a6 n6 c6)
            have hB9 : Below wb.heap.size wb (y58.setCell ⟨E, 0, none⟩ (.slice a6 n6 c6)) := HB0.out.trans (t3.below (fun b hb => by have := HEb.out; omega) HB0.out.size)
            have d1 := HSx.out _ hB9
            have HRr := Lib.hid (HO6.out.keptF t3 (fun b hb e => (HF7.out b hb).2 e)).rd2
            have HT1 := Lib.hid t1
            have HB9 := Lib.hid hB9
            clear t1 t2 t3 hB9
            apply Till.one (i := 11)
            · kernel_rfl
            · simp only [List.getElem?_toArray, List.getElem?_cons_succ, List.getElem?_cons_zero]
              rfl
            intro K hK
            go_simp
            skip
            refine hK.out _ _ (Or.inr d1) ?_
            clear hK K
            try simp only [Act.put, List.setIfInBounds_toArray, List.set_cons_zero, List.set_cons_succ]
            apply Till.one (i := 12)
            · kernel_rfl
            · simp only [List.getElem?_toArray, List.getElem?_cons_succ, List.getElem?_cons_zero]
              rfl
            intro K hK
            go_simp
            skip
            refine hK.out _ _ (Or.inl (by rfl)) ?_
            clear hK K
            try simp only [Act.put, List.setIfInBounds_toArray, List.set_cons_zero, List.set_cons_succ]
            refine Till.done (by kernel_rfl) ?_ _
            clear cE fE d1
            obtain ⟨wz, hwz⟩ : ∃ x, x = y58.setCell ⟨E, 0, none⟩ (.slice a6 n6 c6) := ⟨_, rfl⟩
            rw [← hwz] at HT1 HRr HB9 ⊢
            clear hwz
            go_wp2_with fail
            go_meet
            case rel => exact ⟨E, a6, n6, c6, rfl, rfl, HRr.out, HN6.out.symm, HT1.out, HBb.out.trans (by have h := HB9.out; rw [← HZb.out] at h; exact h)⟩
        · intro K hK
          go_simp
          have hba : Below wb.heap.size wb (wb.alloc (.cells #[.slice none 0 0] 39)) := HB0.out.alloc HB0.out.size (.cells #[.slice none 0 0] 39)
          have d1 := HSx.out _ hba
          refine hK.out _ _ (Or.inr d1) ?_
          clear hK K
          try simp only [Act.put, List.setIfInBounds_toArray, List.set_cons_zero, List.set_cons_succ]
          clear d1
          obtain ⟨y59, hy⟩ : ∃ x, x = wb.alloc (.cells #[.slice none 0 0] 39) := ⟨_, rfl⟩
          have hsz : y59.heap.size = wb.heap.size + 1 := by rw [hy]; simp
          have HE : Hid (y59.heap[wb.heap.size]? = some (.cells #[.slice none 0 0] 39)) := Lib.hid (by rw [hy]; exact heap_alloc_new _ _)
          obtain ⟨E, hE⟩ : ∃ b, b = wb.heap.size := ⟨_, rfl⟩
          have HLE : Hid (E < y59.heap.size) := Lib.hid (by omega)
          have HEb : Hid (wb.heap.size ≤ E) := Lib.hid (by have := HB0.out.size; omega)
          have HE6 : Hid (E = wb.heap.size) := Lib.hid hE
          rw [← hE] at HE ⊢
          clear hE
          replace HB0 : Hid (Below wb.heap.size wb y59) := Lib.hid (by rw [hy]; exact hba)
          rw [← hy]
          clear hba hy hsz
          apply Till.two (i := 0) (j := 4)
          · kernel_rfl
          · simp only [List.getElem?_toArray, List.getElem?_cons_zero]
            rfl
          · simp only [List.getElem?_toArray, List.getElem?_cons_succ, List.getElem?_cons_zero]
            rfl
          · intro K hK
            go_simp
            have hba : Below wb.heap.size wb (y59.alloc (.cells #[] 39)) := HB0.out.alloc HB0.out.size (.cells #[] 39)
            have d1 := HSx.out _ hba
            refine hK.out _ _ (Or.inr d1) ?_
            clear hK K
            try simp only [Act.put, List.setIfInBounds_toArray, List.set_cons_zero, List.set_cons_succ]
            clear d1
            obtain ⟨y60, hy⟩ : ∃ x, x = y59.alloc (.cells #[] 39) := ⟨_, rfl⟩
            have hsz : y60.heap.size = y59.heap.size + 1 := by rw [hy]; simp
            replace HE : Hid (y60.heap[E]? = some (.cells #[.slice none 0 0] 39)) := Lib.hid (by rw [hy]; exact (heap_alloc_old _ _ (lt_of_block HE.out)).trans HE.out)
            obtain ⟨ob, hob⟩ : ∃ b, b = y59.heap.size := ⟨_, rfl⟩
            have HV : Hid (OwnV 39 wb.heap.size y60 (.slice (some ⟨ob, 0, none⟩) 0 0) []) := Lib.hid (by rw [hob, hy]; exact OwnV.lit _ HB0.out.size)
            obtain ⟨ol, hol⟩ : ∃ l : List Value, l = [] := ⟨_, rfl⟩
            have HOl := Lib.hid hol
            rw [← hol] at HV
            have HEV : Hid (∀ r, (Value.slice (some ⟨ob, 0, none⟩) 0 0).ownBlock = some r → r ≠ E) := Lib.hid (fun r hr => by have hr' : some ob = some r := hr; injection hr' with hr'; have h1 := HLE.out; omega)
            rw [← hob]
            obtain ⟨ov, hov⟩ : ∃ v, v = Value.slice (some ⟨ob, 0, none⟩) 0 0 := ⟨_, rfl⟩
            rw [← hov] at HV HEV ⊢
            have HOv := Lib.hid hov
            clear hol hob hov
            replace HLE : Hid (E < y60.heap.size) := Lib.hid (by have := HLE.out; omega)
            have HVl : Hid (∀ r, ov.ownBlock = some r → r < y60.heap.size) := Lib.hid (fun r hr => (HV.out.2.2.lt r hr).2)
            replace HB0 : Hid (Below wb.heap.size wb y60) := Lib.hid (by rw [hy]; exact hba)
            rw [← hy]
            clear hba hy hsz
            apply Till.two (i := 2) (j := 4)
            · kernel_rfl
            · simp only [List.getElem?_toArray, List.getElem?_cons_succ, List.getElem?_cons_zero]
              rfl
            · simp only [List.getElem?_toArray, List.getElem?_cons_succ, List.getElem?_cons_zero]
              rfl
            · intro K hK
              refine step_append_valsZ _ (by rfl) _ _ 24 (by rfl) 39 i1 (.agg #[.slice none 0 0]) 24 Try.underlying24 Hhi'.out hy0 hy1 hy2 rfl (by omega) (by rfl) HV.out (by rfl) (HVb.out.behind (HB0.out.mono HLb.out)) HOd.out (by rw [HOl.out, Hdl.out]; decide) ?_
              intro v1 y61 h1 hg1 hp1
              have hb1 : Below wb.heap.size wb y61 := HB0.out.trans (HV.out.below (Nat.le_refl _) hg1)
              have d1 := HSx.out _ hb1
              refine hK.out _ _ (Or.inr d1) ?_
              clear hK K
              try simp only [Act.put, List.setIfInBounds_toArray, List.set_cons_zero, List.set_cons_succ]
              clear d1
              replace HE : Hid (y61.heap[E]? = some (.cells #[.slice none 0 0] 39)) := Lib.hid ((hg1.block E (lt_of_block HE.out) (fun e => HEV.out E e.symm rfl)).trans HE.out)
              replace HEV : Hid (∀ r, v1.ownBlock = some r → r ≠ E) := Lib.hid (fun r hr => by rcases hp1 with h | h <;> rw [h] at hr; exact HEV.out r hr; (injection hr with hr; have := HLE.out; omega))
              replace HLE : Hid (E < y61.heap.size) := Lib.hid (lt_of_block HE.out)
              rw [HOl.out] at h1
              replace HV := Lib.hid h1
              replace HVl : Hid (∀ r, v1.ownBlock = some r → r < y61.heap.size) := Lib.hid (fun r hr => (HV.out.2.2.lt r hr).2)
              replace HB0 := Lib.hid hb1
              clear h1 hg1 hp1 hb1
              rw [List.nil_append] at HV
              clear HOv HOl
              obtain ⟨ol2, hol⟩ : ∃ l, l = ds := ⟨_, rfl⟩
              have HOl := Lib.hid hol
              rw [← hol] at HV
              clear hol
              obtain ⟨ov, hov⟩ : ∃ v, v = v1 := ⟨_, rfl⟩
              rw [← hov] at HV HVl HEV ⊢
              clear hov ol
              obtain ⟨ol, hol⟩ : ∃ l, l = ol2 := ⟨_, rfl⟩
              rw [← hol] at HV HOl
              clear hol
              apply Till.one (i := 4)
              · kernel_rfl
              · simp only [List.getElem?_toArray, List.getElem?_cons_succ, List.getElem?_cons_zero]
                rfl
              intro K hK
              go_simp
              have hba : Below wb.heap.size wb (y61.alloc (.cells #[.slice xa xn xc] 39)) := HB0.out.alloc HB0.out.size (.cells #[.slice xa xn xc] 39)
              have d1 := HSx.out _ hba
              refine hK.out _ _ (Or.inr d1) ?_
              clear hK K
              try simp only [Act.put, List.setIfInBounds_toArray, List.set_cons_zero, List.set_cons_succ]
              clear d1
              obtain ⟨y62, hy⟩ : ∃ x, x = y61.alloc (.cells #[.slice xa xn xc] 39) := ⟨_, rfl⟩
              have hsz : y62.heap.size = y61.heap.size + 1 := by rw [hy]; simp
              replace HV : Hid (OwnV 39 wb.heap.size y62 ov ol) := Lib.hid (by rw [hy]; exact HV.out.alloc (.cells #[.slice xa xn xc] 39))
              replace HE : Hid (y62.heap[E]? = some (.cells #[.slice none 0 0] 39)) := Lib.hid (by rw [hy]; exact (heap_alloc_old _ _ (lt_of_block HE.out)).trans HE.out)
              have HX4 : Hid (y62.heap[y61.heap.size]? = some (.cells #[.slice xa xn xc] 39)) := Lib.hid (by rw [hy]; exact heap_alloc_new _ _)
              have H4V : Hid (∀ r, ov.ownBlock = some r → r ≠ y61.heap.size) := Lib.hid (fun r hr => by have h := HVl.out r hr; omega)
              obtain ⟨A4, hA4⟩ : ∃ b, b = y61.heap.size := ⟨_, rfl⟩
              have HL4 : Hid (A4 < y62.heap.size) := Lib.hid (by omega)
              rw [← hA4] at HX4 H4V ⊢
              clear hA4
              replace HLE : Hid (E < y62.heap.size) := Lib.hid (by have := HLE.out; omega)
              replace HVl : Hid (∀ r, ov.ownBlock = some r → r < y62.heap.size) := Lib.hid (fun r hr => (HV.out.2.2.lt r hr).2)
              replace HB0 : Hid (Below wb.heap.size wb y62) := Lib.hid (by rw [hy]; exact hba)
              rw [← hy]
              clear hba hy hsz
              apply Till.one (i := 5)
              · kernel_rfl
              · simp only [List.getElem?_toArray, List.getElem?_cons_succ, List.getElem?_cons_zero]
                rfl
              intro K hK
              refine step_append_valsZ _ (by rfl) _ _ 24 (by rfl) 39 i1 (.agg #[.slice none 0 0]) 24 Try.underlying24 Hhi'.out hy0 hy1 hy2 rfl (by omega) (by rfl) HV.out (by rfl) (rdv_one HX4.out) (fun y hy => by rw [List.mem_singleton.1 hy]; rfl) (by rw [HOl.out, Hdl.out, List.length_singleton]; decide) ?_
              intro v1 y63 h1 hg1 hp1
              have hb1 : Below wb.heap.size wb y63 := HB0.out.trans (HV.out.below (Nat.le_refl _) hg1)
              have d1 := HSx.out _ hb1
              refine hK.out _ _ (Or.inr d1) ?_
              clear hK K
              try simp only [Act.put, List.setIfInBounds_toArray, List.set_cons_zero, List.set_cons_succ]
              clear d1
              replace HX4 : Hid (y63.heap[A4]? = some (.cells #[.slice xa xn xc] 39)) := Lib.hid ((hg1.block A4 (lt_of_block HX4.out) (fun e => H4V.out A4 e.symm rfl)).trans HX4.out)
              replace H4V : Hid (∀ r, v1.ownBlock = some r → r ≠ A4) := Lib.hid (fun r hr => by rcases hp1 with h | h <;> rw [h] at hr; exact H4V.out r hr; (injection hr with hr; have := HL4.out; omega))
              replace HL4 : Hid (A4 < y63.heap.size) := Lib.hid (lt_of_block HX4.out)
              replace HE : Hid (y63.heap[E]? = some (.cells #[.slice none 0 0] 39)) := Lib.hid ((hg1.block E (lt_of_block HE.out) (fun e => HEV.out E e.symm rfl)).trans HE.out)
              replace HEV : Hid (∀ r, v1.ownBlock = some r → r ≠ E) := Lib.hid (fun r hr => by rcases hp1 with h | h <;> rw [h] at hr; exact HEV.out r hr; (injection hr with hr; have := HLE.out; omega))
              replace HLE : Hid (E < y63.heap.size) := Lib.hid (lt_of_block HE.out)
              rw [HOl.out] at h1
              replace HV := Lib.hid h1
              replace HVl : Hid (∀ r, v1.ownBlock = some r → r < y63.heap.size) := Lib.hid (fun r hr => (HV.out.2.2.lt r hr).2)
              replace HB0 := Lib.hid hb1
              clear h1 hg1 hp1 hb1
              have HJ5 : Hid ((sliceT 39 tyDatabase).rd y63.heap.size y63 [v1] (Dl ++ [X])) := Lib.hid (by
                have hp := (HPb.out.append (Pt.one HXb.out)).mono (fun u x h => tyDatabase.mono (tyDatabase.behind h HB0.out) HB0.out.size)
                exact sl_of_vals rfl HV.out.rdv hp.1 hp.2)
              obtain ⟨ov2, hov⟩ : ∃ v, v = v1 := ⟨_, rfl⟩
              rw [← hov] at HJ5 HV HVl HEV ⊢
              clear hov HX4 H4V HL4
              obtain ⟨ov, hov⟩ : ∃ v, v = ov2 := ⟨_, rfl⟩
              rw [← hov] at HJ5 HV HVl HEV ⊢
              clear hov
              apply Till.one (i := 6)
              · kernel_rfl
              · simp only [List.getElem?_toArray, List.getElem?_cons_succ, List.getElem?_cons_zero]
                rfl
              intro K hK
              go_simp
              refine (impl_jw HJ5.out (Nat.le_refl _) HTj.out).mono ?_
              rw [HEj.out.1, HEj.out.2]
              rintro e' y64 ⟨v6, he, h6, hb6⟩
              subst he
              obtain ⟨a6, c6, hv6, _⟩ := h6.open
              rw [HWh.out.2.2.2] at hv6
              obtain ⟨n6, hn6⟩ : ∃ m, m = n := ⟨_, rfl⟩
              rw [← hn6] at hv6
              subst hv6
              have HN6 := Lib.hid hn6
              have hbb : Below wb.heap.size wb y64 := HB0.out.trans (hb6.mono HB0.out.size)
              have d1 := HSx.out _ hbb
              obtain ⟨F6, hF6⟩ : ∃ F : Nat → Prop, F = ival y63.heap.size y64.heap.size := ⟨_, rfl⟩
              rw [← hF6] at h6
              have HO6 := Lib.hid h6
              replace HB0 := Lib.hid hbb
              have HF7 : Hid (∀ b, F6 b → b < y64.heap.size ∧ b ≠ E) := Lib.hid (fun b hb => by rw [hF6] at hb; unfold ival at hb; have := HLE.out; omega)
              replace HE : Hid (y64.heap[E]? = some (.cells #[.slice none 0 0] 39)) := Lib.hid ((hb6.block E (lt_of_block HE.out)).trans HE.out)
              replace HLE : Hid (E < y64.heap.size) := Lib.hid (lt_of_block HE.out)
              clear h6 hb6 hbb hn6 hF6 HJ5 HV HVl HEV
              refine hK.out _ _ (Or.inr d1) ?_
              clear hK K
              try simp only [Act.put, List.setIfInBounds_toArray, List.set_cons_zero, List.set_cons_succ]
              clear d1
              apply Till.take (i := 7) [7, 9, 12]
              · simp only [List.getElem?_toArray, List.getElem?_cons_succ, List.getElem?_cons_zero]
                rfl
              · kernel_rfl
              · kernel_rfl
              · kernel_rfl
              · kernel_rfl
              · exact fun _ _ _ h => h
              · first
                  | exact Or.inr ⟨by rfl, rfl⟩
                  | (refine Or.inl ⟨by rfl, fun wq hwq => ?_⟩
                     dsimp only at hwq
                     go_simp
                     first
                       | done
                       | rfl)
              · exact HSx.out _ HB0.out
              simp only [Act.put, List.setIfInBounds_toArray, List.set_cons_zero, List.set_cons_succ]
              apply Till.take (i := 8) [8, 11, 12]
              · simp only [List.getElem?_toArray, List.getElem?_cons_succ, List.getElem?_cons_zero]
                rfl
              · kernel_rfl
              · kernel_rfl
              · kernel_rfl
              · kernel_rfl
              · exact fun _ _ _ h => h
              · first
                  | exact Or.inr ⟨by rfl, rfl⟩
                  | (refine Or.inl ⟨by rfl, fun wq hwq => ?_⟩
                     dsimp only at hwq
                     go_simp
                     first
                       | done
                       | rfl)
              · exact HSx.out _ HB0.out
              simp only [Act.put, List.setIfInBounds_toArray, List.set_cons_zero, List.set_cons_succ]
              apply Till.take (i := 9) [9, 12]
              · simp only [List.getElem?_toArray, List.getElem?_cons_succ, List.getElem?_cons_zero]
                rfl
              · kernel_rfl
              · kernel_rfl
              · kernel_rfl
              · kernel_rfl
              · exact fun _ _ _ h => h
              · first
                  | exact Or.inr ⟨by rfl, rfl⟩
                  | (refine Or.inl ⟨by rfl, fun wq hwq => ?_⟩
                     dsimp only at hwq
                     go_simp
                     first
                       | done
                       | rfl)
              · exact HSx.out _ HB0.out
              simp only [Act.put, List.setIfInBounds_toArray, List.set_cons_zero, List.set_cons_succ]
              have cE := blk_cell HE.out 0
              have fE := blk_free HE.out 0
              rw [one0] at cE
              obtain ⟨t1, t2, t3⟩ := store1 HE.out (.slice a6 n6 c6)
              have hB9 : Below wb.heap.size wb (y64.setCell ⟨E, 0, none⟩ (.slice a6 n6 c6)) := HB0.out.trans (t3.below (fun b hb => by have := HEb.out; omega) HB0.out.size)
              have d1 := HSx.out _ hB9
              have HRr := Lib.hid (HO6.out.keptF t3 (fun b hb e => (HF7.out b hb).2 e)).rd2
              have HT1 := Lib.hid t1
              have HB9 := Lib.hid hB9
              clear t1 t2 t3 hB9
              apply Till.one (i := 11)
              · kernel_rfl
              · simp only [List.getElem?_toArray, List.getElem?_cons_succ, List.getElem?_cons_zero]
                rfl
              intro K hK
              go_simp
              skip
              refine hK.out _ _ (Or.inr d1) ?_
              clear hK K
              try simp only [Act.put, List.setIfInBounds_toArray, List.set_cons_zero, List.set_cons_succ]
              apply Till.one (i := 12)
              · kernel_rfl
              · simp only [List.getElem?_toArray, List.getElem?_cons_succ, List.getElem?_cons_zero]
                rfl
              intro K hK
              go_simp
              skip
              refine hK.out _ _ (Or.inl (by rfl)) ?_
              clear hK K
              try simp only [Act.put, List.setIfInBounds_toArray, List.set_cons_zero, List.set_cons_succ]
              refine Till.done (by kernel_rfl) ?_ _
              clear cE fE d1
              obtain ⟨wz, hwz⟩ : ∃ x, x = y64.setCell ⟨E, 0, none⟩ (.slice a6 n6 c6) := ⟨_, rfl⟩
              rw [← hwz] at HT1 HRr HB9 ⊢
              clear hwz
              go_wp2_with fail
              go_meet
              case rel => exact ⟨E, a6, n6, c6, rfl, rfl, HRr.out, HN6.out.symm, HT1.out, HBb.out.trans (by have h := HB9.out; rw [← HZb.out] at h; exact h)⟩
            · intro K hK
              go_simp
              have hba : Below wb.heap.size wb (y60.alloc (.cells #[.slice xa xn xc] 39)) := HB0.out.alloc HB0.out.size (.cells #[.slice xa xn xc] 39)
              have d1 := HSx.out _ hba
              refine hK.out _ _ (Or.inr d1) ?_
              clear hK K
              try simp only [Act.put, List.setIfInBounds_toArray, List.set_cons_zero, List.set_cons_succ]
              clear d1
              obtain ⟨y65, hy⟩ : ∃ x, x = y60.alloc (.cells #[.slice xa xn xc] 39) := ⟨_, rfl⟩
              have hsz : y65.heap.size = y60.heap.size + 1 := by rw [hy]; simp
              replace HV : Hid (OwnV 39 wb.heap.size y65 ov ol) := Lib.hid (by rw [hy]; exact HV.out.alloc (.cells #[.slice xa xn xc] 39))
              replace HE : Hid (y65.heap[E]? = some (.cells #[.slice none 0 0] 39)) := Lib.hid (by rw [hy]; exact (heap_alloc_old _ _ (lt_of_block HE.out)).trans HE.out)
              have HX4 : Hid (y65.heap[y60.heap.size]? = some (.cells #[.slice xa xn xc] 39)) := Lib.hid (by rw [hy]; exact heap_alloc_new _ _)
              have H4V : Hid (∀ r, ov.ownBlock = some r → r ≠ y60.heap.size) := Lib.hid (fun r hr => by have h := HVl.out r hr; omega)
              obtain ⟨A4, hA4⟩ : ∃ b, b = y60.heap.size := ⟨_, rfl⟩
              have HL4 : Hid (A4 < y65.heap.size) := Lib.hid (by omega)
              rw [← hA4] at HX4 H4V ⊢
              clear hA4
              replace HLE : Hid (E < y65.heap.size) := Lib.hid (by have := HLE.out; omega)
              replace HVl : Hid (∀ r, ov.ownBlock = some r → r < y65.heap.size) := Lib.hid (fun r hr => (HV.out.2.2.lt r hr).2)
              replace HB0 : Hid (Below wb.heap.size wb y65) := Lib.hid (by rw [hy]; exact hba)
              rw [← hy]
              clear hba hy hsz
              apply Till.one (i := 2)
              · kernel_rfl
              · simp only [List.getElem?_toArray, List.getElem?_cons_succ, List.getElem?_cons_zero]
                rfl
              intro K hK
              refine step_append_valsZ _ (by rfl) _ _ 24 (by rfl) 39 i1 (.agg #[.slice none 0 0]) 24 Try.underlying24 Hhi'.out hy0 hy1 hy2 rfl (by omega) (by rfl) HV.out (by rfl) (HVb.out.behind (HB0.out.mono HLb.out)) HOd.out (by rw [HOl.out, Hdl.out]; decide) ?_
              intro v1 y66 h1 hg1 hp1
              have hb1 : Below wb.heap.size wb y66 := HB0.out.trans (HV.out.below (Nat.le_refl _) hg1)
              have d1 := HSx.out _ hb1
              refine hK.out _ _ (Or.inr d1) ?_
              clear hK K
              try simp only [Act.put, List.setIfInBounds_toArray, List.set_cons_zero, List.set_cons_succ]
              clear d1
              replace HX4 : Hid (y66.heap[A4]? = some (.cells #[.slice xa xn xc] 39)) := Lib.hid ((hg1.block A4 (lt_of_block HX4.out) (fun e => H4V.out A4 e.symm rfl)).trans HX4.out)
              replace H4V : Hid (∀ r, v1.ownBlock = some r → r ≠ A4) := Lib.hid (fun r hr => by rcases hp1 with h | h <;> rw [h] at hr; exact H4V.out r hr; (injection hr with hr; have := HL4.out; omega))
              replace HL4 : Hid (A4 < y66.heap.size) := Lib.hid (lt_of_block HX4.out)
              replace HE : Hid (y66.heap[E]? = some (.cells #[.slice none 0 0] 39)) := Lib.hid ((hg1.block E (lt_of_block HE.out) (fun e => HEV.out E e.symm rfl)).trans HE.out)
              replace HEV : Hid (∀ r, v1.ownBlock = some r → r ≠ E) := Lib.hid (fun r hr => by rcases hp1 with h | h <;> rw [h] at hr; exact HEV.out r hr; (injection hr with hr; have := HLE.out; omega))
              replace HLE : Hid (E < y66.heap.size) := Lib.hid (lt_of_block HE.out)
              rw [HOl.out] at h1
              replace HV := Lib.hid h1
              replace HVl : Hid (∀ r, v1.ownBlock = some r → r < y66.heap.size) := Lib.hid (fun r hr => (HV.out.2.2.lt r hr).2)
              replace HB0 := Lib.hid hb1
              clear h1 hg1 hp1 hb1
              rw [List.nil_append] at HV
              clear HOv HOl
              obtain ⟨ol2, hol⟩ : ∃ l, l = ds := ⟨_, rfl⟩
              have HOl := Lib.hid hol
              rw [← hol] at HV
              clear hol
              obtain ⟨ov, hov⟩ : ∃ v, v = v1 := ⟨_, rfl⟩
              rw [← hov] at HV HVl H4V HEV ⊢
              clear hov ol
              obtain ⟨ol, hol⟩ : ∃ l, l = ol2 := ⟨_, rfl⟩
              rw [← hol] at HV HOl
              clear hol
              apply Till.one (i := 5)
              · kernel_rfl
              · simp only [List.getElem?_toArray, List.getElem?_cons_succ, List.getElem?_cons_zero]
                rfl
              intro K hK
              refine step_append_valsZ _ (by rfl) _ _ 24 (by rfl) 39 i1 (.agg #[.slice none 0 0]) 24 Try.underlying24 Hhi'.out hy0 hy1 hy2 rfl (by omega) (by rfl) HV.out (by rfl) (rdv_one HX4.out) (fun y hy => by rw [List.mem_singleton.1 hy]; rfl) (by rw [HOl.out, Hdl.out, List.length_singleton]; decide) ?_
              intro v1 y67 h1 hg1 hp1
              have hb1 : Below wb.heap.size wb y67 := HB0.out.trans (HV.out.below (Nat.le_refl _) hg1)
              have d1 := HSx.out _ hb1
              refine hK.out _ _ (Or.inr d1) ?_
              clear hK K
              try simp only [Act.put, List.setIfInBounds_toArray, List.set_cons_zero, List.set_cons_succ]
              clear d1
              replace HX4 : Hid (y67.heap[A4]? = some (.cells #[.slice xa xn xc] 39)) := Lib.hid ((hg1.block A4 (lt_of_block HX4.out) (fun e => H4V.out A4 e.symm rfl)).trans HX4.out)
              replace H4V : Hid (∀ r, v1.ownBlock = some r → r ≠ A4) := Lib.hid (fun r hr => by rcases hp1 with h | h <;> rw [h] at hr; exact H4V.out r hr; (injection hr with hr; have := HL4.out; omega))
              replace HL4 : Hid (A4 < y67.heap.size) := Lib.hid (lt_of_block HX4.out)
              replace HE : Hid (y67.heap[E]? = some (.cells #[.slice none 0 0] 39)) := Lib.hid ((hg1.block E (lt_of_block HE.out) (fun e => HEV.out E e.symm rfl)).trans HE.out)
              replace HEV : Hid (∀ r, v1.ownBlock = some r → r ≠ E) := Lib.hid (fun r hr => by rcases hp1 with h | h <;> rw [h] at hr; exact HEV.out r hr; (injection hr with hr; have := HLE.out; omega))
              replace HLE : Hid (E < y67.heap.size) := Lib.hid (lt_of_block HE.out)
              rw [HOl.out] at h1
              replace HV := Lib.hid h1
              replace HVl : Hid (∀ r, v1.ownBlock = some r → r < y67.heap.size) := Lib.hid (fun r hr => (HV.out.2.2.lt r hr).2)
              replace HB0 := Lib.hid hb1
              clear h1 hg1 hp1 hb1
              have HJ5 : Hid ((sliceT 39 tyDatabase).rd y67.heap.size y67 [v1] (Dl ++ [X])) := Lib.hid (by
                have hp := (HPb.out.append (Pt.one HXb.out)).mono (fun u x h => tyDatabase.mono (tyDatabase.behind h HB0.out) HB0.out.size)
                exact sl_of_vals rfl HV.out.rdv hp.1 hp.2)
              obtain ⟨ov2, hov⟩ : ∃ v, v = v1 := ⟨_, rfl⟩
              rw [← hov] at HJ5 HV HVl HEV ⊢
              clear hov HX4 H4V HL4
              obtain ⟨ov, hov⟩ : ∃ v, v = ov2 := ⟨_, rfl⟩
              rw [← hov] at HJ5 HV HVl HEV ⊢
              clear hov
              apply Till.one (i := 6)
              · kernel_rfl
              · simp only [List.getElem?_toArray, List.getElem?_cons_succ, List.getElem?_cons_zero]
                rfl
              intro K hK
              go_simp
              refine (impl_jw HJ5.out (Nat.le_refl _) HTj.out).mono ?_
              rw [HEj.out.1, HEj.out.2]
              rintro e' y68 ⟨v6, he, h6, hb6⟩
              subst he
              obtain ⟨a6, c6, hv6, _⟩ := h6.open
              rw [HWh.out.2.2.2] at hv6
              obtain ⟨n6, hn6⟩ : ∃ m, m = n := ⟨_, rfl⟩
              rw [← hn6] at hv6
              subst hv6
              have HN6 := Lib.hid hn6
              have hbb : Below wb.heap.size wb y68 := HB0.out.trans (hb6.mono HB0.out.size)
              have d1 := HSx.out _ hbb
              obtain ⟨F6, hF6⟩ : ∃ F : Nat → Prop, F = ival y67.heap.size y68.heap.size := ⟨_, rfl⟩
              rw [← hF6] at h6
              have HO6 := Lib.hid h6
              replace HB0 := Lib.hid hbb
              have HF7 : Hid (∀ b, F6 b → b < y68.heap.size ∧ b ≠ E) := Lib.hid (fun b hb => by rw [hF6] at hb; unfold ival at hb; have := HLE.out; omega)
              replace HE : Hid (y68.heap[E]? = some (.cells #[.slice none 0 0] 39)) := Lib.hid ((hb6.block E (lt_of_block HE.out)).trans HE.out)
              replace HLE : Hid (E < y68.heap.size) := Lib.hid (lt_of_block HE.out)
              clear h6 hb6 hbb hn6 hF6 HJ5 HV HVl HEV
              refine hK.out _ _ (Or.inr d1) ?_
              clear hK K
              try simp only [Act.put, List.setIfInBounds_toArray, List.set_cons_zero, List.set_cons_succ]
              clear d1
              apply Till.take (i := 7) [7, 9, 12]
              · simp only [List.getElem?_toArray, List.getElem?_cons_succ, List.getElem?_cons_zero]
                rfl
              · kernel_rfl
              · kernel_rfl
              · kernel_rfl
              · kernel_rfl
              · exact fun _ _ _ h => h
              · first
                  | exact Or.inr ⟨by rfl, rfl⟩
                  | (refine Or.inl ⟨by rfl, fun wq hwq => ?_⟩
                     dsimp only at hwq
                     go_simp
                     first
                       | done
                       | rfl)
              · exact HSx.out _ HB0.out
              simp only [Act.put, List.setIfInBounds_toArray, List.set_cons_zero, List.set_cons_succ]
              apply Till.take (i := 8) [8, 11, 12]
              · simp only [List.getElem?_toArray, List.getElem?_cons_succ, List.getElem?_cons_zero]
                rfl
              · kernel_rfl
              · kernel_rfl
              · kernel_rfl
              · kernel_rfl
              · exact fun _ _ _ h => h
              · first
                  | exact Or.inr ⟨by rfl, rfl⟩
                  | (refine Or.inl ⟨by rfl, fun wq hwq => ?_⟩
                     dsimp only at hwq
                     go_simp
                     first
                       | done
                       | rfl)
              · exact HSx.out _ HB0.out
              simp only [Act.put, List.setIfInBounds_toArray, List.set_cons_zero, List.set_cons_succ]
              apply Till.take (i := 9) [9, 12]
              · simp only [List.getElem?_toArray, List.getElem?_cons_succ, List.getElem?_cons_zero]
                rfl
              · kernel_rfl
              · kernel_rfl
              · kernel_rfl
              · kernel_rfl
              · exact fun _ _ _ h => h
              · first
                  | exact Or.inr ⟨by rfl, rfl⟩
                  | (refine Or.inl ⟨by rfl, fun wq hwq => ?_⟩
                     dsimp only at hwq
                     go_simp
                     first
                       | done
                       | rfl)
              · exact HSx.out _ HB0.out
              simp only [Act.put, List.setIfInBounds_toArray, List.set_cons_zero, List.set_cons_succ]
              have cE := blk_cell HE.out 0
              have fE := blk_free HE.out 0
              rw [one0] at cE
              obtain ⟨t1, t2, t3⟩ := store1 HE.out (.slice a6 n6 c6)
              have hB9 : Below wb.heap.size wb (y68.setCell ⟨E, 0, none⟩ (.slice a6 n6 c6)) := HB0.out.trans (t3.below (fun b hb => by have := HEb.out; omega) HB0.out.size)
              have d1 := HSx.out _ hB9
              have HRr := Lib.hid (HO6.out.keptF t3 (fun b hb e => (HF7.out b hb).2 e)).rd2
              have HT1 := Lib.hid t1
              have HB9 := Lib.hid hB9
              clear t1 t2 t3 hB9
              apply Till.one (i := 11)
              · kernel_rfl
              · simp only [List.getElem?_toArray, List.getElem?_cons_succ, List.getElem?_cons_zero]
                rfl
              intro K hK
              go_simp
              skip
              refine hK.out _ _ (Or.inr d1) ?_
              clear hK K
              try simp only [Act.put, List.setIfInBounds_toArray, List.set_cons_zero, List.set_cons_succ]
              apply Till.one (i := 12)
              · kernel_rfl
              · simp only [List.getElem?_toArray, List.getElem?_cons_succ, List.getElem?_cons_zero]
                rfl
              intro K hK
              go_simp
              skip
              refine hK.out _ _ (Or.inl (by rfl)) ?_
              clear hK K
              try simp only [Act.put, List.setIfInBounds_toArray, List.set_cons_zero, List.set_cons_succ]
              refine Till.done (by kernel_rfl) ?_ _
              clear cE fE d1
              obtain ⟨wz, hwz⟩ : ∃ x, x = y68.setCell ⟨E, 0, none⟩ (.slice a6 n6 c6) := ⟨_, rfl⟩
              rw [← hwz] at HT1 HRr HB9 ⊢
              clear hwz
              go_wp2_with fail
              go_meet
              case rel => exact ⟨E, a6, n6, c6, rfl, rfl, HRr.out, HN6.out.symm, HT1.out, HBb.out.trans (by have h := HB9.out; rw [← HZb.out] at h; exact h)⟩
          · intro K hK
            go_simp
            have hba : Below wb.heap.size wb (y59.alloc (.cells #[.slice xa xn xc] 39)) := HB0.out.alloc HB0.out.size (.cells #[.slice xa xn xc] 39)
            have d1 := HSx.out _ hba
            refine hK.out _ _ (Or.inr d1) ?_
            clear hK K
            try simp only [Act.put, List.setIfInBounds_toArray, List.set_cons_zero, List.set_cons_succ]
            clear d1
            obtain ⟨y69, hy⟩ : ∃ x, x = y59.alloc (.cells #[.slice xa xn xc] 39) := ⟨_, rfl⟩
            have hsz : y69.heap.size = y59.heap.size + 1 := by rw [hy]; simp
            replace HE : Hid (y69.heap[E]? = some (.cells #[.slice none 0 0] 39)) := Lib.hid (by rw [hy]; exact (heap_alloc_old _ _ (lt_of_block HE.out)).trans HE.out)
            have HX4 : Hid (y69.heap[y59.heap.size]? = some (.cells #[.slice xa xn xc] 39)) := Lib.hid (by rw [hy]; exact heap_alloc_new _ _)
            obtain ⟨A4, hA4⟩ : ∃ b, b = y59.heap.size := ⟨_, rfl⟩
            have HL4 : Hid (A4 < y69.heap.size) := Lib.hid (by omega)
            rw [← hA4] at HX4 ⊢
            clear hA4
            replace HLE : Hid (E < y69.heap.size) := Lib.hid (by have := HLE.out; omega)
            replace HB0 : Hid (Below wb.heap.size wb y69) := Lib.hid (by rw [hy]; exact hba)
            rw [← hy]
            clear hba hy hsz
            apply Till.one (i := 0)
            · kernel_rfl
            · simp only [List.getElem?_toArray, List.getElem?_cons_zero]
              rfl
            intro K hK
            go_simp
            have hba : Below wb.heap.size wb (y69.alloc (.cells #[] 39)) := HB0.out.alloc HB0.out.size (.cells #[] 39)
            have d1 := HSx.out _ hba
            refine hK.out _ _ (Or.inr d1) ?_
            clear hK K
            try simp only [Act.put, List.setIfInBounds_toArray, List.set_cons_zero, List.set_cons_succ]
            clear d1
            obtain ⟨y70, hy⟩ : ∃ x, x = y69.alloc (.cells #[] 39) := ⟨_, rfl⟩
            have hsz : y70.heap.size = y69.heap.size + 1 := by rw [hy]; simp
            replace HX4 : Hid (y70.heap[A4]? = some (.cells #[.slice xa xn xc] 39)) := Lib.hid (by rw [hy]; exact (heap_alloc_old _ _ (lt_of_block HX4.out)).trans HX4.out)
            replace HE : Hid (y70.heap[E]? = some (.cells #[.slice none 0 0] 39)) := Lib.hid (by rw [hy]; exact (heap_alloc_old _ _ (lt_of_block HE.out)).trans HE.out)
            obtain ⟨ob, hob⟩ : ∃ b, b = y69.heap.size := ⟨_, rfl⟩
            have HV : Hid (OwnV 39 wb.heap.size y70 (.slice (some ⟨ob, 0, none⟩) 0 0) []) := Lib.hid (by rw [hob, hy]; exact OwnV.lit _ HB0.out.size)
            obtain ⟨ol, hol⟩ : ∃ l : List Value, l = [] := ⟨_, rfl⟩
            have HOl := Lib.hid hol
            rw [← hol] at HV
            have H4V : Hid (∀ r, (Value.slice (some ⟨ob, 0, none⟩) 0 0).ownBlock = some r → r ≠ A4) := Lib.hid (fun r hr => by have hr' : some ob = some r := hr; injection hr' with hr'; have h1 := HL4.out; omega)
            have HEV : Hid (∀ r, (Value.slice (some ⟨ob, 0, none⟩) 0 0).ownBlock = some r → r ≠ E) := Lib.hid (fun r hr => by have hr' : some ob = some r := hr; injection hr' with hr'; have h1 := HLE.out; omega)
            rw [← hob]
            obtain ⟨ov, hov⟩ : ∃ v, v = Value.slice (some ⟨ob, 0, none⟩) 0 0 := ⟨_, rfl⟩
            rw [← hov] at HV H4V HEV ⊢
            have HOv := Lib.hid hov
            clear hol hob hov
            replace HL4 : Hid (A4 < y70.heap.size) := Lib.hid (by have := HL4.out; omega)
            replace HLE : Hid (E < y70.heap.size) := Lib.hid (by have := HLE.out; omega)
            have HVl : Hid (∀ r, ov.ownBlock = some r → r < y70.heap.size) := Lib.hid (fun r hr => (HV.out.2.2.lt r hr).2)
            replace HB0 : Hid (Below wb.heap.size wb y70) := Lib.hid (by rw [hy]; exact hba)
            rw [← hy]
            clear hba hy hsz
            apply Till.one (i := 2)
            · kernel_rfl
            · simp only [List.getElem?_toArray, List.getElem?_cons_succ, List.getElem?_cons_zero]
              rfl
            intro K hK
            refine step_append_valsZ _ (by rfl) _ _ 24 (by rfl) 39 i1 (.agg #[.slice none 0 0]) 24 Try.underlying24 Hhi'.out hy0 hy1 hy2 rfl (by omega) (by rfl) HV.out (by rfl) (HVb.out.behind (HB0.out.mono HLb.out)) HOd.out (by rw [HOl.out, Hdl.out]; decide) ?_
            intro v1 y71 h1 hg1 hp1
            have hb1 : Below wb.heap.size wb y71 := HB0.out.trans (HV.out.below (Nat.le_refl _) hg1)
            have d1 := HSx.out _ hb1
            refine hK.out _ _ (Or.inr d1) ?_
            clear hK K
            try simp only [Act.put, List.setIfInBounds_toArray, List.set_cons_zero, List.set_cons_succ]
            clear d1
            replace HX4 : Hid (y71.heap[A4]? = some (.cells #[.slice xa xn xc] 39)) := Lib.hid ((hg1.block A4 (lt_of_block HX4.out) (fun e => H4V.out A4 e.symm rfl)).trans HX4.out)
            replace H4V : Hid (∀ r, v1.ownBlock = some r → r ≠ A4) := Lib.hid (fun r hr => by rcases hp1 with h | h <;> rw [h] at hr; exact H4V.out r hr; (injection hr with hr; have := HL4.out; omega))
            replace HL4 : Hid (A4 < y71.heap.size) := Lib.hid (lt_of_block HX4.out)
            replace HE : Hid (y71.heap[E]? = some (.cells #[.slice none 0 0] 39)) := Lib.hid ((hg1.block E (lt_of_block HE.out) (fun e => HEV.out E e.symm rfl)).trans HE.out)
            replace HEV : Hid (∀ r, v1.ownBlock = some r → r ≠ E) := Lib.hid (fun r hr => by rcases hp1 with h | h <;> rw [h] at hr; exact HEV.out r hr; (injection hr with hr; have := HLE.out; omega))
            replace HLE : Hid (E < y71.heap.size) := Lib.hid (lt_of_block HE.out)
            rw [HOl.out] at h1
            replace HV := Lib.hid h1
            replace HVl : Hid (∀ r, v1.ownBlock = some r → r < y71.heap.size) := Lib.hid (fun r hr => (HV.out.2.2.lt r hr).2)
            replace HB0 := Lib.hid hb1
            clear h1 hg1 hp1 hb1
            rw [List.nil_append] at HV
            clear HOv HOl
            obtain ⟨ol2, hol⟩ : ∃ l, l = ds := ⟨_, rfl⟩
            have HOl := Lib.hid hol
            rw [← hol] at HV
            clear hol
            obtain ⟨ov, hov⟩ : ∃ v, v = v1 := ⟨_, rfl⟩
            rw [← hov] at HV HVl H4V HEV ⊢
            clear hov ol
            obtain ⟨ol, hol⟩ : ∃ l, l = ol2 := ⟨_, rfl⟩
            rw [← hol] at HV HOl
            clear hol
            apply Till.one (i := 5)
            · kernel_rfl
            · simp only [List.getElem?_toArray, List.getElem?_cons_succ, List.getElem?_cons_zero]
              rfl
            intro K hK
            refine step_append_valsZ _ (by rfl) _ _ 24 (by rfl) 39 i1 (.agg #[.slice none 0 0]) 24 Try.underlying24 Hhi'.out hy0 hy1 hy2 rfl (by omega) (by rfl) HV.out (by rfl) (rdv_one HX4.out) (fun y hy => by rw [List.mem_singleton.1 hy]; rfl) (by rw [HOl.out, Hdl.out, List.length_singleton]; decide) ?_
            intro v1 y72 h1 hg1 hp1
            have hb1 : Below wb.heap.size wb y72 := HB0.out.trans (HV.out.below (Nat.le_refl _) hg1)
            have d1 := HSx.out _ hb1
            refine hK.out _ _ (Or.inr d1) ?_
            clear hK K
            try simp only [Act.put, List.setIfInBounds_toArray, List.set_cons_zero, List.set_cons_succ]
            clear d1
            replace HX4 : Hid (y72.heap[A4]? = some (.cells #[.slice xa xn xc] 39)) := Lib.hid ((hg1.block A4 (lt_of_block HX4.out) (fun e => H4V.out A4 e.symm rfl)).trans HX4.out)
            replace H4V : Hid (∀ r, v1.ownBlock = some r → r ≠ A4) := Lib.hid (fun r hr => by rcases hp1 with h | h <;> rw [h] at hr; exact H4V.out r hr; (injection hr with hr; have := HL4.out; omega))
            replace HL4 : Hid (A4 < y72.heap.size) := Lib.hid (lt_of_block HX4.out)
            replace HE : Hid (y72.heap[E]? = some (.cells #[.slice none 0 0] 39)) := Lib.hid ((hg1.block E (lt_of_block HE.out) (fun e => HEV.out E e.symm rfl)).trans HE.out)
            replace HEV : Hid (∀ r, v1.ownBlock = some r → r ≠ E) := Lib.hid (fun r hr => by rcases hp1 with h | h <;> rw [h] at hr; exact HEV.out r hr; (injection hr with hr; have := HLE.out; omega))
            replace HLE : Hid (E < y72.heap.size) := Lib.hid (lt_of_block HE.out)
            rw [HOl.out] at h1
            replace HV := Lib.hid h1
            replace HVl : Hid (∀ r, v1.ownBlock = some r → r < y72.heap.size) := Lib.hid (fun r hr => (HV.out.2.2.lt r hr).2)
            replace HB0 := Lib.hid hb1
            clear h1 hg1 hp1 hb1
            have HJ5 : Hid ((sliceT 39 tyDatabase).rd y72.heap.size y72 [v1] (Dl ++ [X])) := Lib.hid (by
              have hp := (HPb.out.append (Pt.one HXb.out)).mono (fun u x h => tyDatabase.mono (tyDatabase.behind h HB0.out) HB0.out.size)
              exact sl_of_vals rfl HV.out.rdv hp.1 hp.2)
            obtain ⟨ov2, hov⟩ : ∃ v, v = v1 := ⟨_, rfl⟩
            rw [← hov] at HJ5 HV HVl HEV ⊢
            clear hov HX4 H4V HL4
            obtain ⟨ov, hov⟩ : ∃ v, v = ov2 := ⟨_, rfl⟩
            rw [← hov] at HJ5 HV HVl HEV ⊢
            clear hov
            apply Till.one (i := 6)
            · kernel_rfl
            · simp only [List.getElem?_toArray, List.getElem?_cons_succ, List.getElem?_cons_zero]
              rfl
            intro K hK
            go_simp
            refine (impl_jw HJ5.out (Nat.le_refl _) HTj.out).mono ?_
            rw [HEj.out.1, HEj.out.2]
            rintro e' y73 ⟨v6, he, h6, hb6⟩
            subst he
            obtain ⟨a6, c6, hv6, _⟩ := h6.open
            rw [HWh.out.2.2.2] at hv6
            obtain ⟨n6, hn6⟩ : ∃ m, m = n := ⟨_, rfl⟩
            rw [← hn6] at hv6
            subst hv6
            have HN6 := Lib.hid hn6
            have hbb : Below wb.heap.size wb y73 := HB0.out.trans (hb6.mono HB0.out.size)
            have d1 := HSx.out _ hbb
            obtain ⟨F6, hF6⟩ : ∃ F : Nat → Prop, F = ival y72.heap.size y73.heap.size := ⟨_, rfl⟩
            rw [← hF6] at h6
            have HO6 := Lib.hid h6
            replace HB0 := Lib.hid hbb
            have HF7 : Hid (∀ b, F6 b → b < y73.heap.size ∧ b ≠ E) := Lib.hid (fun b hb => by rw [hF6] at hb; unfold ival at hb; have := HLE.out; omega)
            replace HE : Hid (y73.heap[E]? = some (.cells #[.slice none 0 0] 39)) := Lib.hid ((hb6.block E (lt_of_block HE.out)).trans HE.out)
            replace HLE : Hid (E < y73.heap.size) := Lib.hid (lt_of_block HE.out)
            clear h6 hb6 hbb hn6 hF6 HJ5 HV HVl HEV
            refine hK.out _ _ (Or.inr d1) ?_
            clear hK K
            try simp only [Act.put, List.setIfInBounds_toArray, List.set_cons_zero, List.set_cons_succ]
            clear d1
            apply Till.take (i := 7) [7, 9, 12]
            · simp only [List.getElem?_toArray, List.getElem?_cons_succ, List.getElem?_cons_zero]
              rfl
            · kernel_rfl
            · kernel_rfl
            · kernel_rfl
            · kernel_rfl
            · exact fun _ _ _ h => h
            · first
                | exact Or.inr ⟨by rfl, rfl⟩
                | (refine Or.inl ⟨by rfl, fun wq hwq => ?_⟩
                   dsimp only at hwq
                   go_simp
                   first
                     | done
                     | rfl)
            · exact HSx.out _ HB0.out
            simp only [Act.put, List.setIfInBounds_toArray, List.set_cons_zero, List.set_cons_succ]
            apply Till.take (i := 8) [8, 11, 12]
            · simp only [List.getElem?_toArray, List.getElem?_cons_succ, List.getElem?_cons_zero]
              rfl
            · kernel_rfl
            · kernel_rfl
            · kernel_rfl
            · kernel_rfl
            · exact fun _ _ _ h => h
            · first
                | exact Or.inr ⟨by rfl, rfl⟩
                | (refine Or.inl ⟨by rfl, fun wq hwq => ?_⟩
                   dsimp only at hwq
                   go_simp
                   first
                     | done
                     | rfl)
            · exact HSx.out _ HB0.out
            simp only [Act.put, List.setIfInBounds_toArray, List.set_cons_zero, List.set_cons_succ]
            apply Till.take (i := 9) [9, 12]
            · simp only [List.getElem?_toArray, List.getElem?_cons_succ, List.getElem?_cons_zero]
              rfl
            · kernel_rfl
            · kernel_rfl
            · kernel_rfl
            · kernel_rfl
            · exact fun _ _ _ h => h
            · first
                | exact Or.inr ⟨by rfl, rfl⟩
                | (refine Or.inl ⟨by rfl, fun wq hwq => ?_⟩
                   dsimp only at hwq
                   go_simp
                   first
                     | done
                     | rfl)
            · exact HSx.out _ HB0.out
            simp only [Act.put, List.setIfInBounds_toArray, List.set_cons_zero, List.set_cons_succ]
            have cE := blk_cell HE.out 0
            have fE := blk_free HE.out 0
            rw [one0] at cE
            obtain ⟨t1, t2, t3⟩ := store1 HE.out (.slice a6 n6 c6)
            have hB9 : Below wb.heap.size wb (y73.setCell ⟨E, 0, none⟩ (.slice a6 n6 c6)) := HB0.out.trans (t3.below (fun b hb => by have := HEb.out; omega) HB0.out.size)
            have d1 := HSx.out _ hB9
            have HRr := Lib.hid (HO6.out.keptF t3 (fun b hb e => (HF7.out b hb).2 e)).rd2
            have HT1 := Lib.hid t1
            have HB9 := Lib.hid hB9
            clear t1 t2 t3 hB9
            apply Till.one (i := 11)
            · kernel_rfl
            · simp only [List.getElem?_toArray, List.getElem?_cons_succ, List.getElem?_cons_zero]
              rfl
            intro K hK
            go_simp
            skip
            refine hK.out _ _ (Or.inr d1) ?_
            clear hK K
            try simp only [Act.put, List.setIfInBounds_toArray, List.set_cons_zero, List.set_cons_succ]
            apply Till.one (i := 12)
            · kernel_rfl
            · simp only [List.getElem?_toArray, List.getElem?_cons_succ, List.getElem?_cons_zero]
              rfl
            intro K hK
            go_simp
            skip
            refine hK.out _ _ (Or.inl (by rfl)) ?_
            clear hK K
            try simp only [Act.put, List.setIfInBounds_toArray, List.set_cons_zero, List.set_cons_succ]
            refine Till.done (by kernel_rfl) ?_ _
            clear cE fE d1
            obtain ⟨wz, hwz⟩ : ∃ x, x = y73.setCell ⟨E, 0, none⟩ (.slice a6 n6 c6) := ⟨_, rfl⟩
            rw [← hwz] at HT1 HRr HB9 ⊢
            clear hwz
            go_wp2_with fail
            go_meet
            case rel => exact ⟨E, a6, n6, c6, rfl, rfl, HRr.out, HN6.out.symm, HT1.out, HBb.out.trans (by have h := HB9.out; rw [← HZb.out] at h; exact h)⟩
      case rest =>
        obtain ⟨E, ea, m, ec, rfl, rfl, hO, hnm, hE, hb⟩ := hcut
        subst hnm
        have HRr := Lib.hid hO
        have HE := Lib.hid hE
        have HCc := Lib.hid (HCx.out.behind (hb.mono HSc.out))
        have HBc := Lib.hid (B18.out.trans (hb.mono B18.out.size))
        have HSd : Hid (w16.heap.size ≤ wc.heap.size) := Lib.hid (Nat.le_trans HSc.out hb.size)
        obtain ⟨pa, pc, hpv, _, _, hcell⟩ := hO.open
        injection hpv with p1 p2 p3
        subst p1
        obtain ⟨b7, o7, hea, _, hcl7⟩ := hcell (by rw [HWh.out.2.2.2]; omega)
        clear hcell
        subst hea
        obtain ⟨u7, c7, hr7⟩ := hcl7 wc (Below.refl _ _) j _ HWh.out.2.2.1
        obtain ⟨a7, k7, hu7, _⟩ := hr7.open
        rw [cov_len] at hu7
        subst hu7
        have H7 := Lib.hid hr7
        have hjn : (j : Int) < (n : Int) := by omega
        have cE := blk_cell HE.out 0
        rw [one0] at cE
        obtain ⟨m9, hm9⟩ : ∃ m, m = crw W := ⟨_, rfl⟩
        have hm1 : m9 ≤ 1 := by rw [hm9]; exact HWh.out.2.1
        have HM9 := Lib.hid hm9
        have e9 : decide ((1 : Int) < (m9 : Int)) = false := decide_eq_false (by omega)
        clear hO hE hb hcl7 hr7 p2 p3 hm9
        go_wp2_with fail
        refine (sameBytes_same H7.out HCc.out (Nat.le_refl _) HSd.out).mono ?_
        rintro e wx ⟨rfl, hb⟩
        replace HE := Lib.hid ((hb.block _ (lt_of_block HE.out)).trans HE.out)
        replace HRr := Lib.hid (HRr.out.behind hb)
        have HSx := Lib.hid hb.size
        replace HBc := Lib.hid (HBc.out.trans (hb.mono HBc.out.size))
        clear hb cE c7
        have cE := blk_cell HE.out 0
        rw [one0] at cE
        go_wp2_with fail
        refine (impl_crw HRr.out HSx.out).mono ?_
        rw [← HM9.out]
        rintro e wy ⟨rfl, hb⟩
        replace HBc := Lib.hid (HBc.out.trans (hb.mono HBc.out.size))
        clear hb cE
        go_wp2_with fail
        go_roundw
        case rel => exact ⟨j + 1, by simp, hlt, HBc.out⟩
        case measure => simp [intOf]; omega
    have e5 : decide ((j : Int) < (n : Int)) = false := by simp; omega
    go_wp2_with fail
    go_ret
    exact ⟨rfl, HB.out.trans (B14.out.mono HB.out.size)⟩

end Go.Proofs.Ytdipignajccdcaa
