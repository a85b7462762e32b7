/- FnSketchesDetect: the walk. No conditions. -/
import Derived.Test.YtckhmjdhdoomdaaSkK
import Derived.Test.YtckhmjdhdoomdaaSkO
import Derived.Test.YtckhmjdhdoomdaaSk6
import Derived.Test.YtckhmjdhdoomdaaBaD
namespace Go.Proofs.Ytckhmjdhdoomdaa
open Go Go.RowKit
set_option linter.unusedVariables false
attribute [local irreducible] kh kid chl

theorem tries40 : tries 40 = 40 := by decide
theorem tries20 : tries 20 = 20 := by decide
/-- Seeds that accept a vector with two nonzero components. -/
theorem detect40 {n i k : Nat} {x y f : Int} (hi : i < n) (hk : k < n) (hik : i ≠ k) (hn : n ≤ 21) (hx : 1 ≤ x ∧ x ≤ 256) (hy : 1 ≤ y ∧ y ≤ 256) (hf : 0 ≤ f ∧ f ≤ 255) : cntA (((List.replicate n (0 : Int)).set i x).set k y) f 40 ≤ 4 := by
  have hl : (((List.replicate n (0 : Int)).set i x).set k y).length = n := by simp
  obtain ⟨F, rfl⟩ : ∃ F : Nat, f = (F : Int) := ⟨f.toNat, (Int.toNat_of_nonneg hf.1).symm⟩
  have := detect (f := F) (two_sets (x := x) (y := y) hi hk hik) hik (by omega) (by omega) (by omega) (by omega) (by omega) (by omega)
  unfold cntA
  rw [tries40]
  omega

set_option maxHeartbeats 4000000 in
set_option maxRecDepth 20000 in
theorem fnSketchesDetect_walk (a : Option Addr) (len cap : Nat) (zs : List Int) (w : World) (hrow : IsRow .u8 w a len cap zs) :
    Calls Try.prog 4 #[.slice a len cap] w fun e w' => e = .returned (.bool true) ∧ Below w.heap.size w w' := by
  obtain ⟨hr, hl⟩ := row_own hrow
  obtain ⟨s, A, l⟩ : ∃ s, Rd w.heap.size .u8 w (.slice a len cap) s ∧ len = s.length := ⟨zs.take len, hrow.rd, hrow.rd.len_eq⟩
  subst l
  obtain ⟨i0, hi0, hz0, hz1, hz2⟩ := info_parts infoi64
  have Hhi := Lib.hid hi0
  replace A := Lib.hid A
  have hl' : s.length ≤ 9223372036854775807 := by unfold maxLen at hl; omega
  clear hr hrow hl hi0
  by_cases hbig : 1048576 < s.length
  · have e0 : decide ((1048576 : Int) < (s.length : Int)) = true := by simp; omega
    go_enter Try.func4, Try.ntmps4
    go_wp2_with fail
    refine (big_is a s.length cap _ hl').mono ?_
    rw [e0]
    rintro e w0 ⟨rfl, rfl⟩
    go_wp2_with fail
    go_ret
    exact ⟨rfl, Below.refl _ _⟩
  have e0 : decide ((1048576 : Int) < (s.length : Int)) = false := by simp; omega
  have hs : s.length ≤ 1048576 := by omega
  have AB : Hid (∀ i, 0 ≤ atv s i ∧ atv s i ≤ 255) := Lib.hid (atv_bound fun i hi => A.out.wf hi)
  clear hbig
  go_enter Try.func4, Try.ntmps4
  go_wp2_with fail
  refine (big_is a s.length cap _ hl').mono ?_
  rw [e0]
  rintro e w0 ⟨rfl, hw0⟩
  obtain rfl : w = w0 := hw0.symm
  clear hw0 e0 hl'
  go_wp2_with fail
  refine (at_any A.out 0 (by omega) hs).mono ?_
  rintro e w1 ⟨⟨rfl, q0, q1⟩, hw1⟩
  obtain rfl : w = w1 := hw1.symm
  clear hw1
  obtain ⟨t0, ht0⟩ : ∃ t : Int, t = atv s 0 := ⟨_, rfl⟩
  rw [← ht0] at q0 q1 ⊢
  obtain ⟨n, hn⟩ : ∃ n : Nat, 2 + t0 % 20 = (n : Int) := ⟨(2 + t0 % 20).toNat, by omega⟩
  have hn2 : 2 ≤ n ∧ n ≤ 21 := by omega
  clear ht0
  go_wp2_with (first | (at_make; refine wpList_make_full _ rfl _ _ 25 rfl w.heap.size 3 i0 (.int .i64 0) 1 Try.underlying25 Hhi.out hz0 hz1 .i64 .i64 _ _ n rfl rfl rfl rfl (by rw [hz2]; omega) (by unfold maxLen; omega) (Nat.le_refl _) ?_))
  intro w2 hown hg
  have HM := Lib.hid (own_made hown hg.size (by decide))
  have HB := Lib.hid ((Below.refl w.heap.size w).grown hg (Nat.le_refl _) (fun k hk => by cases hk))
  have A2 := Lib.hid (A.out.behind HB.out)
  have hne : (n : Int) ≠ 0 := by omega
  clear hown hg q0 q1 hn
  go_wp2_with fail
  refine (at_any A2.out 1 (by omega) hs).mono ?_
  rintro e w3 ⟨⟨rfl, q0, q1⟩, hw3⟩
  obtain rfl : w2 = w3 := hw3.symm
  clear hw3
  obtain ⟨t1, ht1⟩ : ∃ t : Int, t = atv s 1 := ⟨_, rfl⟩
  rw [← ht1] at q0 q1 ⊢
  have r0 : 0 ≤ t1 % (n : Int) := Int.emod_nonneg _ hne
  have r1 : t1 % (n : Int) < (n : Int) := Int.emod_lt_of_pos _ (by omega)
  obtain ⟨ix, hix⟩ : ∃ ix : Nat, t1 % (n : Int) = (ix : Int) := ⟨(t1 % (n : Int)).toNat, (Int.toNat_of_nonneg r0).symm⟩
  rw [hix] at r1
  have hixn : ix < n := by omega
  clear ht1 r0
  go_wp2_with fail
  rw [hix]
  refine (at_any A2.out 2 (by omega) hs).mono ?_
  rintro e w3 ⟨⟨rfl, p0, p1⟩, hw3⟩
  obtain rfl : w2 = w3 := hw3.symm
  clear hw3 hix q0 q1
  obtain ⟨t2, ht2⟩ : ∃ t : Int, t = atv s 2 := ⟨_, rfl⟩
  rw [← ht2] at p0 p1 ⊢
  obtain ⟨m, hm⟩ : ∃ m : Nat, (n : Int) - 1 = (m : Int) := ⟨n - 1, by omega⟩
  have hmn : m + 1 = n := by omega
  have hme : (m : Int) ≠ 0 := by omega
  have r0 : 0 ≤ t2 % (m : Int) := Int.emod_nonneg _ hme
  have r2 : t2 % (m : Int) < (m : Int) := Int.emod_lt_of_pos _ (by omega)
  obtain ⟨d, hd⟩ : ∃ d : Nat, t2 % (m : Int) = (d : Int) := ⟨(t2 % (m : Int)).toNat, (Int.toNat_of_nonneg r0).symm⟩
  rw [hd] at r2
  have hdm : d + 1 < n := by omega
  obtain ⟨e', he'⟩ : ∃ e : Nat, (ix : Int) + 1 + (d : Int) = (e : Int) := ⟨ix + 1 + d, by omega⟩
  have he2 : e' = ix + 1 + d := by omega
  obtain ⟨k, hk⟩ : ∃ k : Nat, (e' : Int) % (n : Int) = (k : Int) := ⟨e' % n, by omega⟩
  have hkk : k < n ∧ k ≠ ix := by
    have h1 := place2 hixn hdm
    have h2 : k = (ix + 1 + d) % n := by rw [he2] at hk; omega
    rw [h2]; exact h1
  have HKK := Lib.hid hkk
  have hkn : k < n := hkk.1
  have hke : (k : Int) < (n : Int) := by omega
  have hen : e' ≤ 100 := by omega
  have hdn : d ≤ 21 := by omega
  clear ht2 r0 hkk hdm he2 r2 hmn
  go_wp2_with fail
  rw [hk]
  refine (at_any A2.out 3 (by omega) hs).mono ?_
  rintro e w3 ⟨⟨rfl, p2, p3⟩, hw3⟩
  obtain rfl : w2 = w3 := hw3.symm
  clear hw3 hm hd he' hk p0 p1
  obtain ⟨t3, ht3⟩ : ∃ t : Int, t = atv s 3 := ⟨_, rfl⟩
  rw [← ht3] at p2 p3 ⊢
  obtain ⟨x, hx⟩ : ∃ x, 1 + t3 = x := ⟨_, rfl⟩
  have hxb : 1 ≤ x ∧ x ≤ 256 := by omega
  have c1 := HM.out.cellAt (by simp) hixn
  have f1 := HM.out.free (by simp) ix
  obtain ⟨p4, p5⟩ := own_setn HM.out (by simp) (x := x) (wf_i64_of (by omega) (by omega)) ix
  obtain ⟨W3, hW3⟩ : ∃ W, W = w2.setCell ⟨w.heap.size, ix, none⟩ (.int .i64 x) := ⟨_, rfl⟩
  rw [← hW3] at p4 p5
  have HM3 := Lib.hid p4
  have HB3 := Lib.hid (HB.out.grown p5 HB.out.size (fun k hk => by injection hk with hk; omega))
  have A3 := Lib.hid (A.out.behind HB3.out)
  have HW3 := Lib.hid hW3
  have HXb := Lib.hid hxb
  clear ht3 p4 p5 hW3
  go_wp2_with fail
  rw [← HW3.out]
  refine (at_any A3.out 4 (by omega) hs).mono ?_
  rintro e w4 ⟨⟨rfl, p2, p3⟩, hw3⟩
  obtain rfl : W3 = w4 := hw3.symm
  clear hw3 c1 f1 hx hxb
  obtain ⟨t4, ht4⟩ : ∃ t : Int, t = atv s 4 := ⟨_, rfl⟩
  rw [← ht4] at p2 p3 ⊢
  obtain ⟨y, hy⟩ : ∃ y, 1 + t4 = y := ⟨_, rfl⟩
  have hyb : 1 ≤ y ∧ y ≤ 256 := by omega
  have c1 := HM3.out.cellAt (by simp) hkn
  have f1 := HM3.out.free (by simp) k
  obtain ⟨p4, p5⟩ := own_setn HM3.out (by simp) (x := y) (wf_i64_of (by omega) (by omega)) k
  obtain ⟨W4, hW4⟩ : ∃ W, W = W3.setCell ⟨w.heap.size, k, none⟩ (.int .i64 y) := ⟨_, rfl⟩
  rw [← hW4] at p4 p5
  have HM4 := Lib.hid p4
  have HB4 := Lib.hid (HB3.out.grown p5 HB3.out.size (fun k hk => by injection hk with hk; omega))
  have A4 := Lib.hid (A.out.behind HB4.out)
  have HW4 := Lib.hid hW4
  have HYb := Lib.hid hyb
  clear ht4 p4 p5 hW4
  go_wp2_with fail
  rw [← HW4.out]
  refine (at_any A4.out 5 (by omega) hs).mono ?_
  rintro e w5 ⟨⟨rfl, p2, p3⟩, hw3⟩
  obtain rfl : W4 = w5 := hw3.symm
  clear hw3 c1 f1 hy hyb
  obtain ⟨f, hf⟩ : ∃ t : Int, t = atv s 5 := ⟨_, rfl⟩
  rw [← hf] at p2 p3 ⊢
  have HF := Lib.hid hf
  have Hf : Hid ((Lit.int .i64 f).wf = true) := Lib.hid (wf_i64_of (by omega) (by omega))
  have H40 : Hid ((Lit.int .i64 40).wf = true) := Lib.hid (by decide)
  have hq4 := detect40 (f := f) hixn hkn (Ne.symm HKK.out.2) hn2.2 HXb.out HYb.out ⟨p2, p3⟩
  obtain ⟨v, hv⟩ : ∃ v, v = ((List.replicate n (0 : Int)).set ix x).set k y := ⟨_, rfl⟩
  rw [← hv] at HM4 hq4
  have HC1 := Lib.hid (impl_cn HM4.out.rd (Nat.le_refl _) Hf.out H40.out)
  obtain ⟨q, hq⟩ : ∃ q, q = cntA v f 40 := ⟨_, rfl⟩
  rw [← hq] at hq4 HC1
  have HQ := Lib.hid hq
  clear hv hf hq p2 p3
  have e1 : decide (q ≤ 4) = true := decide_eq_true hq4
  go_wp2_with fail
  refine HC1.out.mono ?_
  rintro e w6 ⟨rfl, hb6⟩
  have HM6 := Lib.hid (HM4.out.next hb6)
  have HB6 := Lib.hid (HB4.out.trans (hb6.mono HB4.out.size))
  have A6 := Lib.hid (A.out.behind HB6.out)
  clear hb6
  go_wp2_with fail
  refine (at_any A6.out 5 (by omega) hs).mono ?_
  rw [← HF.out]
  rintro e w7 ⟨⟨rfl, _, _⟩, hw7⟩
  obtain rfl : w6 = w7 := hw7.symm
  clear hw7
  go_wp2_with fail
  refine (impl_cn HM6.out.rd (Nat.le_refl _) Hf.out H40.out).mono ?_
  rw [← HQ.out]
  rintro e w7 ⟨rfl, hb7⟩
  have HM7 := Lib.hid (HM6.out.next hb7)
  have HB7 := Lib.hid (HB6.out.trans (hb7.mono HB6.out.size))
  have A7 := Lib.hid (A.out.behind HB7.out)
  clear hb7
  go_wp2_with fail
  refine (at_any A7.out 5 (by omega) hs).mono ?_
  rw [← HF.out]
  rintro e w8 ⟨⟨rfl, _, _⟩, hw8⟩
  obtain rfl : w7 = w8 := hw8.symm
  clear hw8
  go_wp2_with fail
  refine (spec_cn HM7.out.rd (Nat.le_refl _) Hf.out H40.out).mono ?_
  rw [← HQ.out]
  rintro e w8 ⟨rfl, hb8⟩
  have HB8 := Lib.hid (HB7.out.trans (hb8.mono HB7.out.size))
  clear hb8
  go_wp2_with fail
  go_ret
  exact ⟨rfl, HB8.out⟩

end Go.Proofs.Ytckhmjdhdoomdaa
