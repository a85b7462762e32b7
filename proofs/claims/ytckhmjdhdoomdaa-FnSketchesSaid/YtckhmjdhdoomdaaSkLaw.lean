/- FnSketches: the walk. No conditions. -/
import Derived.Test.YtckhmjdhdoomdaaDraw12b
import Derived.Test.YtckhmjdhdoomdaaSk6
import Derived.Test.YtckhmjdhdoomdaaBaD
namespace Go.Proofs.Ytckhmjdhdoomdaa
open Go Go.RowKit
set_option linter.unusedVariables false
attribute [local irreducible] kh kid chl

theorem tries_20 : tries 20 = 20 := by decide
/-- What the law says of a vector with at most one nonzero component. -/
theorem one_facts {n i : Nat} {x c : Int} {ss : List Int} (hi : i < n) (hn : n ≤ 64) (hx : 0 ≤ x ∧ x ≤ 1018) (hs : 1 ≤ ss.length ∧ ss.length ≤ 3) :
    (shV ((List.replicate n (0 : Int)).set i x) ss).length = ss.length + 1 ∧ chk (shV ((List.replicate n (0 : Int)).set i x) ss) c = true ∧
    tA c (shV ((List.replicate n (0 : Int)).set i x) ss) = kA c ((List.replicate n (0 : Int)).set i x) ∧ tB c (shV ((List.replicate n (0 : Int)).set i x) ss) = kB c ((List.replicate n (0 : Int)).set i x) ∧ tM (shV ((List.replicate n (0 : Int)).set i x) ss) = kM ((List.replicate n (0 : Int)).set i x) ∧
    ∀ f, cntA ((List.replicate n (0 : Int)).set i x) f 20 = 20 := by
  have hl : ((List.replicate n (0 : Int)).set i x).length = n := by simp
  have htw : Two ((List.replicate n (0 : Int)).set i x) i n x 0 := one_set hi
  generalize (List.replicate n (0 : Int)).set i x = v at hl htw
  have hok : v.length ≤ 64 ∧ 1 ≤ ss.length ∧ ss.length ≤ 3 := ⟨by omega, hs.1, hs.2⟩
  have hf : fvec v = true := two_fvec htw (by omega) hx (by omega)
  have hacc : ∀ c, acc (kA c v) (kB c v) (kM v) = true := acc_one htw (by omega) (by omega) (by omega) hx (by omega) rfl
  obtain ⟨j1, j2, j3⟩ := join_sums hok hf c
  refine ⟨shV_len hok, ?_, j1, j2, j3, fun f => ?_⟩
  · unfold chk
    rw [shV_in hok, shV_same hok, shV_allF hok, j1, j2, j3, hacc]
    rfl
  · unfold cntA
    rw [tries_20, cnA_all hacc]
    rfl

set_option maxHeartbeats 4000000 in
set_option maxRecDepth 20000 in
theorem fnSketches_walk (a : Option Addr) (len cap : Nat) (zs : List Int) (w : World) (hrow : IsRow .u8 w a len cap zs) :
    Calls Try.prog 3 #[.slice a len cap] w fun e w' => e = .returned (.bool true) ∧ Below w.heap.size w w' := by
  obtain ⟨hr, hl⟩ := row_own hrow
  obtain ⟨s, A, l⟩ : ∃ s, Rd w.heap.size .u8 w (.slice a len cap) s ∧ len = s.length := ⟨zs.take len, hrow.rd, hrow.rd.len_eq⟩
  subst l
  obtain ⟨i0, hi0, hz0, hz1, hz2⟩ := info_parts infoi64
  have Hhi := Lib.hid hi0
  have HR := Lib.hid hr
  have HL := Lib.hid hl
  replace A := Lib.hid A
  have hl' : s.length ≤ 9223372036854775807 := by unfold maxLen at hl; omega
  clear hr hrow hl hi0
  by_cases hbig : 1048576 < s.length
  · have e0 : decide ((1048576 : Int) < (s.length : Int)) = true := by simp; omega
    go_enter Try.func3, Try.ntmps3
    go_wp2_with fail
    refine (big_is a s.length cap _ hl').mono ?_
    rw [e0]
    rintro e w0 ⟨rfl, rfl⟩
    go_wp2_with fail
    go_ret
    exact ⟨rfl, Below.refl _ _⟩
  have e0 : decide ((1048576 : Int) < (s.length : Int)) = false := by simp; omega
  have hs : s.length ≤ 1048576 := by omega
  have AB : Hid (∀ i, 0 ≤ atv s i ∧ atv s i ≤ 255) := Lib.hid (atv_bound fun i hi => A.out.wf hi)
  clear hbig
  go_enter Try.func3, Try.ntmps3
  go_wp2_with fail
  refine (big_is a s.length cap _ hl').mono ?_
  rw [e0]
  rintro e w0 ⟨rfl, hw0⟩
  obtain rfl : w = w0 := hw0.symm
  clear hw0 e0 hl'
  go_wp2_with fail
  refine (at_any A.out 0 (by omega) hs).mono ?_
  rintro e w1 ⟨⟨rfl, q0, q1⟩, hw1⟩
  obtain rfl : w = w1 := hw1.symm
  clear hw1
  obtain ⟨t0, ht0⟩ : ∃ t : Int, t = atv s 0 := ⟨_, rfl⟩
  rw [← ht0] at q0 q1 ⊢
  obtain ⟨n, hn⟩ : ∃ n : Nat, 1 + t0 % 20 = (n : Int) := ⟨(1 + t0 % 20).toNat, by omega⟩
  have hn2 : 1 ≤ n ∧ n ≤ 20 := by omega
  clear ht0
  go_wp2_with (first | (at_make; refine wpList_make_full _ rfl _ _ 25 rfl w.heap.size 3 i0 (.int .i64 0) 1 Try.underlying25 Hhi.out hz0 hz1 .i64 .i64 _ _ n rfl rfl rfl rfl (by rw [hz2]; omega) (by unfold maxLen; omega) (Nat.le_refl _) ?_))
  intro w2 hown hg
  have HM := Lib.hid (own_made hown hg.size (by decide))
  have HB := Lib.hid ((Below.refl w.heap.size w).grown hg (Nat.le_refl _) (fun k hk => by cases hk))
  have A2 := Lib.hid (A.out.behind HB.out)
  have HN := Lib.hid hn2
  clear hown hg q0 q1 hn
  obtain ⟨b1, b2⟩ := AB.out 1
  obtain ⟨b3, b4⟩ := AB.out 2
  obtain ⟨t1, ht1⟩ : ∃ t : Int, t = atv s 1 := ⟨_, rfl⟩
  obtain ⟨t2, ht2⟩ : ∃ t : Int, t = atv s 2 := ⟨_, rfl⟩
  rw [← ht1] at b1 b2
  rw [← ht2] at b3 b4
  have HT1 := Lib.hid ht1
  have HT2 := Lib.hid ht2
  have r0 : 0 ≤ t1 % (n : Int) := Int.emod_nonneg _ (by omega)
  have r1 : t1 % (n : Int) < (n : Int) := Int.emod_lt_of_pos _ (by omega)
  obtain ⟨ix, hix⟩ : ∃ ix : Nat, t1.tmod (n : Int) = (ix : Int) := ⟨(t1 % (n : Int)).toNat, by rw [Int.tmod_eq_emod_of_nonneg b1]; exact (Int.toNat_of_nonneg r0).symm⟩
  have hixn : ix < n := by
    rw [Int.tmod_eq_emod_of_nonneg b1] at hix
    rw [hix] at r1; omega
  have hixi : (ix : Int) < (n : Int) := by omega
  obtain ⟨x, hx⟩ : ∃ x, x = (t2 * 4) % 1019 := ⟨_, rfl⟩
  have hxb : 0 ≤ x ∧ x ≤ 1018 := by omega
  have w1e : IntKind.i64.wrap (t2 * 4) = t2 * 4 := by rw [IntKind.wrap_i64]; omega
  have w2e : (t2 * 4).tmod 1019 = x := by rw [Int.tmod_eq_emod_of_nonneg (by omega)]; exact hx.symm
  have hXb := Lib.hid hxb
  have hne : (n : Int) ≠ 0 := by omega
  have c1 := HM.out.cellAt (by simp) hixn
  have f1 := HM.out.free (by simp) ix
  have A7 := Lib.hid A2.out.drew
  clear ht1 ht2 r0 r1 hx hxb
  go_wp2_with fail
  go_region_with ((first
    | (go_at_call 13
       with_reducible (show Calls _ _ #[_, .int .i64 1] _ _)
       go_loud (refine (at_any A7.out 1 (by omega) hs).mono ?_
                rintro e' w' ⟨⟨he, _, _⟩, hw'⟩
                rw [← HT1.out] at he
                subst he
                subst hw'))
    | (go_at_call 13
       with_reducible (show Calls _ _ #[_, .int .i64 2] _ _)
       go_loud (refine (at_any A7.out 2 (by omega) hs).mono ?_
                rintro e' w' ⟨⟨he, _, _⟩, hw'⟩
                rw [← HT2.out] at he
                subst he
                subst hw'))))
  all_goals
    obtain ⟨p4, p5⟩ := own_setn HM.out (by simp) (x := x) (wf_i64_of (by have := hXb.out; omega) (by have := hXb.out; omega)) ix
    obtain ⟨W3, hW3⟩ : ∃ W, W = (w2.setCell ⟨w.heap.size, ix, none⟩ (.int .i64 x)).drew := ⟨_, rfl⟩
    have HM3 : Hid (Own 3 .i64 w.heap.size W3 (.slice (some ⟨w.heap.size, 0, none⟩) n n) ((List.replicate n (0 : Int)).set ix x)) := Lib.hid (by rw [hW3]; exact p4.drew)
    have HB3 : Hid (Below w.heap.size w W3) := Lib.hid (by rw [hW3]; exact (HB.out.grown p5 HB.out.size (fun k hk => by injection hk with hk; omega)).drew)
    have A3 := Lib.hid (A.out.behind HB3.out)
    have HF := Lib.hid (fun c (ss : List Int) (h : 1 ≤ ss.length ∧ ss.length ≤ 3) => one_facts (x := x) (c := c) hixn (by have := HN.out; omega) hXb.out h)
    rw [← hW3]
    clear p4 p5 hW3 c1 f1 A7 A2 w1e w2e hix hixi HM HB b1 b2 b3 b4
    obtain ⟨v, hv⟩ : ∃ v, v = (List.replicate n (0 : Int)).set ix x := ⟨_, rfl⟩
    rw [← hv] at HM3 HF
    clear hv
    go_wp2_with fail
    refine (at_any A3.out 3 (by omega) hs).mono ?_
    rintro e w4 ⟨⟨rfl, p0, p1⟩, hw4⟩
    obtain rfl : W3 = w4 := hw4.symm
    clear hw4
    obtain ⟨t3, ht3⟩ : ∃ t : Int, t = atv s 3 := ⟨_, rfl⟩
    rw [← ht3] at p0 p1 ⊢
    clear ht3
    go_wp2_with fail
    refine (at_any A3.out 4 (by omega) hs).mono ?_
    rintro e w4 ⟨⟨rfl, p2, p3⟩, hw4⟩
    obtain rfl : W3 = w4 := hw4.symm
    clear hw4
    obtain ⟨t4, ht4⟩ : ∃ t : Int, t = atv s 4 := ⟨_, rfl⟩
    rw [← ht4] at p2 p3 ⊢
    clear ht4
    have HSs := Lib.hid (Rd.two 3 .i64 W3 (t3 * 5) (t4 * 3) (wf_i64_of (by omega) (by omega)) (wf_i64_of (by omega) (by omega)))
    have HM4 := Lib.hid (HM3.out.alloc (.cells #[.int .i64 (t3 * 5), .int .i64 (t4 * 3)] 3))
    have HB4 := Lib.hid (HB3.out.alloc HB3.out.size (.cells #[.int .i64 (t3 * 5), .int .i64 (t4 * 3)] 3))
    obtain ⟨ss, hss⟩ : ∃ l, l = [t3 * 5, t4 * 3] := ⟨_, rfl⟩
    have hss2 : ss.length = 2 := by rw [hss]; rfl
    rw [← hss] at HSs
    have HSl := Lib.hid hss2
    clear hss hss2
    go_wp2_with fail
    refine (impl_shV HM4.out.rd HSs.out (Nat.le_refl _) (by simp) (by have := HSl.out; omega)).mono ?_
    rintro e w5 ⟨v5, rfl, hO5, hb5⟩
    have HM5 := Lib.hid (HM4.out.next hb5)
    have HB5 := Lib.hid (HB4.out.trans (hb5.mono HB4.out.size))
    have A5 := Lib.hid (A.out.behind HB5.out)
    obtain ⟨hb0, hb1⟩ := AB.out 5
    obtain ⟨c, hc⟩ : ∃ t : Int, t = atv s 5 := ⟨_, rfl⟩
    rw [← hc] at hb0 hb1
    have HCe := Lib.hid hc
    have HCw : Hid ((Lit.int .i64 c).wf = true) := Lib.hid (wf_i64_of (by omega) (by omega))
    obtain ⟨f1, f2, f3, f4, f5, f6⟩ := HF.out c ss (by have := HSl.out; omega)
    obtain ⟨a5, c5, hv5, _⟩ := hO5.open
    have h3 : (shV v ss).length = 3 := by rw [f1, HSl.out]
    rw [h3] at hv5
    subst hv5
    obtain ⟨zz, hzz⟩ : ∃ z, z = shV v ss := ⟨_, rfl⟩
    rw [← hzz] at hO5 f2 f3 f4 f5
    have HO5 := Lib.hid hO5
    have HK := Lib.hid f2
    have HJ := Lib.hid (show tA c zz = kA c v ∧ tB c zz = kB c v ∧ tM zz = kM v from ⟨f3, f4, f5⟩)
    have HCn := Lib.hid (f6 0)
    clear hO5 hb5 hc f1 f2 f3 f4 f5 f6 h3 hzz hb0 hb1 p0 p1 p2 p3
    go_wp2_with fail
    refine (at_any A5.out 5 (by omega) hs).mono ?_
    rw [← HCe.out]
    rintro e w6 ⟨⟨rfl, _, _⟩, hw6⟩
    obtain rfl : w5 = w6 := hw6.symm
    clear hw6
    go_wp2_with fail
    refine (impl_chk HO5.out.rd2 (Nat.le_refl _) HCw.out).mono ?_
    rw [HK.out]
    rintro e w6 ⟨rfl, hb6⟩
    have HM6 := Lib.hid (HM5.out.next hb6)
    have HO6 := Lib.hid (HO5.out.next hb6)
    have HB6 := Lib.hid (HB5.out.trans (hb6.mono HB5.out.size))
    have A6 := Lib.hid (A.out.behind HB6.out)
    clear hb6 HM5 HO5 A5
    go_wp2_with fail
    refine (at_any A6.out 5 (by omega) hs).mono ?_
    rw [← HCe.out]
    rintro e w7 ⟨⟨rfl, _, _⟩, hw7⟩
    obtain rfl : w6 = w7 := hw7.symm
    clear hw7
    go_wp2_with fail
    refine (impl_jsk HO6.out.rd2 (Nat.le_refl _) HCw.out).mono ?_
    rw [HJ.out.1, HJ.out.2.1, HJ.out.2.2]
    obtain ⟨kA', hkA⟩ : ∃ k, k = kA c v := ⟨_, rfl⟩
    obtain ⟨kB', hkB⟩ : ∃ k, k = kB c v := ⟨_, rfl⟩
    obtain ⟨kM', hkM⟩ : ∃ k, k = kM v := ⟨_, rfl⟩
    rw [← hkA, ← hkB, ← hkM]
    have KA := Lib.hid hkA
    have KB := Lib.hid hkB
    have KM := Lib.hid hkM
    clear hkA hkB hkM
    rintro e w7 ⟨rfl, hb7⟩
    have HM7 := Lib.hid (HM6.out.next hb7)
    have HB7 := Lib.hid (HB6.out.trans (hb7.mono HB6.out.size))
    have A7 := Lib.hid (A.out.behind HB7.out)
    clear hb7 HM6 HO6 A6
    go_wp2_with fail
    refine (at_any A7.out 5 (by omega) hs).mono ?_
    rw [← HCe.out]
    rintro e w8 ⟨⟨rfl, _, _⟩, hw8⟩
    obtain rfl : w7 = w8 := hw8.symm
    clear hw8
    go_wp2_with fail
    refine (impl_sk HM7.out.rd (Nat.le_refl _) HCw.out).mono ?_
    rw [← KA.out, ← KB.out, ← KM.out]
    rintro e w8 ⟨rfl, hb8⟩
    have HM8 := Lib.hid (HM7.out.next hb8)
    have HB8 := Lib.hid (HB7.out.trans (hb8.mono HB7.out.size))
    clear hb8 HM7 A7
    go_wp2_with fail
    refine (draw_ck12 w.heap.size a s.length cap zs _ HB8.out.size (HR.out.behind HB8.out) HL.out).mono ?_
    rintro e w9 ⟨v9, zs9, sd, rfl, hR9, s0, s1, hb9⟩
    have HM9 := Lib.hid (HM8.out.next hb9)
    have HB9 := Lib.hid (HB8.out.trans (hb9.mono HB8.out.size))
    have HR9 := Lib.hid hR9
    have HSd : Hid ((Lit.int .i64 sd).wf = true) := Lib.hid (wf_i64_of (by omega) (by omega))
    clear hb9 hR9 s0 s1 HM8
    go_wp2_with fail
    refine (impl_ch HSd.out (by decide)).mono ?_
    have hrb := chl_bound sd (wrap64 (7000 + 3))
    obtain ⟨r, hr⟩ : ∃ r, r = chl sd (wrap64 (7000 + 3)) := ⟨_, rfl⟩
    rw [← hr] at hrb ⊢
    rintro e w10 ⟨rfl, hb10⟩
    have HM10 := Lib.hid (HM9.out.next hb10)
    have HR10 := Lib.hid (HR9.out.behind hb10)
    have HB10 := Lib.hid (HB9.out.trans (hb10.mono HB9.out.size))
    have HS10 := Lib.hid hb10.size
    have e1 : decide (1 ≤ r) = true := decide_eq_true hrb.1
    have e2 : decide (r < 1019) = true := decide_eq_true (by omega)
    clear hr hb10 hrb HM9 HR9
    go_wp2_with fail
    refine (impl_cn HM10.out.rd (Nat.le_refl _) (by decide) (by decide)).mono ?_
    rw [HCn.out]
    rintro e w11 ⟨rfl, hb11⟩
    have HR11 := Lib.hid (HR10.out.behind (hb11.mono HS10.out))
    have HB11 := Lib.hid (HB10.out.trans (hb11.mono HB10.out.size))
    have HS11 := Lib.hid (Nat.le_trans HS10.out hb11.size)
    clear hb11 HM10 HR10
    go_wp2_with fail
    refine (impl_chk HR11.out HS11.out HSd.out).mono ?_
    obtain ⟨q, hq⟩ : ∃ q, q = chk zs9 sd := ⟨_, rfl⟩
    rw [← hq]
    have HQ := Lib.hid hq
    clear hq
    rintro e w12 ⟨rfl, hb12⟩
    have HR12 := Lib.hid (HR11.out.behind (hb12.mono HS11.out))
    have HB12 := Lib.hid (HB11.out.trans (hb12.mono HB11.out.size))
    have HS12 := Lib.hid (Nat.le_trans HS11.out hb12.size)
    clear hb12
    go_wp2_with fail
    refine (spec_chk HR12.out HS12.out HSd.out).mono ?_
    rw [← HQ.out]
    rintro e w13 ⟨rfl, hb13⟩
    have HB13 := Lib.hid (HB12.out.trans (hb13.mono HB12.out.size))
    clear hb13
    have e3 : (q == q) = true := by simp
    go_wp2_with fail
    go_ret
    exact ⟨rfl, HB13.out⟩

end Go.Proofs.Ytckhmjdhdoomdaa
