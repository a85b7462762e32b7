/- FnKeyedHash: the walk. No conditions. -/
import Derived.Test.YtjhoepjmdiifnaaCry3
import Derived.Test.YtjhoepjmdiifnaaDrawC
import Derived.Test.YtjhoepjmdiifnaaLawBase
import Derived.Test.YtjhoepjmdiifnaaRdG
import Derived.Deep.RegionWith
namespace Go.Proofs.Ytjhoepjmdiifnaa
open Go Go.RowKit
set_option linter.unusedVariables false

/-- A step of the hash loses nothing of what was folded so far. -/
theorem hstep_inj {a b v : Int} (ha : 0 ≤ a ∧ a ≤ 2147483646) (hb : 0 ≤ b ∧ b ≤ 2147483646) (h : hstep a v = hstep b v) : a = b := by
  unfold hstep at h
  obtain ⟨m, hm⟩ : ∃ m, m = v % 2147483647 := ⟨_, rfl⟩
  rw [← hm] at h
  clear hm
  have h3 := Int.emod_eq_emod_iff_emod_sub_eq_zero.1 h
  clear h
  obtain ⟨t, ht⟩ := Int.dvd_of_emod_eq_zero h3
  clear h3
  have e : a - b = 2147483647 * (t * 1523789695 - (a - b) * 709572) := by omega
  obtain ⟨s, hs⟩ : ∃ s, s = t * 1523789695 - (a - b) * 709572 := ⟨_, rfl⟩
  rw [← hs] at e
  clear hs ht
  omega
theorem hfold_inj {a b : Int} (zs : List Int) (ha : 0 ≤ a ∧ a ≤ 2147483646) (hb : 0 ≤ b ∧ b ≤ 2147483646) (h : hfold a zs = hfold b zs) : a = b := by
  induction zs generalizing a b with
  | nil => exact h
  | cons z zs ih => exact hstep_inj ha hb (ih (hstep_bound a z) (hstep_bound b z) h)
/-- Two values that differ modulo 2147483647 give two hashes. -/
theorem hstep_ne {a u v : Int} (h : u % 2147483647 ≠ v % 2147483647) : hstep a u ≠ hstep a v := by
  unfold hstep; omega
theorem kh_set_ne {k : Int} {zs : List Int} {i : Nat} {v : Int} (hi : i < zs.length) (h : v % 2147483647 ≠ zs.getD i 0 % 2147483647) : kh k (zs.set i v) ≠ kh k zs := by
  intro e
  have e1 : zs = zs.take i ++ zs.getD i 0 :: zs.drop (i + 1) := by
    conv => lhs; rw [← List.take_append_drop i zs, drop_getD hi]
  have e2 : zs.set i v = zs.take i ++ v :: zs.drop (i + 1) := List.set_eq_take_append_cons_drop.trans (if_pos hi)
  have key : ∀ u, kh k (zs.take i ++ u :: zs.drop (i + 1)) = hfold (hstep (hfold 11 (k :: zs.take i)) u) (zs.drop (i + 1) ++ [k]) := by
    intro u
    unfold kh
    rw [show k :: (zs.take i ++ u :: zs.drop (i + 1) ++ [k]) = (k :: zs.take i) ++ ([u] ++ (zs.drop (i + 1) ++ [k])) by simp, hfold_append, hfold_append]
    rfl
  rw [e2, key] at e
  have e3 : kh k zs = hfold (hstep (hfold 11 (k :: zs.take i)) (zs.getD i 0)) (zs.drop (i + 1) ++ [k]) := by
    conv => lhs; rw [e1]
    exact key _
  rw [e3] at e
  exact hstep_ne h (hfold_inj _ (hstep_bound _ _) (hstep_bound _ _) e)

set_option maxHeartbeats 4000000 in
set_option maxRecDepth 20000 in
theorem keyed_walk (a : Option Addr) (len cap : Nat) (zs : List Int) (w : World) (hrow : IsRow .u8 w a len cap zs) :
    Calls Try.prog 4 #[.slice a len cap] w fun e w' => e = .returned (.bool true) ∧ Below w.heap.size w w' := by
  obtain ⟨hr, hl⟩ := row_own hrow
  obtain ⟨s, A, l⟩ : ∃ s, Rd w.heap.size .u8 w (.slice a len cap) s ∧ len = s.length := ⟨zs.take len, hrow.rd, hrow.rd.len_eq⟩
  subst l
  have HR := Lib.hid hr
  have HL := Lib.hid hl
  have hl' : s.length ≤ 9223372036854775807 := by unfold maxLen at hl; omega
  replace A := Lib.hid A
  clear hr hrow hl
  by_cases hbig : 1048576 < s.length
  · have e0 : decide ((1048576 : Int) < (s.length : Int)) = true := by simp; omega
    go_enter Try.func4, Try.ntmps4
    go_wp2_with fail
    refine (big_is a s.length cap _ hl').mono ?_
    rw [e0]
    rintro e w0 ⟨rfl, rfl⟩
    go_wp2_with fail
    go_ret
    exact ⟨rfl, Below.refl _ _⟩
  · have e0 : decide ((1048576 : Int) < (s.length : Int)) = false := by simp; omega
    have hs : s.length ≤ 1048576 := by omega
    obtain ⟨i0, hi, hz0, hz1, hz2⟩ := info_parts infoi64
    have Hhi := Lib.hid hi
    clear hi
    go_enter Try.func4, Try.ntmps4
    go_wp2_with fail
    refine (big_is a s.length cap _ hl').mono ?_
    rw [e0]
    rintro e w0 ⟨rfl, rfl⟩
    go_wp2_with fail
    refine (draw_kh a s.length cap zs _ HR.out HL.out).mono ?_
    rintro e w1 ⟨k, v, ys, rfl, hk, hO, hys, hyb, hb⟩
    have hk' : (Lit.int .i64 k).wf = true := wf_i64_of (by omega) (by omega)
    have HK := Lib.hid hk'
    have HO := Lib.hid hO
    have HB := Lib.hid hb
    have HY := Lib.hid hyb
    clear hO hb hk' hyb
    obtain ⟨av, cv, rfl, hav⟩ := HO.out.open
    have HAV := Lib.hid hav
    clear hav
    go_wp2_with fail
    refine (impl_kh HO.out.rd (Nat.le_refl _) HK.out).mono ?_
    rintro e w2 ⟨he, hb⟩
    have hq := kh_bound k ys
    obtain ⟨q, hq'⟩ : ∃ q, q = kh k ys := ⟨_, rfl⟩
    rw [← hq'] at he hq
    subst he
    have HQ := Lib.hid hq'
    replace HO := Lib.hid (HO.out.next hb)
    replace HB := Lib.hid (HB.out.trans (hb.mono HB.out.size))
    clear hb hq'
    have d1 : decide (q < 0) = false := by simp; omega
    have d2 : decide ((2147483647 : Int) ≤ q) = false := by simp; omega
    have O1 : Hid (Own 3 .i64 w2.heap.size (w2.alloc (.cells #[.int .i64 k] 3)) (.slice (some ⟨w2.heap.size, 0, none⟩) 1 1) [k]) := Lib.hid (Own.one 3 .i64 (Nat.le_refl _) HK.out)
    have P1 := Lib.hid (HO.out.apart O1.out)
    have HO2 := HO
    replace HO := Lib.hid (HO.out.alloc (.cells #[.int .i64 k] 3))
    have B1 := Lib.hid ((Below.refl w2.heap.size w2).alloc (Nat.le_refl _) (.cells #[.int .i64 k] 3))
    go_wp2_with (first | (at_builtin; go_loud (refine append_rdg _ (by rfl) _ _ 28 rfl 3 i0 (.int .i64 0) 8 Try.underlying28 Hhi.out hz0 hz1 hz2 rfl (by omega) rfl O1.out rfl HO.out.rd (by simp; omega) ?_)))
    intro v3 w3 h3 h4
    have B3 := Lib.hid (B1.out.trans (O1.out.below (Nat.le_refl _) h4))
    have P3 := Lib.hid (HO2.out.apart h3)
    replace HO := Lib.hid ((HO.out.beside P1.out h4).alloc (.cells #[.int .i64 k] 3))
    have O3 := Lib.hid (h3.alloc (.cells #[.int .i64 k] 3))
    have B4 := Lib.hid (B3.out.alloc h3.2.1 (.cells #[.int .i64 k] 3))
    have R3 := Lib.hid (Rd.one 3 .i64 w3 k HK.out)
    clear h3 h4 O1 B1 B3 P1 HO2
    go_wp2_with (first | (at_builtin; go_loud (refine append_rdg _ (by rfl) _ _ 28 rfl 3 i0 (.int .i64 0) 8 Try.underlying28 Hhi.out hz0 hz1 hz2 rfl (by omega) rfl O3.out rfl R3.out (by simp; omega) ?_)))
    intro v4 w4 h3 h4
    have H4 := Lib.hid h3
    replace HO := Lib.hid (HO.out.beside P3.out h4)
    replace HB := Lib.hid (HB.out.trans ((B4.out.trans (O3.out.below (Nat.le_refl _) h4)).mono HB.out.size))
    clear h3 h4 O3 B4 R3 P3
    go_wp2_with fail
    refine (impl_hsh H4.out.rd).mono ?_
    rintro e w5 ⟨he, hw⟩
    have e1 : hsh (k :: (ys ++ [k])) = q := by rw [HQ.out]; rfl
    try simp only [List.cons_append, List.nil_append] at he
    rw [e1] at he
    subst he
    subst hw
    clear e1 H4
    replace A := Lib.hid (A.out.behind HB.out)
    have AB : Hid (∀ i, 0 ≤ atv s i ∧ atv s i ≤ 255) := Lib.hid (atv_bound fun i hi => A.out.wf hi)
    by_cases h0 : 0 < ys.length
    · have e2 : decide ((0 : Int) < (ys.length : Int)) = true := by simp; omega
      have LO : Hid (Own 3 .i64 w5.heap.size (w5.alloc (.cells #[] 3)) (.slice (some ⟨w5.heap.size, 0, none⟩) 0 0) []) := Lib.hid (Own.lit _ _ (Nat.le_refl _))
      have B1 := Lib.hid ((Below.refl w5.heap.size w5).alloc (Nat.le_refl _) (.cells #[] 3))
      replace HO := Lib.hid (HO.out.alloc (.cells #[] 3))
      go_wp2_with (first | (at_builtin; go_loud (refine append_rd _ rfl _ _ 28 rfl 3 i0 (.int .i64 0) 8 Try.underlying28 Hhi.out hz0 hz1 hz2 rfl (by omega) rfl LO.out rfl HO.out.rd (by simp; omega) ?_)))
      intro v6 w6 h3 h4
      have h3' : Own 3 .i64 w5.heap.size w6 v6 ys := by simpa using h3
      obtain ⟨am, cm, rfl, ham⟩ := h3'.open
      obtain ⟨g, rfl⟩ := ham h0
      have HM := Lib.hid h3'
      have B6 := Lib.hid (B1.out.trans (LO.out.below (Nat.le_refl _) h4))
      have HB6 := Lib.hid (HB.out.trans (B6.out.mono HB.out.size))
      replace A := Lib.hid (A.out.behind (B6.out.mono HB.out.size))
      clear h3 h3' h4 ham LO B1 HO
      go_wp2_with fail
      refine (at_any A.out 0 (by omega) hs).mono ?_
      rintro e w7 ⟨⟨rfl, q0, q1⟩, hw7⟩
      subst hw7
      obtain ⟨t0, ht0⟩ : ∃ t : Int, t = atv s 0 := ⟨_, rfl⟩
      rw [← ht0] at q0 q1 ⊢
      clear ht0
      have r0 : 0 ≤ t0 % (ys.length : Int) := Int.emod_nonneg _ (by omega)
      have r1 : t0 % (ys.length : Int) < (ys.length : Int) := Int.emod_lt_of_pos _ (by omega)
      obtain ⟨ix, hix⟩ : ∃ ix : Nat, t0 % (ys.length : Int) = (ix : Int) := ⟨(t0 % (ys.length : Int)).toNat, (Int.toNat_of_nonneg r0).symm⟩
      have HIX := Lib.hid hix
      rw [hix] at r1
      have hilt : ix < ys.length := by omega
      have c1 := HM.out.cellAt rfl hilt
      have f1 := HM.out.free rfl ix
      have hzb : -1 ≤ ys.getD ix 0 ∧ ys.getD ix 0 ≤ 2147483648 := HY.out _ (by rw [List.getD_eq_getElem?_getD, List.getElem?_eq_getElem hilt]; simp)
      have hne : ∀ u : Int, u % 2147483647 ≠ ys.getD ix 0 % 2147483647 → kh k (ys.set ix u) ≠ kh k ys := fun u h => kh_set_ne hilt h
      obtain ⟨z, hz⟩ : ∃ z, z = ys.getD ix 0 := ⟨_, rfl⟩
      rw [← hz] at c1 hzb hne
      rw [← HQ.out] at hne
      have htb := AB.out 1
      obtain ⟨t1, ht1⟩ : ∃ t : Int, t = atv s 1 := ⟨_, rfl⟩
      rw [← ht1] at htb
      have HT1 := Lib.hid ht1
      obtain ⟨x, hx⟩ : ∃ x, x = (z + 1 + t1) % 2147483647 := ⟨_, rfl⟩
      have HV : Hid (modV (z + 1 + t1) 2147483647 = x) := Lib.hid (by rw [mod_mod, hx])
      have HRW : Hid (IntKind.i64.wrap (IntKind.i64.wrap (z + 1) + t1) = z + 1 + t1) := Lib.hid (by rw [IntKind.wrap_i64, IntKind.wrap_i64]; omega)
      have hxb : 0 ≤ x ∧ x ≤ 2147483646 := by omega
      have hne2 : kh k (ys.set ix x) ≠ q := hne x (by omega)
      have HXW : Hid ((Lit.int .i64 x).wf = true) := Lib.hid (wf_i64_of (by omega) (by omega))
      obtain ⟨q2, hq2⟩ : ∃ q, q = kh k (ys.set ix x) := ⟨_, rfl⟩
      rw [← hq2] at hne2
      have HQ2 := Lib.hid hq2
      have e5 : (q2 == q) = false := by simp [hne2]
      clear hz hne ht1 hx hq2 hne2
      have A7 := Lib.hid A.out.drew
      go_wp2_with fail
      go_region_with ((first
        | (go_at_call 21
           go_loud (refine (at_any A7.out 1 (by omega) hs).mono ?_
                    rintro e' w' ⟨⟨he, _, _⟩, hw'⟩
                    rw [← HT1.out] at he
                    subst he
                    subst hw'))
        | (go_at_call 22
           go_loud (rw [HRW.out]
                    refine (spec_mod (z + 1 + t1) 2147483647 _ (by omega) (by omega)).mono ?_
                    rintro e' w' ⟨he, hw'⟩
                    rw [HV.out] at he
                    subst he
                    subst hw'))))
      all_goals
        obtain ⟨p1, p2⟩ := HM.out.drew.set HXW.out ix
        have P1 := Lib.hid p1
        have B8 := Lib.hid (B6.out.drew.grown p2 B6.out.drew.size (fun k hk => by injection hk with hk; have := (HM.out.lt g rfl).1; omega))
        clear p1 p2
        go_wp2_with fail
        refine (impl_kh P1.out.rd (Nat.le_refl _) HK.out).mono ?_
        rintro e w9 ⟨he, hb⟩
        rw [← HQ2.out] at he
        subst he
        replace HB := Lib.hid (HB.out.trans ((B8.out.trans (hb.mono B8.out.size)).mono HB.out.size))
        clear hb P1 B8 HB6 HM HQ2 HXW HV HRW
        go_wp2_with fail
        refine (draw_dv w0.heap.size a s.length cap zs _ HB.out.size (HR.out.behind HB.out) HL.out).mono ?_
        rintro e wt1 ⟨k2, u, rfl, hk2, hu, hb⟩
        have hk2' : (Lit.int .i64 k2).wf = true := wf_i64_of (by omega) (by omega)
        have HK2 := Lib.hid hk2'
        replace HB := Lib.hid (HB.out.trans (hb.mono HB.out.size))
        clear hb hk2'
        go_wp2_with fail
        refine (impl_dv HK2.out (by omega)).mono ?_
        rintro e wt2 ⟨he, hb⟩
        have hd := dv_bound k2 u
        obtain ⟨d, hd'⟩ : ∃ d, d = dv k2 u := ⟨_, rfl⟩
        rw [← hd'] at he hd
        subst he
        have HD := Lib.hid (inR_yes hd)
        have HDW : Hid ((Lit.int .i64 d).wf = true) := Lib.hid (wf_i64_of (by omega) (by omega))
        replace HB := Lib.hid (HB.out.trans (hb.mono HB.out.size))
        clear hb hd' hd
        go_wp2_with fail
        refine (impl_vk HDW.out).mono ?_
        rintro e wt3 ⟨he, hw⟩
        rw [HD.out] at he
        subst he
        subst hw
        go_wp2_with fail
        go_ret
        exact ⟨rfl, HB.out⟩
    · have e2 : decide ((0 : Int) < (ys.length : Int)) = false := decide_eq_false (by omega)
      clear HO HQ HY HAV
      go_wp2_with fail
      refine (draw_dv w0.heap.size a s.length cap zs _ HB.out.size (HR.out.behind HB.out) HL.out).mono ?_
      rintro e wt1 ⟨k2, u, rfl, hk2, hu, hb⟩
      have hk2' : (Lit.int .i64 k2).wf = true := wf_i64_of (by omega) (by omega)
      have HK2 := Lib.hid hk2'
      replace HB := Lib.hid (HB.out.trans (hb.mono HB.out.size))
      clear hb hk2'
      go_wp2_with fail
      refine (impl_dv HK2.out (by omega)).mono ?_
      rintro e wt2 ⟨he, hb⟩
      have hd := dv_bound k2 u
      obtain ⟨d, hd'⟩ : ∃ d, d = dv k2 u := ⟨_, rfl⟩
      rw [← hd'] at he hd
      subst he
      have HD := Lib.hid (inR_yes hd)
      have HDW : Hid ((Lit.int .i64 d).wf = true) := Lib.hid (wf_i64_of (by omega) (by omega))
      replace HB := Lib.hid (HB.out.trans (hb.mono HB.out.size))
      clear hb hd' hd
      go_wp2_with fail
      refine (impl_vk HDW.out).mono ?_
      rintro e wt3 ⟨he, hw⟩
      rw [HD.out] at he
      subst he
      subst hw
      go_wp2_with fail
      go_ret
      exact ⟨rfl, HB.out⟩

end Go.Proofs.Ytjhoepjmdiifnaa
