/- The small group: elements, their products and powers, inverses of exponents, elements from hashes; the program's and the document's. No conditions but numbers that a machine holds. -/
import Derived.Test.YtdlbpeippmibcaaGr1
import Derived.Deep.RegionHeld3
import Derived.KernelRfl
namespace Go.Proofs.Ytdlbpeippmibcaa
open Go Go.RowKit
set_option linter.unusedVariables false
attribute [local irreducible] kh kid pwm tcm pw

theorem gc0 {w : World} {b : Nat} {y : Value} {t : TypeId} {fz : Nat × Nat} (h : w.heap[b]? = some (.cells #[y] t fz)) : w.cell? ⟨b, 0, none⟩ = some y := blk_cell h 0
/-- A block of one cell, written. -/
theorem gst {w : World} {b : Nat} {y : Value} {t : TypeId} (h : w.heap[b]? = some (.cells #[y] t (0, 0))) (x : Value) : (w.setCell ⟨b, 0, none⟩ x).heap[b]? = some (.cells #[x] t (0, 0)) ∧ (w.setCell ⟨b, 0, none⟩ x).cell? ⟨b, 0, none⟩ = some x := by
  have h1 : (w.setCell ⟨b, 0, none⟩ x).heap[b]? = some (.cells #[x] t (0, 0)) := blk_set h 0 x
  exact ⟨h1, gc0 h1⟩
def ele (x : Int) : Int := if isG x = true then x else 0
theorem ele_yes {x : Int} (h : isG x = true) : ele x = x := if_pos h
theorem ele_no {x : Int} (h : isG x = false) : ele x = 0 := if_neg (by rw [h]; decide)
theorem isG_out {x : Int} (h : inR x 1 2038 = false) : isG x = false := by unfold isG; rw [h]; rfl
theorem isG_pm {x : Int} (h : inR x 1 2038 = true) : isG x = (pwm 2039 x 1019 == 1) := by unfold isG; rw [h, pwm_pw]; rfl
theorem inR_of {x a b : Int} (h : inR x a b = true) : a ≤ x ∧ x ≤ b := by unfold inR at h; simpa using h
theorem el_bound {x : Int} (h : isG x = true) : 1 ≤ x ∧ x ≤ 2038 := (isG_iff.1 h).1
theorem small_wf {x : Int} (h0 : -1 ≤ x) (h1 : x ≤ 5000) : (Lit.int .i64 x).wf = true := wf_i64_of (by omega) (by omega)

set_option maxHeartbeats 1000000 in
/-- impl.elementOf. -/
theorem impl_el {w : World} {x : Int} (hx : (Lit.int .i64 x).wf = true) :
    Calls Try.prog 88 #[.int .i64 x] w fun e w' => e = .returned (.tuple #[.agg #[.int .i64 (ele x)], .bool (isG x)]) ∧ Below w.heap.size w w' := by
  cases h1 : inR x 1 2038 with
  | false =>
    have H1 := Lib.hid h1
    have HG := Lib.hid (isG_out h1)
    have r0 := gc0 (heap_alloc_new w (.cells #[.int .i64 0] 83))
    have HB2 := Lib.hid ((Below.refl w.heap.size w).alloc (Nat.le_refl _) (.cells #[.int .i64 0] 83))
    clear h1
    go_enter Try.func88, Try.ntmps88
    go_wp2_with fail
    refine (impl_in _ _ _ _ hx).mono ?_
    rw [H1.out]
    rintro e w1 ⟨rfl, hw⟩
    subst hw
    go_wp2_with fail
    exact bodyPost_ret (v := .tuple #[.agg #[.int .i64 0], .bool false]) (by simp [results, Try.results88, go_sem, r0]) rfl ⟨by rw [ele_no HG.out, HG.out], HB2.out⟩
  | true =>
    have H1 := Lib.hid h1
    have hb := inR_of h1
    obtain ⟨t, ht⟩ : ∃ t, t = pwm 2039 x 1019 := ⟨_, rfl⟩
    have HG : Hid (isG x = (t == 1)) := Lib.hid (by rw [ht]; exact isG_pm h1)
    have HT := Lib.hid ht
    clear h1 ht
    by_cases ht : t = 1
    · have e1 : (t != 1) = false := by simp [ht]
      have HY : Hid (isG x = true) := Lib.hid (by rw [HG.out, ht]; rfl)
      have r0 := gc0 (heap_alloc_new w (.cells #[.int .i64 x] 83))
      have HB2 := Lib.hid ((Below.refl w.heap.size w).alloc (Nat.le_refl _) (.cells #[.int .i64 x] 83))
      go_enter Try.func88, Try.ntmps88
      go_wp2_with fail
      refine (impl_in _ _ _ _ hx).mono ?_
      rw [H1.out]
      rintro e w1 ⟨rfl, hw⟩
      subst hw
      go_wp2_with fail
      refine (impl_pm (n := 1019) rfl (by omega) (by omega) (by omega) (by omega) (by omega)).mono ?_
      rw [← HT.out]
      rintro e w1 ⟨rfl, hw⟩
      subst hw
      go_wp2_with fail
      exact bodyPost_ret (v := .tuple #[.agg #[.int .i64 x], .bool true]) (by simp [results, Try.results88, go_sem, r0]) rfl ⟨by rw [ele_yes HY.out, HY.out], HB2.out⟩
    · have e1 : (t != 1) = true := by simp [ht]
      have HY : Hid (isG x = false) := Lib.hid (by rw [HG.out]; exact beq_eq_false_iff_ne.2 ht)
      have r0 := gc0 (heap_alloc_new w (.cells #[.int .i64 0] 83))
      have HB2 := Lib.hid ((Below.refl w.heap.size w).alloc (Nat.le_refl _) (.cells #[.int .i64 0] 83))
      go_enter Try.func88, Try.ntmps88
      go_wp2_with fail
      refine (impl_in _ _ _ _ hx).mono ?_
      rw [H1.out]
      rintro e w1 ⟨rfl, hw⟩
      subst hw
      go_wp2_with fail
      refine (impl_pm (n := 1019) rfl (by omega) (by omega) (by omega) (by omega) (by omega)).mono ?_
      rw [← HT.out]
      rintro e w1 ⟨rfl, hw⟩
      subst hw
      go_wp2_with fail
      exact bodyPost_ret (v := .tuple #[.agg #[.int .i64 0], .bool false]) (by simp [results, Try.results88, go_sem, r0]) rfl ⟨by rw [ele_no HY.out, HY.out], HB2.out⟩

/-- spec.IsGroupElement. -/
theorem spec_isg {w : World} {x : Int} (hx : (Lit.int .i64 x).wf = true) :
    Calls Try.prog 71 #[.int .i64 x] w fun e w' => e = .returned (.bool (isG x)) ∧ w' = w := by
  cases h1 : inR x 1 2038 with
  | false =>
    have H1 := Lib.hid h1
    have HG := Lib.hid (isG_out h1)
    clear h1
    go_enter Try.func71, Try.ntmps71
    go_wp2_with fail
    refine (spec_in _ _ _ _ hx).mono ?_
    rw [H1.out]
    rintro e w1 ⟨rfl, hw⟩
    subst hw
    go_wp2_with fail
    go_ret
    exact ⟨by rw [HG.out]; rfl, rfl⟩
  | true =>
    have H1 := Lib.hid h1
    have hb := inR_of h1
    obtain ⟨t, ht⟩ : ∃ t, t = pwm 2039 x 1019 := ⟨_, rfl⟩
    have HG : Hid (isG x = (t == 1)) := Lib.hid (by rw [ht]; exact isG_pm h1)
    have HT := Lib.hid ht
    clear h1 ht
    go_enter Try.func71, Try.ntmps71
    go_wp2_with fail
    refine (spec_in _ _ _ _ hx).mono ?_
    rw [H1.out]
    rintro e w1 ⟨rfl, hw⟩
    subst hw
    go_wp2_with fail
    refine (spec_pm (n := 1019) rfl (by omega) (by omega) (by omega)).mono ?_
    rw [← HT.out]
    rintro e w1 ⟨rfl, hw⟩
    subst hw
    go_wp2_with fail
    go_ret
    exact ⟨by rw [HG.out]; rfl, rfl⟩

theorem fld0 (w : World) (x : Int) : (Instr.field 83 (.agg #[.int .i64 x]) 0).run Try.prog w = .ok (.int .i64 x) w := by
  have p := run_part_plain (P := Try.prog) w (e := 3) (by kernel_rfl) (show (#[.int .i64 x] : Array Value)[0]? = some (.int .i64 x) from rfl)
  simp [Instr.field, run_underlying Try.underlying83, asAgg, p]
theorem gtwo (w : World) (o1 o2 : Obj) : ((w.alloc o1).alloc o2).heap[w.heap.size]? = some o1 ∧ ((w.alloc o1).alloc o2).heap[w.heap.size + 1]? = some o2 ∧ Below w.heap.size w ((w.alloc o1).alloc o2) := by
  have h1 := heap_alloc_new w o1
  have h2 := heap_alloc_new (w.alloc o1) o2
  rw [World.size_alloc] at h2
  exact ⟨(heap_alloc_old (w.alloc o1) o2 (lt_of_block h1)).trans h1, h2, ((Below.refl _ _).alloc (Nat.le_refl _) _).alloc (by simp) _⟩
theorem gthree (w : World) (o1 o2 o3 : Obj) : (((w.alloc o1).alloc o2).alloc o3).heap[w.heap.size]? = some o1 ∧ (((w.alloc o1).alloc o2).alloc o3).heap[w.heap.size + 1]? = some o2 ∧ (((w.alloc o1).alloc o2).alloc o3).heap[w.heap.size + 1 + 1]? = some o3 ∧ Below w.heap.size w (((w.alloc o1).alloc o2).alloc o3) := by
  obtain ⟨h1, h2, h3⟩ := gtwo w o1 o2
  have h4 := heap_alloc_new ((w.alloc o1).alloc o2) o3
  rw [World.size_alloc, World.size_alloc] at h4
  exact ⟨(heap_alloc_old _ o3 (lt_of_block h1)).trans h1, (heap_alloc_old _ o3 (lt_of_block h2)).trans h2, h4, h3.alloc h3.size _⟩

set_option maxHeartbeats 1000000 in
/-- groupElement.power. -/
theorem impl_power {w : World} {a n : Int} (ha : isG a = true) (hn : (Lit.int .i64 n).wf = true) :
    Calls Try.prog 89 #[.agg #[.int .i64 a], .int .i64 n] w fun e w' => e = .returned (.agg #[.int .i64 (pwG a n)]) ∧ Below w.heap.size w w' := by
  have b1 := el_bound ha
  obtain ⟨k1, k2, hb⟩ := gtwo w (.cells #[.int .i64 a] 83) (.cells #[.int .i64 0] 83)
  obtain ⟨W, hW⟩ : ∃ W, W = (w.alloc (.cells #[.int .i64 a] 83)).alloc (.cells #[.int .i64 0] 83) := ⟨_, rfl⟩
  rw [← hW] at k1 k2 hb
  have HW := Lib.hid hW
  have d0 : W.drew.cell? ⟨w.heap.size, 0, none⟩ = some (.int .i64 a) := gc0 k1
  have f0 : W.drew.frozen? ⟨w.heap.size + 1, 0, none⟩ = false := blk_free k2 0
  have d1 : W.drew.cell? ⟨w.heap.size + 1, 0, none⟩ = some (.int .i64 0) := gc0 k2
  obtain ⟨m, hm⟩ : ∃ m : Nat, n % 1019 = (m : Int) := ⟨(n % 1019).toNat, by omega⟩
  have hmb : m ≤ 1018 := by omega
  obtain ⟨x, hx⟩ : ∃ x, x = pwm 2039 a m := ⟨_, rfl⟩
  have HX := Lib.hid hx
  have HR : Hid (pwG a n = x) := Lib.hid (by rw [pwG_yes ha, hx, pwm_pw, hm, Int.toNat_natCast])
  obtain ⟨s1, s2⟩ := gst k2 (.int .i64 x)
  have s0 : (W.setCell ⟨w.heap.size + 1, 0, none⟩ (.int .i64 x)).drew.cell? ⟨w.heap.size, 0, none⟩ = some (.int .i64 a) := gc0 (w := W.setCell ⟨w.heap.size + 1, 0, none⟩ (.int .i64 x)) (((grown_set W (w.heap.size + 1) 0 (.int .i64 x)).block w.heap.size (lt_of_block k1) (by simp)).trans k1)
  have s3 : (W.setCell ⟨w.heap.size + 1, 0, none⟩ (.int .i64 x)).drew.cell? ⟨w.heap.size + 1, 0, none⟩ = some (.int .i64 x) := s2
  have HB := Lib.hid (hb.grown (grown_set _ (w.heap.size + 1) 0 (.int .i64 x)) hb.size (fun k hk => by injection hk with hk; omega)).drew
  have HM := Lib.hid hm
  clear hW k1 k2 hb s1 s2 hx hm
  go_enter Try.func89, Try.ntmps89
  go_wp2_with fail
  rw [← HW.out]
  go_region_held3 (fun w' => w'.cell? ⟨w.heap.size, 0, none⟩ = some (.int .i64 a)) (first | assumption | go_keep) ((first
    | (go_at_call 87
       go_loud (refine (fe_any hn).mono ?_
                rw [HM.out]
                rintro e' w1 ⟨he, hw⟩
                subst hw
                subst he))
    | (go_at_call 93
       go_loud (refine (impl_pm (n := m) rfl (by omega) (by omega) (by omega) (by omega) (by omega)).mono ?_
                rw [← HX.out]
                rintro e' w1 ⟨he, hw⟩
                subst hw
                subst he))))
  go_wp2_with fail
  exact bodyPost_ret (v := .agg #[.int .i64 x]) (by simp [results, Try.results89, go_sem, s3]) rfl ⟨by rw [HR.out], HB.out⟩

set_option maxHeartbeats 1000000 in
/-- impl.PowGroup. -/
theorem impl_pwg {w : World} {g n : Int} (hg : (Lit.int .i64 g).wf = true) (hn : (Lit.int .i64 n).wf = true) :
    Calls Try.prog 77 #[.int .i64 g, .int .i64 n] w fun e w' => e = .returned (.int .i64 (pwG g n)) ∧ Below w.heap.size w w' := by
  obtain ⟨y, hy⟩ : ∃ y, y = ele g := ⟨_, rfl⟩
  have HY := Lib.hid hy
  cases hq : isG g with
  | false =>
    have HQ := Lib.hid hq
    have HR := Lib.hid (pwG_no hq n)
    clear hq hy
    go_enter Try.func77, Try.ntmps77
    go_wp2_with fail
    refine (impl_el hg).mono ?_
    rw [HQ.out, ← HY.out]
    rintro e w1 ⟨rfl, hb⟩
    have HB2 := Lib.hid (hb.alloc hb.size (.cells #[.int .i64 y] 83))
    clear hb
    go_wp2_with fail
    go_ret
    exact ⟨by rw [HR.out]; rfl, HB2.out⟩
  | true =>
    have HQ := Lib.hid hq
    obtain ⟨x, hx⟩ : ∃ x, x = pwG g n := ⟨_, rfl⟩
    rw [← hx]
    have HX := Lib.hid hx
    have HYg := Lib.hid (ele_yes hq)
    clear hq hy hx HY
    go_enter Try.func77, Try.ntmps77
    go_wp2_with fail
    refine (impl_el hg).mono ?_
    rw [HQ.out, HYg.out]
    rintro e w1 ⟨rfl, hb⟩
    have HB2 := Lib.hid (hb.alloc hb.size (.cells #[.int .i64 g] 83))
    have k0 := gc0 (heap_alloc_new w1 (.cells #[.int .i64 g] 83))
    clear hb
    go_wp2_with fail
    refine (impl_power HQ.out hn).mono ?_
    rw [← HX.out]
    rintro e w2 ⟨rfl, hb⟩
    have hf := fld0 w2 x
    replace HB2 := Lib.hid (HB2.out.trans (hb.mono HB2.out.size))
    clear hb k0
    go_wp2_with fail
    go_ret
    exact ⟨rfl, HB2.out⟩

set_option maxHeartbeats 1000000 in
/-- spec.PowGroup. -/
theorem spec_pwg {w : World} {g n : Int} (hg : (Lit.int .i64 g).wf = true) (hn : (Lit.int .i64 n).wf = true) :
    Calls Try.prog 45 #[.int .i64 g, .int .i64 n] w fun e w' => e = .returned (.int .i64 (pwG g n)) ∧ w' = w := by
  cases hq : isG g with
  | false =>
    have HQ := Lib.hid hq
    have HR := Lib.hid (pwG_no hq n)
    clear hq
    go_enter Try.func45, Try.ntmps45
    go_wp2_with fail
    refine (spec_isg hg).mono ?_
    rw [HQ.out]
    rintro e w1 ⟨rfl, hw⟩
    subst hw
    go_wp2_with fail
    go_ret
    exact ⟨by rw [HR.out]; rfl, rfl⟩
  | true =>
    have HQ := Lib.hid hq
    have hb := el_bound hq
    have hnb := wf_i64 hn
    obtain ⟨m, hm⟩ : ∃ m : Nat, n % 1019 = (m : Int) := ⟨(n % 1019).toNat, by omega⟩
    have hmb : m ≤ 1018 := by omega
    obtain ⟨x, hx⟩ : ∃ x, x = pwm 2039 g m := ⟨_, rfl⟩
    have HX := Lib.hid hx
    have HR : Hid (pwG g n = x) := Lib.hid (by rw [pwG_yes hq, hx, pwm_pw, hm, Int.toNat_natCast])
    have HM : Hid (modV n 1019 = (m : Int)) := Lib.hid ((modV_1019 n).trans hm)
    clear hq hx hm
    go_enter Try.func45, Try.ntmps45
    go_wp2_with fail
    refine (spec_isg hg).mono ?_
    rw [HQ.out]
    rintro e w1 ⟨rfl, hw⟩
    subst hw
    go_wp2_with fail
    refine (spec_mod _ _ _ hnb.1 hnb.2).mono ?_
    rw [HM.out]
    rintro e w1 ⟨rfl, hw⟩
    subst hw
    go_wp2_with fail
    refine (spec_pm (n := m) rfl (by omega) (by omega) (by omega)).mono ?_
    rw [← HX.out]
    rintro e w1 ⟨rfl, hw⟩
    subst hw
    go_wp2_with fail
    go_ret
    exact ⟨by rw [HR.out]; rfl, rfl⟩

end Go.Proofs.Ytdlbpeippmibcaa
