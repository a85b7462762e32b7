/- The small group: powers by squaring, elements; the program's and the document's. No conditions but numbers that a machine holds. The small group: elements, their products and powers, inverses of exponents, elements from hashes; the program's and the document's. No conditions but numbers that a machine holds. The small group: inverses of exponents, elements from hashes, proofs of equal exponents; the program's and the document's. No conditions but numbers that a machine holds. The small group: proofs of equal exponents checked; the program's and the document's. No conditions but numbers that a machine holds. -/
import Derived.Test.YtlhpjfhglkngfaaDoorBcP
import Derived.Test.YtlhpjfhglkngfaaDoorSh1
import Derived.Test.YtlhpjfhglkngfaaDoorEnc
import Derived.Deep.RegionHeld3
import Derived.KernelRfl

/-! Gr1 -/
namespace Go.Proofs.YtlhpjfhglkngfaaDoor
open Go Go.RowKit
set_option linter.unusedVariables false
attribute [local irreducible] kh kid pwm tcm pw

theorem pm_mul {a b m : Int} (ha0 : 0 ≤ a) (ha1 : a < m) (hb0 : 0 ≤ b) (hb1 : b < m) (hm : m ≤ 2039) : (wrap64 (a * b)).tmod m = a * b % m := by
  have h := mul_bound ha0 (by omega) hb0 (by omega)
  have e1 : wrap64 (a * b) = a * b := by generalize a * b = q at h ⊢; unfold wrap64; omega
  rw [e1]
  exact Int.tmod_eq_emod_of_nonneg h.1
theorem pm_mulw {a b : Int} (ha0 : 0 ≤ a) (ha1 : a < 2039) (hb0 : 0 ≤ b) (hb1 : b < 2039) : wrap64 (a * b) = a * b := by
  have h := mul_bound ha0 ha1 hb0 hb1
  generalize a * b = q at h ⊢
  unfold wrap64
  omega
theorem half_cast (k : Nat) : (k : Int) / 2 = ((k / 2 : Nat) : Int) := by omega

set_option maxHeartbeats 1000000 in
/-- impl.powerModulo. -/
theorem impl_pm {w : World} {g m k : Int} {n : Nat} (hk : k = (n : Int)) (h0 : 0 ≤ g) (h1 : g < m) (hm0 : 2 ≤ m) (hm : m ≤ 2039) (hn : n ≤ 1000000) :
    Calls Tryd.prog 74 #[.int .i64 g, .int .i64 k, .int .i64 m] w fun e w' => e = .returned (.int .i64 (pwm m g n)) ∧ w' = w := by
  subst hk
  obtain ⟨T, hT⟩ : ∃ T, T = pwm m g n := ⟨_, rfl⟩
  have HT := Lib.hid hT
  rw [← hT]
  clear hT
  have hmm : (m == 0) = false := beq_eq_false_iff_ne.2 (by omega)
  go_enter Tryd.func74, Tryd.ntmps74
  go_wp2_with fail
  go_loopw [0, 1, 7] (fun b e p wr => ∃ (x y : Int) (k : Nat), b = .int .i64 x ∧ e = .int .i64 k ∧ p = .int .i64 y ∧ k ≤ n ∧ 0 ≤ x ∧ x < m ∧ 0 ≤ y ∧ y < m ∧ tcm m y x k = T ∧ wr = w) (fun _ e _ _ => (intOf e).toNat)
  case atStart => exact ⟨g, 1, n, rfl, rfl, rfl, Nat.le_refl _, h0, h1, by omega, by omega, by rw [tcm_start, HT.out], rfl⟩
  case round =>
    obtain ⟨x, y, k, rfl, rfl, rfl, hk, hx0, hx1, hy0, hy1, htc, rfl⟩ := hrel
    have HTC := Lib.hid htc
    clear htc
    by_cases hlt : 0 < k
    · have e1 : decide ((0 : Int) < (k : Int)) = true := by simp; omega
      have P1 := Lib.hid (pm_mul hx0 hx1 hx0 hx1 hm)
      have P2 := Lib.hid (pm_mul hy0 hy1 hx0 hx1 hm)
      have Q1 := Lib.hid (mod_bd (x := x * x) (m := m) (by omega))
      have Q2 := Lib.hid (mod_bd (x := y * x) (m := m) (by omega))
      by_cases hod : k % 2 = 1
      · have e2 : (((k : Int) % 2 : Int) == 1) = true := by simp; omega
        have HE := Lib.hid (tcm_odd (m := m) (p := y) (b := x) hod)
        go_wp2_with fail
        refine ⟨⟨x * x % m, y * x % m, k / 2, by rw [P1.out], by rw [half_cast], by rw [P2.out], by omega, Q1.out.1, Q1.out.2, Q2.out.1, Q2.out.2, HE.out.trans HTC.out, trivial⟩, ?_⟩
        simp [intOf]; omega
      · have e2 : (((k : Int) % 2 : Int) == 1) = false := by simp; omega
        have HE := Lib.hid (tcm_even (m := m) (p := y) (b := x) (e := k) (by omega))
        go_wp2_with fail
        refine ⟨⟨x * x % m, y, k / 2, by rw [P1.out], by rw [half_cast], rfl, by omega, Q1.out.1, Q1.out.2, hy0, hy1, HE.out.trans HTC.out, trivial⟩, ?_⟩
        simp [intOf]; omega
    · have e1 : decide ((0 : Int) < (k : Int)) = false := by simp; omega
      obtain rfl : k = 0 := by omega
      have HY : Hid (y = T) := Lib.hid ((tcm_end hy0 hy1).symm.trans HTC.out)
      go_wp2_with fail
      go_ret
      exact ⟨by rw [HY.out]; rfl, rfl⟩

set_option maxHeartbeats 1000000 in
/-- spec.l15Pow. -/
theorem spec_pm {w : World} {g k : Int} {n : Nat} (hk : k = (n : Int)) (h0 : 0 ≤ g) (h1 : g < 2039) (hn : n ≤ 1000000) :
    Calls Tryd.prog 82 #[.int .i64 g, .int .i64 k] w fun e w' => e = .returned (.int .i64 (pwm 2039 g n)) ∧ w' = w := by
  subst hk
  obtain ⟨T, hT⟩ : ∃ T, T = pwm 2039 g n := ⟨_, rfl⟩
  have HT := Lib.hid hT
  rw [← hT]
  clear hT
  go_enter Tryd.func82, Tryd.ntmps82
  go_wp2_with fail
  go_loopw [0, 1, 5] (fun b e p wr => ∃ (x y : Int) (k : Nat), b = .int .i64 x ∧ e = .int .i64 k ∧ p = .int .i64 y ∧ k ≤ n ∧ 0 ≤ x ∧ x < 2039 ∧ 0 ≤ y ∧ y < 2039 ∧ tcm 2039 y x k = T ∧ wr = w) (fun _ e _ _ => (intOf e).toNat)
  case atStart => exact ⟨g, 1, n, rfl, rfl, rfl, Nat.le_refl _, h0, h1, by omega, by omega, by rw [tcm_start, HT.out], rfl⟩
  case round =>
    obtain ⟨x, y, k, rfl, rfl, rfl, hk, hx0, hx1, hy0, hy1, htc, rfl⟩ := hrel
    have HTC := Lib.hid htc
    clear htc
    by_cases hlt : 0 < k
    · have e1 : decide ((0 : Int) < (k : Int)) = true := by simp; omega
      have P1 := Lib.hid (pm_mul hx0 hx1 hx0 hx1 (Int.le_refl _))
      have P2 := Lib.hid (pm_mul hy0 hy1 hx0 hx1 (Int.le_refl _))
      have Q1 := Lib.hid (mod_bd (x := x * x) (m := 2039) (by omega))
      have Q2 := Lib.hid (mod_bd (x := y * x) (m := 2039) (by omega))
      have ha := i64_and1 (k : Int)
      by_cases hod : k % 2 = 1
      · have e2 : (((k : Int) % 2 : Int) == 1) = true := by simp; omega
        have HE := Lib.hid (tcm_odd (m := 2039) (p := y) (b := x) hod)
        go_wp2_with fail
        refine ⟨⟨x * x % 2039, y * x % 2039, k / 2, by rw [P1.out], by rw [half_cast], by rw [P2.out], by omega, Q1.out.1, Q1.out.2, Q2.out.1, Q2.out.2, HE.out.trans HTC.out, trivial⟩, ?_⟩
        simp [intOf]; omega
      · have e2 : (((k : Int) % 2 : Int) == 1) = false := by simp; omega
        have HE := Lib.hid (tcm_even (m := 2039) (p := y) (b := x) (e := k) (by omega))
        go_wp2_with fail
        refine ⟨⟨x * x % 2039, y, k / 2, by rw [P1.out], by rw [half_cast], rfl, by omega, Q1.out.1, Q1.out.2, hy0, hy1, HE.out.trans HTC.out, trivial⟩, ?_⟩
        simp [intOf]; omega
    · have e1 : decide ((0 : Int) < (k : Int)) = false := by simp; omega
      obtain rfl : k = 0 := by omega
      have HY : Hid (y = T) := Lib.hid ((tcm_end hy0 hy1).symm.trans HTC.out)
      go_wp2_with fail
      go_ret
      exact ⟨by rw [HY.out]; rfl, rfl⟩

end Go.Proofs.YtlhpjfhglkngfaaDoor


/-! Gr2 -/
namespace Go.Proofs.YtlhpjfhglkngfaaDoor
open Go Go.RowKit
set_option linter.unusedVariables false
attribute [local irreducible] kh kid pwm tcm pw

theorem gc0 {w : World} {b : Nat} {y : Value} {t : TypeId} {fz : Nat × Nat} (h : w.heap[b]? = some (.cells #[y] t fz)) : w.cell? ⟨b, 0, none⟩ = some y := blk_cell h 0
/-- A block of one cell, written. -/
theorem gst {w : World} {b : Nat} {y : Value} {t : TypeId} (h : w.heap[b]? = some (.cells #[y] t (0, 0))) (x : Value) : (w.setCell ⟨b, 0, none⟩ x).heap[b]? = some (.cells #[x] t (0, 0)) ∧ (w.setCell ⟨b, 0, none⟩ x).cell? ⟨b, 0, none⟩ = some x := by
  have h1 : (w.setCell ⟨b, 0, none⟩ x).heap[b]? = some (.cells #[x] t (0, 0)) := blk_set h 0 x
  exact ⟨h1, gc0 h1⟩
def ele (x : Int) : Int := if isG x = true then x else 0
theorem ele_yes {x : Int} (h : isG x = true) : ele x = x := if_pos h
theorem ele_no {x : Int} (h : isG x = false) : ele x = 0 := if_neg (by rw [h]; decide)
theorem isG_out {x : Int} (h : inR x 1 2038 = false) : isG x = false := by unfold isG; rw [h]; rfl
theorem isG_pm {x : Int} (h : inR x 1 2038 = true) : isG x = (pwm 2039 x 1019 == 1) := by unfold isG; rw [h, pwm_pw]; rfl
theorem inR_of {x a b : Int} (h : inR x a b = true) : a ≤ x ∧ x ≤ b := by unfold inR at h; simpa using h
theorem el_bound {x : Int} (h : isG x = true) : 1 ≤ x ∧ x ≤ 2038 := (isG_iff.1 h).1
theorem small_wf {x : Int} (h0 : -1 ≤ x) (h1 : x ≤ 5000) : (Lit.int .i64 x).wf = true := wf_i64_of (by omega) (by omega)

set_option maxHeartbeats 1000000 in
/-- impl.elementOf. -/
theorem impl_el {w : World} {x : Int} (hx : (Lit.int .i64 x).wf = true) :
    Calls Tryd.prog 46 #[.int .i64 x] w fun e w' => e = .returned (.tuple #[.agg #[.int .i64 (ele x)], .bool (isG x)]) ∧ Below w.heap.size w w' := by
  cases h1 : inR x 1 2038 with
  | false =>
    have H1 := Lib.hid h1
    have HG := Lib.hid (isG_out h1)
    have r0 := gc0 (heap_alloc_new w (.cells #[.int .i64 0] 68))
    have HB2 := Lib.hid ((Below.refl w.heap.size w).alloc (Nat.le_refl _) (.cells #[.int .i64 0] 68))
    clear h1
    go_enter Tryd.func46, Tryd.ntmps46
    go_wp2_with fail
    refine (impl_in _ _ _ _ hx).mono ?_
    rw [H1.out]
    rintro e w1 ⟨rfl, hw⟩
    subst hw
    go_wp2_with fail
    exact bodyPost_ret (v := .tuple #[.agg #[.int .i64 0], .bool false]) (by simp [results, Tryd.results46, go_sem, r0]) rfl ⟨by rw [ele_no HG.out, HG.out], HB2.out⟩
  | true =>
    have H1 := Lib.hid h1
    have hb := inR_of h1
    obtain ⟨t, ht⟩ : ∃ t, t = pwm 2039 x 1019 := ⟨_, rfl⟩
    have HG : Hid (isG x = (t == 1)) := Lib.hid (by rw [ht]; exact isG_pm h1)
    have HT := Lib.hid ht
    clear h1 ht
    by_cases ht : t = 1
    · have e1 : (t != 1) = false := by simp [ht]
      have HY : Hid (isG x = true) := Lib.hid (by rw [HG.out, ht]; rfl)
      have r0 := gc0 (heap_alloc_new w (.cells #[.int .i64 x] 68))
      have HB2 := Lib.hid ((Below.refl w.heap.size w).alloc (Nat.le_refl _) (.cells #[.int .i64 x] 68))
      go_enter Tryd.func46, Tryd.ntmps46
      go_wp2_with fail
      refine (impl_in _ _ _ _ hx).mono ?_
      rw [H1.out]
      rintro e w1 ⟨rfl, hw⟩
      subst hw
      go_wp2_with fail
      refine (impl_pm (n := 1019) rfl (by omega) (by omega) (by omega) (by omega) (by omega)).mono ?_
      rw [← HT.out]
      rintro e w1 ⟨rfl, hw⟩
      subst hw
      go_wp2_with fail
      exact bodyPost_ret (v := .tuple #[.agg #[.int .i64 x], .bool true]) (by simp [results, Tryd.results46, go_sem, r0]) rfl ⟨by rw [ele_yes HY.out, HY.out], HB2.out⟩
    · have e1 : (t != 1) = true := by simp [ht]
      have HY : Hid (isG x = false) := Lib.hid (by rw [HG.out]; exact beq_eq_false_iff_ne.2 ht)
      have r0 := gc0 (heap_alloc_new w (.cells #[.int .i64 0] 68))
      have HB2 := Lib.hid ((Below.refl w.heap.size w).alloc (Nat.le_refl _) (.cells #[.int .i64 0] 68))
      go_enter Tryd.func46, Tryd.ntmps46
      go_wp2_with fail
      refine (impl_in _ _ _ _ hx).mono ?_
      rw [H1.out]
      rintro e w1 ⟨rfl, hw⟩
      subst hw
      go_wp2_with fail
      refine (impl_pm (n := 1019) rfl (by omega) (by omega) (by omega) (by omega) (by omega)).mono ?_
      rw [← HT.out]
      rintro e w1 ⟨rfl, hw⟩
      subst hw
      go_wp2_with fail
      exact bodyPost_ret (v := .tuple #[.agg #[.int .i64 0], .bool false]) (by simp [results, Tryd.results46, go_sem, r0]) rfl ⟨by rw [ele_no HY.out, HY.out], HB2.out⟩

/-- spec.IsGroupElement. -/
theorem spec_isg {w : World} {x : Int} (hx : (Lit.int .i64 x).wf = true) :
    Calls Tryd.prog 65 #[.int .i64 x] w fun e w' => e = .returned (.bool (isG x)) ∧ w' = w := by
  cases h1 : inR x 1 2038 with
  | false =>
    have H1 := Lib.hid h1
    have HG := Lib.hid (isG_out h1)
    clear h1
    go_enter Tryd.func65, Tryd.ntmps65
    go_wp2_with fail
    refine (spec_in _ _ _ _ hx).mono ?_
    rw [H1.out]
    rintro e w1 ⟨rfl, hw⟩
    subst hw
    go_wp2_with fail
    go_ret
    exact ⟨by rw [HG.out]; rfl, rfl⟩
  | true =>
    have H1 := Lib.hid h1
    have hb := inR_of h1
    obtain ⟨t, ht⟩ : ∃ t, t = pwm 2039 x 1019 := ⟨_, rfl⟩
    have HG : Hid (isG x = (t == 1)) := Lib.hid (by rw [ht]; exact isG_pm h1)
    have HT := Lib.hid ht
    clear h1 ht
    go_enter Tryd.func65, Tryd.ntmps65
    go_wp2_with fail
    refine (spec_in _ _ _ _ hx).mono ?_
    rw [H1.out]
    rintro e w1 ⟨rfl, hw⟩
    subst hw
    go_wp2_with fail
    refine (spec_pm (n := 1019) rfl (by omega) (by omega) (by omega)).mono ?_
    rw [← HT.out]
    rintro e w1 ⟨rfl, hw⟩
    subst hw
    go_wp2_with fail
    go_ret
    exact ⟨by rw [HG.out]; rfl, rfl⟩

set_option maxHeartbeats 1000000 in
/-- impl.IsGroupElement. -/
theorem impl_isg {w : World} {x : Int} (hx : (Lit.int .i64 x).wf = true) :
    Calls Tryd.prog 24 #[.int .i64 x] w fun e w' => e = .returned (.bool (isG x)) ∧ Below w.heap.size w w' := by
  obtain ⟨q, hq⟩ : ∃ q, q = isG x := ⟨_, rfl⟩
  obtain ⟨y, hy⟩ : ∃ y, y = ele x := ⟨_, rfl⟩
  rw [← hq]
  have HQ := Lib.hid hq
  have HY := Lib.hid hy
  clear hq hy
  go_enter Tryd.func24, Tryd.ntmps24
  go_wp2_with fail
  refine (impl_el hx).mono ?_
  rw [← HQ.out, ← HY.out]
  rintro e w1 ⟨rfl, hb⟩
  have HB2 := Lib.hid (hb.alloc hb.size (.cells #[.int .i64 y] 68))
  clear hb
  go_wp2_with fail
  go_ret
  exact ⟨rfl, HB2.out⟩

theorem fld0 (w : World) (x : Int) : (Instr.field 68 (.agg #[.int .i64 x]) 0).run Tryd.prog w = .ok (.int .i64 x) w := by
  have p := run_part_plain (P := Tryd.prog) w (e := 3) (by kernel_rfl) (show (#[.int .i64 x] : Array Value)[0]? = some (.int .i64 x) from rfl)
  simp [Instr.field, run_underlying Tryd.underlying68, asAgg, p]
theorem gtwo (w : World) (o1 o2 : Obj) : ((w.alloc o1).alloc o2).heap[w.heap.size]? = some o1 ∧ ((w.alloc o1).alloc o2).heap[w.heap.size + 1]? = some o2 ∧ Below w.heap.size w ((w.alloc o1).alloc o2) := by
  have h1 := heap_alloc_new w o1
  have h2 := heap_alloc_new (w.alloc o1) o2
  rw [World.size_alloc] at h2
  exact ⟨(heap_alloc_old (w.alloc o1) o2 (lt_of_block h1)).trans h1, h2, ((Below.refl _ _).alloc (Nat.le_refl _) _).alloc (by simp) _⟩
theorem gthree (w : World) (o1 o2 o3 : Obj) : (((w.alloc o1).alloc o2).alloc o3).heap[w.heap.size]? = some o1 ∧ (((w.alloc o1).alloc o2).alloc o3).heap[w.heap.size + 1]? = some o2 ∧ (((w.alloc o1).alloc o2).alloc o3).heap[w.heap.size + 1 + 1]? = some o3 ∧ Below w.heap.size w (((w.alloc o1).alloc o2).alloc o3) := by
  obtain ⟨h1, h2, h3⟩ := gtwo w o1 o2
  have h4 := heap_alloc_new ((w.alloc o1).alloc o2) o3
  rw [World.size_alloc, World.size_alloc] at h4
  exact ⟨(heap_alloc_old _ o3 (lt_of_block h1)).trans h1, (heap_alloc_old _ o3 (lt_of_block h2)).trans h2, h4, h3.alloc h3.size _⟩

set_option maxHeartbeats 1000000 in
/-- groupElement.power. -/
theorem impl_power {w : World} {a n : Int} (ha : isG a = true) (hn : (Lit.int .i64 n).wf = true) :
    Calls Tryd.prog 50 #[.agg #[.int .i64 a], .int .i64 n] w fun e w' => e = .returned (.agg #[.int .i64 (pwG a n)]) ∧ Below w.heap.size w w' := by
  have b1 := el_bound ha
  obtain ⟨k1, k2, hb⟩ := gtwo w (.cells #[.int .i64 a] 68) (.cells #[.int .i64 0] 68)
  obtain ⟨W, hW⟩ : ∃ W, W = (w.alloc (.cells #[.int .i64 a] 68)).alloc (.cells #[.int .i64 0] 68) := ⟨_, rfl⟩
  rw [← hW] at k1 k2 hb
  have HW := Lib.hid hW
  have d0 : W.drew.cell? ⟨w.heap.size, 0, none⟩ = some (.int .i64 a) := gc0 k1
  have f0 : W.drew.frozen? ⟨w.heap.size + 1, 0, none⟩ = false := blk_free k2 0
  have d1 : W.drew.cell? ⟨w.heap.size + 1, 0, none⟩ = some (.int .i64 0) := gc0 k2
  obtain ⟨m, hm⟩ : ∃ m : Nat, n % 1019 = (m : Int) := ⟨(n % 1019).toNat, by omega⟩
  have hmb : m ≤ 1018 := by omega
  obtain ⟨x, hx⟩ : ∃ x, x = pwm 2039 a m := ⟨_, rfl⟩
  have HX := Lib.hid hx
  have HR : Hid (pwG a n = x) := Lib.hid (by rw [pwG_yes ha, hx, pwm_pw, hm, Int.toNat_natCast])
  obtain ⟨s1, s2⟩ := gst k2 (.int .i64 x)
  have s0 : (W.setCell ⟨w.heap.size + 1, 0, none⟩ (.int .i64 x)).drew.cell? ⟨w.heap.size, 0, none⟩ = some (.int .i64 a) := gc0 (w := W.setCell ⟨w.heap.size + 1, 0, none⟩ (.int .i64 x)) (((grown_set W (w.heap.size + 1) 0 (.int .i64 x)).block w.heap.size (lt_of_block k1) (by simp)).trans k1)
  have s3 : (W.setCell ⟨w.heap.size + 1, 0, none⟩ (.int .i64 x)).drew.cell? ⟨w.heap.size + 1, 0, none⟩ = some (.int .i64 x) := s2
  have HB := Lib.hid (hb.grown (grown_set _ (w.heap.size + 1) 0 (.int .i64 x)) hb.size (fun k hk => by injection hk with hk; omega)).drew
  have HM := Lib.hid hm
  clear hW k1 k2 hb s1 s2 hx hm
  go_enter Tryd.func50, Tryd.ntmps50
  go_wp2_with fail
  rw [← HW.out]
  go_region_held3 (fun w' => w'.cell? ⟨w.heap.size, 0, none⟩ = some (.int .i64 a)) (first | assumption | go_keep) ((first
    | (go_at_call 33
       go_loud (refine (fe_any hn).mono ?_
                rw [HM.out]
                rintro e' w1 ⟨he, hw⟩
                subst hw
                subst he))
    | (go_at_call 74
       go_loud (refine (impl_pm (n := m) rfl (by omega) (by omega) (by omega) (by omega) (by omega)).mono ?_
                rw [← HX.out]
                rintro e' w1 ⟨he, hw⟩
                subst hw
                subst he))))
  go_wp2_with fail
  exact bodyPost_ret (v := .agg #[.int .i64 x]) (by simp [results, Tryd.results50, go_sem, s3]) rfl ⟨by rw [HR.out], HB.out⟩

set_option maxHeartbeats 1000000 in
/-- impl.PowGroup. -/
theorem impl_pwg {w : World} {g n : Int} (hg : (Lit.int .i64 g).wf = true) (hn : (Lit.int .i64 n).wf = true) :
    Calls Tryd.prog 28 #[.int .i64 g, .int .i64 n] w fun e w' => e = .returned (.int .i64 (pwG g n)) ∧ Below w.heap.size w w' := by
  obtain ⟨y, hy⟩ : ∃ y, y = ele g := ⟨_, rfl⟩
  have HY := Lib.hid hy
  cases hq : isG g with
  | false =>
    have HQ := Lib.hid hq
    have HR := Lib.hid (pwG_no hq n)
    clear hq hy
    go_enter Tryd.func28, Tryd.ntmps28
    go_wp2_with fail
    refine (impl_el hg).mono ?_
    rw [HQ.out, ← HY.out]
    rintro e w1 ⟨rfl, hb⟩
    have HB2 := Lib.hid (hb.alloc hb.size (.cells #[.int .i64 y] 68))
    clear hb
    go_wp2_with fail
    go_ret
    exact ⟨by rw [HR.out]; rfl, HB2.out⟩
  | true =>
    have HQ := Lib.hid hq
    obtain ⟨x, hx⟩ : ∃ x, x = pwG g n := ⟨_, rfl⟩
    rw [← hx]
    have HX := Lib.hid hx
    have HYg := Lib.hid (ele_yes hq)
    clear hq hy hx HY
    go_enter Tryd.func28, Tryd.ntmps28
    go_wp2_with fail
    refine (impl_el hg).mono ?_
    rw [HQ.out, HYg.out]
    rintro e w1 ⟨rfl, hb⟩
    have HB2 := Lib.hid (hb.alloc hb.size (.cells #[.int .i64 g] 68))
    have k0 := gc0 (heap_alloc_new w1 (.cells #[.int .i64 g] 68))
    clear hb
    go_wp2_with fail
    refine (impl_power HQ.out hn).mono ?_
    rw [← HX.out]
    rintro e w2 ⟨rfl, hb⟩
    have hf := fld0 w2 x
    replace HB2 := Lib.hid (HB2.out.trans (hb.mono HB2.out.size))
    clear hb k0
    go_wp2_with fail
    go_ret
    exact ⟨rfl, HB2.out⟩

set_option maxHeartbeats 1000000 in
/-- spec.PowGroup. -/
theorem spec_pwg {w : World} {g n : Int} (hg : (Lit.int .i64 g).wf = true) (hn : (Lit.int .i64 n).wf = true) :
    Calls Tryd.prog 64 #[.int .i64 g, .int .i64 n] w fun e w' => e = .returned (.int .i64 (pwG g n)) ∧ w' = w := by
  cases hq : isG g with
  | false =>
    have HQ := Lib.hid hq
    have HR := Lib.hid (pwG_no hq n)
    clear hq
    go_enter Tryd.func64, Tryd.ntmps64
    go_wp2_with fail
    refine (spec_isg hg).mono ?_
    rw [HQ.out]
    rintro e w1 ⟨rfl, hw⟩
    subst hw
    go_wp2_with fail
    go_ret
    exact ⟨by rw [HR.out]; rfl, rfl⟩
  | true =>
    have HQ := Lib.hid hq
    have hb := el_bound hq
    have hnb := wf_i64 hn
    obtain ⟨m, hm⟩ : ∃ m : Nat, n % 1019 = (m : Int) := ⟨(n % 1019).toNat, by omega⟩
    have hmb : m ≤ 1018 := by omega
    obtain ⟨x, hx⟩ : ∃ x, x = pwm 2039 g m := ⟨_, rfl⟩
    have HX := Lib.hid hx
    have HR : Hid (pwG g n = x) := Lib.hid (by rw [pwG_yes hq, hx, pwm_pw, hm, Int.toNat_natCast])
    have HM : Hid (modV n 1019 = (m : Int)) := Lib.hid ((modV_1019 n).trans hm)
    clear hq hx hm
    go_enter Tryd.func64, Tryd.ntmps64
    go_wp2_with fail
    refine (spec_isg hg).mono ?_
    rw [HQ.out]
    rintro e w1 ⟨rfl, hw⟩
    subst hw
    go_wp2_with fail
    refine (spec_mod _ _ _ hnb.1 hnb.2).mono ?_
    rw [HM.out]
    rintro e w1 ⟨rfl, hw⟩
    subst hw
    go_wp2_with fail
    refine (spec_pm (n := m) rfl (by omega) (by omega) (by omega)).mono ?_
    rw [← HX.out]
    rintro e w1 ⟨rfl, hw⟩
    subst hw
    go_wp2_with fail
    go_ret
    exact ⟨by rw [HR.out]; rfl, rfl⟩

end Go.Proofs.YtlhpjfhglkngfaaDoor


/-! Gr3 -/
namespace Go.Proofs.YtlhpjfhglkngfaaDoor
open Go Go.RowKit
set_option linter.unusedVariables false
attribute [local irreducible] kh kid pwm tcm pw

/-- A wf for what is small. -/
theorem kid_nn (s c : Int) : 0 ≤ kid s c ∧ kid s c ≤ 2147483646 := kid_bound s c

theorem Own.lits4 {B : Nat} {w : World} {a b c d : Int} (k : IntKind) (e : TypeId) (hB : B ≤ w.heap.size) (ha : (Lit.int k a).wf = true) (hb : (Lit.int k b).wf = true) (hc : (Lit.int k c).wf = true) (hd : (Lit.int k d).wf = true) : Own e k B (w.alloc (.cells #[.int k a, .int k b, .int k c, .int k d] e)) (.slice (some ⟨w.heap.size, 0, none⟩) 4 4) [a, b, c, d] :=
  ⟨by intro t ht; simp at ht; rcases ht with rfl | rfl | rfl | rfl <;> assumption, by simp; omega, World.ownsRow_lit w #[.int k a, .int k b, .int k c, .int k d] 4 hB (by unfold maxLen; omega) rfl⟩
theorem Own.lits6 {B : Nat} {w : World} {a b c d f g : Int} (k : IntKind) (e : TypeId) (hB : B ≤ w.heap.size) (ha : (Lit.int k a).wf = true) (hb : (Lit.int k b).wf = true) (hc : (Lit.int k c).wf = true) (hd : (Lit.int k d).wf = true) (hf : (Lit.int k f).wf = true) (hg : (Lit.int k g).wf = true) : Own e k B (w.alloc (.cells #[.int k a, .int k b, .int k c, .int k d, .int k f, .int k g] e)) (.slice (some ⟨w.heap.size, 0, none⟩) 6 6) [a, b, c, d, f, g] :=
  ⟨by intro t ht; simp at ht; rcases ht with rfl | rfl | rfl | rfl | rfl | rfl <;> assumption, by simp; omega, World.ownsRow_lit w #[.int k a, .int k b, .int k c, .int k d, .int k f, .int k g] 6 hB (by unfold maxLen; omega) rfl⟩
theorem pwG_wf (g n : Int) : (Lit.int .i64 (pwG g n)).wf = true := by have := pwG_bound g n; exact wf_i64_of (by omega) (by omega)
theorem mulG_wf (g n : Int) : (Lit.int .i64 (mulG g n)).wf = true := by have := mulG_bound g n; exact wf_i64_of (by omega) (by omega)
theorem w64_wf (x : Int) : (Lit.int .i64 (wrap64 x)).wf = true := wf_i64_of (by unfold wrap64; omega) (by unfold wrap64; omega)


end Go.Proofs.YtlhpjfhglkngfaaDoor


/-! Gr4 -/
namespace Go.Proofs.YtlhpjfhglkngfaaDoor
open Go Go.RowKit
set_option linter.unusedVariables false
attribute [local irreducible] kh kid pwm tcm pw chl

theorem arr4 (a b c d : Int) {j : Nat} (h : j < 4) : (#[Value.int .i64 a, .int .i64 b, .int .i64 c, .int .i64 d] : Array Value)[j]? = some (.int .i64 ([a, b, c, d].getD j 0)) := by
  have : j = 0 ∨ j = 1 ∨ j = 2 ∨ j = 3 := by omega
  rcases this with rfl | rfl | rfl | rfl <;> rfl
theorem wf4 {a b c d : Int} (ha : (Lit.int .i64 a).wf = true) (hb : (Lit.int .i64 b).wf = true) (hc : (Lit.int .i64 c).wf = true) (hd : (Lit.int .i64 d).wf = true) {j : Nat} (h : j < 4) : (Lit.int .i64 ([a, b, c, d].getD j 0)).wf = true := by
  have : j = 0 ∨ j = 1 ∨ j = 2 ∨ j = 3 := by omega
  rcases this with rfl | rfl | rfl | rfl <;> assumption
theorem vrq_el {g h u v : Int} (c r : Int) {j : Nat} (hj : j < 4) (hn : isG ([g, h, u, v].getD j 0) = false) : vrf g h u v c r = false := by
  apply vrf_no
  have hq : isG g = false ∨ isG h = false ∨ isG u = false ∨ isG v = false := by
    have : j = 0 ∨ j = 1 ∨ j = 2 ∨ j = 3 := by omega
    rcases this with rfl | rfl | rfl | rfl
    · exact Or.inl hn
    · exact Or.inr (Or.inl hn)
    · exact Or.inr (Or.inr (Or.inl hn))
    · exact Or.inr (Or.inr (Or.inr hn))
  unfold vrq
  rcases hq with h | h | h | h <;> simp [h]
theorem vrf_c {g h u v c r : Int} (hn : inR c 0 1018 = false) : vrf g h u v c r = false := by
  apply vrf_no; unfold vrq; simp [hn]
theorem vrf_r {g h u v c r : Int} (hn : inR r 0 1018 = false) : vrf g h u v c r = false := by
  apply vrf_no; unfold vrq; simp [hn]
theorem vrf_yes {g h u v c r : Int} (h1 : isG g = true) (h2 : isG h = true) (h3 : isG u = true) (h4 : isG v = true) (h5 : inR c 0 1018 = true) (h6 : inR r 0 1018 = true) : vrf g h u v c r = (c == chl g h u v (mulG (pwG g r) (pwG u c)) (mulG (pwG h r) (pwG v c))) := by
  unfold vrf vrq; simp [h1, h2, h3, h4, h5, h6]


end Go.Proofs.YtlhpjfhglkngfaaDoor
