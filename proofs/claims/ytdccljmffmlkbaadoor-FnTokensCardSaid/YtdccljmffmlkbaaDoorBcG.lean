/- The small group: powers by squaring, elements; the program's and the document's. No conditions but numbers that a machine holds. The small group: elements, their products and powers, inverses of exponents, elements from hashes; the program's and the document's. No conditions but numbers that a machine holds. The small group: inverses of exponents, elements from hashes, proofs of equal exponents; the program's and the document's. No conditions but numbers that a machine holds. The small group: proofs of equal exponents checked; the program's and the document's. No conditions but numbers that a machine holds. -/
import Derived.Test.YtdccljmffmlkbaaDoorBcP
import Derived.Test.YtdccljmffmlkbaaDoorSh1
import Derived.Test.YtdccljmffmlkbaaDoorEnc
import Derived.Deep.RegionHeld3
import Derived.KernelRfl

/-! Gr1 -/
namespace Go.Proofs.YtdccljmffmlkbaaDoor
open Go Go.RowKit
set_option linter.unusedVariables false
attribute [local irreducible] kh kid pwm tcm pw

theorem pm_mul {a b m : Int} (ha0 : 0 ≤ a) (ha1 : a < m) (hb0 : 0 ≤ b) (hb1 : b < m) (hm : m ≤ 2039) : (wrap64 (a * b)).tmod m = a * b % m := by
  have h := mul_bound ha0 (by omega) hb0 (by omega)
  have e1 : wrap64 (a * b) = a * b := by generalize a * b = q at h ⊢; unfold wrap64; omega
  rw [e1]
  exact Int.tmod_eq_emod_of_nonneg h.1
theorem pm_mulw {a b : Int} (ha0 : 0 ≤ a) (ha1 : a < 2039) (hb0 : 0 ≤ b) (hb1 : b < 2039) : wrap64 (a * b) = a * b := by
  have h := mul_bound ha0 ha1 hb0 hb1
  generalize a * b = q at h ⊢
  unfold wrap64
  omega
theorem half_cast (k : Nat) : (k : Int) / 2 = ((k / 2 : Nat) : Int) := by omega

set_option maxHeartbeats 1000000 in
/-- impl.powerModulo. -/
theorem impl_pm {w : World} {g m k : Int} {n : Nat} (hk : k = (n : Int)) (h0 : 0 ≤ g) (h1 : g < m) (hm0 : 2 ≤ m) (hm : m ≤ 2039) (hn : n ≤ 1000000) :
    Calls Tryd.prog 61 #[.int .i64 g, .int .i64 k, .int .i64 m] w fun e w' => e = .returned (.int .i64 (pwm m g n)) ∧ w' = w := by
  subst hk
  obtain ⟨T, hT⟩ : ∃ T, T = pwm m g n := ⟨_, rfl⟩
  have HT := Lib.hid hT
  rw [← hT]
  clear hT
  have hmm : (m == 0) = false := beq_eq_false_iff_ne.2 (by omega)
  go_enter Tryd.func61, Tryd.ntmps61
  go_wp2_with fail
  go_loopw [0, 1, 7] (fun b e p wr => ∃ (x y : Int) (k : Nat), b = .int .i64 x ∧ e = .int .i64 k ∧ p = .int .i64 y ∧ k ≤ n ∧ 0 ≤ x ∧ x < m ∧ 0 ≤ y ∧ y < m ∧ tcm m y x k = T ∧ wr = w) (fun _ e _ _ => (intOf e).toNat)
  case atStart => exact ⟨g, 1, n, rfl, rfl, rfl, Nat.le_refl _, h0, h1, by omega, by omega, by rw [tcm_start, HT.out], rfl⟩
  case round =>
    obtain ⟨x, y, k, rfl, rfl, rfl, hk, hx0, hx1, hy0, hy1, htc, rfl⟩ := hrel
    have HTC := Lib.hid htc
    clear htc
    by_cases hlt : 0 < k
    · have e1 : decide ((0 : Int) < (k : Int)) = true := by simp; omega
      have P1 := Lib.hid (pm_mul hx0 hx1 hx0 hx1 hm)
      have P2 := Lib.hid (pm_mul hy0 hy1 hx0 hx1 hm)
      have Q1 := Lib.hid (mod_bd (x := x * x) (m := m) (by omega))
      have Q2 := Lib.hid (mod_bd (x := y * x) (m := m) (by omega))
      by_cases hod : k % 2 = 1
      · have e2 : (((k : Int) % 2 : Int) == 1) = true := by simp; omega
        have HE := Lib.hid (tcm_odd (m := m) (p := y) (b := x) hod)
        go_wp2_with fail
        refine ⟨⟨x * x % m, y * x % m, k / 2, by rw [P1.out], by rw [half_cast], by rw [P2.out], by omega, Q1.out.1, Q1.out.2, Q2.out.1, Q2.out.2, HE.out.trans HTC.out, trivial⟩, ?_⟩
        simp [intOf]; omega
      · have e2 : (((k : Int) % 2 : Int) == 1) = false := by simp; omega
        have HE := Lib.hid (tcm_even (m := m) (p := y) (b := x) (e := k) (by omega))
        go_wp2_with fail
        refine ⟨⟨x * x % m, y, k / 2, by rw [P1.out], by rw [half_cast], rfl, by omega, Q1.out.1, Q1.out.2, hy0, hy1, HE.out.trans HTC.out, trivial⟩, ?_⟩
        simp [intOf]; omega
    · have e1 : decide ((0 : Int) < (k : Int)) = false := by simp; omega
      obtain rfl : k = 0 := by omega
      have HY : Hid (y = T) := Lib.hid ((tcm_end hy0 hy1).symm.trans HTC.out)
      go_wp2_with fail
      go_ret
      exact ⟨by rw [HY.out]; rfl, rfl⟩

set_option maxHeartbeats 1000000 in
/-- spec.l15Pow. -/
theorem spec_pm {w : World} {g k : Int} {n : Nat} (hk : k = (n : Int)) (h0 : 0 ≤ g) (h1 : g < 2039) (hn : n ≤ 1000000) :
    Calls Tryd.prog 56 #[.int .i64 g, .int .i64 k] w fun e w' => e = .returned (.int .i64 (pwm 2039 g n)) ∧ w' = w := by
  subst hk
  obtain ⟨T, hT⟩ : ∃ T, T = pwm 2039 g n := ⟨_, rfl⟩
  have HT := Lib.hid hT
  rw [← hT]
  clear hT
  go_enter Tryd.func56, Tryd.ntmps56
  go_wp2_with fail
  go_loopw [0, 1, 5] (fun b e p wr => ∃ (x y : Int) (k : Nat), b = .int .i64 x ∧ e = .int .i64 k ∧ p = .int .i64 y ∧ k ≤ n ∧ 0 ≤ x ∧ x < 2039 ∧ 0 ≤ y ∧ y < 2039 ∧ tcm 2039 y x k = T ∧ wr = w) (fun _ e _ _ => (intOf e).toNat)
  case atStart => exact ⟨g, 1, n, rfl, rfl, rfl, Nat.le_refl _, h0, h1, by omega, by omega, by rw [tcm_start, HT.out], rfl⟩
  case round =>
    obtain ⟨x, y, k, rfl, rfl, rfl, hk, hx0, hx1, hy0, hy1, htc, rfl⟩ := hrel
    have HTC := Lib.hid htc
    clear htc
    by_cases hlt : 0 < k
    · have e1 : decide ((0 : Int) < (k : Int)) = true := by simp; omega
      have P1 := Lib.hid (pm_mul hx0 hx1 hx0 hx1 (Int.le_refl _))
      have P2 := Lib.hid (pm_mul hy0 hy1 hx0 hx1 (Int.le_refl _))
      have Q1 := Lib.hid (mod_bd (x := x * x) (m := 2039) (by omega))
      have Q2 := Lib.hid (mod_bd (x := y * x) (m := 2039) (by omega))
      have ha := i64_and1 (k : Int)
      by_cases hod : k % 2 = 1
      · have e2 : (((k : Int) % 2 : Int) == 1) = true := by simp; omega
        have HE := Lib.hid (tcm_odd (m := 2039) (p := y) (b := x) hod)
        go_wp2_with fail
        refine ⟨⟨x * x % 2039, y * x % 2039, k / 2, by rw [P1.out], by rw [half_cast], by rw [P2.out], by omega, Q1.out.1, Q1.out.2, Q2.out.1, Q2.out.2, HE.out.trans HTC.out, trivial⟩, ?_⟩
        simp [intOf]; omega
      · have e2 : (((k : Int) % 2 : Int) == 1) = false := by simp; omega
        have HE := Lib.hid (tcm_even (m := 2039) (p := y) (b := x) (e := k) (by omega))
        go_wp2_with fail
        refine ⟨⟨x * x % 2039, y, k / 2, by rw [P1.out], by rw [half_cast], rfl, by omega, Q1.out.1, Q1.out.2, hy0, hy1, HE.out.trans HTC.out, trivial⟩, ?_⟩
        simp [intOf]; omega
    · have e1 : decide ((0 : Int) < (k : Int)) = false := by simp; omega
      obtain rfl : k = 0 := by omega
      have HY : Hid (y = T) := Lib.hid ((tcm_end hy0 hy1).symm.trans HTC.out)
      go_wp2_with fail
      go_ret
      exact ⟨by rw [HY.out]; rfl, rfl⟩

end Go.Proofs.YtdccljmffmlkbaaDoor


/-! Gr2 -/
namespace Go.Proofs.YtdccljmffmlkbaaDoor
open Go Go.RowKit
set_option linter.unusedVariables false
attribute [local irreducible] kh kid pwm tcm pw

theorem gc0 {w : World} {b : Nat} {y : Value} {t : TypeId} {fz : Nat × Nat} (h : w.heap[b]? = some (.cells #[y] t fz)) : w.cell? ⟨b, 0, none⟩ = some y := blk_cell h 0
/-- A block of one cell, written. -/
theorem gst {w : World} {b : Nat} {y : Value} {t : TypeId} (h : w.heap[b]? = some (.cells #[y] t (0, 0))) (x : Value) : (w.setCell ⟨b, 0, none⟩ x).heap[b]? = some (.cells #[x] t (0, 0)) ∧ (w.setCell ⟨b, 0, none⟩ x).cell? ⟨b, 0, none⟩ = some x := by
  have h1 : (w.setCell ⟨b, 0, none⟩ x).heap[b]? = some (.cells #[x] t (0, 0)) := blk_set h 0 x
  exact ⟨h1, gc0 h1⟩
def ele (x : Int) : Int := if isG x = true then x else 0
theorem ele_yes {x : Int} (h : isG x = true) : ele x = x := if_pos h
theorem ele_no {x : Int} (h : isG x = false) : ele x = 0 := if_neg (by rw [h]; decide)
theorem isG_out {x : Int} (h : inR x 1 2038 = false) : isG x = false := by unfold isG; rw [h]; rfl
theorem isG_pm {x : Int} (h : inR x 1 2038 = true) : isG x = (pwm 2039 x 1019 == 1) := by unfold isG; rw [h, pwm_pw]; rfl
theorem inR_of {x a b : Int} (h : inR x a b = true) : a ≤ x ∧ x ≤ b := by unfold inR at h; simpa using h
theorem el_bound {x : Int} (h : isG x = true) : 1 ≤ x ∧ x ≤ 2038 := (isG_iff.1 h).1
theorem small_wf {x : Int} (h0 : -1 ≤ x) (h1 : x ≤ 5000) : (Lit.int .i64 x).wf = true := wf_i64_of (by omega) (by omega)

set_option maxHeartbeats 1000000 in
/-- impl.elementOf. -/
theorem impl_el {w : World} {x : Int} (hx : (Lit.int .i64 x).wf = true) :
    Calls Tryd.prog 57 #[.int .i64 x] w fun e w' => e = .returned (.tuple #[.agg #[.int .i64 (ele x)], .bool (isG x)]) ∧ Below w.heap.size w w' := by
  cases h1 : inR x 1 2038 with
  | false =>
    have H1 := Lib.hid h1
    have HG := Lib.hid (isG_out h1)
    have r0 := gc0 (heap_alloc_new w (.cells #[.int .i64 0] 75))
    have HB2 := Lib.hid ((Below.refl w.heap.size w).alloc (Nat.le_refl _) (.cells #[.int .i64 0] 75))
    clear h1
    go_enter Tryd.func57, Tryd.ntmps57
    go_wp2_with fail
    refine (impl_in _ _ _ _ hx).mono ?_
    rw [H1.out]
    rintro e w1 ⟨rfl, hw⟩
    subst hw
    go_wp2_with fail
    exact bodyPost_ret (v := .tuple #[.agg #[.int .i64 0], .bool false]) (by simp [results, Tryd.results57, go_sem, r0]) rfl ⟨by rw [ele_no HG.out, HG.out], HB2.out⟩
  | true =>
    have H1 := Lib.hid h1
    have hb := inR_of h1
    obtain ⟨t, ht⟩ : ∃ t, t = pwm 2039 x 1019 := ⟨_, rfl⟩
    have HG : Hid (isG x = (t == 1)) := Lib.hid (by rw [ht]; exact isG_pm h1)
    have HT := Lib.hid ht
    clear h1 ht
    by_cases ht : t = 1
    · have e1 : (t != 1) = false := by simp [ht]
      have HY : Hid (isG x = true) := Lib.hid (by rw [HG.out, ht]; rfl)
      have r0 := gc0 (heap_alloc_new w (.cells #[.int .i64 x] 75))
      have HB2 := Lib.hid ((Below.refl w.heap.size w).alloc (Nat.le_refl _) (.cells #[.int .i64 x] 75))
      go_enter Tryd.func57, Tryd.ntmps57
      go_wp2_with fail
      refine (impl_in _ _ _ _ hx).mono ?_
      rw [H1.out]
      rintro e w1 ⟨rfl, hw⟩
      subst hw
      go_wp2_with fail
      refine (impl_pm (n := 1019) rfl (by omega) (by omega) (by omega) (by omega) (by omega)).mono ?_
      rw [← HT.out]
      rintro e w1 ⟨rfl, hw⟩
      subst hw
      go_wp2_with fail
      exact bodyPost_ret (v := .tuple #[.agg #[.int .i64 x], .bool true]) (by simp [results, Tryd.results57, go_sem, r0]) rfl ⟨by rw [ele_yes HY.out, HY.out], HB2.out⟩
    · have e1 : (t != 1) = true := by simp [ht]
      have HY : Hid (isG x = false) := Lib.hid (by rw [HG.out]; exact beq_eq_false_iff_ne.2 ht)
      have r0 := gc0 (heap_alloc_new w (.cells #[.int .i64 0] 75))
      have HB2 := Lib.hid ((Below.refl w.heap.size w).alloc (Nat.le_refl _) (.cells #[.int .i64 0] 75))
      go_enter Tryd.func57, Tryd.ntmps57
      go_wp2_with fail
      refine (impl_in _ _ _ _ hx).mono ?_
      rw [H1.out]
      rintro e w1 ⟨rfl, hw⟩
      subst hw
      go_wp2_with fail
      refine (impl_pm (n := 1019) rfl (by omega) (by omega) (by omega) (by omega) (by omega)).mono ?_
      rw [← HT.out]
      rintro e w1 ⟨rfl, hw⟩
      subst hw
      go_wp2_with fail
      exact bodyPost_ret (v := .tuple #[.agg #[.int .i64 0], .bool false]) (by simp [results, Tryd.results57, go_sem, r0]) rfl ⟨by rw [ele_no HY.out, HY.out], HB2.out⟩

/-- spec.IsGroupElement. -/
theorem spec_isg {w : World} {x : Int} (hx : (Lit.int .i64 x).wf = true) :
    Calls Tryd.prog 19 #[.int .i64 x] w fun e w' => e = .returned (.bool (isG x)) ∧ w' = w := by
  cases h1 : inR x 1 2038 with
  | false =>
    have H1 := Lib.hid h1
    have HG := Lib.hid (isG_out h1)
    clear h1
    go_enter Tryd.func19, Tryd.ntmps19
    go_wp2_with fail
    refine (spec_in _ _ _ _ hx).mono ?_
    rw [H1.out]
    rintro e w1 ⟨rfl, hw⟩
    subst hw
    go_wp2_with fail
    go_ret
    exact ⟨by rw [HG.out]; rfl, rfl⟩
  | true =>
    have H1 := Lib.hid h1
    have hb := inR_of h1
    obtain ⟨t, ht⟩ : ∃ t, t = pwm 2039 x 1019 := ⟨_, rfl⟩
    have HG : Hid (isG x = (t == 1)) := Lib.hid (by rw [ht]; exact isG_pm h1)
    have HT := Lib.hid ht
    clear h1 ht
    go_enter Tryd.func19, Tryd.ntmps19
    go_wp2_with fail
    refine (spec_in _ _ _ _ hx).mono ?_
    rw [H1.out]
    rintro e w1 ⟨rfl, hw⟩
    subst hw
    go_wp2_with fail
    refine (spec_pm (n := 1019) rfl (by omega) (by omega) (by omega)).mono ?_
    rw [← HT.out]
    rintro e w1 ⟨rfl, hw⟩
    subst hw
    go_wp2_with fail
    go_ret
    exact ⟨by rw [HG.out]; rfl, rfl⟩

set_option maxHeartbeats 1000000 in
/-- impl.IsGroupElement. -/
theorem impl_isg {w : World} {x : Int} (hx : (Lit.int .i64 x).wf = true) :
    Calls Tryd.prog 23 #[.int .i64 x] w fun e w' => e = .returned (.bool (isG x)) ∧ Below w.heap.size w w' := by
  obtain ⟨q, hq⟩ : ∃ q, q = isG x := ⟨_, rfl⟩
  obtain ⟨y, hy⟩ : ∃ y, y = ele x := ⟨_, rfl⟩
  rw [← hq]
  have HQ := Lib.hid hq
  have HY := Lib.hid hy
  clear hq hy
  go_enter Tryd.func23, Tryd.ntmps23
  go_wp2_with fail
  refine (impl_el hx).mono ?_
  rw [← HQ.out, ← HY.out]
  rintro e w1 ⟨rfl, hb⟩
  have HB2 := Lib.hid (hb.alloc hb.size (.cells #[.int .i64 y] 75))
  clear hb
  go_wp2_with fail
  go_ret
  exact ⟨rfl, HB2.out⟩

theorem fld0 (w : World) (x : Int) : (Instr.field 75 (.agg #[.int .i64 x]) 0).run Tryd.prog w = .ok (.int .i64 x) w := by
  have p := run_part_plain (P := Tryd.prog) w (e := 3) (by kernel_rfl) (show (#[.int .i64 x] : Array Value)[0]? = some (.int .i64 x) from rfl)
  simp [Instr.field, run_underlying Tryd.underlying75, asAgg, p]
theorem gtwo (w : World) (o1 o2 : Obj) : ((w.alloc o1).alloc o2).heap[w.heap.size]? = some o1 ∧ ((w.alloc o1).alloc o2).heap[w.heap.size + 1]? = some o2 ∧ Below w.heap.size w ((w.alloc o1).alloc o2) := by
  have h1 := heap_alloc_new w o1
  have h2 := heap_alloc_new (w.alloc o1) o2
  rw [World.size_alloc] at h2
  exact ⟨(heap_alloc_old (w.alloc o1) o2 (lt_of_block h1)).trans h1, h2, ((Below.refl _ _).alloc (Nat.le_refl _) _).alloc (by simp) _⟩
theorem gthree (w : World) (o1 o2 o3 : Obj) : (((w.alloc o1).alloc o2).alloc o3).heap[w.heap.size]? = some o1 ∧ (((w.alloc o1).alloc o2).alloc o3).heap[w.heap.size + 1]? = some o2 ∧ (((w.alloc o1).alloc o2).alloc o3).heap[w.heap.size + 1 + 1]? = some o3 ∧ Below w.heap.size w (((w.alloc o1).alloc o2).alloc o3) := by
  obtain ⟨h1, h2, h3⟩ := gtwo w o1 o2
  have h4 := heap_alloc_new ((w.alloc o1).alloc o2) o3
  rw [World.size_alloc, World.size_alloc] at h4
  exact ⟨(heap_alloc_old _ o3 (lt_of_block h1)).trans h1, (heap_alloc_old _ o3 (lt_of_block h2)).trans h2, h4, h3.alloc h3.size _⟩

set_option maxHeartbeats 1000000 in
/-- groupElement.times. -/
theorem impl_times {w : World} {a b : Int} (ha : isG a = true) (hb : isG b = true) :
    Calls Tryd.prog 60 #[.agg #[.int .i64 a], .agg #[.int .i64 b]] w fun e w' => e = .returned (.agg #[.int .i64 (a * b % 2039)]) ∧ Below w.heap.size w w' := by
  have b1 := el_bound ha
  have b2 := el_bound hb
  have HP := Lib.hid (pm_mul (m := 2039) (a := a) (b := b) (by omega) (by omega) (by omega) (by omega) (Int.le_refl _))
  have HP' := pm_mulw (a := a) (b := b) (by omega) (by omega) (by omega) (by omega)
  obtain ⟨x, hx⟩ : ∃ x, x = a * b % 2039 := ⟨_, rfl⟩
  have hm : (a * b).tmod 2039 = x := by rw [hx, ← HP.out, HP']
  obtain ⟨p, hp⟩ : ∃ p, p = a * b := ⟨_, rfl⟩
  obtain ⟨k1, k2, k3, hb⟩ := gthree w (.cells #[.int .i64 a] 75) (.cells #[.int .i64 b] 75) (.cells #[.int .i64 0] 75)
  obtain ⟨c1, c2, c3, hb2⟩ := gthree w (.cells #[.int .i64 a] 75) (.cells #[.int .i64 b] 75) (.cells #[.int .i64 x] 75)
  have q1 := gc0 k1
  have q2 := gc0 k2
  have r0 := gc0 c3
  have HB := Lib.hid hb2
  rw [← hx]
  clear k1 k2 k3 hb c1 c2 c3 hb2 HP hx hp
  go_enter Tryd.func60, Tryd.ntmps60
  go_wp2_with fail
  exact bodyPost_ret (v := .agg #[.int .i64 x]) (by simp [results, Tryd.results60, go_sem, r0]) rfl ⟨rfl, HB.out⟩

set_option maxHeartbeats 1000000 in
/-- groupElement.power. -/
theorem impl_power {w : World} {a n : Int} (ha : isG a = true) (hn : (Lit.int .i64 n).wf = true) :
    Calls Tryd.prog 58 #[.agg #[.int .i64 a], .int .i64 n] w fun e w' => e = .returned (.agg #[.int .i64 (pwG a n)]) ∧ Below w.heap.size w w' := by
  have b1 := el_bound ha
  obtain ⟨k1, k2, hb⟩ := gtwo w (.cells #[.int .i64 a] 75) (.cells #[.int .i64 0] 75)
  obtain ⟨W, hW⟩ : ∃ W, W = (w.alloc (.cells #[.int .i64 a] 75)).alloc (.cells #[.int .i64 0] 75) := ⟨_, rfl⟩
  rw [← hW] at k1 k2 hb
  have HW := Lib.hid hW
  have d0 : W.drew.cell? ⟨w.heap.size, 0, none⟩ = some (.int .i64 a) := gc0 k1
  have f0 : W.drew.frozen? ⟨w.heap.size + 1, 0, none⟩ = false := blk_free k2 0
  have d1 : W.drew.cell? ⟨w.heap.size + 1, 0, none⟩ = some (.int .i64 0) := gc0 k2
  obtain ⟨m, hm⟩ : ∃ m : Nat, n % 1019 = (m : Int) := ⟨(n % 1019).toNat, by omega⟩
  have hmb : m ≤ 1018 := by omega
  obtain ⟨x, hx⟩ : ∃ x, x = pwm 2039 a m := ⟨_, rfl⟩
  have HX := Lib.hid hx
  have HR : Hid (pwG a n = x) := Lib.hid (by rw [pwG_yes ha, hx, pwm_pw, hm, Int.toNat_natCast])
  obtain ⟨s1, s2⟩ := gst k2 (.int .i64 x)
  have s0 : (W.setCell ⟨w.heap.size + 1, 0, none⟩ (.int .i64 x)).drew.cell? ⟨w.heap.size, 0, none⟩ = some (.int .i64 a) := gc0 (w := W.setCell ⟨w.heap.size + 1, 0, none⟩ (.int .i64 x)) (((grown_set W (w.heap.size + 1) 0 (.int .i64 x)).block w.heap.size (lt_of_block k1) (by simp)).trans k1)
  have s3 : (W.setCell ⟨w.heap.size + 1, 0, none⟩ (.int .i64 x)).drew.cell? ⟨w.heap.size + 1, 0, none⟩ = some (.int .i64 x) := s2
  have HB := Lib.hid (hb.grown (grown_set _ (w.heap.size + 1) 0 (.int .i64 x)) hb.size (fun k hk => by injection hk with hk; omega)).drew
  have HM := Lib.hid hm
  clear hW k1 k2 hb s1 s2 hx hm
  go_enter Tryd.func58, Tryd.ntmps58
  go_wp2_with fail
  rw [← HW.out]
  go_region_held3 (fun w' => w'.cell? ⟨w.heap.size, 0, none⟩ = some (.int .i64 a)) (first | assumption | go_keep) ((first
    | (go_at_call 62
       go_loud (refine (fe_any hn).mono ?_
                rw [HM.out]
                rintro e' w1 ⟨he, hw⟩
                subst hw
                subst he))
    | (go_at_call 61
       go_loud (refine (impl_pm (n := m) rfl (by omega) (by omega) (by omega) (by omega) (by omega)).mono ?_
                rw [← HX.out]
                rintro e' w1 ⟨he, hw⟩
                subst hw
                subst he))))
  go_wp2_with fail
  exact bodyPost_ret (v := .agg #[.int .i64 x]) (by simp [results, Tryd.results58, go_sem, s3]) rfl ⟨by rw [HR.out], HB.out⟩

set_option maxHeartbeats 1000000 in
/-- impl.PowGroup. -/
theorem impl_pwg {w : World} {g n : Int} (hg : (Lit.int .i64 g).wf = true) (hn : (Lit.int .i64 n).wf = true) :
    Calls Tryd.prog 20 #[.int .i64 g, .int .i64 n] w fun e w' => e = .returned (.int .i64 (pwG g n)) ∧ Below w.heap.size w w' := by
  obtain ⟨y, hy⟩ : ∃ y, y = ele g := ⟨_, rfl⟩
  have HY := Lib.hid hy
  cases hq : isG g with
  | false =>
    have HQ := Lib.hid hq
    have HR := Lib.hid (pwG_no hq n)
    clear hq hy
    go_enter Tryd.func20, Tryd.ntmps20
    go_wp2_with fail
    refine (impl_el hg).mono ?_
    rw [HQ.out, ← HY.out]
    rintro e w1 ⟨rfl, hb⟩
    have HB2 := Lib.hid (hb.alloc hb.size (.cells #[.int .i64 y] 75))
    clear hb
    go_wp2_with fail
    go_ret
    exact ⟨by rw [HR.out]; rfl, HB2.out⟩
  | true =>
    have HQ := Lib.hid hq
    obtain ⟨x, hx⟩ : ∃ x, x = pwG g n := ⟨_, rfl⟩
    rw [← hx]
    have HX := Lib.hid hx
    have HYg := Lib.hid (ele_yes hq)
    clear hq hy hx HY
    go_enter Tryd.func20, Tryd.ntmps20
    go_wp2_with fail
    refine (impl_el hg).mono ?_
    rw [HQ.out, HYg.out]
    rintro e w1 ⟨rfl, hb⟩
    have HB2 := Lib.hid (hb.alloc hb.size (.cells #[.int .i64 g] 75))
    have k0 := gc0 (heap_alloc_new w1 (.cells #[.int .i64 g] 75))
    clear hb
    go_wp2_with fail
    refine (impl_power HQ.out hn).mono ?_
    rw [← HX.out]
    rintro e w2 ⟨rfl, hb⟩
    have hf := fld0 w2 x
    replace HB2 := Lib.hid (HB2.out.trans (hb.mono HB2.out.size))
    clear hb k0
    go_wp2_with fail
    go_ret
    exact ⟨rfl, HB2.out⟩

set_option maxHeartbeats 1000000 in
/-- spec.PowGroup. -/
theorem spec_pwg {w : World} {g n : Int} (hg : (Lit.int .i64 g).wf = true) (hn : (Lit.int .i64 n).wf = true) :
    Calls Tryd.prog 73 #[.int .i64 g, .int .i64 n] w fun e w' => e = .returned (.int .i64 (pwG g n)) ∧ w' = w := by
  cases hq : isG g with
  | false =>
    have HQ := Lib.hid hq
    have HR := Lib.hid (pwG_no hq n)
    clear hq
    go_enter Tryd.func73, Tryd.ntmps73
    go_wp2_with fail
    refine (spec_isg hg).mono ?_
    rw [HQ.out]
    rintro e w1 ⟨rfl, hw⟩
    subst hw
    go_wp2_with fail
    go_ret
    exact ⟨by rw [HR.out]; rfl, rfl⟩
  | true =>
    have HQ := Lib.hid hq
    have hb := el_bound hq
    have hnb := wf_i64 hn
    obtain ⟨m, hm⟩ : ∃ m : Nat, n % 1019 = (m : Int) := ⟨(n % 1019).toNat, by omega⟩
    have hmb : m ≤ 1018 := by omega
    obtain ⟨x, hx⟩ : ∃ x, x = pwm 2039 g m := ⟨_, rfl⟩
    have HX := Lib.hid hx
    have HR : Hid (pwG g n = x) := Lib.hid (by rw [pwG_yes hq, hx, pwm_pw, hm, Int.toNat_natCast])
    have HM : Hid (modV n 1019 = (m : Int)) := Lib.hid ((modV_1019 n).trans hm)
    clear hq hx hm
    go_enter Tryd.func73, Tryd.ntmps73
    go_wp2_with fail
    refine (spec_isg hg).mono ?_
    rw [HQ.out]
    rintro e w1 ⟨rfl, hw⟩
    subst hw
    go_wp2_with fail
    refine (spec_mod _ _ _ hnb.1 hnb.2).mono ?_
    rw [HM.out]
    rintro e w1 ⟨rfl, hw⟩
    subst hw
    go_wp2_with fail
    refine (spec_pm (n := m) rfl (by omega) (by omega) (by omega)).mono ?_
    rw [← HX.out]
    rintro e w1 ⟨rfl, hw⟩
    subst hw
    go_wp2_with fail
    go_ret
    exact ⟨by rw [HR.out]; rfl, rfl⟩

set_option maxHeartbeats 1000000 in
/-- impl.MulGroup. -/
theorem impl_mul {w : World} {a b : Int} (ha : (Lit.int .i64 a).wf = true) (hb : (Lit.int .i64 b).wf = true) :
    Calls Tryd.prog 24 #[.int .i64 a, .int .i64 b] w fun e w' => e = .returned (.int .i64 (mulG a b)) ∧ Below w.heap.size w w' := by
  obtain ⟨y, hy⟩ : ∃ y, y = ele a := ⟨_, rfl⟩
  obtain ⟨z, hz⟩ : ∃ z, z = ele b := ⟨_, rfl⟩
  obtain ⟨p, hp⟩ : ∃ p, p = isG a := ⟨_, rfl⟩
  obtain ⟨q, hq⟩ : ∃ q, q = isG b := ⟨_, rfl⟩
  have HY := Lib.hid hy
  have HZ := Lib.hid hz
  have HP := Lib.hid hp
  have HQ := Lib.hid hq
  clear hy hz hp hq
  go_enter Tryd.func24, Tryd.ntmps24
  go_wp2_with fail
  refine (impl_el ha).mono ?_
  rw [← HP.out, ← HY.out]
  rintro e w1 ⟨rfl, h1⟩
  have HB := Lib.hid (h1.alloc h1.size (.cells #[.int .i64 y] 75))
  have HK := Lib.hid (heap_alloc_new w1 (.cells #[.int .i64 y] 75))
  clear h1
  go_wp2_with fail
  refine (impl_el hb).mono ?_
  rw [← HQ.out, ← HZ.out]
  rintro e w2 ⟨rfl, h1⟩
  have hk2 := (heap_alloc_old w2 (.cells #[.int .i64 z] 75) (Nat.lt_of_lt_of_le (lt_of_block HK.out) h1.size)).trans ((h1.block _ (lt_of_block HK.out)).trans HK.out)
  have hk3 := heap_alloc_new w2 (.cells #[.int .i64 z] 75)
  have h2 := HB.out.trans (h1.mono HB.out.size)
  have HB2 := Lib.hid (h2.alloc h2.size (.cells #[.int .i64 z] 75))
  have k2 := gc0 hk2
  have k3 := gc0 hk3
  clear h1 h2 hk2 hk3
  cases p with
  | false =>
    have HR : Hid (mulG a b = 0) := Lib.hid (by unfold mulG; rw [← HP.out]; rfl)
    go_wp2_with fail
    go_ret
    exact ⟨by rw [HR.out]; rfl, HB2.out⟩
  | true =>
    cases q with
    | false =>
      have HR : Hid (mulG a b = 0) := Lib.hid (by unfold mulG; rw [← HP.out, ← HQ.out]; rfl)
      go_wp2_with fail
      go_ret
      exact ⟨by rw [HR.out]; rfl, HB2.out⟩
    | true =>
      obtain rfl : a = y := by rw [HY.out, ele_yes HP.out.symm]
      obtain rfl : b = z := by rw [HZ.out, ele_yes HQ.out.symm]
      obtain ⟨x, hx⟩ : ∃ x, x = a * b % 2039 := ⟨_, rfl⟩
      have HX := Lib.hid hx
      have HR : Hid (mulG a b = x) := Lib.hid (by rw [hx]; exact mulG_yes HP.out.symm HQ.out.symm)
      clear hx
      go_wp2_with fail
      refine (impl_times HP.out.symm HQ.out.symm).mono ?_
      rw [← HX.out]
      rintro e w3 ⟨rfl, h1⟩
      have hf := fld0 w3 x
      replace HB2 := Lib.hid (HB2.out.trans (h1.mono HB2.out.size))
      clear h1 k2 k3
      go_wp2_with fail
      go_ret
      exact ⟨by rw [HR.out]; rfl, HB2.out⟩

set_option maxHeartbeats 1000000 in
/-- spec.MulGroup. -/
theorem spec_mul {w : World} {a b : Int} (ha : (Lit.int .i64 a).wf = true) (hb : (Lit.int .i64 b).wf = true) :
    Calls Tryd.prog 33 #[.int .i64 a, .int .i64 b] w fun e w' => e = .returned (.int .i64 (mulG a b)) ∧ w' = w := by
  obtain ⟨p, hp⟩ : ∃ p, p = isG a := ⟨_, rfl⟩
  obtain ⟨q, hq⟩ : ∃ q, q = isG b := ⟨_, rfl⟩
  have HP := Lib.hid hp
  have HQ := Lib.hid hq
  clear hp hq
  cases p with
  | false =>
    have HR : Hid (mulG a b = 0) := Lib.hid (by unfold mulG; rw [← HP.out]; rfl)
    go_enter Tryd.func33, Tryd.ntmps33
    go_wp2_with fail
    refine (spec_isg ha).mono ?_
    rw [← HP.out]
    rintro e w1 ⟨rfl, hw⟩
    subst hw
    go_wp2_with fail
    go_ret
    exact ⟨by rw [HR.out]; rfl, rfl⟩
  | true =>
    cases q with
    | false =>
      have HR : Hid (mulG a b = 0) := Lib.hid (by unfold mulG; rw [← HP.out, ← HQ.out]; rfl)
      go_enter Tryd.func33, Tryd.ntmps33
      go_wp2_with fail
      refine (spec_isg ha).mono ?_
      rw [← HP.out]
      rintro e w1 ⟨rfl, hw⟩
      subst hw
      go_wp2_with fail
      refine (spec_isg hb).mono ?_
      rw [← HQ.out]
      rintro e w1 ⟨rfl, hw⟩
      subst hw
      go_wp2_with fail
      go_ret
      exact ⟨by rw [HR.out]; rfl, rfl⟩
    | true =>
      have b1 := el_bound HP.out.symm
      have b2 := el_bound HQ.out.symm
      have HM := Lib.hid (pm_mul (m := 2039) (a := a) (b := b) (by omega) (by omega) (by omega) (by omega) (Int.le_refl _))
      have HR : Hid (mulG a b = a * b % 2039) := Lib.hid (mulG_yes HP.out.symm HQ.out.symm)
      go_enter Tryd.func33, Tryd.ntmps33
      go_wp2_with fail
      refine (spec_isg ha).mono ?_
      rw [← HP.out]
      rintro e w1 ⟨rfl, hw⟩
      subst hw
      go_wp2_with fail
      refine (spec_isg hb).mono ?_
      rw [← HQ.out]
      rintro e w1 ⟨rfl, hw⟩
      subst hw
      go_wp2_with fail
      go_ret
      exact ⟨rint (by rw [HR.out, HM.out]), rfl⟩

end Go.Proofs.YtdccljmffmlkbaaDoor


/-! Gr3 -/
namespace Go.Proofs.YtdccljmffmlkbaaDoor
open Go Go.RowKit
set_option linter.unusedVariables false
attribute [local irreducible] kh kid pwm tcm pw

/-- impl.InverseExponent. -/
theorem impl_inv {w : World} {n : Int} (hn : (Lit.int .i64 n).wf = true) :
    Calls Tryd.prog 22 #[.int .i64 n] w fun e w' => e = .returned (.int .i64 (invE n)) ∧ w' = w := by
  obtain ⟨x, hx⟩ : ∃ x, x = n % 1019 := ⟨_, rfl⟩
  have hb : 0 ≤ x ∧ x < 1019 := by omega
  obtain ⟨y, hy⟩ : ∃ y, y = invE n := ⟨_, rfl⟩
  have HY : Hid (pwm 1019 x 1017 = y) := Lib.hid (by rw [hx, hy]; exact pwm_inv rfl n)
  rw [← hy]
  have HX := Lib.hid hx
  clear hx hy
  go_enter Tryd.func22, Tryd.ntmps22
  go_wp2_with fail
  refine (fe_any hn).mono ?_
  rw [← HX.out]
  rintro e w1 ⟨rfl, hw⟩
  subst hw
  go_wp2_with fail
  refine (impl_pm (n := 1017) rfl hb.1 hb.2 (by omega) (by omega) (by omega)).mono ?_
  rw [HY.out]
  rintro e w1 ⟨rfl, hw⟩
  subst hw
  go_wp2_with fail
  go_ret
  exact ⟨rfl, rfl⟩

set_option maxHeartbeats 1000000 in
/-- spec.InverseExponent. -/
theorem spec_inv {w : World} {n : Int} (hn : (Lit.int .i64 n).wf = true) :
    Calls Tryd.prog 74 #[.int .i64 n] w fun e w' => e = .returned (.int .i64 (invE n)) ∧ w' = w := by
  obtain ⟨x, hx⟩ : ∃ x, x = n % 1019 := ⟨_, rfl⟩
  have hb : 0 ≤ x ∧ x < 1019 := by omega
  have hnb := wf_i64 hn
  obtain ⟨y, hy⟩ : ∃ y, y = invE n := ⟨_, rfl⟩
  have HY : Hid (ivn x 1018 1 = y) := Lib.hid (by rw [hx, hy]; rfl)
  rw [← hy]
  have HX : Hid (modV n 1019 = x) := Lib.hid (by rw [hx]; exact modV_1019 n)
  clear hx hy
  go_enter Tryd.func74, Tryd.ntmps74
  go_wp2_with fail
  refine (spec_mod _ _ _ hnb.1 hnb.2).mono ?_
  rw [HX.out]
  rintro e w1 ⟨rfl, hw⟩
  subst hw
  go_wp2_with fail
  go_loopw [4] (fun m wr => ∃ j : Nat, m = .int .i64 j ∧ 1 ≤ j ∧ j ≤ 1019 ∧ ivn x (1019 - j) j = y ∧ wr = w1) (fun m _ => 1019 - (intOf m).toNat)
  case atStart => exact ⟨1, rfl, by omega, by omega, HY.out, rfl⟩
  case round =>
    obtain ⟨j, rfl, hj1, hj, hiv, rfl⟩ := hrel
    have HI := Lib.hid hiv
    clear hiv
    by_cases hlt : j < 1019
    · have e1 : decide ((j : Int) < 1019) = true := by simp; omega
      have hm := pm_mul (m := 1019) (a := x) (b := (j : Int)) hb.1 hb.2 (by omega) (by omega) (by omega)
      have HS : Hid (ivn x (1019 - j) j = if x * j % 1019 = 1 then (j : Int) else ivn x (1019 - (j + 1)) ((j : Int) + 1)) := Lib.hid (by rw [show 1019 - j = (1019 - (j + 1)) + 1 by omega]; rfl)
      obtain ⟨t, ht⟩ : ∃ t, t = x * (j : Int) % 1019 := ⟨_, rfl⟩
      rw [← ht] at hm HS
      have HM := Lib.hid hm
      clear ht
      by_cases h1 : t = 1
      · have e2 : (t == 1) = true := beq_iff_eq.2 h1
        have HE : Hid (y = (j : Int)) := Lib.hid (by rw [← HI.out, HS.out, if_pos h1])
        clear h1
        go_wp2_with fail
        go_ret
        exact ⟨by rw [HE.out]; rfl, rfl⟩
      · have e2 : (t == 1) = false := beq_eq_false_iff_ne.2 h1
        have HE : Hid (ivn x (1019 - (j + 1)) ((j : Int) + 1) = y) := Lib.hid (by rw [← HI.out, HS.out, if_neg h1])
        clear h1
        go_wp2_with fail
        go_roundw
        case rel => exact ⟨j + 1, by simp, by omega, by omega, by rw [show ((j + 1 : Nat) : Int) = (j : Int) + 1 by push_cast; rfl]; exact HE.out, by first | rfl | trivial⟩
        case measure => simp [intOf]; omega
    · have e1 : decide ((j : Int) < 1019) = false := by simp; omega
      obtain rfl : j = 1019 := by omega
      have HE : Hid (y = 0) := Lib.hid (by rw [← HI.out]; rfl)
      go_wp2_with fail
      go_ret
      exact ⟨by rw [HE.out]; rfl, rfl⟩

/-- A wf for what is small. -/
theorem kid_nn (s c : Int) : 0 ≤ kid s c ∧ kid s c ≤ 2147483646 := kid_bound s c

/-- impl.exponentFrom. -/
theorem impl_ef {w : World} {q : Int} (hq : (Lit.int .i64 q).wf = true) :
    Calls Tryd.prog 63 #[.int .i64 q] w fun e w' => e = .returned (.int .i64 (1 + kid q 0 % 1018)) ∧ Below w.heap.size w w' := by
  have hs := kid_nn q 0
  have HB := Lib.hid (Below.refl w.heap.size w)
  obtain ⟨s, hse⟩ : ∃ s, s = kid q 0 := ⟨_, rfl⟩
  rw [← hse] at hs ⊢
  have HS := Lib.hid hse
  have HM : Hid (modV s 1018 = s % 1018) := Lib.hid (if_pos (by omega))
  obtain ⟨t, ht⟩ : ∃ t, t = s % 1018 := ⟨_, rfl⟩
  rw [← ht] at HM ⊢
  have htb : 0 ≤ t ∧ t ≤ 1017 := by omega
  have HQ := Lib.hid hq
  clear hse ht hq
  go_enter Tryd.func63, Tryd.ntmps63
  go_wp2_with fail
  refine (impl_cs HQ.out (by decide)).mono ?_
  rw [← HS.out]
  rintro e w2 ⟨rfl, h1⟩
  replace HB := Lib.hid (HB.out.trans h1)
  clear h1
  go_wp2_with fail
  refine (impl_mod _ _ _ (by omega) (by omega)).mono ?_
  rw [HM.out]
  rintro e w3 ⟨rfl, hw⟩
  subst hw
  go_wp2_with fail
  go_ret
  exact ⟨rfl, HB.out⟩

set_option maxHeartbeats 1000000 in
/-- impl.HashToGroup. -/
theorem impl_hgr {w : World} {l v : Int} (hl : (Lit.int .i64 l).wf = true) (hv : (Lit.int .i64 v).wf = true) :
    Calls Tryd.prog 26 #[.int .i64 l, .int .i64 v] w fun e w' => e = .returned (.int .i64 (hgr l v)) ∧ Below w.heap.size w w' := by
  have HR := Lib.hid (Rd.two 3 .i64 w 89 v (by decide) hv)
  have HL := Lib.hid hl
  have HB := Lib.hid ((Below.refl w.heap.size w).alloc (Nat.le_refl _) (.cells #[.int .i64 89, .int .i64 v] 3))
  have hq := kh_bound l [89, v]
  have hE : hexp l v = 1 + kid (kh l [89, v]) 0 % 1018 := rfl
  obtain ⟨q, hqe⟩ : ∃ q, q = kh l [89, v] := ⟨_, rfl⟩
  rw [← hqe] at hq hE
  have HQ := Lib.hid hqe
  obtain ⟨t, ht⟩ : ∃ t, t = 1 + kid q 0 % 1018 := ⟨_, rfl⟩
  rw [← ht] at hE
  have htb : 1 ≤ t ∧ t ≤ 1018 := by omega
  have HT := Lib.hid ht
  have HX : Hid (hgr l v = pwG 4 t) := Lib.hid (by unfold hgr; rw [hE])
  obtain ⟨x, hx⟩ : ∃ x, x = pwG 4 t := ⟨_, rfl⟩
  rw [← hx] at HX
  have HXx := Lib.hid hx
  clear hqe hE ht hx hl hv
  go_enter Tryd.func26, Tryd.ntmps26
  go_wp2_with fail
  refine (impl_kh HR.out (by simp) HL.out).mono ?_
  rw [← HQ.out]
  rintro e w1 ⟨rfl, h1⟩
  replace HB := Lib.hid (HB.out.trans (h1.mono (by simp)))
  clear h1
  go_wp2_with fail
  refine (impl_ef (wf_i64_of (by omega) (by omega))).mono ?_
  rw [← HT.out]
  rintro e w2 ⟨rfl, h1⟩
  replace HB := Lib.hid (HB.out.trans (h1.mono HB.out.size))
  clear h1
  go_wp2_with fail
  refine (impl_pwg (by decide) (wf_i64_of (by omega) (by omega))).mono ?_
  rw [← HXx.out]
  rintro e w4 ⟨rfl, h1⟩
  replace HB := Lib.hid (HB.out.trans (h1.mono HB.out.size))
  clear h1
  go_wp2_with fail
  go_ret
  exact ⟨by rw [HX.out]; first | done | rfl, HB.out⟩

set_option maxHeartbeats 1000000 in
/-- spec.HashToGroup. -/
theorem spec_hgr {w : World} {l v : Int} (hl : (Lit.int .i64 l).wf = true) (hv : (Lit.int .i64 v).wf = true) :
    Calls Tryd.prog 78 #[.int .i64 l, .int .i64 v] w fun e w' => e = .returned (.int .i64 (hgr l v)) ∧ Below w.heap.size w w' := by
  have HR := Lib.hid (Rd.two 3 .i64 w 89 v (by decide) hv)
  have HL := Lib.hid hl
  have HB := Lib.hid ((Below.refl w.heap.size w).alloc (Nat.le_refl _) (.cells #[.int .i64 89, .int .i64 v] 3))
  have hq := kh_bound l [89, v]
  have hs := kid_nn (kh l [89, v]) 0
  have hE : hexp l v = 1 + kid (kh l [89, v]) 0 % 1018 := rfl
  obtain ⟨q, hqe⟩ : ∃ q, q = kh l [89, v] := ⟨_, rfl⟩
  rw [← hqe] at hq hs hE
  obtain ⟨s, hse⟩ : ∃ s, s = kid q 0 := ⟨_, rfl⟩
  rw [← hse] at hs hE
  have HQ := Lib.hid hqe
  have HS := Lib.hid hse
  have htb : 0 ≤ s % 1018 ∧ s % 1018 ≤ 1017 := by omega
  have HX : Hid (pwG 4 (1 + s % 1018) = hgr l v) := Lib.hid (by unfold hgr; rw [hE])
  obtain ⟨x, hx⟩ : ∃ x, x = hgr l v := ⟨_, rfl⟩
  rw [← hx] at HX ⊢
  clear hqe hse hE hx hl hv
  go_enter Tryd.func78, Tryd.ntmps78
  go_wp2_with fail
  refine (spec_kh HR.out (by simp) HL.out (by simp)).mono ?_
  rw [← HQ.out]
  rintro e w1 ⟨rfl, h1⟩
  replace HB := Lib.hid (HB.out.trans (h1.mono (by simp)))
  clear h1
  go_wp2_with fail
  refine (spec_cs (wf_i64_of (by omega) (by omega)) (by decide)).mono ?_
  rw [← HS.out]
  rintro e w2 ⟨rfl, h1⟩
  replace HB := Lib.hid (HB.out.trans (h1.mono HB.out.size))
  clear h1
  go_wp2_with fail
  refine (spec_pwg (by decide) (wf_i64_of (by omega) (by omega))).mono ?_
  rw [HX.out]
  rintro e w4 ⟨rfl, hw⟩
  subst hw
  go_wp2_with fail
  go_ret
  exact ⟨rfl, HB.out⟩


/-- impl.proofChallenge. -/
theorem impl_chg {lim : Nat} {w : World} {v : Value} {zs : List Int} (h : Rd lim .i64 w v zs) (hlim : lim ≤ w.heap.size) (hn : zs.length ≤ 1099511627776) :
    Calls Tryd.prog 94 #[v] w fun e w' => e = .returned (.int .i64 (kh 97 zs % 1019)) ∧ Below w.heap.size w w' := by
  obtain ⟨a, cap, rfl, _⟩ := h.open
  have hq := kh_bound 97 zs
  obtain ⟨q, hqe⟩ : ∃ q, q = kh 97 zs := ⟨_, rfl⟩
  rw [← hqe] at hq ⊢
  have HQ := Lib.hid hqe
  have H := Lib.hid h
  have HN := Lib.hid hn
  clear h hqe hn
  go_enter Tryd.func94, Tryd.ntmps94
  go_wp2_with fail
  refine (impl_kh H.out hlim (by decide)).mono ?_
  rw [← HQ.out]
  rintro e w1 ⟨rfl, h1⟩
  have HB := Lib.hid h1
  clear h1
  go_wp2_with fail
  refine (fe_any (wf_i64_of (by omega) (by omega))).mono ?_
  obtain ⟨t, ht⟩ : ∃ t, t = q % 1019 := ⟨_, rfl⟩
  rw [← ht]
  rintro e w2 ⟨rfl, hw⟩
  subst hw
  have HT := Lib.hid ht
  clear ht
  go_wp2_with fail
  go_ret
  exact ⟨by rw [← HT.out]; rfl, HB.out⟩


/-- spec.l15Challenge. -/
theorem spec_chg {lim : Nat} {w : World} {v : Value} {zs : List Int} (h : Rd lim .i64 w v zs) (hlim : lim ≤ w.heap.size) (hn : zs.length ≤ 1099511627776) :
    Calls Tryd.prog 95 #[v] w fun e w' => e = .returned (.int .i64 (kh 97 zs % 1019)) ∧ Below w.heap.size w w' := by
  obtain ⟨a, cap, rfl, _⟩ := h.open
  have hq := kh_bound 97 zs
  obtain ⟨q, hqe⟩ : ∃ q, q = kh 97 zs := ⟨_, rfl⟩
  rw [← hqe] at hq ⊢
  have HQ := Lib.hid hqe
  have H := Lib.hid h
  have HN := Lib.hid hn
  clear h hqe hn
  go_enter Tryd.func95, Tryd.ntmps95
  go_wp2_with fail
  refine (spec_kh H.out hlim (by decide) HN.out).mono ?_
  rw [← HQ.out]
  rintro e w1 ⟨rfl, h1⟩
  have HB := Lib.hid h1
  clear h1
  go_wp2_with fail
  go_ret
  exact ⟨rfl, HB.out⟩


theorem Own.lits4 {B : Nat} {w : World} {a b c d : Int} (k : IntKind) (e : TypeId) (hB : B ≤ w.heap.size) (ha : (Lit.int k a).wf = true) (hb : (Lit.int k b).wf = true) (hc : (Lit.int k c).wf = true) (hd : (Lit.int k d).wf = true) : Own e k B (w.alloc (.cells #[.int k a, .int k b, .int k c, .int k d] e)) (.slice (some ⟨w.heap.size, 0, none⟩) 4 4) [a, b, c, d] :=
  ⟨by intro t ht; simp at ht; rcases ht with rfl | rfl | rfl | rfl <;> assumption, by simp; omega, World.ownsRow_lit w #[.int k a, .int k b, .int k c, .int k d] 4 hB (by unfold maxLen; omega) rfl⟩
theorem Own.lits6 {B : Nat} {w : World} {a b c d f g : Int} (k : IntKind) (e : TypeId) (hB : B ≤ w.heap.size) (ha : (Lit.int k a).wf = true) (hb : (Lit.int k b).wf = true) (hc : (Lit.int k c).wf = true) (hd : (Lit.int k d).wf = true) (hf : (Lit.int k f).wf = true) (hg : (Lit.int k g).wf = true) : Own e k B (w.alloc (.cells #[.int k a, .int k b, .int k c, .int k d, .int k f, .int k g] e)) (.slice (some ⟨w.heap.size, 0, none⟩) 6 6) [a, b, c, d, f, g] :=
  ⟨by intro t ht; simp at ht; rcases ht with rfl | rfl | rfl | rfl | rfl | rfl <;> assumption, by simp; omega, World.ownsRow_lit w #[.int k a, .int k b, .int k c, .int k d, .int k f, .int k g] 6 hB (by unfold maxLen; omega) rfl⟩
theorem pwG_wf (g n : Int) : (Lit.int .i64 (pwG g n)).wf = true := by have := pwG_bound g n; exact wf_i64_of (by omega) (by omega)
theorem mulG_wf (g n : Int) : (Lit.int .i64 (mulG g n)).wf = true := by have := mulG_bound g n; exact wf_i64_of (by omega) (by omega)
theorem w64_wf (x : Int) : (Lit.int .i64 (wrap64 x)).wf = true := wf_i64_of (by unfold wrap64; omega) (by unfold wrap64; omega)


set_option maxHeartbeats 2000000 in
/-- impl.ProveEqual. -/
theorem impl_pr {w : World} {g h s t : Int} (hg : (Lit.int .i64 g).wf = true) (hh : (Lit.int .i64 h).wf = true) (hs : (Lit.int .i64 s).wf = true) (ht : (Lit.int .i64 t).wf = true) :
    Calls Tryd.prog 68 #[.int .i64 g, .int .i64 h, .int .i64 s, .int .i64 t] w fun e w' => e = .returned (.tuple #[.int .i64 (prC g h s t), .int .i64 (prR g h s t)]) ∧ Below w.heap.size w w' := by
  obtain ⟨p, hp⟩ : ∃ p, p = isG g := ⟨_, rfl⟩
  obtain ⟨q, hq⟩ : ∃ q, q = isG h := ⟨_, rfl⟩
  have HP := Lib.hid hp
  have HQ := Lib.hid hq
  have HG := Lib.hid hg
  have HH := Lib.hid hh
  have HS := Lib.hid hs
  have HT := Lib.hid ht
  have HB := Lib.hid (Below.refl w.heap.size w)
  clear hp hq hg hh hs ht
  cases p with
  | false =>
    have H1 : Hid (prC g h s t = 0) := Lib.hid (by unfold prC; rw [← HP.out]; rfl)
    have H2 : Hid (prR g h s t = 0) := Lib.hid (by unfold prR; rw [← HP.out]; rfl)
    go_enter Tryd.func68, Tryd.ntmps68
    go_wp2_with fail
    refine (impl_isg HG.out).mono ?_
    rw [← HP.out]
    rintro e w1 ⟨rfl, h1⟩
    replace HB := Lib.hid (HB.out.trans (h1.mono HB.out.size))
    clear h1
    go_wp2_with fail
    exact bodyPost_ret (v := .tuple #[.int .i64 0, .int .i64 0]) (by simp [results, Tryd.results68, go_sem]) rfl ⟨by rw [H1.out, H2.out], HB.out⟩
  | true =>
   cases q with
   | false =>
    have H1 : Hid (prC g h s t = 0) := Lib.hid (by unfold prC; rw [← HP.out, ← HQ.out]; rfl)
    have H2 : Hid (prR g h s t = 0) := Lib.hid (by unfold prR; rw [← HP.out, ← HQ.out]; rfl)
    go_enter Tryd.func68, Tryd.ntmps68
    go_wp2_with fail
    refine (impl_isg HG.out).mono ?_
    rw [← HP.out]
    rintro e w1 ⟨rfl, h1⟩
    replace HB := Lib.hid (HB.out.trans (h1.mono HB.out.size))
    clear h1
    go_wp2_with fail
    refine (impl_isg HH.out).mono ?_
    rw [← HQ.out]
    rintro e w2 ⟨rfl, h1⟩
    replace HB := Lib.hid (HB.out.trans (h1.mono HB.out.size))
    clear h1
    go_wp2_with fail
    exact bodyPost_ret (v := .tuple #[.int .i64 0, .int .i64 0]) (by simp [results, Tryd.results68, go_sem]) rfl ⟨by rw [H1.out, H2.out], HB.out⟩
   | true =>
    have hy : (isG g && isG h) = true := by rw [← HP.out, ← HQ.out]; rfl
    have h1 : prC g h s t = chl g h (pwG g s) (pwG h s) (pwG g t) (pwG h t) := if_pos hy
    have h2 : prR g h s t = wrap64 (t - wrap64 (prC g h s t * s)) % 1019 := if_pos hy
    have hcb := prC_bound g h s t
    obtain ⟨c, hc⟩ : ∃ c, c = prC g h s t := ⟨_, rfl⟩
    obtain ⟨r, hr⟩ : ∃ r, r = prR g h s t := ⟨_, rfl⟩
    rw [← hc] at h1 h2 hcb ⊢
    rw [← hr] at h2 ⊢
    have X1 := Lib.hid (pwG_wf g s)
    have X2 := Lib.hid (pwG_wf h s)
    have X3 := Lib.hid (pwG_wf g t)
    have X4 := Lib.hid (pwG_wf h t)
    unfold chl at h1
    obtain ⟨a1, e1⟩ : ∃ a, a = pwG g s := ⟨_, rfl⟩
    obtain ⟨a2, e2⟩ : ∃ a, a = pwG h s := ⟨_, rfl⟩
    obtain ⟨a3, e3⟩ : ∃ a, a = pwG g t := ⟨_, rfl⟩
    obtain ⟨a4, e4⟩ : ∃ a, a = pwG h t := ⟨_, rfl⟩
    rw [← e1, ← e2, ← e3, ← e4] at h1
    rw [← e1] at X1
    rw [← e2] at X2
    rw [← e3] at X3
    rw [← e4] at X4
    have E1 := Lib.hid e1
    have E2 := Lib.hid e2
    have E3 := Lib.hid e3
    have E4 := Lib.hid e4
    have HC := Lib.hid h1
    have HRr := Lib.hid h2
    have HCw : Hid ((Lit.int .i64 c).wf = true) := Lib.hid (wf_i64_of (by omega) (by omega))
    have sb := wf_i64 HS.out
    have tb := wf_i64 HT.out
    clear h1 h2 hc hr e1 e2 e3 e4 hy
    go_enter Tryd.func68, Tryd.ntmps68
    go_wp2_with fail
    refine (impl_isg HG.out).mono ?_
    rw [← HP.out]
    rintro e w1 ⟨rfl, h1⟩
    replace HB := Lib.hid (HB.out.trans (h1.mono HB.out.size))
    clear h1
    go_wp2_with fail
    refine (impl_isg HH.out).mono ?_
    rw [← HQ.out]
    rintro e w2 ⟨rfl, h1⟩
    replace HB := Lib.hid (HB.out.trans (h1.mono HB.out.size))
    clear h1
    go_wp2_with fail
    refine (impl_pwg HG.out HS.out).mono ?_
    rw [← E1.out]
    rintro e w3 ⟨rfl, h1⟩
    replace HB := Lib.hid (HB.out.trans (h1.mono HB.out.size))
    clear h1
    go_wp2_with fail
    refine (impl_pwg HH.out HS.out).mono ?_
    rw [← E2.out]
    rintro e w4 ⟨rfl, h1⟩
    replace HB := Lib.hid (HB.out.trans (h1.mono HB.out.size))
    clear h1
    go_wp2_with fail
    refine (impl_pwg HG.out HT.out).mono ?_
    rw [← E3.out]
    rintro e w5 ⟨rfl, h1⟩
    replace HB := Lib.hid (HB.out.trans (h1.mono HB.out.size))
    clear h1
    go_wp2_with fail
    refine (impl_pwg HH.out HT.out).mono ?_
    rw [← E4.out]
    rintro e w6 ⟨rfl, h1⟩
    replace HB := Lib.hid (HB.out.trans (h1.mono HB.out.size))
    clear h1
    have o1 := Own.lits6 (B := w6.heap.size) (w := w6) .i64 3 (Nat.le_refl _) HG.out HH.out X1.out X2.out X3.out X4.out
    have HO := Lib.hid o1.rd
    replace HB := Lib.hid (HB.out.alloc HB.out.size (.cells #[.int .i64 g, .int .i64 h, .int .i64 a1, .int .i64 a2, .int .i64 a3, .int .i64 a4] 3))
    clear o1
    go_wp2_with fail
    refine (impl_chg HO.out (Nat.le_refl _) (by simp)).mono ?_
    rw [← HC.out]
    rintro e w7 ⟨rfl, h1⟩
    replace HB := Lib.hid (HB.out.trans (h1.mono HB.out.size))
    clear h1
    go_wp2_with fail
    refine (fe_any (w64_wf _)).mono ?_
    rw [← HRr.out]
    rintro e w8 ⟨rfl, hw⟩
    obtain rfl := hw.symm
    go_wp2_with fail
    exact bodyPost_ret (v := .tuple #[.int .i64 c, .int .i64 r]) (by simp [results, Tryd.results68, go_sem]) rfl ⟨rfl, HB.out⟩

end Go.Proofs.YtdccljmffmlkbaaDoor


/-! Gr4 -/
namespace Go.Proofs.YtdccljmffmlkbaaDoor
open Go Go.RowKit
set_option linter.unusedVariables false
attribute [local irreducible] kh kid pwm tcm pw chl

theorem arr4 (a b c d : Int) {j : Nat} (h : j < 4) : (#[Value.int .i64 a, .int .i64 b, .int .i64 c, .int .i64 d] : Array Value)[j]? = some (.int .i64 ([a, b, c, d].getD j 0)) := by
  have : j = 0 ∨ j = 1 ∨ j = 2 ∨ j = 3 := by omega
  rcases this with rfl | rfl | rfl | rfl <;> rfl
theorem wf4 {a b c d : Int} (ha : (Lit.int .i64 a).wf = true) (hb : (Lit.int .i64 b).wf = true) (hc : (Lit.int .i64 c).wf = true) (hd : (Lit.int .i64 d).wf = true) {j : Nat} (h : j < 4) : (Lit.int .i64 ([a, b, c, d].getD j 0)).wf = true := by
  have : j = 0 ∨ j = 1 ∨ j = 2 ∨ j = 3 := by omega
  rcases this with rfl | rfl | rfl | rfl <;> assumption
theorem vrq_el {g h u v : Int} (c r : Int) {j : Nat} (hj : j < 4) (hn : isG ([g, h, u, v].getD j 0) = false) : vrf g h u v c r = false := by
  apply vrf_no
  have hq : isG g = false ∨ isG h = false ∨ isG u = false ∨ isG v = false := by
    have : j = 0 ∨ j = 1 ∨ j = 2 ∨ j = 3 := by omega
    rcases this with rfl | rfl | rfl | rfl
    · exact Or.inl hn
    · exact Or.inr (Or.inl hn)
    · exact Or.inr (Or.inr (Or.inl hn))
    · exact Or.inr (Or.inr (Or.inr hn))
  unfold vrq
  rcases hq with h | h | h | h <;> simp [h]
theorem vrf_c {g h u v c r : Int} (hn : inR c 0 1018 = false) : vrf g h u v c r = false := by
  apply vrf_no; unfold vrq; simp [hn]
theorem vrf_r {g h u v c r : Int} (hn : inR r 0 1018 = false) : vrf g h u v c r = false := by
  apply vrf_no; unfold vrq; simp [hn]
theorem vrf_yes {g h u v c r : Int} (h1 : isG g = true) (h2 : isG h = true) (h3 : isG u = true) (h4 : isG v = true) (h5 : inR c 0 1018 = true) (h6 : inR r 0 1018 = true) : vrf g h u v c r = (c == chl g h u v (mulG (pwG g r) (pwG u c)) (mulG (pwG h r) (pwG v c))) := by
  unfold vrf vrq; simp [h1, h2, h3, h4, h5, h6]


set_option maxHeartbeats 4000000 in
/-- impl.VerifyEqual. -/
theorem impl_vf {w : World} {g h u v c r : Int} (hg : (Lit.int .i64 g).wf = true) (hh : (Lit.int .i64 h).wf = true) (hu : (Lit.int .i64 u).wf = true) (hv : (Lit.int .i64 v).wf = true) (hc : (Lit.int .i64 c).wf = true) (hr : (Lit.int .i64 r).wf = true) :
    Calls Tryd.prog 106 #[.int .i64 g, .int .i64 h, .int .i64 u, .int .i64 v, .int .i64 c, .int .i64 r] w fun e w' => e = .returned (.bool (vrf g h u v c r)) ∧ Below w.heap.size w w' := by
  have W1 := Lib.hid hg
  have W2 := Lib.hid hh
  have W3 := Lib.hid hu
  have W4 := Lib.hid hv
  have W5 := Lib.hid hc
  have W6 := Lib.hid hr
  have k4 := heap_alloc_new w (.cells #[.int .i64 g, .int .i64 h, .int .i64 u, .int .i64 v] 3)
  have b4 := (Below.refl w.heap.size w).alloc (Nat.le_refl _) (.cells #[.int .i64 g, .int .i64 h, .int .i64 u, .int .i64 v] 3)
  obtain ⟨W0, hW0⟩ : ∃ W, W = w.alloc (.cells #[.int .i64 g, .int .i64 h, .int .i64 u, .int .i64 v] 3) := ⟨_, rfl⟩
  rw [← hW0] at k4 b4
  have HW0 := Lib.hid hW0
  have HK4 := Lib.hid k4
  have HB0 := Lib.hid b4
  have HWf := Lib.hid (fun (j : Nat) (hj : j < 4) => wf4 hg hh hu hv hj)
  clear hg hh hu hv hc hr k4 b4 hW0
  go_enter Tryd.func106, Tryd.ntmps106
  go_wp2_with fail
  rw [← HW0.out]
  go_loopw [23] (fun i wr => ∃ j : Nat, i = .int .i64 j ∧ j ≤ 4 ∧ (∀ k, k < j → isG ([g, h, u, v].getD k 0) = true) ∧ Below W0.heap.size W0 wr) (fun i _ => 4 - (intOf i).toNat)
  case atStart => exact ⟨0, rfl, by omega, fun k hk => by omega, Below.refl _ _⟩
  case round =>
    obtain ⟨j, rfl, hj, hel, hB⟩ := hrel
    have HEl := Lib.hid hel
    have HBr := Lib.hid hB
    clear hel hB
    by_cases hlt : j < 4
    · have e1 : decide ((j : Int) < 4) = true := by simp; omega
      obtain ⟨z, hz⟩ : ∃ z, z = [g, h, u, v].getD j 0 := ⟨_, rfl⟩
      have HZ := Lib.hid hz
      have HZw := Lib.hid (HWf.out j hlt)
      rw [← hz] at HZw
      have c1 : wr.cell? ⟨w.heap.size, j, none⟩ = some (.int .i64 z) := by
        rw [blk_cell ((HBr.out.block _ (lt_of_block HK4.out)).trans HK4.out) j, arr4 _ _ _ _ hlt, hz]
      clear hz
      go_wp2_with fail
      refine (impl_isg HZw.out).mono ?_
      obtain ⟨q, hq⟩ : ∃ q, q = isG z := ⟨_, rfl⟩
      rw [← hq]
      have HQ := Lib.hid hq
      rintro e w1 ⟨rfl, h1⟩
      replace HBr := Lib.hid (HBr.out.trans (h1.mono HBr.out.size))
      clear h1 hq c1
      cases q with
      | false =>
        have HF := Lib.hid (vrq_el (g := g) (h := h) (u := u) (v := v) c r hlt (by rw [← HZ.out, ← HQ.out]))
        go_wp2_with fail
        go_ret
        exact ⟨by rw [HF.out]; rfl, HB0.out.trans (HBr.out.mono HB0.out.size)⟩
      | true =>
        go_wp2_with fail
        go_roundw
        case rel =>
          refine ⟨j + 1, by simp, hlt, fun k hk => ?_, HBr.out⟩
          by_cases hkj : k = j
          · rw [hkj, ← HZ.out]; exact HQ.out.symm
          · exact HEl.out k (by omega)
        case measure => simp [intOf]; omega
    · have e1 : decide ((j : Int) < 4) = false := by simp; omega
      obtain rfl : j = 4 := by omega
      have q1 : isG g = true := HEl.out 0 (by omega)
      have q2 : isG h = true := HEl.out 1 (by omega)
      have q3 : isG u = true := HEl.out 2 (by omega)
      have q4 : isG v = true := HEl.out 3 (by omega)
      have HB := Lib.hid (HB0.out.trans (HBr.out.mono HB0.out.size))
      have Q1 := Lib.hid q1
      have Q2 := Lib.hid q2
      have Q3 := Lib.hid q3
      have Q4 := Lib.hid q4
      clear q1 q2 q3 q4 HEl
      cases h5 : inR c 0 1018 with
      | false =>
        have H5 := Lib.hid h5
        have HF := Lib.hid (vrf_c (g := g) (h := h) (u := u) (v := v) (r := r) h5)
        clear h5
        go_wp2_with fail
        refine (impl_in _ _ _ _ W5.out).mono ?_
        rw [H5.out]
        rintro e w1 ⟨rfl, hw⟩
        obtain rfl := hw.symm
        go_wp2_with fail
        go_ret
        exact ⟨by rw [HF.out]; rfl, HB.out⟩
      | true =>
       cases h6 : inR r 0 1018 with
       | false =>
        have H5 := Lib.hid h5
        have H6 := Lib.hid h6
        have HF := Lib.hid (vrf_r (g := g) (h := h) (u := u) (v := v) (c := c) h6)
        clear h5 h6
        go_wp2_with fail
        refine (impl_in _ _ _ _ W5.out).mono ?_
        rw [H5.out]
        rintro e w1 ⟨rfl, hw⟩
        obtain rfl := hw.symm
        go_wp2_with fail
        refine (impl_in _ _ _ _ W6.out).mono ?_
        rw [H6.out]
        rintro e w1 ⟨rfl, hw⟩
        obtain rfl := hw.symm
        go_wp2_with fail
        go_ret
        exact ⟨by rw [HF.out]; rfl, HB.out⟩
       | true =>
        have H5 := Lib.hid h5
        have H6 := Lib.hid h6
        have hF := vrf_yes Q1.out Q2.out Q3.out Q4.out h5 h6
        clear h5 h6
        obtain ⟨a1, e1⟩ : ∃ a, a = pwG g r := ⟨_, rfl⟩
        obtain ⟨a2, e2⟩ : ∃ a, a = pwG u c := ⟨_, rfl⟩
        obtain ⟨a3, e3⟩ : ∃ a, a = pwG h r := ⟨_, rfl⟩
        obtain ⟨a4, e4⟩ : ∃ a, a = pwG v c := ⟨_, rfl⟩
        have Y1 := Lib.hid (show (Lit.int .i64 a1).wf = true by rw [e1]; exact pwG_wf _ _)
        have Y2 := Lib.hid (show (Lit.int .i64 a2).wf = true by rw [e2]; exact pwG_wf _ _)
        have Y3 := Lib.hid (show (Lit.int .i64 a3).wf = true by rw [e3]; exact pwG_wf _ _)
        have Y4 := Lib.hid (show (Lit.int .i64 a4).wf = true by rw [e4]; exact pwG_wf _ _)
        obtain ⟨b1, e5⟩ : ∃ a, a = mulG a1 a2 := ⟨_, rfl⟩
        obtain ⟨b2, e6⟩ : ∃ a, a = mulG a3 a4 := ⟨_, rfl⟩
        have Y5 := Lib.hid (show (Lit.int .i64 b1).wf = true by rw [e5]; exact mulG_wf _ _)
        have Y6 := Lib.hid (show (Lit.int .i64 b2).wf = true by rw [e6]; exact mulG_wf _ _)
        rw [← e1, ← e2, ← e3, ← e4, ← e5, ← e6] at hF
        obtain ⟨k, hk⟩ : ∃ k, k = kh 97 [g, h, u, v, b1, b2] % 1019 := ⟨_, rfl⟩
        have HF : Hid (vrf g h u v c r = (c == k)) := Lib.hid (by rw [hF, hk]; unfold chl; rfl)
        have E1 := Lib.hid e1
        have E2 := Lib.hid e2
        have E3 := Lib.hid e3
        have E4 := Lib.hid e4
        have E5 := Lib.hid e5
        have E6 := Lib.hid e6
        have HK := Lib.hid hk
        clear e1 e2 e3 e4 e5 e6 hk hF
        go_wp2_with fail
        refine (impl_in _ _ _ _ W5.out).mono ?_
        rw [H5.out]
        rintro e w1 ⟨rfl, hw⟩
        obtain rfl := hw.symm
        go_wp2_with fail
        refine (impl_in _ _ _ _ W6.out).mono ?_
        rw [H6.out]
        rintro e w1 ⟨rfl, hw⟩
        obtain rfl := hw.symm
        go_wp2_with fail
        refine (impl_pwg W1.out W6.out).mono ?_
        rw [← E1.out]
        rintro e w2 ⟨rfl, h1⟩
        replace HB := Lib.hid (HB.out.trans (h1.mono HB.out.size))
        clear h1
        go_wp2_with fail
        refine (impl_pwg W3.out W5.out).mono ?_
        rw [← E2.out]
        rintro e w3 ⟨rfl, h1⟩
        replace HB := Lib.hid (HB.out.trans (h1.mono HB.out.size))
        clear h1
        go_wp2_with fail
        refine (impl_mul Y1.out Y2.out).mono ?_
        rw [← E5.out]
        rintro e w4 ⟨rfl, h1⟩
        replace HB := Lib.hid (HB.out.trans (h1.mono HB.out.size))
        clear h1
        go_wp2_with fail
        refine (impl_pwg W2.out W6.out).mono ?_
        rw [← E3.out]
        rintro e w5 ⟨rfl, h1⟩
        replace HB := Lib.hid (HB.out.trans (h1.mono HB.out.size))
        clear h1
        go_wp2_with fail
        refine (impl_pwg W4.out W5.out).mono ?_
        rw [← E4.out]
        rintro e w6 ⟨rfl, h1⟩
        replace HB := Lib.hid (HB.out.trans (h1.mono HB.out.size))
        clear h1
        go_wp2_with fail
        refine (impl_mul Y3.out Y4.out).mono ?_
        rw [← E6.out]
        rintro e w7 ⟨rfl, h1⟩
        replace HB := Lib.hid (HB.out.trans (h1.mono HB.out.size))
        clear h1
        have o6 := Own.lits6 (B := w7.heap.size) (w := w7) .i64 3 (Nat.le_refl _) W1.out W2.out W3.out W4.out Y5.out Y6.out
        have HO6 := Lib.hid o6.rd
        replace HB := Lib.hid (HB.out.alloc HB.out.size (.cells #[.int .i64 g, .int .i64 h, .int .i64 u, .int .i64 v, .int .i64 b1, .int .i64 b2] 3))
        clear o6
        go_wp2_with fail
        refine (impl_chg HO6.out (Nat.le_refl _) (by simp)).mono ?_
        rw [← HK.out]
        rintro e w8 ⟨rfl, h1⟩
        replace HB := Lib.hid (HB.out.trans (h1.mono HB.out.size))
        clear h1
        go_wp2_with fail
        go_ret
        exact ⟨by rw [HF.out]; rfl, HB.out⟩

set_option maxHeartbeats 4000000 in
/-- spec.VerifyEqual. -/
theorem spec_vf {w : World} {g h u v c r : Int} (hg : (Lit.int .i64 g).wf = true) (hh : (Lit.int .i64 h).wf = true) (hu : (Lit.int .i64 u).wf = true) (hv : (Lit.int .i64 v).wf = true) (hc : (Lit.int .i64 c).wf = true) (hr : (Lit.int .i64 r).wf = true) :
    Calls Tryd.prog 72 #[.int .i64 g, .int .i64 h, .int .i64 u, .int .i64 v, .int .i64 c, .int .i64 r] w fun e w' => e = .returned (.bool (vrf g h u v c r)) ∧ Below w.heap.size w w' := by
  have W1 := Lib.hid hg
  have W2 := Lib.hid hh
  have W3 := Lib.hid hu
  have W4 := Lib.hid hv
  have W5 := Lib.hid hc
  have W6 := Lib.hid hr
  have HB := Lib.hid (Below.refl w.heap.size w)
  clear hg hh hu hv hc hr
  cases q1 : isG g with
  | false =>
    have Q1 := Lib.hid q1
    have HF := Lib.hid (vrq_el (g := g) (h := h) (u := u) (v := v) c r (j := 0) (by omega) q1)
    clear q1
    go_enter Tryd.func72, Tryd.ntmps72
    go_wp2_with fail
    refine (spec_isg W1.out).mono ?_
    rw [Q1.out]
    rintro e w1 ⟨rfl, hw⟩
    obtain rfl := hw.symm
    go_wp2_with fail
    go_ret
    exact ⟨by rw [HF.out]; rfl, HB.out⟩
  | true =>
    have Q1 := Lib.hid q1
    clear q1
    cases q2 : isG h with
    | false =>
      have Q2 := Lib.hid q2
      have HF := Lib.hid (vrq_el (g := g) (h := h) (u := u) (v := v) c r (j := 1) (by omega) q2)
      clear q2
      go_enter Tryd.func72, Tryd.ntmps72
      go_wp2_with fail
      refine (spec_isg W1.out).mono ?_
      rw [Q1.out]
      rintro e w1 ⟨rfl, hw⟩
      obtain rfl := hw.symm
      go_wp2_with fail
      refine (spec_isg W2.out).mono ?_
      rw [Q2.out]
      rintro e w2 ⟨rfl, hw⟩
      obtain rfl := hw.symm
      go_wp2_with fail
      go_ret
      exact ⟨by rw [HF.out]; rfl, HB.out⟩
    | true =>
      have Q2 := Lib.hid q2
      clear q2
      cases q3 : isG u with
      | false =>
        have Q3 := Lib.hid q3
        have HF := Lib.hid (vrq_el (g := g) (h := h) (u := u) (v := v) c r (j := 2) (by omega) q3)
        clear q3
        go_enter Tryd.func72, Tryd.ntmps72
        go_wp2_with fail
        refine (spec_isg W1.out).mono ?_
        rw [Q1.out]
        rintro e w1 ⟨rfl, hw⟩
        obtain rfl := hw.symm
        go_wp2_with fail
        refine (spec_isg W2.out).mono ?_
        rw [Q2.out]
        rintro e w2 ⟨rfl, hw⟩
        obtain rfl := hw.symm
        go_wp2_with fail
        refine (spec_isg W3.out).mono ?_
        rw [Q3.out]
        rintro e w3 ⟨rfl, hw⟩
        obtain rfl := hw.symm
        go_wp2_with fail
        go_ret
        exact ⟨by rw [HF.out]; rfl, HB.out⟩
      | true =>
        have Q3 := Lib.hid q3
        clear q3
        cases q4 : isG v with
        | false =>
          have Q4 := Lib.hid q4
          have HF := Lib.hid (vrq_el (g := g) (h := h) (u := u) (v := v) c r (j := 3) (by omega) q4)
          clear q4
          go_enter Tryd.func72, Tryd.ntmps72
          go_wp2_with fail
          refine (spec_isg W1.out).mono ?_
          rw [Q1.out]
          rintro e w1 ⟨rfl, hw⟩
          obtain rfl := hw.symm
          go_wp2_with fail
          refine (spec_isg W2.out).mono ?_
          rw [Q2.out]
          rintro e w2 ⟨rfl, hw⟩
          obtain rfl := hw.symm
          go_wp2_with fail
          refine (spec_isg W3.out).mono ?_
          rw [Q3.out]
          rintro e w3 ⟨rfl, hw⟩
          obtain rfl := hw.symm
          go_wp2_with fail
          refine (spec_isg W4.out).mono ?_
          rw [Q4.out]
          rintro e w4 ⟨rfl, hw⟩
          obtain rfl := hw.symm
          go_wp2_with fail
          go_ret
          exact ⟨by rw [HF.out]; rfl, HB.out⟩
        | true =>
          have Q4 := Lib.hid q4
          clear q4
          cases q5 : inR c 0 1018 with
          | false =>
            have Q5 := Lib.hid q5
            have HF := Lib.hid (vrf_c (g := g) (h := h) (u := u) (v := v) (r := r) q5)
            clear q5
            go_enter Tryd.func72, Tryd.ntmps72
            go_wp2_with fail
            refine (spec_isg W1.out).mono ?_
            rw [Q1.out]
            rintro e w1 ⟨rfl, hw⟩
            obtain rfl := hw.symm
            go_wp2_with fail
            refine (spec_isg W2.out).mono ?_
            rw [Q2.out]
            rintro e w2 ⟨rfl, hw⟩
            obtain rfl := hw.symm
            go_wp2_with fail
            refine (spec_isg W3.out).mono ?_
            rw [Q3.out]
            rintro e w3 ⟨rfl, hw⟩
            obtain rfl := hw.symm
            go_wp2_with fail
            refine (spec_isg W4.out).mono ?_
            rw [Q4.out]
            rintro e w4 ⟨rfl, hw⟩
            obtain rfl := hw.symm
            go_wp2_with fail
            refine (spec_in _ _ _ _ W5.out).mono ?_
            rw [Q5.out]
            rintro e w5 ⟨rfl, hw⟩
            obtain rfl := hw.symm
            go_wp2_with fail
            go_ret
            exact ⟨by rw [HF.out]; rfl, HB.out⟩
          | true =>
            have Q5 := Lib.hid q5
            clear q5
            cases q6 : inR r 0 1018 with
            | false =>
              have Q6 := Lib.hid q6
              have HF := Lib.hid (vrf_r (g := g) (h := h) (u := u) (v := v) (c := c) q6)
              clear q6
              go_enter Tryd.func72, Tryd.ntmps72
              go_wp2_with fail
              refine (spec_isg W1.out).mono ?_
              rw [Q1.out]
              rintro e w1 ⟨rfl, hw⟩
              obtain rfl := hw.symm
              go_wp2_with fail
              refine (spec_isg W2.out).mono ?_
              rw [Q2.out]
              rintro e w2 ⟨rfl, hw⟩
              obtain rfl := hw.symm
              go_wp2_with fail
              refine (spec_isg W3.out).mono ?_
              rw [Q3.out]
              rintro e w3 ⟨rfl, hw⟩
              obtain rfl := hw.symm
              go_wp2_with fail
              refine (spec_isg W4.out).mono ?_
              rw [Q4.out]
              rintro e w4 ⟨rfl, hw⟩
              obtain rfl := hw.symm
              go_wp2_with fail
              refine (spec_in _ _ _ _ W5.out).mono ?_
              rw [Q5.out]
              rintro e w5 ⟨rfl, hw⟩
              obtain rfl := hw.symm
              go_wp2_with fail
              refine (spec_in _ _ _ _ W6.out).mono ?_
              rw [Q6.out]
              rintro e w6 ⟨rfl, hw⟩
              obtain rfl := hw.symm
              go_wp2_with fail
              go_ret
              exact ⟨by rw [HF.out]; rfl, HB.out⟩
            | true =>
              have Q6 := Lib.hid q6
              clear q6
              have hF := vrf_yes Q1.out Q2.out Q3.out Q4.out Q5.out Q6.out
              obtain ⟨a1, e1⟩ : ∃ a, a = pwG g r := ⟨_, rfl⟩
              obtain ⟨a2, e2⟩ : ∃ a, a = pwG u c := ⟨_, rfl⟩
              obtain ⟨a3, e3⟩ : ∃ a, a = pwG h r := ⟨_, rfl⟩
              obtain ⟨a4, e4⟩ : ∃ a, a = pwG v c := ⟨_, rfl⟩
              have Y1 := Lib.hid (show (Lit.int .i64 a1).wf = true by rw [e1]; exact pwG_wf _ _)
              have Y2 := Lib.hid (show (Lit.int .i64 a2).wf = true by rw [e2]; exact pwG_wf _ _)
              have Y3 := Lib.hid (show (Lit.int .i64 a3).wf = true by rw [e3]; exact pwG_wf _ _)
              have Y4 := Lib.hid (show (Lit.int .i64 a4).wf = true by rw [e4]; exact pwG_wf _ _)
              obtain ⟨b1, e5⟩ : ∃ a, a = mulG a1 a2 := ⟨_, rfl⟩
              obtain ⟨b2, e6⟩ : ∃ a, a = mulG a3 a4 := ⟨_, rfl⟩
              have Y5 := Lib.hid (show (Lit.int .i64 b1).wf = true by rw [e5]; exact mulG_wf _ _)
              have Y6 := Lib.hid (show (Lit.int .i64 b2).wf = true by rw [e6]; exact mulG_wf _ _)
              rw [← e1, ← e2, ← e3, ← e4, ← e5, ← e6] at hF
              obtain ⟨k, hk⟩ : ∃ k, k = kh 97 [g, h, u, v, b1, b2] % 1019 := ⟨_, rfl⟩
              have HF : Hid (vrf g h u v c r = (c == k)) := Lib.hid (by rw [hF, hk]; unfold chl; rfl)
              have E1 := Lib.hid e1
              have E2 := Lib.hid e2
              have E3 := Lib.hid e3
              have E4 := Lib.hid e4
              have E5 := Lib.hid e5
              have E6 := Lib.hid e6
              have HK := Lib.hid hk
              clear e1 e2 e3 e4 e5 e6 hk hF
              go_enter Tryd.func72, Tryd.ntmps72
              go_wp2_with fail
              refine (spec_isg W1.out).mono ?_
              rw [Q1.out]
              rintro e w1 ⟨rfl, hw⟩
              obtain rfl := hw.symm
              go_wp2_with fail
              refine (spec_isg W2.out).mono ?_
              rw [Q2.out]
              rintro e w2 ⟨rfl, hw⟩
              obtain rfl := hw.symm
              go_wp2_with fail
              refine (spec_isg W3.out).mono ?_
              rw [Q3.out]
              rintro e w3 ⟨rfl, hw⟩
              obtain rfl := hw.symm
              go_wp2_with fail
              refine (spec_isg W4.out).mono ?_
              rw [Q4.out]
              rintro e w4 ⟨rfl, hw⟩
              obtain rfl := hw.symm
              go_wp2_with fail
              refine (spec_in _ _ _ _ W5.out).mono ?_
              rw [Q5.out]
              rintro e w5 ⟨rfl, hw⟩
              obtain rfl := hw.symm
              go_wp2_with fail
              refine (spec_in _ _ _ _ W6.out).mono ?_
              rw [Q6.out]
              rintro e w6 ⟨rfl, hw⟩
              obtain rfl := hw.symm
              go_wp2_with fail
              refine (spec_pwg W1.out W6.out).mono ?_
              rw [← E1.out]
              rintro e w7 ⟨rfl, hw⟩
              obtain rfl := hw.symm
              go_wp2_with fail
              refine (spec_pwg W3.out W5.out).mono ?_
              rw [← E2.out]
              rintro e w8 ⟨rfl, hw⟩
              obtain rfl := hw.symm
              go_wp2_with fail
              refine (spec_mul Y1.out Y2.out).mono ?_
              rw [← E5.out]
              rintro e w9 ⟨rfl, hw⟩
              obtain rfl := hw.symm
              go_wp2_with fail
              refine (spec_pwg W2.out W6.out).mono ?_
              rw [← E3.out]
              rintro e w10 ⟨rfl, hw⟩
              obtain rfl := hw.symm
              go_wp2_with fail
              refine (spec_pwg W4.out W5.out).mono ?_
              rw [← E4.out]
              rintro e w11 ⟨rfl, hw⟩
              obtain rfl := hw.symm
              go_wp2_with fail
              refine (spec_mul Y3.out Y4.out).mono ?_
              rw [← E6.out]
              rintro e w12 ⟨rfl, hw⟩
              obtain rfl := hw.symm
              have o6 := Own.lits6 (B := w.heap.size) (w := w) .i64 3 (Nat.le_refl _) W1.out W2.out W3.out W4.out Y5.out Y6.out
              have HO6 := Lib.hid o6.rd
              replace HB := Lib.hid (HB.out.alloc HB.out.size (.cells #[.int .i64 g, .int .i64 h, .int .i64 u, .int .i64 v, .int .i64 b1, .int .i64 b2] 3))
              clear o6
              go_wp2_with fail
              refine (spec_chg HO6.out (Nat.le_refl _) (by simp)).mono ?_
              rw [← HK.out]
              rintro e w13 ⟨rfl, h1⟩
              replace HB := Lib.hid (HB.out.trans (h1.mono HB.out.size))
              clear h1
              go_wp2_with fail
              go_ret
              exact ⟨by rw [HF.out]; rfl, HB.out⟩

end Go.Proofs.YtdccljmffmlkbaaDoor
