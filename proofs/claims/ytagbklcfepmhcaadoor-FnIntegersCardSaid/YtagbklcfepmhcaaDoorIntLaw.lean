/- The law on integers: numerals are read as their numbers, CeilDiv and Mod keep their inequalities, for every code. -/
import Derived.Test.YtagbklcfepmhcaaDoorParse
import Derived.Test.YtagbklcfepmhcaaDoorDrawNum
namespace Go.Proofs.YtagbklcfepmhcaaDoor
open Go.RowKit Go.Lib
set_option linter.unusedVariables false

/-! What CeilDiv and Mod compute. -/
def cdivV (a b : Int) : Int := if 0 ≤ a ∧ a ≤ 1000000000000 ∧ 1 ≤ b ∧ b ≤ 1000000000000 then (a + b - 1) / b else 0
def modV (a b : Int) : Int := if 1 ≤ b ∧ b ≤ 1000000000000 then a % b else 0

theorem rint {a b : Int} (h : a = b) : Ending.returned (.int .i64 a) = Ending.returned (.int .i64 b) := by rw [h]

theorem cdiv_any (a b : Int) (w : World) :
    Calls Tryd.prog 12 #[.int .i64 a, .int .i64 b] w fun e w' => e = .returned (.int .i64 (cdivV a b)) ∧ w = w' := by
  by_cases h1 : 0 ≤ a <;> by_cases h2 : a ≤ 1000000000000 <;> by_cases h3 : 1 ≤ b <;> by_cases h4 : b ≤ 1000000000000
  all_goals first | (exfalso; omega) | skip
  all_goals
    have hv := Lib.hid (show cdivV a b = if 0 ≤ a ∧ a ≤ 1000000000000 ∧ 1 ≤ b ∧ b ≤ 1000000000000 then (a + b - 1) / b else 0 from rfl)
    go_enter Tryd.func12, Tryd.ntmps12
    go_wp2
    go_ret
    first
    | (refine ⟨rint ?_, rfl⟩; rw [hv.out, if_pos ⟨h1, h2, h3, h4⟩]; done)
    | (refine ⟨rint ?_, rfl⟩; rw [hv.out, if_neg (by omega)]; done)

theorem tmod_emod (p q : Int) (hq : 1 ≤ q) (hp : p < 0) : -q < p.tmod q ∧ p.tmod q ≤ 0 ∧ (p.tmod q < 0 → p.tmod q + q = p % q) ∧ (¬ p.tmod q < 0 → p.tmod q = p % q) := by
  have e : p.tmod q = -((-p) % q) := by
    have h := Int.neg_tmod (a := -p) (b := q)
    rw [Int.neg_neg] at h
    rw [h, Int.tmod_eq_emod_of_nonneg (by omega)]
  have b1 := Int.emod_nonneg (-p) (b := q) (by omega)
  have b2 := Int.emod_lt_of_pos (-p) (b := q) (by omega)
  have hd := Int.mul_tdiv_add_tmod p q
  have hm : p % q = p.tmod q % q := by
    conv => lhs; rw [← hd]
    rw [Int.add_comm, Int.add_mul_emod_self_left]
  refine ⟨by omega, by omega, fun hn => ?_, fun hn => ?_⟩
  · rw [hm, ← Int.add_emod_right, Int.emod_eq_of_lt (by omega) (by omega)]
  · rw [hm, Int.emod_eq_of_lt (by omega) (by omega)]

theorem mod_any (a b : Int) (w : World) (ha : -9223372036854775808 ≤ a) (ha1 : a ≤ 9223372036854775807) :
    Calls Tryd.prog 13 #[.int .i64 a, .int .i64 b] w fun e w' => e = .returned (.int .i64 (modV a b)) ∧ w = w' := by
  have hv := Lib.hid (show modV a b = if 1 ≤ b ∧ b ≤ 1000000000000 then a % b else 0 from rfl)
  by_cases h3 : 1 ≤ b <;> by_cases h4 : b ≤ 1000000000000
  all_goals first | (exfalso; omega) | skip
  · have hv1 := Lib.hid (show modV a b = a % b by rw [hv.out, if_pos ⟨h3, h4⟩])
    by_cases hp : 0 ≤ a
    · have b1 := Int.emod_nonneg a (b := b) (by omega)
      have b2 := Int.emod_lt_of_pos a (b := b) (by omega)
      go_enter Tryd.func13, Tryd.ntmps13
      go_wp2
      go_ret
      exact ⟨rint hv1.out.symm, rfl⟩
    · obtain ⟨b1, b2, t1, t2⟩ := tmod_emod a b h3 (by omega)
      by_cases hz : a.tmod b < 0
      · have hv2 := Lib.hid ((t1 hz).trans hv1.out.symm)
        clear t1 t2
        go_enter Tryd.func13, Tryd.ntmps13
        go_wp2
        go_ret
        exact ⟨rint hv2.out, rfl⟩
      · have hv2 := Lib.hid ((t2 hz).trans hv1.out.symm)
        clear t1 t2
        go_enter Tryd.func13, Tryd.ntmps13
        go_wp2
        go_ret
        exact ⟨rint hv2.out, rfl⟩
  all_goals
    have hv1 := Lib.hid (show modV a b = 0 by rw [hv.out, if_neg (by omega)])
    go_enter Tryd.func13, Tryd.ntmps13
    go_wp2
    go_ret
    exact ⟨rint hv1.out.symm, rfl⟩

/-! What is drawn. -/
theorem draw_fmt (B : Nat) (a : Option Addr) (len cap : Nat) (zs : List Int) (w : World) (hB : B ≤ w.heap.size) (hrow : RowB B .u8 w a len cap zs) (hl : len ≤ maxLen) :
    Calls Tryd.prog 9 #[.slice a len cap] w fun e w' => ∃ m : Int, -9223372036854775808 ≤ m ∧ m ≤ 9223372036854775807 ∧ e = .returned (.int .i64 m) ∧ Below w.heap.size w w' := by
  have H := Lib.hid hrow
  clear hrow
  go_enter Tryd.func9, Tryd.ntmps9
  go_wp2_with fail
  refine (new_any B a len cap zs _ hB H.out hl).mono ?_
  rintro e w1 ⟨rfl, hc, hg⟩
  go_wp2_with fail
  refine (one_any B _ _ hc).mono ?_
  rintro e w2 ⟨x, x0, x1, rfl, hc2, hg2⟩
  go_wp2_with fail
  go_ret
  exact ⟨x, x0, x1, rfl, ((Below.refl _ _).grown hg (Nat.le_refl _) (by simp)).trans (below_of_grown hg2 (Nat.le_refl _) hg.size)⟩

theorem draw_cdiv (B : Nat) (a : Option Addr) (len cap : Nat) (zs : List Int) (w : World) (hB : B ≤ w.heap.size) (hrow : RowB B .u8 w a len cap zs) (hl : len ≤ maxLen) :
    Calls Tryd.prog 11 #[.slice a len cap] w fun e w' => ∃ x y : Int, -9223372036854775808 ≤ x ∧ x ≤ 9223372036854775807 ∧ -9223372036854775808 ≤ y ∧ y ≤ 9223372036854775807 ∧ e = .returned (.tuple #[.int .i64 x, .int .i64 y]) ∧ Below w.heap.size w w' := by
  have H := Lib.hid hrow
  clear hrow
  go_enter Tryd.func11, Tryd.ntmps11
  go_wp2_with fail
  refine (new_any B a len cap zs _ hB H.out hl).mono ?_
  rintro e w1 ⟨rfl, hc, hg⟩
  go_wp2_with fail
  refine (one_any B _ _ hc).mono ?_
  rintro e w2 ⟨x, x0, x1, rfl, hc2, hg2⟩
  go_wp2_with fail
  refine (one_any B _ _ hc2).mono ?_
  rintro e w3 ⟨y, y0, y1, rfl, hc3, hg3⟩
  go_wp2_with fail
  go_ret2
  exact ⟨x, y, x0, x1, y0, y1, rfl, ((Below.refl _ _).grown hg (Nat.le_refl _) (by simp)).trans (below_of_grown (grown_trans hg2 hg3) (Nat.le_refl _) hg.size)⟩

theorem draw_parse (B : Nat) (a : Option Addr) (len cap : Nat) (zs : List Int) (w : World) (hB : B ≤ w.heap.size) (hrow : RowB B .u8 w a len cap zs) (hl : len ≤ maxLen) :
    Calls Tryd.prog 7 #[.slice a len cap] w fun e w' => ∃ s : ByteArray, s.size ≤ 30 ∧ e = .returned (.string s) ∧ Below w.heap.size w w' := by
  have H := Lib.hid hrow
  clear hrow
  go_enter Tryd.func7, Tryd.ntmps7
  go_wp2_with fail
  refine (new_any B a len cap zs _ hB H.out hl).mono ?_
  rintro e w1 ⟨rfl, hc, hg⟩
  go_wp2_with fail
  refine (once_any B _ _ _ hc (by omega) (by omega)).mono ?_
  rintro e w2 ⟨t, rfl, hc2, hg2⟩
  have hb := Lib.hid (((Below.refl _ _).grown hg (Nat.le_refl _) (by simp)).trans (below_of_grown hg2 (Nat.le_refl _) hg.size))
  cases t
  · go_wp2_with fail
    refine (num_any B _ _ hc2).mono ?_
    rintro e w3 ⟨x, x0, x1, rfl, hc3, hg3⟩
    go_wp2_with fail
    refine (fmt_any x _ (by omega) (by omega)).mono ?_
    rintro e w4 ⟨rfl, hb4⟩
    go_wp2_with fail
    go_ret
    refine ⟨_, ?_, rfl, ?_⟩
    · obtain ⟨u, rfl⟩ := Int.eq_ofNat_of_zero_le x0
      have h13 := Num.len13 (u := u) (by omega)
      rw [itoa_nonneg]
      show (decDigits u).toArray.size ≤ 30
      simp; omega
    · have h3 := below_of_grown hg3 (Nat.le_refl _) (by have := hg.size; have := hg2.size; omega)
      have h4 := hb.out.trans h3
      exact h4.trans (hb4.mono h4.size)
  · go_wp2_with fail
    refine (str_alloc B _ 14 [⟨#[]⟩, ⟨#[48]⟩, ⟨#[48, 48]⟩, ⟨#[45, 49]⟩, ⟨#[48, 49]⟩, ⟨#[55]⟩, ⟨#[49, 48, 48, 48, 48, 48, 48, 48, 48, 48, 48, 48, 48]⟩, ⟨#[49, 48, 48, 48, 48, 48, 48, 48, 48, 48, 48, 48, 49]⟩, ⟨#[57, 57, 57, 57, 57, 57, 57, 57, 57, 57, 57, 57, 57, 57]⟩, ⟨#[49, 120]⟩, ⟨#[32, 49]⟩] _ 11 _ hc2 rfl (by omega) (by omega) (by decide)).mono ?_
    rintro e w3 ⟨s, hs, rfl, hc3, hg3⟩
    go_wp2_with fail
    go_ret
    exact ⟨s, by omega, rfl, hb.out.trans (below_of_grown hg3 (Nat.le_refl _) (by have := hg.size; have := hg2.size; omega))⟩

end Go.Proofs.YtagbklcfepmhcaaDoor
