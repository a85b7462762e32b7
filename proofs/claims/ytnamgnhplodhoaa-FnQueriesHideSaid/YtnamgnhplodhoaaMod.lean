/- Mod, the program's and the document's. No conditions but numbers that a machine holds. -/
import Derived.Test.YtnamgnhplodhoaaRows
import Derived.Test.YtnamgnhplodhoaaRd
import Derived.WalkKit
import Derived.Handy
import Derived.Outline
import Derived.WalkSpells
import Derived.Lib.Hide
namespace Go.Proofs.Ytnamgnhplodhoaa
open Go Go.RowKit
set_option linter.unusedVariables false

def modV (a b : Int) : Int := if 1 ≤ b ∧ b ≤ 1000000000000 then a % b else 0

theorem rint {a b : Int} (h : a = b) : Ending.returned (.int .i64 a) = Ending.returned (.int .i64 b) := by rw [h]

theorem tmod_emod (p q : Int) (hq : 1 ≤ q) (hp : p < 0) : -q < p.tmod q ∧ p.tmod q ≤ 0 ∧ (p.tmod q < 0 → p.tmod q + q = p % q) ∧ (¬ p.tmod q < 0 → p.tmod q = p % q) := by
  have e : p.tmod q = -((-p) % q) := by
    have h := Int.neg_tmod (a := -p) (b := q)
    rw [Int.neg_neg] at h
    rw [h, Int.tmod_eq_emod_of_nonneg (by omega)]
  have b1 := Int.emod_nonneg (-p) (b := q) (by omega)
  have b2 := Int.emod_lt_of_pos (-p) (b := q) (by omega)
  have hd := Int.mul_tdiv_add_tmod p q
  have hm : p % q = p.tmod q % q := by
    conv => lhs; rw [← hd]
    rw [Int.add_comm, Int.add_mul_emod_self_left]
  refine ⟨by omega, by omega, fun hn => ?_, fun hn => ?_⟩
  · rw [hm, ← Int.add_emod_right, Int.emod_eq_of_lt (by omega) (by omega)]
  · rw [hm, Int.emod_eq_of_lt (by omega) (by omega)]

theorem impl_mod (a b : Int) (w : World) (ha : -9223372036854775808 ≤ a) (ha1 : a ≤ 9223372036854775807) :
    Calls Try.prog 100 #[.int .i64 a, .int .i64 b] w fun e w' => e = .returned (.int .i64 (modV a b)) ∧ w' = w := by
  have hv := Lib.hid (show modV a b = if 1 ≤ b ∧ b ≤ 1000000000000 then a % b else 0 from rfl)
  by_cases h3 : 1 ≤ b <;> by_cases h4 : b ≤ 1000000000000
  all_goals first | (exfalso; omega) | skip
  · have hv1 := Lib.hid (show modV a b = a % b by rw [hv.out, if_pos ⟨h3, h4⟩])
    by_cases hp : 0 ≤ a
    · have b1 := Int.emod_nonneg a (b := b) (by omega)
      have b2 := Int.emod_lt_of_pos a (b := b) (by omega)
      go_enter Try.func100, Try.ntmps100
      go_wp2
      go_ret
      exact ⟨rint hv1.out.symm, rfl⟩
    · obtain ⟨b1, b2, t1, t2⟩ := tmod_emod a b h3 (by omega)
      by_cases hz : a.tmod b < 0
      · have hv2 := Lib.hid ((t1 hz).trans hv1.out.symm)
        clear t1 t2
        go_enter Try.func100, Try.ntmps100
        go_wp2
        go_ret
        exact ⟨rint hv2.out, rfl⟩
      · have hv2 := Lib.hid ((t2 hz).trans hv1.out.symm)
        clear t1 t2
        go_enter Try.func100, Try.ntmps100
        go_wp2
        go_ret
        exact ⟨rint hv2.out, rfl⟩
  all_goals
    have hv1 := Lib.hid (show modV a b = 0 by rw [hv.out, if_neg (by omega)])
    go_enter Try.func100, Try.ntmps100
    go_wp2
    go_ret
    exact ⟨rint hv1.out.symm, rfl⟩

theorem spec_mod (a b : Int) (w : World) (ha : -9223372036854775808 ≤ a) (ha1 : a ≤ 9223372036854775807) :
    Calls Try.prog 101 #[.int .i64 a, .int .i64 b] w fun e w' => e = .returned (.int .i64 (modV a b)) ∧ w' = w := by
  have hv := Lib.hid (show modV a b = if 1 ≤ b ∧ b ≤ 1000000000000 then a % b else 0 from rfl)
  by_cases h3 : 1 ≤ b <;> by_cases h4 : b ≤ 1000000000000
  all_goals first | (exfalso; omega) | skip
  · have hv1 := Lib.hid (show modV a b = a % b by rw [hv.out, if_pos ⟨h3, h4⟩])
    by_cases hp : 0 ≤ a
    · have b1 := Int.emod_nonneg a (b := b) (by omega)
      have b2 := Int.emod_lt_of_pos a (b := b) (by omega)
      go_enter Try.func101, Try.ntmps101
      go_wp2
      go_ret
      refine ⟨rint ?_, rfl⟩
      rw [hv1.out]
      first | rfl | exact Int.emod_emod_of_dvd _ (Int.dvd_refl _) | (rw [Int.add_emod_right, Int.emod_emod_of_dvd _ (Int.dvd_refl _)])
    · obtain ⟨b1, b2, t1, t2⟩ := tmod_emod a b h3 (by omega)
      have hv2 : Hid ((a.tmod b + b) % b = modV a b) := Lib.hid (by
        rw [hv1.out, Int.add_emod_right]
        by_cases hz : a.tmod b < 0
        · rw [← t1 hz]
          rw [← Int.add_emod_right, Int.emod_eq_of_lt (by omega) (by omega)]
        · rw [t2 hz]; exact Int.emod_emod_of_dvd _ (Int.dvd_refl _))
      clear t1 t2
      go_enter Try.func101, Try.ntmps101
      go_wp2
      go_ret
      refine ⟨rint ?_, rfl⟩
      first | exact hv2.out | (rw [← hv2.out]; simp)
  all_goals
    have hv1 := Lib.hid (show modV a b = 0 by rw [hv.out, if_neg (by omega)])
    go_enter Try.func101, Try.ntmps101
    go_wp2
    go_ret
    exact ⟨rint hv1.out.symm, rfl⟩

end Go.Proofs.Ytnamgnhplodhoaa
