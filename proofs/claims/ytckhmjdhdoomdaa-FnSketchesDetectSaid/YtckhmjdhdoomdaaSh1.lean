/- Shares: how many, how long, what is joined and completed; the program's and the document's. No conditions but a size that a machine holds. -/
import Derived.Test.YtckhmjdhdoomdaaShN
import Derived.Test.YtckhmjdhdoomdaaBa6
import Derived.Test.YtckhmjdhdoomdaaBaM
namespace Go.Proofs.Ytckhmjdhdoomdaa
open Go Go.RowKit
set_option linter.unusedVariables false
attribute [local irreducible] kh

theorem fitI_any {w : World} {a : Option Addr} {n cap : Nat} (hn : n ≤ 140737488355328) : Calls Try.prog 73 #[.slice a n cap] w fun e w' => e = .returned (.bool (inR (n : Int) 2 4)) ∧ w' = w := by
  go_enter Try.func73, Try.ntmps73
  go_wp2_with fail
  refine (impl_in _ _ _ _ (wf_i64_of (by omega) (by omega))).mono ?_
  rintro e w1 ⟨rfl, hw⟩
  subst hw
  go_wp2_with fail
  go_ret
  exact ⟨rfl, rfl⟩
theorem count_any {w : World} {n : Int} (hn : (Lit.int .i64 n).wf = true) : Calls Try.prog 51 #[.int .i64 n] w fun e w' => e = .returned (.bool (inR n 2 4)) ∧ w' = w := by
  go_enter Try.func51, Try.ntmps51
  go_wp2_with fail
  refine (spec_in _ _ _ _ hn).mono ?_
  rintro e w1 ⟨rfl, hw⟩
  subst hw
  go_wp2_with fail
  go_ret
  exact ⟨rfl, rfl⟩

/-! ### Numbers -/

theorem modV_1019 (x : Int) : modV x 1019 = x % 1019 := if_pos (by omega)

theorem fe_any {w : World} {x : Int} (hx : (Lit.int .i64 x).wf = true) : Calls Try.prog 57 #[.int .i64 x] w fun e w' => e = .returned (.int .i64 (x % 1019)) ∧ w' = w := by
  have hb := wf_i64 hx
  have HM := Lib.hid (modV_1019 x)
  clear hx
  go_enter Try.func57, Try.ntmps57
  go_wp2_with fail
  refine (impl_mod _ _ _ hb.1 hb.2).mono ?_
  rw [HM.out]
  obtain ⟨q, hq⟩ : ∃ q, q = x % 1019 := ⟨_, rfl⟩
  rw [← hq]
  have HQ := Lib.hid hq
  clear hq HM
  rintro e w1 ⟨rfl, hw⟩
  subst hw
  go_wp2_with fail
  go_ret
  exact ⟨rint HQ.out, rfl⟩

set_option maxHeartbeats 1000000 in
/-- impl.JoinNumber. -/
theorem impl_jn {lim : Nat} {w : World} {v : Value} {zs : List Int} (h : Rd lim .i64 w v zs) :
    Calls Try.prog 74 #[v] w fun e w' => e = .returned (.int .i64 (jn zs)) ∧ w' = w := by
  obtain ⟨a, cap, rfl, h1, h2, hc⟩ := h.open
  have Hc := Lib.hid hc
  have H := Lib.hid h
  unfold maxLen at h2
  clear h hc
  go_enter Try.func74, Try.ntmps74
  go_wp2_with fail
  go_loopw [3, 8] (fun s i wr => ∃ j : Nat, i = .int .i64 j ∧ j ≤ zs.length ∧ s = .int .i64 (wsum (zs.take j)) ∧ wr = w) (fun _ i _ => zs.length - (intOf i).toNat)
  case atStart => exact ⟨0, rfl, Nat.zero_le _, rfl, rfl⟩
  case round =>
    obtain ⟨j, rfl, hj, rfl, rfl⟩ := hrel
    by_cases hlt : j < zs.length
    · have e1 : decide ((j : Int) < (zs.length : Int)) = true := by simp; omega
      obtain ⟨b, o, rfl, hbl, hcell⟩ := Hc.out (by omega)
      have c1 := hcell _ (Below.refl _ _) j hlt
      have hs := wsum_succ hlt
      have HW := Lib.hid (wf_i64 (H.out.wf hlt))
      have HU := Lib.hid (wsum_bound (zs.take j))
      obtain ⟨z, hz⟩ : ∃ z, z = zs.getD j 0 := ⟨_, rfl⟩
      obtain ⟨t, ht⟩ : ∃ t, t = wsum (zs.take j) := ⟨_, rfl⟩
      rw [← hz, ← ht] at hs
      rw [← hz] at c1
      rw [← ht]
      have HS := Lib.hid hs
      clear hcell hz ht hs
      go_wp2
      go_roundw
      case rel => exact ⟨j + 1, by simp, hlt, by rw [← HS.out], by first | rfl | trivial⟩
      case measure => simp [intOf]; omega
    · have e1 : decide ((j : Int) < (zs.length : Int)) = false := by simp; omega
      have HE : Hid (wsum (zs.take j) % 1019 = jn zs) := Lib.hid (by rw [List.take_of_length_le (by omega)]; rfl)
      have hW := wf_i64_of (wsum_bound (zs.take j)).1 (wsum_bound (zs.take j)).2
      obtain ⟨t, ht⟩ : ∃ t, t = wsum (zs.take j) := ⟨_, rfl⟩
      rw [← ht] at HE hW
      rw [← ht]
      have HW := Lib.hid hW
      clear ht hW
      go_wp2_with fail
      refine (fe_any HW.out).mono ?_
      rw [HE.out]
      rintro e w1 ⟨rfl, hw⟩
      subst hw
      go_wp2_with fail
      go_ret
      exact ⟨rfl, rfl⟩

/-- impl.missingNumber, of field elements. -/
theorem mnum_any {lim : Nat} {w : World} {v : Value} {s : List Int} {x : Int} (h : Rd lim .i64 w v (fes s)) (hx : (Lit.int .i64 x).wf = true) (hl : s.length ≤ 3) :
    Calls Try.prog 59 #[v, .int .i64 x] w fun e w' => e = .returned (.int .i64 (lastN x s s.length)) ∧ w' = w := by
  have H := Lib.hid h
  have HX := Lib.hid hx
  have hm := miss_num x hl
  have hj := jn_bound (fes s)
  have HD : Hid (jn (fes s) = jn (fes s)) := Lib.hid rfl
  obtain ⟨q, hq⟩ : ∃ q, q = jn (fes s) := ⟨_, rfl⟩
  rw [← hq] at hm hj
  obtain ⟨p, hp⟩ : ∃ p, p = x % 1019 := ⟨_, rfl⟩
  have hpb : 0 ≤ p ∧ p ≤ 1018 := by omega
  rw [← hp] at hm
  have HQ := Lib.hid hq
  have HP := Lib.hid hp
  have HM := Lib.hid hm
  clear h hx hm hq hp
  go_enter Try.func59, Try.ntmps59
  go_wp2_with fail
  refine (fe_any HX.out).mono ?_
  rw [← HP.out]
  rintro e w1 ⟨rfl, hw⟩
  subst hw
  go_wp2_with fail
  refine (impl_jn H.out).mono ?_
  rw [← HQ.out]
  rintro e w1 ⟨rfl, hw⟩
  subst hw
  go_wp2_with fail
  refine (fe_any (wf_i64_of (by omega) (by omega))).mono ?_
  rw [HM.out]
  rintro e w1 ⟨rfl, hw⟩
  subst hw
  go_wp2_with fail
  go_ret
  exact ⟨rfl, rfl⟩

/-! ### Byte strings -/

end Go.Proofs.Ytckhmjdhdoomdaa
