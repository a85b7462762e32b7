/- Ratchets: what the program's map of kept keys comes to. Pure; no conditions but those that are named. -/
import Derived.Test.YtlbijjifeaimjaaRtM
import Derived.Test.YtlbijjifeaimjaaBcX
namespace Go.Proofs.Ytlbijjifeaimjaa
open Go Go.RowKit
set_option linter.unusedVariables false
set_option maxRecDepth 20000
attribute [local irreducible] kh kid

section
variable {c s t : Int} {xs : Kept}
theorem hasK_neg (h : keyK s xs = true) (ht : t < 0) : hasK xs t = false := by
  cases hh : hasK xs t with
  | false => rfl
  | true =>
    obtain ⟨x, hx, e⟩ := hasK_iff.1 hh
    have := keyK_lt h x hx
    omega
theorem kf_bad (h : okR c s xs = false) : kfq c s xs t = false := by unfold kfq kfo kfn; rw [h]; rfl
theorem kf_out (h : ¬ (0 ≤ t ∧ t ≤ mn (s + 8) 99999)) : kfq c s xs t = false := by
  cases hok : okR c s xs with
  | false => exact kf_bad hok
  | true =>
    obtain ⟨_, h2, _, h4, _⟩ := okR_iff.1 hok
    have hmn : mn (s + 8) 99999 = if s + 8 ≤ 99999 then s + 8 else 99999 := by unfold mn; split <;> split <;> omega
    rw [hmn] at h
    unfold kfq kfo kfn
    rw [hok]
    by_cases h0 : t < 0
    · rw [hasK_neg h4 h0, decide_eq_false (show ¬ s ≤ t by omega)]; simp
    · split at h
      · rw [decide_eq_false (show ¬ t < s by omega), decide_eq_false (show ¬ t - s ≤ 8 by omega)]; simp
      · rw [decide_eq_false (show ¬ t < 100000 by omega)]; simp
theorem kf_in (hok : okR c s xs = true) (ht : 0 ≤ t ∧ t ≤ mn (s + 8) 99999) {N : Nat} (hN : N = (t + 1 - s).toNat) :
    hasK (xs ++ skp c s N) t = kfq c s xs t ∧ (kfq c s xs t = true → getK (xs ++ skp c s N) t = kfM c s xs t ∧ lastK (delK (xs ++ skp c s N) t) = kfL c s xs t ∧ chn c N = kfC c s xs t ∧ s + (N : Int) = kfS c s xs t) := by
  obtain ⟨_, h2, h3, h4, h5⟩ := okR_iff.1 hok
  have hmn : mn (s + 8) 99999 = if s + 8 ≤ 99999 then s + 8 else 99999 := by unfold mn; split <;> split <;> omega
  rw [hmn] at ht
  have ht1 : t < 100000 := by obtain ⟨_, h⟩ := ht; split at h <;> omega
  have ht2 : t ≤ s + 8 := by obtain ⟨_, h⟩ := ht; split at h <;> omega
  by_cases hlt : t < s
  · obtain rfl : N = 0 := by omega
    have e0 : xs ++ skp c s 0 = xs := List.append_nil _
    rw [e0]
    have hn : kfn c s xs t = false := by unfold kfn; rw [decide_eq_false (show ¬ s ≤ t by omega)]; simp
    have ho : kfo c s xs t = hasK xs t := by unfold kfo; rw [hok, decide_eq_true ht1, decide_eq_true hlt]; rfl
    have hq : kfq c s xs t = hasK xs t := by unfold kfq; rw [hn, ho]; simp
    refine ⟨hq.symm, fun h => ?_⟩
    rw [hq, ← ho] at h
    obtain ⟨_, b2, b3, b4, b5⟩ := kf_old h
    rw [b2, b3, b4, b5]
    refine ⟨rfl, lastK_short (by have := delK_len xs t; omega), rfl, by simp⟩
  · obtain ⟨n, hn⟩ : ∃ n : Nat, t = s + (n : Int) := ⟨(t - s).toNat, by omega⟩
    subst hn
    obtain rfl : N = n + 1 := by omega
    have hk : kfn c s xs (s + (n : Int)) = true := by
      unfold kfn
      rw [hok, decide_eq_true ht1, decide_eq_true (show s ≤ s + (n : Int) by omega), decide_eq_true (show s + (n : Int) - s ≤ 8 by omega)]
      rfl
    obtain ⟨b1, b2, b3, b4, b5⟩ := kf_new hk
    have en : (s + (n : Int) - s).toNat = n := by omega
    rw [en] at b2 b4 b5
    obtain ⟨g1, g2⟩ := ks_get (c := c) h4 n
    rw [b1, b2, b3, b4, b5]
    refine ⟨g1, fun _ => ⟨g2, ?_, rfl, ?_⟩⟩
    · rw [ks_del h4]
    · push_cast; omega
end

end Go.Proofs.Ytlbijjifeaimjaa
