/- Mailboxes: what FnMailboxes asks: the keys of the two directions differ for the keys that it draws (a look at all 256), what is sent is received once and in its direction only, a free round has different rows. No program. -/
import Derived.Test.YtbimihljaalllaaDoorMbN
import Derived.Test.YtbimihljaalllaaDoorClP
import Derived.KernelRfl
namespace Go.Proofs.YtbimihljaalllaaDoor
open Go Go.RowKit
set_option linter.unusedVariables false
attribute [local irreducible] kh kid

def dkt (n : Nat) : Bool := Nat.rec true (fun i ih => cond (decide (dkey (1 + (i : Int) * 7) 0 = dkey (1 + (i : Int) * 7) 1)) false ih) n
theorem dkt_all : dkt 256 = true := by kernel_rfl
theorem dkt_succ (n : Nat) : dkt (n + 1) = cond (decide (dkey (1 + (n : Int) * 7) 0 = dkey (1 + (n : Int) * 7) 1)) false (dkt n) := rfl
theorem dkt_sound {n x : Nat} (h : dkt n = true) (hx : x < n) : dkey (1 + (x : Int) * 7) 0 ≠ dkey (1 + (x : Int) * 7) 1 := by
  induction n with
  | zero => omega
  | succ n ih =>
    rw [dkt_succ] at h
    by_cases e : dkey (1 + (n : Int) * 7) 0 = dkey (1 + (n : Int) * 7) 1
    · rw [decide_eq_true e] at h
      cases h
    · rw [decide_eq_false e] at h
      by_cases ex : x = n
      · rw [ex]; exact e
      · exact ih h (by omega)
theorem dk_apart {x : Int} (h0 : 0 ≤ x) (h1 : x ≤ 255) : dkey (1 + x * 7) 0 ≠ dkey (1 + x * 7) 1 := by
  obtain ⟨n, rfl⟩ : ∃ n : Nat, x = (n : Int) := ⟨x.toNat, by omega⟩
  exact dkt_sound dkt_all (by omega)

section
variable {k : Int} {j : Nat} {b : List Int}
theorem okM_ok (hk : 1 ≤ k ∧ k ≤ 2147483646) {s r : Int} (hs : 0 ≤ s ∧ s ≤ 1000000000000) (hr : 0 ≤ r ∧ r ≤ 1000000000000) : okM k s r = true := okM_iff.2 ⟨hk, hs, hr⟩
theorem sok_mb (hj : j ≤ 1000) (hb : b.length ≤ 14) (d : Int) : sok (dkey k d) (j : Int) 1 b = true := by
  unfold sok okPlain
  rw [inR_yes (dkey_bound k d), inR_yes (by omega), inR_yes (by omega), decide_eq_true hb]
  rfl
theorem ne_max {x : Int} (h : x < 1000000000000) : (!(x == 1000000000000)) = true := by
  rw [beq_eq_false_iff_ne.2 (by omega)]
  rfl
theorem sd_mb (hk : 1 ≤ k ∧ k ≤ 2147483646) (hj : j ≤ 1000) (hb : b.length ≤ 14) : sdok k (j : Int) 0 0 b = true := by
  unfold sdok
  rw [okM_ok hk (by omega) (by omega), ne_max (by omega), sok_mb hj hb]
  rfl
theorem rv_mb (hk : 1 ≤ k ∧ k ≤ 2147483646) (hj : j ≤ 1000) (hb : b.length ≤ 14) (hu : U8s b) : rvok k 0 (j : Int) 0 (sealL (dkey k 0) (j : Int) 1 b) = true := by
  unfold rvok
  have h := sok_mb (k := k) hj hb 0
  rw [okM_ok hk (by omega) (by omega), ne_max (by omega), ook_seal h hu, ocK_seal h hu]
  rfl
theorem rv_again (hk : 1 ≤ k ∧ k ≤ 2147483646) (hj : j ≤ 1000) (hb : b.length ≤ 14) : rvok k 0 ((j : Int) + 1) 0 (sealL (dkey k 0) (j : Int) 1 b) = false := by
  unfold rvok
  rw [ook_counter (sok_mb (k := k) hj hb 0) (by omega), Bool.false_and, Bool.and_false, Bool.and_false]
theorem rv_wrong (hn : dkey k 0 ≠ dkey k 1) (hj : j ≤ 1000) (hb : b.length ≤ 14) : rvok k 0 (j : Int) 1 (sealL (dkey k 0) (j : Int) 1 b) = false := by
  unfold rvok
  rw [ook_key (sok_mb (k := k) hj hb 0) (dkey_bound k 1) (fun h => hn h.symm), Bool.false_and, Bool.and_false, Bool.and_false]
end
theorem fr_two {x y r : Int} (h : frq r 16 = true) : fr [x, y] r 16 = -1 ∨ (r ≤ fr [x, y] r 16 ∧ fr [x, y] r 16 ≤ r + 19 ∧ mrow x (fr [x, y] r 16) 0 16 ≠ mrow y (fr [x, y] r 16) 0 16) := by
  by_cases hn : ∀ t : Nat, t < 20 → col (rowsAt [x, y] (r + (t : Int)) 16) ≠ 0
  · exact Or.inl (fr_none h hn)
  · right
    have : ∀ m : Nat, m ≤ 20 → (∀ t : Nat, t < m → col (rowsAt [x, y] (r + (t : Int)) 16) ≠ 0) ∨ ∃ j : Nat, j < m ∧ (∀ t : Nat, t < j → col (rowsAt [x, y] (r + (t : Int)) 16) ≠ 0) ∧ col (rowsAt [x, y] (r + (j : Int)) 16) = 0 := by
      intro m
      induction m with
      | zero => intro _; exact Or.inl (fun t ht => by omega)
      | succ m ih =>
        intro hm
        rcases ih (by omega) with h1 | ⟨j, hj, h2, h3⟩
        · by_cases hc : col (rowsAt [x, y] (r + (m : Int)) 16) = 0
          · exact Or.inr ⟨m, by omega, h1, hc⟩
          · refine Or.inl (fun t ht => ?_)
            by_cases e : t = m
            · rw [e]; exact hc
            · exact h1 t (by omega)
        · exact Or.inr ⟨j, by omega, h2, h3⟩
    rcases this 20 (by omega) with h1 | ⟨j, hj, h2, h3⟩
    · exact absurd h1 hn
    · rw [fr_found h hj h2 h3]
      refine ⟨by omega, by omega, ?_⟩
      have := col_nodup h3
      unfold rowsAt at this
      simp only [List.map_cons, List.map_nil, List.nodup_cons, List.mem_singleton] at this
      exact this.1
theorem col_lit : col [3, 1, 3, 3] = 2 := by kernel_rfl

end Go.Proofs.YtbimihljaalllaaDoor
