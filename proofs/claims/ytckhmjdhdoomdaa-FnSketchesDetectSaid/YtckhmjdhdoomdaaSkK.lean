/- Challenges of two components agree for at most one of 40 seeds that follow each other: a look at all of them. No program. -/
import Derived.Test.YtckhmjdhdoomdaaTreK
import Derived.Test.YtckhmjdhdoomdaaSkP
import Derived.KernelRfl
namespace Go.Proofs.Ytckhmjdhdoomdaa
open Go Go.RowKit
set_option linter.unusedVariables false
attribute [local irreducible] kh

/-- The challenge, in numbers. -/
def cN (s i : Nat) : Nat := Nat.succ (Nat.mod (nk (Nat.add (Nat.mul i 1000003) 7909691663) s) 1018)
noncomputable def scan (i k n : Nat) : Nat → Nat → Bool :=
  Nat.rec (fun _ _ => true) (fun _ ih s nx => cond (Nat.beq (cN s i) (cN s k)) (cond (Nat.ble nx s) (ih (Nat.succ s) (Nat.add s 40)) false) (ih (Nat.succ s) nx)) n
noncomputable def scanRow (k n : Nat) : Bool := Nat.rec true (fun i ih => cond (scan i k 296 0 0) ih false) n
noncomputable def scanAll (n : Nat) : Bool := Nat.rec true (fun k ih => cond (scanRow k k) ih false) n
theorem scan_all : scanAll 21 = true := by kernel_rfl

theorem scan_succ (i k n s nx : Nat) : scan i k (n + 1) s nx = cond (Nat.beq (cN s i) (cN s k)) (cond (Nat.ble nx s) (scan i k n (Nat.succ s) (Nat.add s 40)) false) (scan i k n (Nat.succ s) nx) := rfl
theorem scanRow_succ (k n : Nat) : scanRow k (n + 1) = cond (scan n k 296 0 0) (scanRow k n) false := rfl
theorem scanAll_succ (n : Nat) : scanAll (n + 1) = cond (scanRow n n) (scanAll n) false := rfl
theorem scan_sound {i k n s nx : Nat} (h : scan i k n s nx = true) : ∀ a, s ≤ a → a < s + n → cN a i = cN a k → nx ≤ a ∧ ∀ b, a < b → b < s + n → cN b i = cN b k → a + 40 ≤ b := by
  induction n generalizing s nx with
  | zero => intro a h1 h2; omega
  | succ n ih =>
    rw [scan_succ] at h
    cases hb : Nat.beq (cN s i) (cN s k) with
    | true =>
      rw [hb] at h
      obtain ⟨hl, h⟩ := cond_and h
      have hl' := Nat.le_of_ble_eq_true hl
      have hi := ih h
      have e40 : Nat.add s 40 = s + 40 := rfl
      rw [e40] at hi
      intro a h1 h2 ha
      refine ⟨by omega, fun b h3 h4 hb' => ?_⟩
      by_cases e : a = s
      · subst e
        exact (hi b (by omega) (by omega) hb').1
      · exact (hi a (by omega) (by omega) ha).2 b h3 (by omega) hb'
    | false =>
      rw [hb] at h
      have hi := ih h
      intro a h1 h2 ha
      by_cases e : a = s
      · subst e
        rw [ha, Nat.beq_refl] at hb
        cases hb
      · obtain ⟨p1, p2⟩ := hi a (by omega) (by omega) ha
        exact ⟨p1, fun b h3 h4 hb' => p2 b h3 (by omega) hb'⟩
theorem scanRow_sound {k n i : Nat} (h : scanRow k n = true) (hi : i < n) : scan i k 296 0 0 = true := by
  induction n with
  | zero => omega
  | succ n ih =>
    rw [scanRow_succ] at h
    obtain ⟨h1, h2⟩ := cond_and h
    by_cases e : i = n
    · rw [e]; exact h1
    · exact ih h2 (by omega)
theorem scanAll_sound {n k : Nat} (h : scanAll n = true) (hk : k < n) : scanRow k k = true := by
  induction n with
  | zero => omega
  | succ n ih =>
    rw [scanAll_succ] at h
    obtain ⟨h1, h2⟩ := cond_and h
    by_cases e : k = n
    · rw [e]; exact h1
    · exact ih h2 (by omega)

theorem chal_cN {s i : Nat} (hs : s < 2147483647) (hi : i < 1000) : chal (s : Int) i = (cN s i : Int) := by
  have e0 : kh (s : Int) [47, 7000 + (i : Int)] = (((s * 1049561762 + (i * 1000003 + 7909691663)) % 2147483647 : Nat) : Int) := by rw [kh_side]; omega
  have e1 : cN s i = nk (i * 1000003 + 7909691663) s % 1018 + 1 := rfl
  unfold chal
  rw [chl_eq, kid_eq, e0, cast_sq, e1, nk_eq]
  generalize ((s * 1049561762 + (i * 1000003 + 7909691663)) % 2147483647) * ((s * 1049561762 + (i * 1000003 + 7909691663)) % 2147483647) = q
  omega
/-- Two seeds with equal challenges lie apart. -/
theorem chal_apart {i k a b : Nat} (hik : i < k) (hk : k < 21) (hab : a < b) (hb : b < 296) (h1 : chal (a : Int) i = chal (a : Int) k) (h2 : chal (b : Int) i = chal (b : Int) k) : a + 40 ≤ b := by
  rw [chal_cN (by omega) (by omega), chal_cN (by omega) (by omega)] at h1 h2
  exact (scan_sound (scanRow_sound (scanAll_sound scan_all hk) hik) a (by omega) (by omega) (by omega)).2 b hab (by omega) (by omega)

/-- A vector with two nonzero components is accepted for few seeds. -/
theorem detect {v : List Int} {i k f : Nat} {x y : Int} (h : Two v i k x y) (hik : i ≠ k) (hi : i < v.length) (hk : k < v.length) (hl : v.length ≤ 21) (hx : 1 ≤ x ∧ x ≤ 1018) (hy : 1 ≤ y ∧ y ≤ 1018) (hf : f ≤ 255) : cnA v (f : Int) 40 ≤ 1 := by
  have key : ∀ c : Int, acc (kA c v) (kB c v) (kM v) = true → chal c i = chal c k := fun c ha => by
    obtain ⟨e1, e2, e3⟩ := k_two h hik hi (by omega) (by omega) (by omega) hk c
    rw [e1, e2, e3] at ha
    exact two_acc hx hy (chal_bound _ _) (chal_bound _ _) ha
  have hw : ∀ j : Nat, j < 40 → wrap64 ((f : Int) + (j : Int)) = ((f + j : Nat) : Int) := fun j hj => by unfold wrap64; omega
  refine cnA_few fun a b hab hb ha hb' => ?_
  have e1 := key _ ha
  have e2 := key _ hb'
  rw [hw a (by omega)] at e1
  rw [hw b (by omega)] at e2
  rcases Nat.lt_or_gt_of_ne hik with hlt | hgt
  · have := chal_apart hlt (by omega) (by omega : f + a < f + b) (by omega) e1 e2
    omega
  · have := chal_apart hgt (by omega) (by omega : f + a < f + b) (by omega) e1.symm e2.symm
    omega

end Go.Proofs.Ytckhmjdhdoomdaa
