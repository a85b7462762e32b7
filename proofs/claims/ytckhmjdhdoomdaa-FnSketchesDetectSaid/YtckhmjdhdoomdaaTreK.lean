/- Different leaves of a tree have different seeds: a look at one root, and what it says. No program. -/
import Derived.Test.YtckhmjdhdoomdaaBbR
namespace Go.Proofs.Ytckhmjdhdoomdaa
open Go Go.RowKit
set_option linter.unusedVariables false
attribute [local irreducible] kh

def ksq (h : Nat) : Nat := Nat.mod (Nat.add (Nat.mul h h) 5) 2147483647
/-- The child of a seed, in numbers. -/
def nk (c s : Nat) : Nat := ksq (Nat.mod (Nat.add (Nat.mul s 1049561762) c) 2147483647)
/-- A leaf's place modulo P is free, and taken from here on. -/
def lookLeaf (P : Nat) (s m : Nat) (k : Nat → Bool) : Bool :=
  (fun b => cond (Nat.beq (Nat.land m b) 0) (k (Nat.lor m b)) false) (Nat.shiftLeft 1 (Nat.mod s P))
def lookNode (f : Nat → Nat → (Nat → Bool) → Bool) (s m : Nat) (k : Nat → Bool) : Bool :=
  f (nk 909670663 s) m (fun m' => f (nk 910670666 s) m' k)
def look (P r : Nat) : Bool := lookNode (lookNode (lookNode (lookNode (lookNode (lookLeaf P))))) r 0 (fun _ => true)
def looks (r : Nat) : Bool := cond (look 4096 r) true (cond (look 4095 r) true (cond (look 4094 r) true (cond (look 4093 r) true (look 4092 r))))
/-- All roots from r on. -/
def allLook : Nat → Nat → Bool
  | 0, _ => true
  | n + 1, r => cond (looks r) (allLook n (Nat.succ r)) false

/-- The leaves n levels below a seed. -/
def lv : Nat → Nat → List Nat
  | 0, s => [s]
  | n + 1, s => lv n (nk 909670663 s) ++ lv n (nk 910670666 s)
def Sound (P n : Nat) (f : Nat → Nat → (Nat → Bool) → Bool) : Prop :=
  ∀ s m k, f s m k = true → ∃ m', k m' = true ∧ (∀ b, m'.testBit b = (m.testBit b || (lv n s).any (fun x => x % P == b))) ∧ (∀ x ∈ lv n s, m.testBit (x % P) = false) ∧ (lv n s).Pairwise (fun x y => x ≠ y)
theorem sound_leaf (P : Nat) : Sound P 0 (lookLeaf P) := by
  intro s m k h
  have e : lookLeaf P s m k = cond (Nat.beq (m &&& 1 <<< (s % P)) 0) (k (m ||| 1 <<< (s % P))) false := rfl
  rw [e] at h
  have hs : (1 : Nat) <<< (s % P) = 2 ^ (s % P) := by rw [Nat.shiftLeft_eq, Nat.one_mul]
  rw [hs] at h
  cases hb : Nat.beq (m &&& 2 ^ (s % P)) 0 with
  | false => rw [hb] at h; cases h
  | true =>
    rw [hb] at h
    have hz : m &&& 2 ^ (s % P) = 0 := Nat.eq_of_beq_eq_true hb
    refine ⟨_, h, fun b => ?_, ?_, ?_⟩
    · rw [Nat.testBit_or, Nat.testBit_two_pow]
      simp [lv]
      rfl
    · intro x hx
      have hx' : x = s := by simpa [lv] using hx
      subst hx'
      have := congrArg (fun q => q.testBit (x % P)) hz
      simpa [Nat.testBit_and, Nat.testBit_two_pow_self] using this
    · exact List.pairwise_singleton _ _
theorem sound_node {P n : Nat} {f : Nat → Nat → (Nat → Bool) → Bool} (hf : Sound P n f) : Sound P (n + 1) (lookNode f) := by
  intro s m k h
  obtain ⟨m1, h1, a1, b1, c1⟩ := hf _ _ _ h
  obtain ⟨m2, h2, a2, b2, c2⟩ := hf _ _ _ h1
  refine ⟨m2, h2, fun b => ?_, fun x hx => ?_, ?_⟩
  · rw [a2, a1]
    simp [lv, Bool.or_assoc]
  · rcases List.mem_append.1 hx with hx | hx
    · exact b1 x hx
    · have := b2 x hx
      rw [a1] at this
      simp at this
      exact this.1
  · refine List.pairwise_append.2 ⟨c1, c2, fun x hx y hy he => ?_⟩
    have h3 := b2 y hy
    rw [a1] at h3
    subst he
    simp at h3
    exact h3.2 x hx rfl
theorem look_sound {P r : Nat} (h : look P r = true) : (lv 5 r).Pairwise (fun x y => x ≠ y) := by
  obtain ⟨_, _, _, _, h⟩ := sound_node (sound_node (sound_node (sound_node (sound_node (sound_leaf P))))) _ _ _ h
  exact h
theorem cond_or {a b : Bool} {p : Prop} (h : cond a true b = true) (ha : a = true → p) (hb : b = true → p) : p := by
  cases a with
  | true => exact ha rfl
  | false => exact hb h
theorem looks_sound {r : Nat} (h : looks r = true) : (lv 5 r).Pairwise (fun x y => x ≠ y) := by
  unfold looks at h
  exact cond_or h look_sound fun h => cond_or h look_sound fun h => cond_or h look_sound fun h => cond_or h look_sound look_sound
theorem cond_and {a b : Bool} (h : cond a b false = true) : a = true ∧ b = true := by
  cases a with
  | true => exact ⟨rfl, h⟩
  | false => cases h
theorem allLook_sound {n r x : Nat} (h : allLook n r = true) (h0 : r ≤ x) (h1 : x < r + n) : (lv 5 x).Pairwise (fun x y => x ≠ y) := by
  induction n generalizing r with
  | zero => omega
  | succ n ih =>
    rw [allLook] at h
    obtain ⟨hl, h⟩ := cond_and h
    by_cases hx : x = r
    · rw [hx]; exact looks_sound hl
    · exact ih h (Nat.lt_of_le_of_ne h0 (Ne.symm hx)) (by omega)

theorem lv_len (n s : Nat) : (lv n s).length = 2 ^ n := by
  induction n generalizing s with
  | zero => rfl
  | succ n ih => rw [lv, List.length_append, ih, ih, Nat.pow_succ]; omega
theorem nk_lt (c s : Nat) : nk c s < 2147483647 := Nat.mod_lt _ (by decide)
theorem kh_side (s c : Int) : kh s [47, c] = (s % 2147483647 * 1049561762 + (c % 2147483647 * 1000003 + 909670663)) % 2147483647 := by
  unfold kh
  simp only [hfold, List.foldl, List.cons_append, List.nil_append]
  unfold hstep
  omega
theorem cast_sq (p : Nat) : ((p : Int) * (p : Int) + 5) % 2147483647 = (((p * p + 5) % 2147483647 : Nat) : Int) := by
  generalize hq : p * p = q
  have : (p : Int) * (p : Int) = (q : Int) := by rw [← hq]; exact (Int.natCast_mul p p).symm
  rw [this]
  omega
theorem nk_eq (c s : Nat) : nk c s = ((s * 1049561762 + c) % 2147483647 * ((s * 1049561762 + c) % 2147483647) + 5) % 2147483647 := rfl
theorem kid_nk {s : Nat} (hs : s < 2147483647) : kid (s : Int) 0 = (nk 909670663 s : Int) ∧ kid (s : Int) 1 = (nk 910670666 s : Int) := by
  have e0 : kh (s : Int) [47, 0] = (((s * 1049561762 + 909670663) % 2147483647 : Nat) : Int) := by rw [kh_side]; omega
  have e1 : kh (s : Int) [47, 1] = (((s * 1049561762 + 910670666) % 2147483647 : Nat) : Int) := by rw [kh_side]; omega
  exact ⟨by rw [kid_eq, e0, nk_eq]; exact cast_sq _, by rw [kid_eq, e1, nk_eq]; exact cast_sq _⟩
theorem getD_left {a b : List Nat} {i : Nat} (h : i < a.length) : (a ++ b).getD i 0 = a.getD i 0 := by
  rw [List.getD_eq_getElem?_getD, List.getD_eq_getElem?_getD, List.getElem?_append_left h]
theorem getD_right {a b : List Nat} {i : Nat} (h : a.length ≤ i) : (a ++ b).getD i 0 = b.getD (i - a.length) 0 := by
  rw [List.getD_eq_getElem?_getD, List.getD_eq_getElem?_getD, List.getElem?_append_right h]
theorem lv_dsc {n s i : Nat} (hs : s < 2147483647) (hi : i < 2 ^ n) : ((lv n s).getD i 0 : Int) = dsc (s : Int) n i := by
  induction n generalizing s i with
  | zero =>
    obtain rfl : i = 0 := by simpa using hi
    rfl
  | succ n ih =>
    obtain ⟨k0, k1⟩ := kid_nk hs
    rw [lv, dsc_succ]
    by_cases h : i < 2 ^ n
    · have e : bt i n = 0 := by unfold bt; rw [Nat.div_eq_of_lt h]; rfl
      rw [e, k0, getD_left (by rw [lv_len]; exact h)]
      exact ih (nk_lt _ _) h
    · have hp : 2 ^ (n + 1) = 2 ^ n * 2 := Nat.pow_succ ..
      have e : bt i n = 1 := by
        unfold bt
        rw [show i / 2 ^ n = 1 from Nat.div_eq_of_lt_le (by omega) (by omega)]
        rfl
      rw [e, k1, getD_right (by rw [lv_len]; omega), lv_len, ih (nk_lt _ _) (by omega), ← dsc_mod _ n i]
      congr 1
      rw [Nat.mod_eq_sub_mod (by omega), Nat.mod_eq_of_lt (by omega)]

/-- Different leaves have different seeds. -/
def Inj (s : Int) (L : Nat) : Prop := ∀ i k, i < 2 ^ L → k < 2 ^ L → dsc s L i = dsc s L k → i = k
theorem Inj.up {s : Int} {L : Nat} (h : Inj s (L + 1)) : Inj s L := by
  intro i k hi hk he
  have hp : 2 ^ (L + 1) = 2 ^ L * 2 := Nat.pow_succ ..
  have e : ∀ i, dsc s (L + 1) (2 * i) = kid (dsc s L i) 0 := fun i => by
    rw [dsc_snoc, Nat.mul_div_cancel_left _ (by decide)]
    congr 1
    unfold bt
    simp
  have := h (2 * i) (2 * k) (by omega) (by omega) (by rw [e, e, he])
  omega
theorem inj5 {s : Nat} (hs : s < 2147483647) (h : (lv 5 s).Pairwise (fun x y => x ≠ y)) : Inj (s : Int) 5 := by
  intro i k hi hk he
  rw [← lv_dsc hs hi, ← lv_dsc hs hk] at he
  have he' : (lv 5 s).getD i 0 = (lv 5 s).getD k 0 := Int.ofNat_inj.1 he
  have hl := lv_len 5 s
  rw [List.pairwise_iff_getElem] at h
  simp only [List.getD_eq_getElem?_getD, List.getElem?_eq_getElem (show i < (lv 5 s).length by omega), List.getElem?_eq_getElem (show k < (lv 5 s).length by omega), Option.getD_some] at he'
  rcases Nat.lt_trichotomy i k with hlt | heq | hgt
  · exact absurd he' (h i k (by omega) (by omega) hlt)
  · exact heq
  · exact absurd he'.symm (h k i (by omega) (by omega) hgt)
theorem Inj.le {s : Int} (h : Inj s 5) {L : Nat} (hL : L ≤ 5) : Inj s L := by
  have h7 : L = 0 ∨ L = 1 ∨ L = 2 ∨ L = 3 ∨ L = 4 ∨ L = 5 := by omega
  have h4 := h.up
  have h3 := h4.up
  have h2 := h3.up
  have h1 := h2.up
  have h0 := h1.up
  rcases h7 with rfl | rfl | rfl | rfl | rfl | rfl <;> assumption

end Go.Proofs.Ytckhmjdhdoomdaa
