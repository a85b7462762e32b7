/- Ratchets as numbers and lists: keys of messages and chains, valid ratchets, advancing, the key for a step, messages sealed and opened. Pure. No conditions but those that are named. -/
import Derived.Test.YtlbijjifeaimjaaBdN
namespace Go.Proofs.Ytlbijjifeaimjaa
open Go Go.RowKit
set_option linter.unusedVariables false
set_option maxRecDepth 20000
attribute [local irreducible] kh kid

/-- MessageKey, NextChain; the chain after n steps. -/
def mky (c : Int) : Int := mx (kh c [127]) 1
def nxc (c : Int) : Int := mx (kh c [131]) 1
def chn (c : Int) : Nat → Int
  | 0 => c
  | n + 1 => chn (nxc c) n
/-- Kept keys: a step and a key each. -/
abbrev Kept := List (Int × Int)
/-- Are they valid keys at ascending steps below s? -/
def ascK : Kept → Bool
  | [] => true
  | x :: l => (match l with | [] => true | y :: _ => decide (x.1 < y.1)) && ascK l
def keyK (s : Int) (l : Kept) : Bool := l.all fun x => inR x.2 1 2147483646 && inR x.1 0 (s - 1)
/-- IsValidRatchet. -/
def okR (c s : Int) (l : Kept) : Bool := inR c 1 2147483646 && (inR s 0 100000 && (decide (l.length ≤ 8) && (keyK s l && ascK l)))
/-- Advance. -/
def adq (c s : Int) (l : Kept) : Bool := okR c s l && !(s == 100000)
def adC (c s : Int) (l : Kept) : Int := if adq c s l = true then nxc c else c
def adS (c s : Int) (l : Kept) : Int := if adq c s l = true then s + 1 else s
def adM (c s : Int) (l : Kept) : Int := if adq c s l = true then mky c else 0
/-- Is there a kept key for the step t? -/
def hasK (l : Kept) (t : Int) : Bool := l.any fun x => x.1 == t
def getK : Kept → Int → Int
  | [], _ => 0
  | x :: l, t => if x.1 = t then x.2 else getK l t
def delK (l : Kept) (t : Int) : Kept := l.filter fun x => !(x.1 == t)
/-- The keys that are skipped from the step s on, n of them. -/
def skp (c s : Int) : Nat → Kept
  | 0 => []
  | n + 1 => (s, mky c) :: skp (nxc c) (s + 1) n
def lastK (l : Kept) : Kept := l.drop (l.length - 8)
/-- KeyForStep: is it one that was kept, or one ahead? -/
def kfo (c s : Int) (l : Kept) (t : Int) : Bool := okR c s l && (decide (t < 100000) && (decide (t < s) && hasK l t))
def kfn (c s : Int) (l : Kept) (t : Int) : Bool := okR c s l && (decide (t < 100000) && (decide (s ≤ t) && decide (t - s ≤ 8)))
def kfq (c s : Int) (l : Kept) (t : Int) : Bool := kfo c s l t || kfn c s l t
def kfC (c s : Int) (l : Kept) (t : Int) : Int := if kfn c s l t = true then chn c ((t - s).toNat + 1) else c
def kfS (c s : Int) (l : Kept) (t : Int) : Int := if kfn c s l t = true then t + 1 else s
def kfL (c s : Int) (l : Kept) (t : Int) : Kept := if kfn c s l t = true then lastK (l ++ skp c s (t - s).toNat) else if kfo c s l t = true then delK l t else l
def kfM (c s : Int) (l : Kept) (t : Int) : Int := if kfn c s l t = true then mky (chn c (t - s).toNat) else if kfo c s l t = true then getK l t else 0
/-- SealStep. -/
def ssq (c s : Int) (l : Kept) (b : List Int) : Bool := adq c s l && sok (mky c) s 1 b
def ssC (c s : Int) (l : Kept) (b : List Int) : Int := if ssq c s l b = true then nxc c else c
def ssS (c s : Int) (l : Kept) (b : List Int) : Int := if ssq c s l b = true then s + 1 else s
def ssN (c s : Int) (l : Kept) (b : List Int) : Int := if ssq c s l b = true then s else 0
def ssB (c s : Int) (l : Kept) (b : List Int) : List Int := if ssq c s l b = true then sealL (mky c) s 1 b else []
/-- OpenStep. -/
def osq (c s : Int) (l : Kept) (t : Int) (z : List Int) : Bool := kfq c s l t && (ook (kfM c s l t) t z && (ocK (kfM c s l t) t z == 1))
def osC (c s : Int) (l : Kept) (t : Int) (z : List Int) : Int := if osq c s l t z = true then kfC c s l t else c
def osS (c s : Int) (l : Kept) (t : Int) (z : List Int) : Int := if osq c s l t z = true then kfS c s l t else s
def osL (c s : Int) (l : Kept) (t : Int) (z : List Int) : Kept := if osq c s l t z = true then kfL c s l t else l
def osB (c s : Int) (l : Kept) (t : Int) (z : List Int) : List Int := if osq c s l t z = true then ocB (kfM c s l t) t z else []

/-! ### Bounds -/
theorem mky_bound (c : Int) : 1 ≤ mky c ∧ mky c ≤ 2147483646 := by
  have := kh_bound c [127]
  unfold mky mx; split <;> omega
theorem nxc_bound (c : Int) : 1 ≤ nxc c ∧ nxc c ≤ 2147483646 := by
  have := kh_bound c [131]
  unfold nxc mx; split <;> omega
theorem mky_wf (c : Int) : (Lit.int .i64 (mky c)).wf = true := by have := mky_bound c; exact wf_i64_of (by omega) (by omega)
theorem nxc_wf (c : Int) : (Lit.int .i64 (nxc c)).wf = true := by have := nxc_bound c; exact wf_i64_of (by omega) (by omega)
theorem chn_bound {c : Int} (h : 1 ≤ c ∧ c ≤ 2147483646) : ∀ n, 1 ≤ chn c n ∧ chn c n ≤ 2147483646 := by
  intro n
  induction n generalizing c with
  | zero => exact h
  | succ n ih => exact ih (nxc_bound c)
theorem chn_succ (c : Int) (n : Nat) : chn c (n + 1) = nxc (chn c n) := by
  induction n generalizing c with
  | zero => rfl
  | succ n ih => exact ih (nxc c)
theorem skp_len (c s : Int) (n : Nat) : (skp c s n).length = n := by
  induction n generalizing c s with
  | zero => rfl
  | succ n ih => simp [skp, ih]
/-- One key more is skipped. -/
theorem skp_snoc (c s : Int) (n : Nat) : skp c s (n + 1) = skp c s n ++ [(s + (n : Int), mky (chn c n))] := by
  induction n generalizing c s with
  | zero => simp [skp, chn]
  | succ n ih =>
    have h := ih (nxc c) (s + 1)
    have e1 : skp c s (n + 1 + 1) = (s, mky c) :: skp (nxc c) (s + 1) (n + 1) := rfl
    have e2 : skp c s (n + 1) = (s, mky c) :: skp (nxc c) (s + 1) n := rfl
    have e3 : chn c (n + 1) = chn (nxc c) n := rfl
    rw [e1, h, e2, e3]
    have e4 : s + 1 + (n : Int) = s + ((n + 1 : Nat) : Int) := by push_cast; omega
    rw [e4]
    rfl
theorem lastK_len (l : Kept) : (lastK l).length = min l.length 8 := by
  unfold lastK; rw [List.length_drop]; omega
theorem lastK_short {l : Kept} (h : l.length ≤ 8) : lastK l = l := by
  unfold lastK; rw [show l.length - 8 = 0 by omega]; rfl
theorem delK_len (l : Kept) (t : Int) : (delK l t).length ≤ l.length := List.length_filter_le _ _
theorem kfL_len (c s : Int) (l : Kept) (t : Int) : (kfL c s l t).length ≤ max l.length 8 := by
  unfold kfL
  split
  · rw [lastK_len]; omega
  · split
    · have := delK_len l t; omega
    · omega
theorem okR_iff {c s : Int} {l : Kept} : okR c s l = true ↔ (1 ≤ c ∧ c ≤ 2147483646) ∧ (0 ≤ s ∧ s ≤ 100000) ∧ l.length ≤ 8 ∧ keyK s l = true ∧ ascK l = true := by
  unfold okR inR
  simp only [Bool.and_eq_true, decide_eq_true_eq]

/-! ### What cannot be, what is left as it was -/
theorem kfn_o {c s : Int} {l : Kept} {t : Int} (h : kfn c s l t = true) : kfo c s l t = false := by
  unfold kfn at h
  unfold kfo
  simp only [Bool.and_eq_true, decide_eq_true_eq] at h
  rw [decide_eq_false (show ¬ t < s by omega)]
  simp
theorem kf_no {c s : Int} {l : Kept} {t : Int} (h : kfq c s l t = false) : kfC c s l t = c ∧ kfS c s l t = s ∧ kfL c s l t = l ∧ kfM c s l t = 0 := by
  unfold kfq at h
  rw [Bool.or_eq_false_iff] at h
  unfold kfC kfS kfL kfM
  simp [h.1, h.2]
theorem kf_old {c s : Int} {l : Kept} {t : Int} (h : kfo c s l t = true) : kfq c s l t = true ∧ kfC c s l t = c ∧ kfS c s l t = s ∧ kfL c s l t = delK l t ∧ kfM c s l t = getK l t := by
  have hn : kfn c s l t = false := by
    cases hh : kfn c s l t with
    | false => rfl
    | true => rw [kfn_o hh] at h; cases h
  unfold kfq kfC kfS kfL kfM
  simp [h, hn]
theorem kf_new {c s : Int} {l : Kept} {t : Int} (h : kfn c s l t = true) : kfq c s l t = true ∧ kfC c s l t = chn c ((t - s).toNat + 1) ∧ kfS c s l t = t + 1 ∧ kfL c s l t = lastK (l ++ skp c s (t - s).toNat) ∧ kfM c s l t = mky (chn c (t - s).toNat) := by
  unfold kfq kfC kfS kfL kfM
  simp [h]
theorem rad_no {c s : Int} {l : Kept} (h : adq c s l = false) : adC c s l = c ∧ adS c s l = s ∧ adM c s l = 0 := by unfold adC adS adM; simp [h]
theorem rad_yes {c s : Int} {l : Kept} (h : adq c s l = true) : adC c s l = nxc c ∧ adS c s l = s + 1 ∧ adM c s l = mky c := by unfold adC adS adM; simp [h]
theorem ss_no {c s : Int} {l : Kept} {b : List Int} (h : ssq c s l b = false) : ssC c s l b = c ∧ ssS c s l b = s ∧ ssN c s l b = 0 ∧ ssB c s l b = [] := by unfold ssC ssS ssN ssB; simp [h]
theorem ss_yes {c s : Int} {l : Kept} {b : List Int} (h : ssq c s l b = true) : ssC c s l b = nxc c ∧ ssS c s l b = s + 1 ∧ ssN c s l b = s ∧ ssB c s l b = sealL (mky c) s 1 b := by unfold ssC ssS ssN ssB; simp [h]
theorem os_no {c s : Int} {l : Kept} {t : Int} {z : List Int} (h : osq c s l t z = false) : osC c s l t z = c ∧ osS c s l t z = s ∧ osL c s l t z = l ∧ osB c s l t z = [] := by unfold osC osS osL osB; simp [h]
theorem os_yes {c s : Int} {l : Kept} {t : Int} {z : List Int} (h : osq c s l t z = true) : osC c s l t z = kfC c s l t ∧ osS c s l t z = kfS c s l t ∧ osL c s l t z = kfL c s l t ∧ osB c s l t z = ocB (kfM c s l t) t z := by unfold osC osS osL osB; simp [h]

end Go.Proofs.Ytlbijjifeaimjaa
