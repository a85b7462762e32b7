/- Checks of writes as numbers: challenges, sums of a vector and of shares, shares of a vector, what is accepted. No program. -/
import Derived.Test.YtckhmjdhdoomdaaShN
namespace Go.Proofs.Ytckhmjdhdoomdaa
open Go Go.RowKit
set_option linter.unusedVariables false
attribute [local irreducible] kh

/-- The challenge of a side. -/
def chl (s c : Int) : Int := 1 + kid s c % 1018
theorem chl_eq (s c : Int) : chl s c = 1 + kid s c % 1018 := rfl
theorem chl_bound (s c : Int) : 1 ≤ chl s c ∧ chl s c ≤ 1018 := by
  rw [chl_eq]
  generalize kid s c = q
  omega
/-- The challenge of a component. -/
def chal (s : Int) (i : Nat) : Int := chl s (7000 + (i : Int))
theorem chal_bound (s : Int) (i : Nat) : 1 ≤ chal s i ∧ chal s i ≤ 1018 := chl_bound _ _

/-- The weighted sum of the first j components. -/
def wS (r : Nat → Int) (zs : List Int) : Nat → Int
  | 0 => 0
  | j + 1 => (wS r zs j + r j * zs.getD j 0) % 1019
def sA (s : Int) (zs : List Int) (j : Nat) : Int := wS (chal s) zs j
def sB (s : Int) (zs : List Int) (j : Nat) : Int := wS (fun i => chal s i * chal s i) zs j
def sM (zs : List Int) (j : Nat) : Int := wS (fun _ => 1) zs j
theorem sA_zero (s : Int) (zs : List Int) : sA s zs 0 = 0 := rfl
theorem sB_zero (s : Int) (zs : List Int) : sB s zs 0 = 0 := rfl
theorem sM_zero (zs : List Int) : sM zs 0 = 0 := rfl
theorem sA_succ (s : Int) (zs : List Int) (j : Nat) : sA s zs (j + 1) = (sA s zs j + chal s j * zs.getD j 0) % 1019 := rfl
theorem sB_succ (s : Int) (zs : List Int) (j : Nat) : sB s zs (j + 1) = (sB s zs j + chal s j * chal s j * zs.getD j 0) % 1019 := rfl
theorem sM_succ (zs : List Int) (j : Nat) : sM zs (j + 1) = (sM zs j + zs.getD j 0) % 1019 := by
  show (wS _ zs j + 1 * zs.getD j 0) % 1019 = _
  rw [Int.one_mul]; rfl
theorem m1019 (x : Int) : 0 ≤ x % 1019 ∧ x % 1019 ≤ 1018 := by omega
theorem wS_bound (r : Nat → Int) (zs : List Int) (j : Nat) : 0 ≤ wS r zs j ∧ wS r zs j ≤ 1018 := by cases j with | zero => exact ⟨Int.le_refl _, (by decide : (0 : Int) ≤ 1018)⟩ | succ j => exact m1019 _
theorem sA_bound (s : Int) (zs : List Int) (j : Nat) : 0 ≤ sA s zs j ∧ sA s zs j ≤ 1018 := wS_bound _ _ _
theorem sB_bound (s : Int) (zs : List Int) (j : Nat) : 0 ≤ sB s zs j ∧ sB s zs j ≤ 1018 := wS_bound _ _ _
theorem sM_bound (zs : List Int) (j : Nat) : 0 ≤ sM zs j ∧ sM zs j ≤ 1018 := wS_bound _ _ _

/-- All are field elements. -/
def fin (zs : List Int) : Bool := decide (∀ i, i < zs.length → inR (zs.getD i 0) 0 1018 = true)
/-- A vector of field elements. -/
def fvec (zs : List Int) : Bool := decide (zs.length ≤ 64) && fin zs
theorem fin_iff {zs : List Int} : fin zs = true ↔ ∀ i, i < zs.length → 0 ≤ zs.getD i 0 ∧ zs.getD i 0 ≤ 1018 := by
  unfold fin inR
  simp
theorem fvec_iff {zs : List Int} : fvec zs = true ↔ zs.length ≤ 64 ∧ ∀ i, i < zs.length → 0 ≤ zs.getD i 0 ∧ zs.getD i 0 ≤ 1018 := by
  unfold fvec
  rw [Bool.and_eq_true, decide_eq_true_eq, fin_iff]
def kA (s : Int) (zs : List Int) : Int := if fvec zs = true then sA s zs zs.length else 0
def kB (s : Int) (zs : List Int) : Int := if fvec zs = true then sB s zs zs.length else 0
def kM (zs : List Int) : Int := if fvec zs = true then sM zs zs.length else 0
theorem kA_bound (s : Int) (zs : List Int) : 0 ≤ kA s zs ∧ kA s zs ≤ 1018 := by unfold kA; split; exact sA_bound _ _ _; omega
theorem kB_bound (s : Int) (zs : List Int) : 0 ≤ kB s zs ∧ kB s zs ≤ 1018 := by unfold kB; split; exact sB_bound _ _ _; omega
theorem kM_bound (zs : List Int) : 0 ≤ kM zs ∧ kM zs ≤ 1018 := by unfold kM; split; exact sM_bound _ _; omega

/-- The sum over the first j rows. -/
def jS (f : List Int → Int) (zss : List (List Int)) : Nat → Int
  | 0 => 0
  | j + 1 => (jS f zss j + f (zss.getD j [])) % 1019
def jA (s : Int) (zss : List (List Int)) (j : Nat) : Int := jS (kA s) zss j
def jB (s : Int) (zss : List (List Int)) (j : Nat) : Int := jS (kB s) zss j
def jM (zss : List (List Int)) (j : Nat) : Int := jS kM zss j
theorem jA_zero (s : Int) (zss : List (List Int)) : jA s zss 0 = 0 := rfl
theorem jB_zero (s : Int) (zss : List (List Int)) : jB s zss 0 = 0 := rfl
theorem jM_zero (zss : List (List Int)) : jM zss 0 = 0 := rfl
theorem jA_succ (s : Int) (zss : List (List Int)) (j : Nat) : jA s zss (j + 1) = (jA s zss j + kA s (zss.getD j [])) % 1019 := rfl
theorem jB_succ (s : Int) (zss : List (List Int)) (j : Nat) : jB s zss (j + 1) = (jB s zss j + kB s (zss.getD j [])) % 1019 := rfl
theorem jM_succ (zss : List (List Int)) (j : Nat) : jM zss (j + 1) = (jM zss j + kM (zss.getD j [])) % 1019 := rfl
theorem jS_bound (f : List Int → Int) (zss : List (List Int)) (j : Nat) : 0 ≤ jS f zss j ∧ jS f zss j ≤ 1018 := by cases j with | zero => exact ⟨Int.le_refl _, (by decide : (0 : Int) ≤ 1018)⟩ | succ j => exact m1019 _
theorem jA_bound (s : Int) (zss : List (List Int)) (j : Nat) : 0 ≤ jA s zss j ∧ jA s zss j ≤ 1018 := jS_bound _ _ _
theorem jB_bound (s : Int) (zss : List (List Int)) (j : Nat) : 0 ≤ jB s zss j ∧ jB s zss j ≤ 1018 := jS_bound _ _ _
theorem jM_bound (zss : List (List Int)) (j : Nat) : 0 ≤ jM zss j ∧ jM zss j ≤ 1018 := jS_bound _ _ _
/-- The sums of all shares. -/
def tA (s : Int) (zss : List (List Int)) : Int := jA s zss zss.length
def tB (s : Int) (zss : List (List Int)) : Int := jB s zss zss.length
def tM (zss : List (List Int)) : Int := jM zss zss.length
theorem tA_bound (s : Int) (zss : List (List Int)) : 0 ≤ tA s zss ∧ tA s zss ≤ 1018 := jA_bound _ _ _
theorem tB_bound (s : Int) (zss : List (List Int)) : 0 ≤ tB s zss ∧ tB s zss ≤ 1018 := jB_bound _ _ _
theorem tM_bound (zss : List (List Int)) : 0 ≤ tM zss ∧ tM zss ≤ 1018 := jM_bound _ _

/-- What is accepted. -/
def acc (a b m : Int) : Bool := (a % 1019) * (a % 1019) % 1019 == (b % 1019) * (m % 1019) % 1019
/-- Every row is a vector of field elements. -/
def allF (zss : List (List Int)) : Bool := decide (∀ i, i < zss.length → fvec (zss.getD i []) = true)
theorem allF_iff {zss : List (List Int)} : allF zss = true ↔ ∀ i, i < zss.length → fvec (zss.getD i []) = true := by unfold allF; simp
/-- The shares pass. -/
def chk (zss : List (List Int)) (s : Int) : Bool := (inR (zss.length : Int) 2 4 && same zss) && (allF zss && acc (tA s zss) (tB s zss) (tM zss))
/-- Seeds that accept. -/
def cnA (v : List Int) (f : Int) : Nat → Nat
  | 0 => 0
  | j + 1 => cnA v f j + (if acc (kA (wrap64 (f + (j : Int))) v) (kB (wrap64 (f + (j : Int))) v) (kM v) = true then 1 else 0)
theorem cnA_le (v : List Int) (f : Int) (j : Nat) : cnA v f j ≤ j := by
  induction j with
  | zero => exact Nat.le_refl _
  | succ j ih => rw [cnA]; split <;> omega
/-- So many seeds are tried. -/
def tries (c : Int) : Nat := if c < 200 then c.toNat else 200
theorem tries_le (c : Int) : tries c ≤ 200 := by unfold tries; split <;> omega
def cntA (v : List Int) (f c : Int) : Int := (cnA v f (tries c) : Int)

/-- The seeds of a component. -/
def sds (s : List Int) (i : Nat) : List Int := s.map fun x => wrap64 (x + 77 * (i : Int))
theorem sds_len (s : List Int) (i : Nat) : (sds s i).length = s.length := by simp [sds]
theorem sds_at {s : List Int} {i j : Nat} (hj : j < s.length) : (sds s i).getD j 0 = wrap64 (s.getD j 0 + 77 * (i : Int)) := by
  simp [sds, List.getD_eq_getElem?_getD, List.getElem?_eq_getElem hj]
/-- The share of server k, of the first j components. -/
def vrow (v s : List Int) (k j : Nat) : List Int := (List.range j).map fun i => (shN (v.getD i 0) (sds s i)).getD k 0
theorem vrow_len (v s : List Int) (k j : Nat) : (vrow v s k j).length = j := by simp [vrow]
theorem vrow_succ (v s : List Int) (k j : Nat) : vrow v s k (j + 1) = vrow v s k j ++ [(shN (v.getD j 0) (sds s j)).getD k 0] := by
  unfold vrow
  rw [List.range_succ, List.map_append]; rfl
theorem vrow_at {v s : List Int} {k j i : Nat} (hi : i < j) : (vrow v s k j).getD i 0 = (shN (v.getD i 0) (sds s i)).getD k 0 := by
  simp [vrow, List.getD_eq_getElem?_getD, List.getElem?_range hi]
def shOk (v s : List Int) : Bool := decide (v.length ≤ 64) && inR ((s.length : Int) + 1) 2 4
theorem shOk_iff {v s : List Int} : shOk v s = true ↔ v.length ≤ 64 ∧ 1 ≤ s.length ∧ s.length ≤ 3 := by
  unfold shOk inR
  simp
  omega
/-- The shares of a vector. -/
def shV (v s : List Int) : List (List Int) := if shOk v s = true then (List.range (s.length + 1)).map fun k => vrow v s k v.length else []
theorem shV_no {v s : List Int} (h : ¬ (v.length ≤ 64 ∧ 1 ≤ s.length ∧ s.length ≤ 3)) : shV v s = [] := if_neg (fun e => h (shOk_iff.1 e))
section
variable {v s : List Int} (h : v.length ≤ 64 ∧ 1 ≤ s.length ∧ s.length ≤ 3)
include h
theorem shV_yes : shV v s = (List.range (s.length + 1)).map fun k => vrow v s k v.length := if_pos (shOk_iff.2 h)
theorem shV_len : (shV v s).length = s.length + 1 := by rw [shV_yes h]; simp
theorem shV_at {k : Nat} (hk : k < s.length + 1) : (shV v s).getD k [] = vrow v s k v.length := by
  rw [shV_yes h, List.getD_eq_getElem?_getD, List.getElem?_map, List.getElem?_range hk]; rfl
theorem shV_mem {z : List Int} (hz : z ∈ shV v s) : ∃ k, k < s.length + 1 ∧ z = vrow v s k v.length := by
  rw [shV_yes h] at hz
  obtain ⟨k, hk, rfl⟩ := List.mem_map.1 hz
  exact ⟨k, List.mem_range.1 hk, rfl⟩
end
theorem fl_le {n : Nat} : ∀ {l : List (List Int)}, (∀ z ∈ l, z.length ≤ n) → fl l ≤ l.length * n := by
  intro l
  induction l with
  | nil => intro _; simp [fl_nil]
  | cons x l ih =>
    intro h
    rw [fl_cons, List.length_cons, Nat.succ_mul]
    have h1 := h x (List.mem_cons_self ..)
    have h2 := ih (fun z hz => h z (List.mem_cons_of_mem _ hz))
    omega
theorem shV_tot (v s : List Int) : tot (shV v s) ≤ 260 := by
  by_cases h : v.length ≤ 64 ∧ 1 ≤ s.length ∧ s.length ≤ 3
  · have h1 := shV_len h
    have h2 : fl (shV v s) ≤ (shV v s).length * 64 := fl_le (fun z hz => by obtain ⟨k, _, rfl⟩ := shV_mem h hz; rw [vrow_len]; exact h.1)
    unfold tot
    rw [h1] at h2 ⊢
    omega
  · rw [shV_no h]; decide
theorem shV_fl (v s : List Int) : fl (shV v s) ≤ 256 := by
  by_cases h : v.length ≤ 64 ∧ 1 ≤ s.length ∧ s.length ≤ 3
  · have h1 := shV_len h
    have h2 : fl (shV v s) ≤ (shV v s).length * 64 := fl_le (fun z hz => by obtain ⟨k, _, rfl⟩ := shV_mem h hz; rw [vrow_len]; exact h.1)
    rw [h1] at h2
    omega
  · rw [shV_no h]; decide

end Go.Proofs.Ytckhmjdhdoomdaa
