/- Trees of seeds as numbers: children, leaves, streams, punctured trees. No program. Trees of seeds: ChildSeed, ControlBit, isLeaf, sideAt, the program's and the document's. No conditions but numbers that a machine holds. Trees of seeds: descend, LeafSeed, the program's and the document's. No conditions but numbers that a machine holds. Trees of seeds: LeafSeeds and StreamBytes, the program's and the document's. No conditions but numbers that a machine holds. Trees of seeds: StreamBytes, the program's and the document's. No conditions but numbers that a machine holds. -/
import Derived.Test.YtlbijjifeaimjaaBa9
import Derived.Test.YtlbijjifeaimjaaBa7
import Derived.Test.YtlbijjifeaimjaaBaM
import Derived.WalkKit
import Derived.Handy
import Derived.Outline
import Derived.WalkSpells
import Derived.Lib.Hide

/-! TreN -/
namespace Go.Proofs.Ytlbijjifeaimjaa
open Go Go.RowKit
set_option linter.unusedVariables false
attribute [local irreducible] kh

/-- The seed of the child on a side. -/
def kid (s c : Int) : Int := (kh s [47, c] * kh s [47, c] + 5) % 2147483647
/-- The control bit. -/
def ctl (s c : Int) : Int := kh s [53, c] * kh s [53, c] % 2147483647 / 128 % 2
/-- A bit of an index. -/
def bt (i L : Nat) : Int := ((i / 2 ^ L % 2 : Nat) : Int)
/-- The seed that lies L levels below s. -/
def dsc : Int → Nat → Nat → Int
  | s, 0, _ => s
  | s, L + 1, i => dsc (kid s (bt i L)) L i
theorem kid_eq (s c : Int) : kid s c = (kh s [47, c] * kh s [47, c] + 5) % 2147483647 := rfl
theorem ctl_eq (s c : Int) : ctl s c = kh s [53, c] * kh s [53, c] % 2147483647 / 128 % 2 := rfl
theorem mod_bound (x : Int) : 0 ≤ x % 2147483647 ∧ x % 2147483647 ≤ 2147483646 := by omega
theorem kid_bound (s c : Int) : 0 ≤ kid s c ∧ kid s c ≤ 2147483646 := by
  unfold kid
  generalize kh s [47, c] * kh s [47, c] + 5 = q
  exact mod_bound q
theorem kid_wf (s c : Int) : (Lit.int .i64 (kid s c)).wf = true := by
  have := kid_bound s c
  revert this
  generalize kid s c = q
  intro h
  exact wf_i64_of (by omega) (by omega)
theorem bt_bound (i L : Nat) : 0 ≤ bt i L ∧ bt i L ≤ 1 := by unfold bt; omega
theorem bt_wf (i L : Nat) : (Lit.int .i64 (bt i L)).wf = true := by
  have := bt_bound i L
  revert this
  generalize bt i L = q
  intro h
  exact wf_i64_of (by omega) (by omega)
theorem dsc_zero (s : Int) (i : Nat) : dsc s 0 i = s := rfl
theorem dsc_succ (s : Int) (L i : Nat) : dsc s (L + 1) i = dsc (kid s (bt i L)) L i := rfl
theorem dsc_wf {s : Int} (hs : (Lit.int .i64 s).wf = true) (L i : Nat) : (Lit.int .i64 (dsc s L i)).wf = true := by
  induction L generalizing s with
  | zero => exact hs
  | succ L ih => exact ih (kid_wf _ _)
theorem dsc_congr {L i j : Nat} (h : ∀ b, b < L → bt i b = bt j b) (s : Int) : dsc s L i = dsc s L j := by
  induction L generalizing s with
  | zero => rfl
  | succ L ih =>
    rw [dsc_succ, dsc_succ, h L (Nat.lt_succ_self _)]
    exact ih (fun b hb => h b (by omega)) _
theorem bt_mod {i L b : Nat} (h : b < L) : bt (i % 2 ^ L) b = bt i b := by
  unfold bt
  have e1 := Nat.testBit_mod_two_pow i L b
  rw [decide_eq_true h, Bool.true_and, Nat.testBit_eq_decide_div_mod_eq, Nat.testBit_eq_decide_div_mod_eq] at e1
  simp only [decide_eq_decide] at e1
  omega
theorem dsc_mod (s : Int) (L i : Nat) : dsc s L (i % 2 ^ L) = dsc s L i := dsc_congr (fun b hb => bt_mod hb) s
theorem bt_half (i b : Nat) : bt (i / 2) b = bt i (b + 1) := by
  unfold bt
  rw [Nat.div_div_eq_div_mul, Nat.pow_succ, Nat.mul_comm]
theorem dsc_snoc (s : Int) (L i : Nat) : dsc s (L + 1) i = kid (dsc s L (i / 2)) (bt i 0) := by
  induction L generalizing s with
  | zero => rfl
  | succ L ih => rw [dsc_succ, ih, dsc_succ s L (i / 2), bt_half]

/-- There is such a leaf. -/
def leafOk (d i : Int) : Bool := inR d 0 6 && inR i 0 (2 ^ d.toNat - 1)
theorem leafOk_iff {d i : Int} : leafOk d i = true ↔ ∃ D I : Nat, d = D ∧ i = I ∧ D ≤ 6 ∧ I < 2 ^ D := by
  unfold leafOk inR
  simp only [Bool.and_eq_true, decide_eq_true_eq]
  constructor
  · rintro ⟨⟨h1, h2⟩, h3, h4⟩
    refine ⟨d.toNat, i.toNat, by omega, by omega, by omega, ?_⟩
    have e : ((2 : Int) ^ d.toNat) = ((2 ^ d.toNat : Nat) : Int) := by simp
    rw [e] at h4
    omega
  · rintro ⟨D, I, rfl, rfl, h1, h2⟩
    have e : ((2 : Int) ^ ((D : Int)).toNat) = ((2 ^ D : Nat) : Int) := by simp
    rw [e]
    omega
/-- The seed of a leaf. -/
def lseed (r d i : Int) : Int := if leafOk d i = true then dsc r d.toNat i.toNat else 0
/-- The seeds of all leaves. -/
def lseeds (r d : Int) : List Int := if inR d 0 6 = true then (List.range (2 ^ d.toNat)).map (dsc r d.toNat) else []
/-- A byte of a stream. -/
def sbyte (s : Int) (i : Nat) : Int := kid s (100 + (i : Int)) / 256 % 256
/-- A stream. -/
def strm (s n : Int) : List Int := if inR n 0 400 = true then (List.range n.toNat).map (sbyte s) else []
/-- The sibling of the path's node on a level. -/
def sib (r : Int) (D I j : Nat) : Int := kid (dsc r j (I / 2 ^ (D - j))) (1 - bt I (D - 1 - j))
/-- The siblings of a path. -/
def pun (r d i : Int) : List Int := if leafOk d i = true then (List.range d.toNat).map (sib r d.toNat i.toNat) else []
/-- The seed of a leaf out of siblings. -/
def pl : List Int → Nat → Nat → Int
  | [], _, _ => 0
  | z :: t, i, o => if bt i t.length = bt o t.length then pl t i o else dsc z t.length o
/-- There are such leaves. -/
def pok (zs : List Int) (i o : Int) : Bool := leafOk zs.length i && (leafOk zs.length o && !(i == o))
/-- The seed of a leaf out of siblings, if there is one. -/
def pleaf (zs : List Int) (i o : Int) : Int := if pok zs i o = true then pl zs i.toNat o.toNat else 0

theorem mod_u8 (x : Int) : 0 ≤ x % 256 ∧ x % 256 ≤ 255 := by omega
theorem sbyte_u8 (s : Int) (i : Nat) : 0 ≤ sbyte s i ∧ sbyte s i ≤ 255 := by
  unfold sbyte
  generalize kid s (100 + (i : Int)) / 256 = q
  exact mod_u8 q
theorem sbyte_wf (s : Int) (i : Nat) : (Lit.int .u8 (sbyte s i)).wf = true := by
  have := sbyte_u8 s i
  revert this
  generalize sbyte s i = q
  intro h
  exact wf_u8_of h.1 h.2
theorem sib_wf (r : Int) (D I j : Nat) : (Lit.int .i64 (sib r D I j)).wf = true := by unfold sib; exact kid_wf _ _
theorem pow_le6 {D : Nat} (h : D ≤ 6) : 1 ≤ 2 ^ D ∧ 2 ^ D ≤ 64 := by
  have h7 : D = 0 ∨ D = 1 ∨ D = 2 ∨ D = 3 ∨ D = 4 ∨ D = 5 ∨ D = 6 := by omega
  rcases h7 with rfl | rfl | rfl | rfl | rfl | rfl | rfl <;> decide
theorem lseeds_len (r d : Int) : (lseeds r d).length ≤ 64 := by
  unfold lseeds
  split
  · rename_i h
    simp [inR] at h
    rw [List.length_map, List.length_range]
    exact (pow_le6 (by omega)).2
  · simp
theorem strm_len (s n : Int) : (strm s n).length ≤ 400 := by
  unfold strm
  split
  · rename_i h
    simp [inR] at h
    rw [List.length_map, List.length_range]
    omega
  · simp
theorem pun_len (r d i : Int) : (pun r d i).length ≤ 6 := by
  unfold pun
  split
  · rename_i h
    obtain ⟨D, I, rfl, rfl, h1, h2⟩ := leafOk_iff.1 h
    simp; omega
  · simp
/-- What the program puts beside the path. -/
theorem dsc_sib (r : Int) {D I j X : Nat} (hj : j < D) (h0 : X / 2 = I / 2 ^ (D - 1 - j) / 2) (h1 : bt X 0 = 1 - bt I (D - 1 - j)) : dsc r (j + 1) X = sib r D I j := by
  rw [dsc_snoc, h0, h1]
  unfold sib
  rw [Nat.div_div_eq_div_mul, ← Nat.pow_succ, show (D - 1 - j).succ = D - j by omega]
/-- One step down the path. -/
theorem dsc_path (r : Int) {D I j : Nat} (hj : j < D) : kid (dsc r j (I / 2 ^ (D - j))) (bt I (D - 1 - j)) = dsc r (j + 1) (I / 2 ^ (D - (j + 1))) := by
  rw [dsc_snoc, Nat.div_div_eq_div_mul, ← Nat.pow_succ, show (D - (j + 1)).succ = D - j by omega]
  congr 1
  unfold bt
  rw [Nat.pow_zero, Nat.div_one, show D - (j + 1) = D - 1 - j by omega]
theorem range_snoc {f : Nat → Int} (j : Nat) : (List.range (j + 1)).map f = (List.range j).map f ++ [f j] := by
  rw [List.range_succ, List.map_append]; rfl
/-- The leaves part. -/
theorem part_step {i o L : Nat} (hd : i % 2 ^ (L + 1) ≠ o % 2 ^ (L + 1)) (he : bt i L = bt o L) : i % 2 ^ L ≠ o % 2 ^ L := by
  intro h
  apply hd
  rw [Nat.mod_pow_succ, Nat.mod_pow_succ, h]
  unfold bt at he
  have : i / 2 ^ L % 2 = o / 2 ^ L % 2 := by omega
  rw [this]
theorem mod_self_ne {i o D : Nat} (hi : i < 2 ^ D) (ho : o < 2 ^ D) (h : i ≠ o) : i % 2 ^ D ≠ o % 2 ^ D := by
  rw [Nat.mod_eq_of_lt hi, Nat.mod_eq_of_lt ho]; exact h
theorem bt_of_mod (i L : Nat) : bt i L = ((i / 2 ^ L : Nat) : Int) % 2 := by unfold bt; omega

end Go.Proofs.Ytlbijjifeaimjaa


/-! Tre1 -/
namespace Go.Proofs.Ytlbijjifeaimjaa
open Go Go.RowKit
set_option linter.unusedVariables false

theorem i64_and1 (n : Int) : bits .and .i64 n 1 = n % 2 := i64_mask 1 1 (by decide) (by decide) n

end Go.Proofs.Ytlbijjifeaimjaa


/-! Tre2 -/
namespace Go.Proofs.Ytlbijjifeaimjaa
open Go Go.RowKit
set_option linter.unusedVariables false
attribute [local irreducible] kh

theorem nat_wf {n : Nat} (h : n ≤ 1000) : (Lit.int .i64 (n : Int)).wf = true := wf_i64_of (by omega) (by omega)

end Go.Proofs.Ytlbijjifeaimjaa


/-! Tre3 -/
namespace Go.Proofs.Ytlbijjifeaimjaa
open Go Go.RowKit
set_option linter.unusedVariables false
attribute [local irreducible] kh

theorem pow_nat {D N : Nat} (h : N = 2 ^ D) : (2 : Int) ^ D = (N : Int) := by rw [h]; simp
theorem lseeds_yes {r : Int} {D : Nat} (h : inR (D : Int) 0 6 = true) : lseeds r (D : Int) = (List.range (2 ^ D)).map (dsc r D) := by
  unfold lseeds; rw [if_pos h, Int.toNat_natCast]
theorem lseeds_no {r d : Int} (h : inR d 0 6 = false) : lseeds r d = [] := by
  unfold lseeds; rw [h]; rfl
theorem lseed_yes {r : Int} {D I : Nat} (h : leafOk (D : Int) (I : Int) = true) : lseed r (D : Int) (I : Int) = dsc r D I := by
  unfold lseed; rw [if_pos h, Int.toNat_natCast, Int.toNat_natCast]
theorem map_len {f : Nat → Int} (n : Nat) : ((List.range n).map f).length = n := by simp

end Go.Proofs.Ytlbijjifeaimjaa


/-! Tre4 -/
namespace Go.Proofs.Ytlbijjifeaimjaa
open Go Go.RowKit
set_option linter.unusedVariables false
attribute [local irreducible] kh

theorem strm_yes {s : Int} {n : Nat} (h : inR (n : Int) 0 400 = true) : strm s (n : Int) = (List.range n).map (sbyte s) := by
  unfold strm; rw [if_pos h, Int.toNat_natCast]
theorem strm_no {s n : Int} (h : inR n 0 400 = false) : strm s n = [] := by
  unfold strm; rw [h]; rfl
theorem sbyte_eq (s : Int) (i : Nat) : sbyte s i = kid s (100 + (i : Int)) / 256 % 256 := rfl

end Go.Proofs.Ytlbijjifeaimjaa
