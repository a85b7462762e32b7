/- Trees of seeds as numbers: children, leaves, streams, punctured trees. No program. Trees of seeds: ChildSeed, ControlBit, isLeaf, sideAt, the program's and the document's. No conditions but numbers that a machine holds. Trees of seeds: descend, LeafSeed, the program's and the document's. No conditions but numbers that a machine holds. Trees of seeds: LeafSeeds and StreamBytes, the program's and the document's. No conditions but numbers that a machine holds. Trees of seeds: StreamBytes, the program's and the document's. No conditions but numbers that a machine holds. -/
import Derived.Test.YtjbkhbbchacooaaGreatDoorBa9
import Derived.Test.YtjbkhbbchacooaaGreatDoorBa7
import Derived.Test.YtjbkhbbchacooaaGreatDoorBaM
import Derived.WalkKit
import Derived.Handy
import Derived.Outline
import Derived.WalkSpells
import Derived.Lib.Hide

/-! TreN -/
namespace Go.Proofs.YtjbkhbbchacooaaGreatDoor
open Go Go.RowKit
set_option linter.unusedVariables false
attribute [local irreducible] kh

/-- The seed of the child on a side. -/
def kid (s c : Int) : Int := (kh s [47, c] * kh s [47, c] + 5) % 2147483647
/-- The control bit. -/
def ctl (s c : Int) : Int := kh s [53, c] * kh s [53, c] % 2147483647 / 128 % 2
/-- A bit of an index. -/
def bt (i L : Nat) : Int := ((i / 2 ^ L % 2 : Nat) : Int)
/-- The seed that lies L levels below s. -/
def dsc : Int → Nat → Nat → Int
  | s, 0, _ => s
  | s, L + 1, i => dsc (kid s (bt i L)) L i
theorem kid_eq (s c : Int) : kid s c = (kh s [47, c] * kh s [47, c] + 5) % 2147483647 := rfl
theorem ctl_eq (s c : Int) : ctl s c = kh s [53, c] * kh s [53, c] % 2147483647 / 128 % 2 := rfl
theorem mod_bound (x : Int) : 0 ≤ x % 2147483647 ∧ x % 2147483647 ≤ 2147483646 := by omega
theorem kid_bound (s c : Int) : 0 ≤ kid s c ∧ kid s c ≤ 2147483646 := by
  unfold kid
  generalize kh s [47, c] * kh s [47, c] + 5 = q
  exact mod_bound q
theorem kid_wf (s c : Int) : (Lit.int .i64 (kid s c)).wf = true := by
  have := kid_bound s c
  revert this
  generalize kid s c = q
  intro h
  exact wf_i64_of (by omega) (by omega)
theorem bt_bound (i L : Nat) : 0 ≤ bt i L ∧ bt i L ≤ 1 := by unfold bt; omega
theorem bt_wf (i L : Nat) : (Lit.int .i64 (bt i L)).wf = true := by
  have := bt_bound i L
  revert this
  generalize bt i L = q
  intro h
  exact wf_i64_of (by omega) (by omega)
theorem dsc_zero (s : Int) (i : Nat) : dsc s 0 i = s := rfl
theorem dsc_succ (s : Int) (L i : Nat) : dsc s (L + 1) i = dsc (kid s (bt i L)) L i := rfl
theorem dsc_wf {s : Int} (hs : (Lit.int .i64 s).wf = true) (L i : Nat) : (Lit.int .i64 (dsc s L i)).wf = true := by
  induction L generalizing s with
  | zero => exact hs
  | succ L ih => exact ih (kid_wf _ _)
theorem dsc_congr {L i j : Nat} (h : ∀ b, b < L → bt i b = bt j b) (s : Int) : dsc s L i = dsc s L j := by
  induction L generalizing s with
  | zero => rfl
  | succ L ih =>
    rw [dsc_succ, dsc_succ, h L (Nat.lt_succ_self _)]
    exact ih (fun b hb => h b (by omega)) _
theorem bt_mod {i L b : Nat} (h : b < L) : bt (i % 2 ^ L) b = bt i b := by
  unfold bt
  have e1 := Nat.testBit_mod_two_pow i L b
  rw [decide_eq_true h, Bool.true_and, Nat.testBit_eq_decide_div_mod_eq, Nat.testBit_eq_decide_div_mod_eq] at e1
  simp only [decide_eq_decide] at e1
  omega
theorem dsc_mod (s : Int) (L i : Nat) : dsc s L (i % 2 ^ L) = dsc s L i := dsc_congr (fun b hb => bt_mod hb) s
theorem bt_half (i b : Nat) : bt (i / 2) b = bt i (b + 1) := by
  unfold bt
  rw [Nat.div_div_eq_div_mul, Nat.pow_succ, Nat.mul_comm]
theorem dsc_snoc (s : Int) (L i : Nat) : dsc s (L + 1) i = kid (dsc s L (i / 2)) (bt i 0) := by
  induction L generalizing s with
  | zero => rfl
  | succ L ih => rw [dsc_succ, ih, dsc_succ s L (i / 2), bt_half]

/-- There is such a leaf. -/
def leafOk (d i : Int) : Bool := inR d 0 6 && inR i 0 (2 ^ d.toNat - 1)
theorem leafOk_iff {d i : Int} : leafOk d i = true ↔ ∃ D I : Nat, d = D ∧ i = I ∧ D ≤ 6 ∧ I < 2 ^ D := by
  unfold leafOk inR
  simp only [Bool.and_eq_true, decide_eq_true_eq]
  constructor
  · rintro ⟨⟨h1, h2⟩, h3, h4⟩
    refine ⟨d.toNat, i.toNat, by omega, by omega, by omega, ?_⟩
    have e : ((2 : Int) ^ d.toNat) = ((2 ^ d.toNat : Nat) : Int) := by simp
    rw [e] at h4
    omega
  · rintro ⟨D, I, rfl, rfl, h1, h2⟩
    have e : ((2 : Int) ^ ((D : Int)).toNat) = ((2 ^ D : Nat) : Int) := by simp
    rw [e]
    omega
/-- The seed of a leaf. -/
def lseed (r d i : Int) : Int := if leafOk d i = true then dsc r d.toNat i.toNat else 0
/-- The seeds of all leaves. -/
def lseeds (r d : Int) : List Int := if inR d 0 6 = true then (List.range (2 ^ d.toNat)).map (dsc r d.toNat) else []
/-- A byte of a stream. -/
def sbyte (s : Int) (i : Nat) : Int := kid s (100 + (i : Int)) / 256 % 256
/-- A stream. -/
def strm (s n : Int) : List Int := if inR n 0 400 = true then (List.range n.toNat).map (sbyte s) else []
/-- The sibling of the path's node on a level. -/
def sib (r : Int) (D I j : Nat) : Int := kid (dsc r j (I / 2 ^ (D - j))) (1 - bt I (D - 1 - j))
/-- The siblings of a path. -/
def pun (r d i : Int) : List Int := if leafOk d i = true then (List.range d.toNat).map (sib r d.toNat i.toNat) else []
/-- The seed of a leaf out of siblings. -/
def pl : List Int → Nat → Nat → Int
  | [], _, _ => 0
  | z :: t, i, o => if bt i t.length = bt o t.length then pl t i o else dsc z t.length o
/-- There are such leaves. -/
def pok (zs : List Int) (i o : Int) : Bool := leafOk zs.length i && (leafOk zs.length o && !(i == o))
/-- The seed of a leaf out of siblings, if there is one. -/
def pleaf (zs : List Int) (i o : Int) : Int := if pok zs i o = true then pl zs i.toNat o.toNat else 0

theorem mod_u8 (x : Int) : 0 ≤ x % 256 ∧ x % 256 ≤ 255 := by omega
theorem sbyte_u8 (s : Int) (i : Nat) : 0 ≤ sbyte s i ∧ sbyte s i ≤ 255 := by
  unfold sbyte
  generalize kid s (100 + (i : Int)) / 256 = q
  exact mod_u8 q
theorem sbyte_wf (s : Int) (i : Nat) : (Lit.int .u8 (sbyte s i)).wf = true := by
  have := sbyte_u8 s i
  revert this
  generalize sbyte s i = q
  intro h
  exact wf_u8_of h.1 h.2
theorem sib_wf (r : Int) (D I j : Nat) : (Lit.int .i64 (sib r D I j)).wf = true := by unfold sib; exact kid_wf _ _
theorem pow_le6 {D : Nat} (h : D ≤ 6) : 1 ≤ 2 ^ D ∧ 2 ^ D ≤ 64 := by
  have h7 : D = 0 ∨ D = 1 ∨ D = 2 ∨ D = 3 ∨ D = 4 ∨ D = 5 ∨ D = 6 := by omega
  rcases h7 with rfl | rfl | rfl | rfl | rfl | rfl | rfl <;> decide
theorem lseeds_len (r d : Int) : (lseeds r d).length ≤ 64 := by
  unfold lseeds
  split
  · rename_i h
    simp [inR] at h
    rw [List.length_map, List.length_range]
    exact (pow_le6 (by omega)).2
  · simp
theorem strm_len (s n : Int) : (strm s n).length ≤ 400 := by
  unfold strm
  split
  · rename_i h
    simp [inR] at h
    rw [List.length_map, List.length_range]
    omega
  · simp
theorem pun_len (r d i : Int) : (pun r d i).length ≤ 6 := by
  unfold pun
  split
  · rename_i h
    obtain ⟨D, I, rfl, rfl, h1, h2⟩ := leafOk_iff.1 h
    simp; omega
  · simp
/-- What the program puts beside the path. -/
theorem dsc_sib (r : Int) {D I j X : Nat} (hj : j < D) (h0 : X / 2 = I / 2 ^ (D - 1 - j) / 2) (h1 : bt X 0 = 1 - bt I (D - 1 - j)) : dsc r (j + 1) X = sib r D I j := by
  rw [dsc_snoc, h0, h1]
  unfold sib
  rw [Nat.div_div_eq_div_mul, ← Nat.pow_succ, show (D - 1 - j).succ = D - j by omega]
/-- One step down the path. -/
theorem dsc_path (r : Int) {D I j : Nat} (hj : j < D) : kid (dsc r j (I / 2 ^ (D - j))) (bt I (D - 1 - j)) = dsc r (j + 1) (I / 2 ^ (D - (j + 1))) := by
  rw [dsc_snoc, Nat.div_div_eq_div_mul, ← Nat.pow_succ, show (D - (j + 1)).succ = D - j by omega]
  congr 1
  unfold bt
  rw [Nat.pow_zero, Nat.div_one, show D - (j + 1) = D - 1 - j by omega]
theorem range_snoc {f : Nat → Int} (j : Nat) : (List.range (j + 1)).map f = (List.range j).map f ++ [f j] := by
  rw [List.range_succ, List.map_append]; rfl
/-- The leaves part. -/
theorem part_step {i o L : Nat} (hd : i % 2 ^ (L + 1) ≠ o % 2 ^ (L + 1)) (he : bt i L = bt o L) : i % 2 ^ L ≠ o % 2 ^ L := by
  intro h
  apply hd
  rw [Nat.mod_pow_succ, Nat.mod_pow_succ, h]
  unfold bt at he
  have : i / 2 ^ L % 2 = o / 2 ^ L % 2 := by omega
  rw [this]
theorem mod_self_ne {i o D : Nat} (hi : i < 2 ^ D) (ho : o < 2 ^ D) (h : i ≠ o) : i % 2 ^ D ≠ o % 2 ^ D := by
  rw [Nat.mod_eq_of_lt hi, Nat.mod_eq_of_lt ho]; exact h
theorem bt_of_mod (i L : Nat) : bt i L = ((i / 2 ^ L : Nat) : Int) % 2 := by unfold bt; omega

end Go.Proofs.YtjbkhbbchacooaaGreatDoor


/-! Tre1 -/
namespace Go.Proofs.YtjbkhbbchacooaaGreatDoor
open Go Go.RowKit
set_option linter.unusedVariables false

theorem i64_and1 (n : Int) : bits .and .i64 n 1 = n % 2 := i64_mask 1 1 (by decide) (by decide) n

set_option maxHeartbeats 1000000 in
/-- impl.ChildSeed. -/
theorem impl_cs {w : World} {s c : Int} (hs : (Lit.int .i64 s).wf = true) (hc : (Lit.int .i64 c).wf = true) :
    Calls Tryz.prog 95 #[.int .i64 s, .int .i64 c] w fun e w' => e = .returned (.int .i64 (kid s c)) ∧ Below w.heap.size w w' := by
  have HR := Lib.hid (Rd.two 3 .i64 w 47 c (by decide) hc)
  have HS := Lib.hid hs
  have hb := kh_bound s [47, c]
  have hm : 0 ≤ kh s [47, c] * kh s [47, c] ∧ kh s [47, c] * kh s [47, c] ≤ 2147483646 * 2147483646 := ⟨Int.mul_nonneg hb.1 hb.1, Int.mul_le_mul hb.2 hb.2 hb.1 (by decide)⟩
  have he : kid s c = (kh s [47, c] * kh s [47, c] + 5) % 2147483647 := kid_eq s c
  obtain ⟨h, hh⟩ : ∃ h, h = kh s [47, c] := ⟨_, rfl⟩
  rw [← hh] at hb hm he
  have HH := Lib.hid hh
  have HE := Lib.hid he
  have HB := Lib.hid ((Below.refl w.heap.size w).alloc (Nat.le_refl _) (.cells #[.int .i64 47, .int .i64 c] 3))
  clear hh he hs hc
  go_enter Tryz.func95, Tryz.ntmps95
  go_wp2_with fail
  refine (impl_kh HR.out (by simp) HS.out).mono ?_
  rintro e w1 ⟨he, hw⟩
  rw [← HH.out] at he
  subst he
  have HB2 := Lib.hid (HB.out.trans (hw.mono (by simp)))
  clear hw
  go_wp2
  go_ret
  exact ⟨rint (by rw [HE.out]), HB2.out⟩

end Go.Proofs.YtjbkhbbchacooaaGreatDoor


/-! Tre2 -/
namespace Go.Proofs.YtjbkhbbchacooaaGreatDoor
open Go Go.RowKit
set_option linter.unusedVariables false
attribute [local irreducible] kh

theorem nat_wf {n : Nat} (h : n ≤ 1000) : (Lit.int .i64 (n : Int)).wf = true := wf_i64_of (by omega) (by omega)

end Go.Proofs.YtjbkhbbchacooaaGreatDoor


/-! Tre3 -/
namespace Go.Proofs.YtjbkhbbchacooaaGreatDoor
open Go Go.RowKit
set_option linter.unusedVariables false
attribute [local irreducible] kh

theorem pow_nat {D N : Nat} (h : N = 2 ^ D) : (2 : Int) ^ D = (N : Int) := by rw [h]; simp
theorem lseeds_yes {r : Int} {D : Nat} (h : inR (D : Int) 0 6 = true) : lseeds r (D : Int) = (List.range (2 ^ D)).map (dsc r D) := by
  unfold lseeds; rw [if_pos h, Int.toNat_natCast]
theorem lseeds_no {r d : Int} (h : inR d 0 6 = false) : lseeds r d = [] := by
  unfold lseeds; rw [h]; rfl
theorem lseed_yes {r : Int} {D I : Nat} (h : leafOk (D : Int) (I : Int) = true) : lseed r (D : Int) (I : Int) = dsc r D I := by
  unfold lseed; rw [if_pos h, Int.toNat_natCast, Int.toNat_natCast]
theorem map_len {f : Nat → Int} (n : Nat) : ((List.range n).map f).length = n := by simp

end Go.Proofs.YtjbkhbbchacooaaGreatDoor


/-! Tre4 -/
namespace Go.Proofs.YtjbkhbbchacooaaGreatDoor
open Go Go.RowKit
set_option linter.unusedVariables false
attribute [local irreducible] kh

theorem strm_yes {s : Int} {n : Nat} (h : inR (n : Int) 0 400 = true) : strm s (n : Int) = (List.range n).map (sbyte s) := by
  unfold strm; rw [if_pos h, Int.toNat_natCast]
theorem strm_no {s n : Int} (h : inR n 0 400 = false) : strm s n = [] := by
  unfold strm; rw [h]; rfl
theorem sbyte_eq (s : Int) (i : Nat) : sbyte s i = kid s (100 + (i : Int)) / 256 % 256 := rfl

set_option maxHeartbeats 1000000 in
/-- impl.StreamBytes. -/
theorem impl_sb {w : World} {s n : Int} (hs : (Lit.int .i64 s).wf = true) (hn : (Lit.int .i64 n).wf = true) :
    Calls Tryz.prog 75 #[.int .i64 s, .int .i64 n] w fun e w' => ∃ v', e = .returned v' ∧ Own 5 .u8 w.heap.size w' v' (strm s n) ∧ Below w.heap.size w w' := by
  obtain ⟨i0, hi, hz0, hz1, hz2⟩ := info_parts infou8
  have Hhi := Lib.hid hi
  have HS := Lib.hid hs
  have HD := Lib.hid hn
  clear hi hs hn
  by_cases h1 : 0 ≤ n ∧ n ≤ 400
  · have Hr : Hid (inR n 0 400 = true) := Lib.hid (inR_yes h1)
    obtain ⟨N, rfl⟩ : ∃ N : Nat, n = (N : Int) := ⟨n.toNat, by omega⟩
    have h6 : N ≤ 400 := by omega
    have HE : Hid (strm s (N : Int) = (List.range N).map (sbyte s)) := Lib.hid (strm_yes Hr.out)
    clear h1
    go_enter Tryz.func75, Tryz.ntmps75
    go_wp2_with fail
    refine (impl_in _ _ _ _ HD.out).mono ?_
    rw [Hr.out]
    rintro e w0 ⟨rfl, hw0⟩
    subst hw0
    go_wp2_with (first | (at_make; refine wpList_make_full _ rfl _ _ 22 rfl w0.heap.size 5 i0 (.int .u8 0) 1 Tryz.underlying22 Hhi.out hz0 hz1 .i64 .i64 _ _ N rfl rfl rfl rfl (by rw [hz2]; omega) (by unfold maxLen; omega) (Nat.le_refl _) ?_))
    intro w1 hown hg
    have hO := own_made hown hg.size (by decide)
    rw [← upt_rep (sbyte s) N] at hO
    have HO := Lib.hid hO
    have HB := Lib.hid ((Below.refl w0.heap.size w0).grown hg (Nat.le_refl _) (fun k hk => by cases hk))
    clear hown hg hO
    go_wp2_with fail
    go_loopw [15] (fun i wr => ∃ j : Nat, i = .int .i64 j ∧ j ≤ N ∧ Own 5 .u8 w0.heap.size wr (.slice (some ⟨w0.heap.size, 0, none⟩) N N) (upt (sbyte s) (fun _ => 0) j N) ∧ Below w0.heap.size w0 wr) (fun i _ => N - (intOf i).toNat)
    case atStart => exact ⟨0, rfl, Nat.zero_le _, HO.out, HB.out⟩
    case round =>
      obtain ⟨j, rfl, hj, hO, hB⟩ := hrel
      replace HO := Lib.hid hO
      replace HB := Lib.hid hB
      clear hO hB
      by_cases hlt : j < N
      · have e1 : decide ((j : Int) < (N : Int)) = true := by simp; omega
        go_wp2_with fail
        refine (impl_cs HS.out (wf_i64_of (by omega) (by omega))).mono ?_
        have hk := kid_bound s (100 + (j : Int))
        obtain ⟨q, hq⟩ : ∃ q, q = kid s (100 + (j : Int)) := ⟨_, rfl⟩
        rw [← hq] at hk ⊢
        have HK : Hid (q / 256 % 256 = sbyte s j) := Lib.hid (by rw [hq]; rfl)
        clear hq
        rintro e w2 ⟨rfl, hb⟩
        replace HB := Lib.hid (HB.out.trans (hb.mono HB.out.size))
        replace HO := Lib.hid (HO.out.next hb)
        have c2 := HO.out.cellAt (upt_length _ _ _ _) hlt
        have f2 := HO.out.free (upt_length _ _ _ _) j
        obtain ⟨p1, p2⟩ := HO.out.put (f := sbyte s) (j := j) (sbyte_wf _ _)
        have P1 := Lib.hid p1
        have P2 := Lib.hid p2
        clear hb p1 p2
        go_wp2_with fail
        go_roundw
        case rel =>
          rw [HK.out]
          exact ⟨j + 1, by simp, hlt, P1.out, HB.out.grown P2.out HB.out.size (fun k hk => by injection hk with hk; omega)⟩
        case measure => simp [intOf]; omega
      · have e1 : decide ((j : Int) < (N : Int)) = false := by simp; omega
        have ej : j = N := by omega
        have HE2 : Hid (upt (sbyte s) (fun _ => 0) j N = strm s (N : Int)) := Lib.hid (by rw [HE.out, ej, upt_full])
        clear ej
        go_wp2
        go_ret
        exact ⟨_, rfl, by rw [← HE2.out]; exact HO.out, HB.out⟩
  · have Hr : Hid (inR n 0 400 = false) := Lib.hid (inR_no h1)
    have HE : Hid (strm s n = []) := Lib.hid (strm_no Hr.out)
    clear h1
    go_enter Tryz.func75, Tryz.ntmps75
    go_wp2_with fail
    refine (impl_in _ _ _ _ HD.out).mono ?_
    rw [Hr.out]
    rintro e w2 ⟨rfl, hw2⟩
    subst hw2
    go_wp2_with fail
    go_ret
    exact ⟨_, rfl, by rw [HE.out]; exact Own.lit _ _ (Nat.le_refl _), (Below.refl _ _).alloc (Nat.le_refl _) _⟩

end Go.Proofs.YtjbkhbbchacooaaGreatDoor
