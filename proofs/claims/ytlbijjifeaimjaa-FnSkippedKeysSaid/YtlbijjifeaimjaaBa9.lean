/- The hash and the keyed hash, the program's and the document's: what each gives. No conditions but a length that a machine holds. The keyed hash, the program's and the document's: what each gives. No conditions but a length that a machine holds. -/
import Derived.Test.YtlbijjifeaimjaaBaM
import Derived.Laws.IdiomStrings
import Derived.Test.YtlbijjifeaimjaaBa1
import Derived.Test.YtlbijjifeaimjaaBa3
import Derived.Test.YtlbijjifeaimjaaEnc

/-! Cry1 -/
namespace Go.Proofs.Ytlbijjifeaimjaa
open Go Go.RowKit
set_option linter.unusedVariables false

/-- One value is folded in. -/
def hstep (a v : Int) : Int := (a * 1000003 + v % 2147483647 + 13) % 2147483647
/-- Values are folded in from a on. -/
def hfold (a : Int) (zs : List Int) : Int := zs.foldl hstep a
/-- The hash. -/
def hsh (zs : List Int) : Int := hfold 11 zs
/-- The keyed hash. -/
def kh (k : Int) (zs : List Int) : Int := hfold 11 (k :: (zs ++ [k]))
theorem hstep_bound (a v : Int) : 0 ≤ hstep a v ∧ hstep a v ≤ 2147483646 := by unfold hstep; omega
theorem hfold_bound {a : Int} (zs : List Int) (h0 : 0 ≤ a) (h1 : a ≤ 2147483646) : 0 ≤ hfold a zs ∧ hfold a zs ≤ 2147483646 := by
  induction zs generalizing a with
  | nil => exact ⟨h0, h1⟩
  | cons z zs ih => exact ih (hstep_bound a z).1 (hstep_bound a z).2
theorem hsh_bound (zs : List Int) : 0 ≤ hsh zs ∧ hsh zs ≤ 2147483646 := hfold_bound zs (by omega) (by omega)
theorem kh_bound (k : Int) (zs : List Int) : 0 ≤ kh k zs ∧ kh k zs ≤ 2147483646 := hfold_bound _ (by omega) (by omega)
theorem hfold_append (a : Int) (xs ys : List Int) : hfold a (xs ++ ys) = hfold (hfold a xs) ys := by unfold hfold; rw [List.foldl_append]
theorem drop_getD {zs : List Int} {j : Nat} (h : j < zs.length) : zs.drop j = zs.getD j 0 :: zs.drop (j + 1) := by
  rw [List.drop_eq_getElem_cons h]
  simp [List.getD_eq_getElem?_getD, List.getElem?_eq_getElem h]
theorem mod_mod (v : Int) : modV v 2147483647 = v % 2147483647 := by unfold modV; rw [if_pos (by omega)]

set_option maxHeartbeats 1000000 in
/-- impl.absorb. -/
theorem absorb_any {lim : Nat} {w : World} {v : Value} {zs : List Int} {a : Int} (h : Rd lim .i64 w v zs) (a0 : 0 ≤ a) (a1 : a ≤ 2147483646) :
    Calls Try.prog 48 #[.int .i64 a, v] w fun e w' => e = .returned (.int .i64 (hfold a zs)) ∧ w' = w := by
  obtain ⟨p, cap, rfl, h1, h2, hc⟩ := h.open
  have Hc := Lib.hid hc
  have H := Lib.hid h
  have hl := h.len
  unfold maxLen at h2 hl
  clear h hc
  go_enter Try.func48, Try.ntmps48
  go_wp2_with fail
  go_loopw [0, 9] (fun x i wr => ∃ (j : Nat) (u : Int), x = .int .i64 u ∧ i = .int .i64 j ∧ j ≤ zs.length ∧ 0 ≤ u ∧ u ≤ 2147483646 ∧ hfold u (zs.drop j) = hfold a zs ∧ wr = w) (fun _ i _ => zs.length - (intOf i).toNat)
  case atStart => exact ⟨0, a, rfl, rfl, Nat.zero_le _, a0, a1, rfl, rfl⟩
  case round =>
    obtain ⟨j, u, rfl, rfl, hj, u0, u1, hd, rfl⟩ := hrel
    by_cases hlt : j < zs.length
    · have e1 : decide ((j : Int) < (zs.length : Int)) = true := by simp; omega
      obtain ⟨b, o, rfl, hb, hcell⟩ := Hc.out (by omega)
      have c1 := hcell _ (Below.refl _ _) j hlt
      have hz := wf_i64 (H.out.wf hlt)
      rw [drop_getD hlt] at hd
      obtain ⟨z, hz'⟩ : ∃ z, z = zs.getD j 0 := ⟨_, rfl⟩
      rw [← hz'] at c1 hz hd
      have hs := hstep_bound u z
      have hD : Hid (hfold (hstep u z) (zs.drop (j + 1)) = hfold a zs) := Lib.hid hd
      have hS : Hid ((u * 1000003 + z % 2147483647 + 13) % 2147483647 = hstep u z) := Lib.hid rfl
      clear hcell hz' hd
      go_wp2_with fail
      refine (impl_mod z 2147483647 _ hz.1 hz.2).mono ?_
      rintro e w1 ⟨rfl, hw1⟩
      subst hw1
      rw [mod_mod]
      have m0 : 0 ≤ z % 2147483647 := by omega
      have m1 : z % 2147483647 ≤ 2147483646 := by omega
      obtain ⟨m, hm⟩ : ∃ m, m = z % 2147483647 := ⟨_, rfl⟩
      rw [← hm] at m0 m1 hS ⊢
      clear hm
      go_wp2
      go_roundw
      case rel => exact ⟨j + 1, hstep u z, by rw [← hS.out], by simp, hlt, hs.1, hs.2, hD.out, by simp⟩
      case measure => simp [intOf]; omega
    · have e1 : decide ((j : Int) < (zs.length : Int)) = false := by simp; omega
      have ej : j = zs.length := by omega
      rw [ej, List.drop_length] at hd
      have hD : Hid (u = hfold a zs) := Lib.hid hd
      clear hd
      go_wp2
      go_ret
      exact ⟨rint hD.out, rfl⟩

set_option maxHeartbeats 1000000 in
/-- spec.Hash. -/
theorem spec_hsh {lim : Nat} {w : World} {v : Value} {zs : List Int} (h : Rd lim .i64 w v zs) :
    Calls Try.prog 65 #[v] w fun e w' => e = .returned (.int .i64 (hsh zs)) ∧ w' = w := by
  obtain ⟨p, cap, rfl, h1, h2, hc⟩ := h.open
  have Hc := Lib.hid hc
  have H := Lib.hid h
  have hl := h.len
  unfold maxLen at h2 hl
  clear h hc
  go_enter Try.func65, Try.ntmps65
  go_wp2_with fail
  go_loopw [3, 4] (fun x i wr => ∃ (j : Nat) (u : Int), x = .int .i64 u ∧ i = .int .i64 j ∧ j ≤ zs.length ∧ 0 ≤ u ∧ u ≤ 2147483646 ∧ hfold u (zs.drop j) = hsh zs ∧ wr = w) (fun _ i _ => zs.length - (intOf i).toNat)
  case atStart => exact ⟨0, 11, rfl, rfl, Nat.zero_le _, by omega, by omega, rfl, rfl⟩
  case round =>
    obtain ⟨j, u, rfl, rfl, hj, u0, u1, hd, rfl⟩ := hrel
    by_cases hlt : j < zs.length
    · have e1 : decide ((j : Int) < (zs.length : Int)) = true := by simp; omega
      obtain ⟨b, o, rfl, hb, hcell⟩ := Hc.out (by omega)
      have c1 := hcell _ (Below.refl _ _) j hlt
      have hz := wf_i64 (H.out.wf hlt)
      rw [drop_getD hlt] at hd
      obtain ⟨z, hz'⟩ : ∃ z, z = zs.getD j 0 := ⟨_, rfl⟩
      rw [← hz'] at c1 hz hd
      have hs := hstep_bound u z
      have hD : Hid (hfold (hstep u z) (zs.drop (j + 1)) = hsh zs) := Lib.hid hd
      have hS : Hid ((u * 1000003 + z % 2147483647 + 13) % 2147483647 = hstep u z) := Lib.hid rfl
      clear hcell hz' hd
      go_wp2_with fail
      refine (spec_mod z 2147483647 _ hz.1 hz.2).mono ?_
      rintro e w1 ⟨rfl, hw1⟩
      subst hw1
      rw [mod_mod]
      have m0 : 0 ≤ z % 2147483647 := by omega
      have m1 : z % 2147483647 ≤ 2147483646 := by omega
      obtain ⟨m, hm⟩ : ∃ m, m = z % 2147483647 := ⟨_, rfl⟩
      rw [← hm] at m0 m1 hS ⊢
      clear hm
      go_wp2
      go_roundw
      case rel => exact ⟨j + 1, hstep u z, by rw [← hS.out], by simp, hlt, hs.1, hs.2, hD.out, by simp⟩
      case measure => simp [intOf]; omega
    · have e1 : decide ((j : Int) < (zs.length : Int)) = false := by simp; omega
      have ej : j = zs.length := by omega
      rw [ej, List.drop_length] at hd
      have hD : Hid (u = hsh zs) := Lib.hid hd
      clear hd
      go_wp2
      go_ret
      exact ⟨rint hD.out, rfl⟩

end Go.Proofs.Ytlbijjifeaimjaa


/-! Cry2 -/
namespace Go.Proofs.Ytlbijjifeaimjaa
open Go Go.RowKit
set_option linter.unusedVariables false

set_option maxHeartbeats 1000000 in
/-- impl.KeyedHash. -/
theorem impl_kh {lim : Nat} {w : World} {v : Value} {zs : List Int} {k : Int} (h : Rd lim .i64 w v zs) (hlim : lim ≤ w.heap.size) (hk : (Lit.int .i64 k).wf = true) :
    Calls Try.prog 40 #[.int .i64 k, v] w fun e w' => e = .returned (.int .i64 (kh k zs)) ∧ Below w.heap.size w w' := by
  have b1 := (Below.refl w.heap.size w).alloc (Nat.le_refl _) (.cells #[.int .i64 k] 3)
  have R1 := Lib.hid (Rd.one 3 .i64 w k hk)
  have R2 := Lib.hid (h.behind (b1.mono hlim))
  have r3 := Rd.one 3 .i64 (w.alloc (.cells #[.int .i64 k] 3)) k hk
  rw [World.size_alloc] at r3
  have R3 := Lib.hid r3
  have B2 := Lib.hid (b1.alloc (by simp) (.cells #[.int .i64 k] 3))
  have K1 : hfold (hfold (hfold 11 [k]) zs) [k] = kh k zs := by
    unfold kh; rw [show k :: (zs ++ [k]) = [k] ++ (zs ++ [k]) from rfl, hfold_append, hfold_append]
  have g1 := hfold_bound (a := 11) [k] (by omega) (by omega)
  have g2 := hfold_bound zs g1.1 g1.2
  obtain ⟨q1, h1⟩ : ∃ q, q = hfold 11 [k] := ⟨_, rfl⟩
  rw [← h1] at g1 g2 K1
  obtain ⟨q2, h2⟩ : ∃ q, q = hfold q1 zs := ⟨_, rfl⟩
  rw [← h2] at g2 K1
  obtain ⟨q3, h3⟩ : ∃ q, q = kh k zs := ⟨_, rfl⟩
  rw [← h3] at K1 ⊢
  have G1 := Lib.hid g1
  have G2 := Lib.hid g2
  have H1 := Lib.hid h1
  have H2 := Lib.hid h2
  have H3 := Lib.hid K1
  clear b1 h hk g1 g2 h1 h2 h3 K1 r3
  go_enter Try.func40, Try.ntmps40
  go_wp2_with fail
  refine (absorb_any R1.out (by omega) (by omega)).mono ?_
  rintro e w1 ⟨he, hw1⟩
  rw [← H1.out] at he
  subst he
  subst hw1
  go_wp2_with fail
  refine (absorb_any R2.out G1.out.1 G1.out.2).mono ?_
  rintro e w1 ⟨he, hw1⟩
  rw [← H2.out] at he
  subst he
  subst hw1
  go_wp2_with fail
  refine (absorb_any R3.out G2.out.1 G2.out.2).mono ?_
  rintro e w1 ⟨he, hw1⟩
  rw [H3.out] at he
  subst he
  subst hw1
  go_wp2_with fail
  go_ret
  exact ⟨rfl, B2.out⟩

set_option maxHeartbeats 1000000 in
/-- spec.KeyedHash. -/
theorem spec_kh {lim : Nat} {w : World} {v : Value} {zs : List Int} {k : Int} (h : Rd lim .i64 w v zs) (hlim : lim ≤ w.heap.size) (hk : (Lit.int .i64 k).wf = true) (hn : zs.length ≤ 1099511627776) :
    Calls Try.prog 52 #[.int .i64 k, v] w fun e w' => e = .returned (.int .i64 (kh k zs)) ∧ Below w.heap.size w w' := by
  obtain ⟨i0, hi, hz0, hz1, hz2⟩ := info_parts infoi64
  have Hhi := Lib.hid hi
  have b1 := (Below.refl w.heap.size w).alloc (Nat.le_refl _) (.cells #[.int .i64 k] 3)
  have HO : Hid (Own 3 .i64 w.heap.size (w.alloc (.cells #[.int .i64 k] 3)) (.slice (some ⟨w.heap.size, 0, none⟩) 1 1) [k]) := Lib.hid (Own.one 3 .i64 (Nat.le_refl _) hk)
  have R2 := Lib.hid (h.behind (b1.mono hlim))
  have B1 := Lib.hid b1
  have HK := Lib.hid hk
  clear b1 h hk hi
  go_enter Try.func52, Try.ntmps52
  go_wp2_with (first | (at_builtin; refine append_rd _ rfl _ _ 55 rfl 3 i0 (.int .i64 0) 8 Try.underlying55 Hhi.out hz0 hz1 hz2 rfl (by omega) rfl HO.out rfl R2.out (by simp; omega) ?_))
  intro v1 w1 h1 h2
  have H1 := Lib.hid (h1.alloc (.cells #[.int .i64 k] 3))
  have HB := Lib.hid ((B1.out.trans (HO.out.below (Nat.le_refl _) h2)).alloc (by have := h1.2.1; omega) (.cells #[.int .i64 k] 3))
  have R3 := Lib.hid (Rd.one 3 .i64 w1 k HK.out)
  clear h1 h2
  go_wp2_with (first | (at_builtin; refine append_rd _ rfl _ _ 55 rfl 3 i0 (.int .i64 0) 8 Try.underlying55 Hhi.out hz0 hz1 hz2 rfl (by omega) rfl H1.out rfl R3.out (by simp; omega) ?_))
  intro v2 w2 h3 h4
  have H3 := Lib.hid h3
  have HB2 := Lib.hid (HB.out.trans (H1.out.below (Nat.le_refl _) h4))
  clear h3 h4
  go_wp2_with fail
  refine (spec_hsh H3.out.rd).mono ?_
  rintro e w3 ⟨rfl, hw3⟩
  subst hw3
  have e1 : hsh (k :: (zs ++ [k])) = kh k zs := by unfold hsh kh; simp
  rw [e1]
  go_wp2_with fail
  go_ret
  exact ⟨rfl, HB2.out⟩

end Go.Proofs.Ytlbijjifeaimjaa
