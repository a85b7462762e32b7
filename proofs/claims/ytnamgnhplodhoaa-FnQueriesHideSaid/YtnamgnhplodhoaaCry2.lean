/- The keyed hash, the program's and the document's: what each gives. No conditions but a length that a machine holds. -/
import Derived.Test.YtnamgnhplodhoaaCry1
namespace Go.Proofs.Ytnamgnhplodhoaa
open Go Go.RowKit
set_option linter.unusedVariables false

set_option maxHeartbeats 1000000 in
/-- impl.KeyedHash. -/
theorem impl_kh {lim : Nat} {w : World} {v : Value} {zs : List Int} {k : Int} (h : Rd lim .i64 w v zs) (hlim : lim ≤ w.heap.size) (hk : (Lit.int .i64 k).wf = true) :
    Calls Try.prog 87 #[.int .i64 k, v] w fun e w' => e = .returned (.int .i64 (kh k zs)) ∧ Below w.heap.size w w' := by
  have b1 := (Below.refl w.heap.size w).alloc (Nat.le_refl _) (.cells #[.int .i64 k] 3)
  have R1 := Lib.hid (Rd.one 3 .i64 w k hk)
  have R2 := Lib.hid (h.behind (b1.mono hlim))
  have r3 := Rd.one 3 .i64 (w.alloc (.cells #[.int .i64 k] 3)) k hk
  rw [World.size_alloc] at r3
  have R3 := Lib.hid r3
  have B2 := Lib.hid (b1.alloc (by simp) (.cells #[.int .i64 k] 3))
  have K1 : hfold (hfold (hfold 11 [k]) zs) [k] = kh k zs := by
    unfold kh; rw [show k :: (zs ++ [k]) = [k] ++ (zs ++ [k]) from rfl, hfold_append, hfold_append]
  have g1 := hfold_bound (a := 11) [k] (by omega) (by omega)
  have g2 := hfold_bound zs g1.1 g1.2
  obtain ⟨q1, h1⟩ : ∃ q, q = hfold 11 [k] := ⟨_, rfl⟩
  rw [← h1] at g1 g2 K1
  obtain ⟨q2, h2⟩ : ∃ q, q = hfold q1 zs := ⟨_, rfl⟩
  rw [← h2] at g2 K1
  obtain ⟨q3, h3⟩ : ∃ q, q = kh k zs := ⟨_, rfl⟩
  rw [← h3] at K1 ⊢
  have G1 := Lib.hid g1
  have G2 := Lib.hid g2
  have H1 := Lib.hid h1
  have H2 := Lib.hid h2
  have H3 := Lib.hid K1
  clear b1 h hk g1 g2 h1 h2 h3 K1 r3
  go_enter Try.func87, Try.ntmps87
  go_wp2_with fail
  refine (absorb_any R1.out (by omega) (by omega)).mono ?_
  rintro e w1 ⟨he, hw1⟩
  rw [← H1.out] at he
  subst he
  subst hw1
  go_wp2_with fail
  refine (absorb_any R2.out G1.out.1 G1.out.2).mono ?_
  rintro e w1 ⟨he, hw1⟩
  rw [← H2.out] at he
  subst he
  subst hw1
  go_wp2_with fail
  refine (absorb_any R3.out G2.out.1 G2.out.2).mono ?_
  rintro e w1 ⟨he, hw1⟩
  rw [H3.out] at he
  subst he
  subst hw1
  go_wp2_with fail
  go_ret
  exact ⟨rfl, B2.out⟩

set_option maxHeartbeats 1000000 in
/-- spec.KeyedHash. -/
theorem spec_kh {lim : Nat} {w : World} {v : Value} {zs : List Int} {k : Int} (h : Rd lim .i64 w v zs) (hlim : lim ≤ w.heap.size) (hk : (Lit.int .i64 k).wf = true) (hn : zs.length ≤ 1099511627776) :
    Calls Try.prog 94 #[.int .i64 k, v] w fun e w' => e = .returned (.int .i64 (kh k zs)) ∧ Below w.heap.size w w' := by
  obtain ⟨i0, hi, hz0, hz1, hz2⟩ := info_parts infoi64
  have Hhi := Lib.hid hi
  have b1 := (Below.refl w.heap.size w).alloc (Nat.le_refl _) (.cells #[.int .i64 k] 3)
  have HO : Hid (Own 3 .i64 w.heap.size (w.alloc (.cells #[.int .i64 k] 3)) (.slice (some ⟨w.heap.size, 0, none⟩) 1 1) [k]) := Lib.hid (Own.one 3 .i64 (Nat.le_refl _) hk)
  have R2 := Lib.hid (h.behind (b1.mono hlim))
  have B1 := Lib.hid b1
  have HK := Lib.hid hk
  clear b1 h hk hi
  go_enter Try.func94, Try.ntmps94
  go_wp2_with (first | (at_builtin; refine append_rd _ rfl _ _ 27 rfl 3 i0 (.int .i64 0) 8 Try.underlying27 Hhi.out hz0 hz1 hz2 rfl (by omega) rfl HO.out rfl R2.out (by simp; omega) ?_))
  intro v1 w1 h1 h2
  have H1 := Lib.hid (h1.alloc (.cells #[.int .i64 k] 3))
  have HB := Lib.hid ((B1.out.trans (HO.out.below (Nat.le_refl _) h2)).alloc (by have := h1.2.1; omega) (.cells #[.int .i64 k] 3))
  have R3 := Lib.hid (Rd.one 3 .i64 w1 k HK.out)
  clear h1 h2
  go_wp2_with (first | (at_builtin; refine append_rd _ rfl _ _ 27 rfl 3 i0 (.int .i64 0) 8 Try.underlying27 Hhi.out hz0 hz1 hz2 rfl (by omega) rfl H1.out rfl R3.out (by simp; omega) ?_))
  intro v2 w2 h3 h4
  have H3 := Lib.hid h3
  have HB2 := Lib.hid (HB.out.trans (H1.out.below (Nat.le_refl _) h4))
  clear h3 h4
  go_wp2_with fail
  refine (spec_hsh H3.out.rd).mono ?_
  rintro e w3 ⟨rfl, hw3⟩
  subst hw3
  have e1 : hsh (k :: (zs ++ [k])) = kh k zs := by unfold hsh kh; simp
  rw [e1]
  go_wp2_with fail
  go_ret
  exact ⟨rfl, HB2.out⟩

end Go.Proofs.Ytnamgnhplodhoaa
