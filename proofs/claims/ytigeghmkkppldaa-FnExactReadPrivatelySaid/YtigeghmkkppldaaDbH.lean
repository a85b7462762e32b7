/- The helpers of the exact laws on databases: their size, a copy, whether two are equal, marks. No conditions but a size that a machine holds. -/
import Derived.Test.YtigeghmkkppldaaBbD
namespace Go.Proofs.Ytigeghmkkppldaa
open Go Go.RowKit
set_option linter.unusedVariables false

set_option maxHeartbeats 1000000 in
/-- laws.szDatabase -/
theorem szDatabase_any {l : Nat} {w : World} {v : Value} {zss : List (List Int)} {left : Int} (h : Rd2 l .u8 w v zss) (h0 : 0 ≤ left) (h1 : left ≤ 1048576) (hl : l ≤ w.heap.size) :
    Calls Try.prog 36 #[.agg #[v], .int .i64 left] w fun e w' => e = .returned (.int .i64 (if (tot zss : Int) ≤ left then left - tot zss else -1)) ∧ Below w.heap.size w w' := by
  obtain ⟨q, hq0⟩ : ∃ q : Int, q = (if (tot zss : Int) ≤ left then left - tot zss else -1) := ⟨_, rfl⟩
  rw [← hq0]
  have Hq := Lib.hid hq0
  have hqb : (0 ≤ q ∧ q ≤ 1048576) ∨ q = -1 := by rw [hq0]; split <;> omega
  obtain ⟨a, cap, rfl, _⟩ := h.open
  have HB := Lib.hid ((Below.refl w.heap.size w).alloc (Nat.le_refl _) (.cells #[.slice a zss.length cap] 51))
  have HU := Lib.hid (h.behind (HB.out.mono hl))
  clear h hq0
  rcases hqb with hqb | hqb
  · have e1 : decide (q < 0) = false := by simp; omega
    go_enter Try.func36, Try.ntmps36
    go_wp2_with fail
    refine (szByteSS_any HU.out h0 h1 (Nat.le_trans hl HB.out.size)).mono ?_
    rw [← Hq.out]
    rintro e w1 ⟨rfl, hw⟩
    subst hw
    go_wp2_with fail
    go_ret
    exact ⟨rfl, HB.out⟩
  · subst hqb
    go_enter Try.func36, Try.ntmps36
    go_wp2_with fail
    refine (szByteSS_any HU.out h0 h1 (Nat.le_trans hl HB.out.size)).mono ?_
    rw [← Hq.out]
    rintro e w1 ⟨rfl, hw⟩
    subst hw
    go_wp2_with fail
    go_ret
    exact ⟨rfl, HB.out⟩

set_option maxHeartbeats 1000000 in
/-- laws.eqDatabase at the same rows. -/
theorem eqDatabase_same {l1 l2 : Nat} {w : World} {u v : Value} {zss : List (List Int)} (hu : Rd2 l1 .u8 w u zss) (hv : Rd2 l2 .u8 w v zss) (hl1 : l1 ≤ w.heap.size) (hl2 : l2 ≤ w.heap.size) :
    Calls Try.prog 40 #[.agg #[u], .agg #[v]] w fun e w' => e = .returned (.bool true) ∧ Below w.heap.size w w' := by
  obtain ⟨a, cap, rfl, _⟩ := hu.open
  obtain ⟨a', cap', rfl, _⟩ := hv.open
  have HB := Lib.hid (((Below.refl w.heap.size w).alloc (Nat.le_refl _) (.cells #[.slice a zss.length cap] 26)).alloc (by simp) (.cells #[.slice a' zss.length cap'] 26))
  have HU := Lib.hid (hu.behind (HB.out.mono hl1))
  have HV := Lib.hid (hv.behind (HB.out.mono hl2))
  clear hu hv
  go_enter Try.func40, Try.ntmps40
  go_wp2_with fail
  refine (eqByteSS_same HU.out HV.out (Nat.le_trans hl1 HB.out.size) (Nat.le_trans hl2 HB.out.size)).mono ?_
  rintro e w3 ⟨rfl, hb⟩
  have HB3 := Lib.hid (HB.out.trans (hb.mono HB.out.size))
  clear hb
  go_wp2_with fail
  go_ret
  exact ⟨rfl, HB3.out⟩

set_option maxHeartbeats 1000000 in
/-- laws.markDatabase: every element is set to its mark. -/
theorem markDatabase_any {t : TypeId} {F : Nat → Prop} {w : World} {v : Value} {zss : List (List Int)} {k0 : Int} (h : Own2 t 5 .u8 F w v zss) (h0 : 0 ≤ k0) (hk : k0 + fl zss ≤ 9223372036854775807) :
    Calls Try.prog 41 #[.agg #[v], .int .i64 k0] w fun e' w' => e' = .returned (.int .i64 (k0 + fl zss)) ∧ Own2 t 5 .u8 F w' v (marks2Byte k0 zss) ∧ KeptF F w w' := by
  obtain ⟨a, cap, rfl, _⟩ := h.open
  have HO := Lib.hid (h.alloc (.cells #[.slice a zss.length cap] 26))
  have HK : Hid (KeptF F w (w.alloc (.cells #[.slice a zss.length cap] 26))) := Lib.hid (KeptF.of_below ((Below.refl w.heap.size w).alloc (Nat.le_refl _) _))
  obtain ⟨q, hq⟩ : ∃ q : Int, q = k0 + fl zss := ⟨_, rfl⟩
  rw [← hq]
  have HQ := Lib.hid hq
  clear h hq
  go_enter Try.func41, Try.ntmps41
  go_wp2_with fail
  refine (markByteSS_any HO.out h0 hk).mono ?_
  rw [← HQ.out]
  rintro e w3 ⟨rfl, h3, hk3⟩
  have H3 := Lib.hid h3
  have HK3 := Lib.hid (HK.out.trans hk3)
  clear h3 hk3
  go_wp2_with fail
  go_ret
  exact ⟨rfl, H3.out, HK3.out⟩

set_option maxHeartbeats 1000000 in
/-- laws.toDatabase: rows of its own with the same elements. -/
theorem toDatabase_any {lim : Nat} {w : World} {v : Value} {zss : List (List Int)} (h : Rd2 lim .u8 w v zss) (hlim : lim ≤ w.heap.size) (hn : tot zss ≤ 1099511627776) :
    Calls Try.prog 38 #[.agg #[v]] w fun e w' => ∃ v', e = .returned (.agg #[v']) ∧ Own2 22 5 .u8 (ival w.heap.size w'.heap.size) w' v' zss ∧ Below w.heap.size w w' := by
  obtain ⟨a, cap, rfl, _⟩ := h.open
  have HB := Lib.hid ((((Below.refl w.heap.size w).alloc (Nat.le_refl _) (.cells #[.slice a zss.length cap] 51)).alloc (by simp) (.cells #[.slice none 0 0] 26)).alloc (by simp; omega) (.cells #[.slice none 0 0] 26))
  have HU := Lib.hid (h.behind (HB.out.mono hlim))
  clear h
  go_enter Try.func38, Try.ntmps38
  go_wp2_with fail
  refine (toByteSS_any HU.out (Nat.le_trans hlim HB.out.size) hn).mono ?_
  rintro e w3 ⟨v3, rfl, h3, hb3⟩
  obtain ⟨a3, c3, rfl, _⟩ := h3.open
  have hb3' := hb3
  rw [World.size_alloc, World.size_alloc, World.size_alloc] at hb3'
  obtain ⟨_, q1, q2⟩ := blocks3 w (.cells #[.slice a zss.length cap] 51) (.cells #[.slice none 0 0] 26) (.cells #[.slice none 0 0] 26)
  have B1 := (hb3'.block (w.heap.size + 1) (by omega)).trans q1
  have B2 := (hb3'.block (w.heap.size + 1 + 1) (by omega)).trans q2
  have HB1 := Lib.hid B1
  have HB2 := Lib.hid B2
  have c1 := blk_cell B1 0
  have c2 := blk_cell B2 0
  have f1 := blk_free B1 0
  have f2 := blk_free B2 0
  rw [one0] at c1 c2
  have H3 := Lib.hid h3
  have HB3 := Lib.hid (HB.out.trans (hb3.mono HB.out.size))
  have HS3 := Lib.hid hb3'.size
  clear h3 hb3 hb3' q1 q2 B1 B2
  go_wp2_with fail
  have g1 := HS3.out
  obtain ⟨r0, k0⟩ := store2 (c := w.heap.size + 1 + 1) HB1.out (by omega) (.slice a3 zss.length c3) (.slice a3 zss.length c3)
  obtain ⟨W5, hW5⟩ : ∃ W5, W5 = (w3.setCell ⟨w.heap.size + 1 + 1, 0, none⟩ (.slice a3 zss.length c3)).setCell ⟨w.heap.size + 1, 0, none⟩ (.slice a3 zss.length c3) := ⟨_, rfl⟩
  rw [← hW5] at r0 k0 ⊢
  have hs5 : W5.heap.size = w3.heap.size := by rw [hW5, World.setCell_size, World.setCell_size]
  have Q1 := Lib.hid ((H3.out.keptF k0 (fun b hb => by unfold ival at hb; rw [World.size_alloc, World.size_alloc, World.size_alloc] at hb; omega)).mono (G := ival w.heap.size W5.heap.size) (fun b hb => by unfold ival at hb ⊢; rw [World.size_alloc, World.size_alloc, World.size_alloc] at hb; omega))
  have Q2 := Lib.hid (HB3.out.trans (k0.below (B := w.heap.size) (fun b hb => by omega) HB3.out.size))
  clear c1 c2 f1 f2 k0 hW5 hs5 g1
  exact bodyPost_ret (v := .agg #[.slice a3 zss.length c3]) (by simp [results, Try.results38, go_sem, r0]) rfl ⟨_, rfl, Q1.out, Q2.out⟩

end Go.Proofs.Ytigeghmkkppldaa
