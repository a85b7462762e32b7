/- Ratchets: copies, a turn, Advance; the program's and the document's. No conditions but numbers and lengths that a machine holds. -/
import Derived.Test.YtlbijjifeaimjaaRt2
namespace Go.Proofs.Ytlbijjifeaimjaa
open Go Go.RowKit
set_option linter.unusedVariables false
set_option maxRecDepth 20000
attribute [local irreducible] kh kid

set_option maxHeartbeats 2000000 in
/-- slices.Clone on kept keys. -/
theorem kclone_any {l : Nat} {w : World} {v : Value} {xs : Kept} (h : RdS kepE l w v xs) (hl : l ≤ w.heap.size) (hn : xs.length ≤ 1048576) :
    Calls Try.prog 31 #[v] w fun e w' => ∃ v', e = .returned v' ∧ OwnS kepE 40 w.heap.size w' v' xs ∧ Below w.heap.size w w' := by
  have h' := h
  obtain ⟨_, p, cap, rfl, h1, h2, h3⟩ := h'
  rcases h3 with ⟨rfl, rfl⟩ | ⟨ad, rfl, _⟩
  · obtain rfl : xs = [] := List.eq_nil_of_length_eq_zero (by omega)
    have hnl := fun w' : World => Lib.run_eql_slice_nil (P := Try.prog) w' 24 40 none 0 0 0 0 Try.underlying24
    clear h hn h1 h2
    simp only [List.length_nil]
    go_enter Try.func31, Try.ntmps31
    go_wp2_with fail
    go_ret
    exact ⟨_, rfl, OwnS.nil _ _ (Nat.le_refl _), Below.refl _ _⟩
  · obtain ⟨i0, hi, hz0, hz1, hz2⟩ := info_parts infoSkippedKey
    have Hhi := Lib.hid hi
    have HN := Lib.hid hn
    have hb0 := (Below.refl w.heap.size w).alloc (Nat.le_refl _) (.cells #[] 40)
    have O1 := Lib.hid (OwnS.lit (w := w) (B := w.heap.size) kepE 40 (Nat.le_refl _))
    have R1 := Lib.hid ((h.mono hl).behind hb0)
    have B1 := Lib.hid hb0
    have hnl := fun w' : World => Lib.run_eql_slice_nil (P := Try.prog) w' 24 40 (some ad) xs.length cap 0 0 Try.underlying24
    clear h hi hn hb0 h1 h2
    go_enter Try.func31, Try.ntmps31
    go_wp2_with (first | (at_builtin; refine append_rds _ rfl _ _ 24 rfl 40 i0 (.agg #[.int .i64 0, .int .i64 0]) 16 Try.underlying24 Hhi.out hz0 hz1 hz2 rfl (by omega) rfl O1.out rfl R1.out (by have := HN.out; simp only [List.length_nil]; omega) ?_))
    intro v8 w8 h8 hg8
    have H8 := Lib.hid (show OwnS kepE 40 w.heap.size w8 v8 xs from h8)
    have B8 := Lib.hid (B1.out.trans (O1.out.below (Nat.le_refl _) hg8))
    clear h8 hg8
    go_wp2_with fail
    go_ret
    exact ⟨_, rfl, H8.out, B8.out⟩

set_option maxHeartbeats 4000000 in
/-- impl.copyRatchet. -/
theorem impl_cpr {lim : Nat} {w : World} {v : Value} {xs : Kept} {c s : Int} (h : RdS kepE lim w v xs) (hlim : lim ≤ w.heap.size) (hcw : (Lit.int .i64 c).wf = true) (hsw : (Lit.int .i64 s).wf = true) (hn : xs.length ≤ 1048576) :
    Calls Try.prog 18 #[.agg #[.int .i64 c, .int .i64 s, v]] w fun e w' => ∃ v', e = .returned (.agg #[.int .i64 c, .int .i64 s, v']) ∧ OwnS kepE 40 w.heap.size w' v' xs ∧ Below w.heap.size w w' := by
  obtain ⟨p, cap, rfl, h1, h2, -⟩ := h.open
  have HR0 := Lib.hid h
  have HCw := Lib.hid hcw
  have HSw := Lib.hid hsw
  have hsb := wf_i64 hsw
  clear h hcw hsw h1 h2
  obtain ⟨W, hW⟩ : ∃ W, W = ((w.alloc (.cells #[.int .i64 c, .int .i64 s, .slice p xs.length cap] 26)).alloc (.cells #[.int .i64 0, .int .i64 0, .slice none 0 0] 26)) := ⟨_, rfl⟩
  have HW := Lib.hid hW
  have hK := blocks2T w (.cells #[.int .i64 c, .int .i64 s, .slice p xs.length cap] 26) (.cells #[.int .i64 0, .int .i64 0, .slice none 0 0] 26)
  rw [← hW] at hK
  have HA := Lib.hid hK.1
  have HC := Lib.hid hK.2
  have HB : Hid (Below w.heap.size w W) := Lib.hid (by rw [hW]; exact ((Below.refl _ _).alloc (Nat.le_refl _) _).alloc (by simp) _)
  have HS2 : Hid (W.heap.size = w.heap.size + 1 + 1) := Lib.hid (by rw [hW]; simp)
  clear hK hW
  have HR := Lib.hid (HR0.out.behind (HB.out.mono hlim))
  clear HR0
  go_enter Try.func18, Try.ntmps18
  go_wp2_with fail
  rw [← HW.out]
  obtain ⟨c0, c1, c2⟩ := rcs (w := W.drew) HA.out
  replace HA : Hid (W.drew.heap[w.heap.size]? = some (.cells #[.int .i64 c, .int .i64 s, .slice p xs.length cap] 26)) := Lib.hid HA.out
  replace HC : Hid (W.drew.heap[w.heap.size + 1]? = some (.cells #[.int .i64 0, .int .i64 0, .slice none 0 0] 26)) := Lib.hid HC.out
  replace HB := Lib.hid HB.out.drew
  replace HR := Lib.hid HR.out.drew
  have HN := Lib.hid hn
  obtain ⟨q0, q1, q2⟩ := rcs HC.out
  obtain ⟨f0, f1, f2⟩ := rfr HC.out
  clear hn
  go_region_with (first
    | (go_at_call 31
       go_loud (refine (kclone_any HR.out (Nat.le_trans hlim HB.out.size) HN.out).mono ?_
                rintro e' w4 ⟨v4, rfl, h4, hb4⟩
                obtain ⟨a4, n4, rfl, _⟩ := h4.open
                have HO := Lib.hid (h4.mono HB.out.size)
                have HLt := Lib.hid (fun r hr => (h4.lt r hr).1)
                replace HC := Lib.hid (rstand HC.out hb4)
                replace HA := Lib.hid (rstand HA.out hb4)
                replace HB := Lib.hid (HB.out.trans (hb4.mono HB.out.size))
                obtain ⟨c0, c1, c2⟩ := rcs HA.out
                obtain ⟨q0, q1, q2⟩ := rcs HC.out
                obtain ⟨f0, f1, f2⟩ := rfr HC.out
                clear h4 hb4)))
  all_goals (
    obtain ⟨k9, g9⟩ := rst HC.out (.int .i64 c) (.int .i64 s) (.slice a4 xs.length n4)
    obtain ⟨r0, r1, r2⟩ := rcs k9
    have HB9 := Lib.hid (HB.out.grown g9 HB.out.size (fun k hk => by injection hk with hk; omega))
    have HO9 := Lib.hid (HO.out.kept g9 (Or.inr (fun hh => by have := HLt.out _ hh; have := HS2.out; have e : W.drew.heap.size = W.heap.size := rfl; omega)))
    clear k9 g9
    go_wp2_with fail
    exact bodyPost_ret (v := .agg #[.int .i64 c, .int .i64 s, .slice a4 xs.length n4]) (by simp [results, Try.results18, go_sem, r0, r1, r2]) rfl ⟨_, rfl, HO9.out, HB9.out⟩)

set_option maxHeartbeats 4000000 in
/-- spec.l19Copy. -/
theorem spec_cpr {lim : Nat} {w : World} {v : Value} {xs : Kept} {c s : Int} (h : RdS kepE lim w v xs) (hlim : lim ≤ w.heap.size) (hcw : (Lit.int .i64 c).wf = true) (hsw : (Lit.int .i64 s).wf = true) (hn : xs.length ≤ 1048576) :
    Calls Try.prog 45 #[.agg #[.int .i64 c, .int .i64 s, v]] w fun e w' => ∃ v', e = .returned (.agg #[.int .i64 c, .int .i64 s, v']) ∧ OwnS kepE 40 w.heap.size w' v' xs ∧ Below w.heap.size w w' := by
  obtain ⟨p, cap, rfl, h1, h2, -⟩ := h.open
  have HR0 := Lib.hid h
  have HCw := Lib.hid hcw
  have HSw := Lib.hid hsw
  have hsb := wf_i64 hsw
  clear h hcw hsw h1 h2
  obtain ⟨W, hW⟩ : ∃ W, W = ((w.alloc (.cells #[.int .i64 c, .int .i64 s, .slice p xs.length cap] 26)).alloc (.cells #[.int .i64 0, .int .i64 0, .slice none 0 0] 26)) := ⟨_, rfl⟩
  have HW := Lib.hid hW
  have hK := blocks2T w (.cells #[.int .i64 c, .int .i64 s, .slice p xs.length cap] 26) (.cells #[.int .i64 0, .int .i64 0, .slice none 0 0] 26)
  rw [← hW] at hK
  have HA := Lib.hid hK.1
  have HC := Lib.hid hK.2
  have HB : Hid (Below w.heap.size w W) := Lib.hid (by rw [hW]; exact ((Below.refl _ _).alloc (Nat.le_refl _) _).alloc (by simp) _)
  have HS2 : Hid (W.heap.size = w.heap.size + 1 + 1) := Lib.hid (by rw [hW]; simp)
  clear hK hW
  have HR := Lib.hid (HR0.out.behind (HB.out.mono hlim))
  clear HR0
  obtain ⟨i0, hi, hz0, hz1, hz2⟩ := info_parts infoSkippedKey
  have Hhi := Lib.hid hi
  have HN := Lib.hid hn
  obtain ⟨W1, hW1⟩ : ∃ W1, W1 = W.alloc (.cells #[.int .i64 c, .int .i64 s, .slice p xs.length cap] 26) := ⟨_, rfl⟩
  have HW1 := Lib.hid hW1
  have HE : Hid (W1.heap[W.heap.size]? = some (.cells #[.int .i64 c, .int .i64 s, .slice p xs.length cap] 26)) := Lib.hid (by rw [hW1]; exact heap_alloc_new _ _)
  have hb1 : Below W.heap.size W W1 := by rw [hW1]; exact (Below.refl _ _).alloc (Nat.le_refl _) _
  replace HA := Lib.hid (rstand HA.out hb1)
  replace HC := Lib.hid (rstand HC.out hb1)
  replace HB := Lib.hid (HB.out.trans (hb1.mono HB.out.size))
  replace HR := Lib.hid (HR.out.behind (hb1.mono (by have := HS2.out; omega)))
  have HS3 : Hid (W1.heap.size = w.heap.size + 1 + 1 + 1) := Lib.hid (by rw [hW1]; simp [HS2.out])
  rw [HS2.out] at HE
  clear hW1 hb1 hi hn
  obtain ⟨c0, c1, c2⟩ := rcs (w := W) (by rw [HW.out]; exact (blocks2T w (.cells #[.int .i64 c, .int .i64 s, .slice p xs.length cap] 26) (.cells #[.int .i64 0, .int .i64 0, .slice none 0 0] 26)).1)
  rw [HW.out] at c0 c1 c2
  have hx0 : (.alloc (W1) (.cells #[] 40) : World).heap[w.heap.size]? = some (.cells #[.int .i64 c, .int .i64 s, .slice p xs.length cap] 26) := (heap_alloc_old W1 _ (lt_of_block HA.out)).trans HA.out
  obtain ⟨x0, x1, x2⟩ := rcs hx0
  have o1 := OwnS.lit (w := W1) (B := W1.heap.size) kepE 40 (Nat.le_refl _)
  rw [HS3.out] at o1
  have O1 := Lib.hid o1
  clear o1
  have R1 := Lib.hid (HR.out.behind ((Below.refl lim _).alloc (Nat.le_trans hlim HB.out.size) (.cells #[] 40)))
  have B1 := Lib.hid (HB.out.alloc HB.out.size (.cells #[] 40))
  rw [HW1.out, HW.out] at x0 x1 x2

  go_enter Try.func45, Try.ntmps45
  go_wp2_with (first | (at_builtin; rw [← HW.out, ← HW1.out]; refine append_rds _ rfl _ _ 24 rfl 40 i0 (.agg #[.int .i64 0, .int .i64 0]) 16 Try.underlying24 Hhi.out hz0 hz1 hz2 rfl (by omega) rfl O1.out rfl R1.out (by have := HN.out; simp only [List.length_nil]; omega) ?_))
  intro v8 w8 h8 hg8
  replace h8 : OwnS kepE 40 (w.heap.size + 1 + 1 + 1) w8 v8 xs := h8
  obtain ⟨a8, n8, rfl, _⟩ := h8.open
  have hb8 := O1.out.below (Nat.le_refl _) hg8
  have hE := (hb8.block _ (by omega)).trans ((heap_alloc_old W1 (.cells #[] 40) (lt_of_block HE.out)).trans HE.out)
  have hC := (hb8.block _ (by omega)).trans ((heap_alloc_old W1 (.cells #[] 40) (lt_of_block HC.out)).trans HC.out)
  have hB := B1.out.trans (hb8.mono (by omega))
  obtain ⟨e0, e1, e2⟩ := rcs hE
  obtain ⟨ef0, ef1, ef2⟩ := rfr hE
  have hE2 : (w8.setCell ⟨w.heap.size + 1 + 1, 2, none⟩ (.slice a8 xs.length n8)).heap[w.heap.size + 1 + 1]? = some (.cells #[.int .i64 c, .int .i64 s, .slice a8 xs.length n8] 26) := blk_set hE 2 _
  have g2 := grown_set w8 (w.heap.size + 1 + 1) 2 (.slice a8 xs.length n8)
  have hC2 := (g2.block _ (lt_of_block hC) (fun h => by injection h with h; omega)).trans hC
  obtain ⟨y0, y1, y2⟩ := rcs hE2
  obtain ⟨q0, q1, q2⟩ := rcs hC2
  obtain ⟨f0, f1, f2⟩ := rfr hC2
  obtain ⟨k9, g9⟩ := rst hC2 (.int .i64 c) (.int .i64 s) (.slice a8 xs.length n8)
  obtain ⟨r0, r1, r2⟩ := rcs k9
  have hB2 := hB.grown g2 hB.size (fun k hk => by injection hk with hk; omega)
  have HB9 := Lib.hid (hB2.grown g9 hB2.size (fun k hk => by injection hk with hk; omega))
  have HO9 := Lib.hid (((h8.kept g2 (Or.inr (fun hh => by have := (h8.lt _ hh).1; omega))).kept g9 (Or.inr (fun hh => by have := (h8.lt _ hh).1; omega))).mono (B' := w.heap.size) (by omega))
  clear k9 g9 hB2 hB g2 hE hE2 hC hC2 hb8 hg8 h8 hx0 x0 x1 x2 c0 c1 c2
  go_wp2_with fail
  exact bodyPost_ret (v := .agg #[.int .i64 c, .int .i64 s, .slice a8 xs.length n8]) (by simp [results, Try.results45, go_sem, r0, r1, r2]) rfl ⟨_, rfl, HO9.out, HB9.out⟩

end Go.Proofs.Ytlbijjifeaimjaa
