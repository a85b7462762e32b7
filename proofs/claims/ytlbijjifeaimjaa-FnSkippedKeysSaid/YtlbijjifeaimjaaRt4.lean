/- Ratchets: a turn, Advance; the program's and the document's. No conditions but numbers and lengths that a machine holds. -/
import Derived.Test.YtlbijjifeaimjaaRt3
namespace Go.Proofs.Ytlbijjifeaimjaa
open Go Go.RowKit
set_option linter.unusedVariables false
set_option maxRecDepth 20000
attribute [local irreducible] kh kid

set_option maxHeartbeats 2000000 in
/-- impl.turn: the ratchet in its block is turned. -/
theorem turn_any {w : World} {g : Nat} {c s : Int} {V : Value} (hg : w.heap[g]? = some (.cells #[.int .i64 c, .int .i64 s, V] 26)) (hcw : (Lit.int .i64 c).wf = true) (hs : 0 ≤ s ∧ s ≤ 200000) :
    Calls Try.prog 20 #[.pointer (some ⟨g, 0, none⟩)] w fun e w' => e = .returned (.int .i64 (mky c)) ∧ w'.heap[g]? = some (.cells #[.int .i64 (nxc c), .int .i64 (s + 1), V] 26) ∧ w.grownBy w' (some g) := by
  have HG := Lib.hid hg
  have HCw := Lib.hid hcw
  obtain ⟨m, hm⟩ : ∃ m, m = mky c := ⟨_, rfl⟩
  obtain ⟨n, hn⟩ : ∃ n, n = nxc c := ⟨_, rfl⟩
  rw [← hm, ← hn]
  have HM := Lib.hid hm
  have HN := Lib.hid hn
  obtain ⟨c0, c1, c2⟩ := rcs hg
  clear hg hcw hm hn
  go_enter Try.func20, Try.ntmps20
  go_wp2_with fail
  refine (impl_mky HCw.out).mono ?_
  rw [← HM.out]
  rintro e w1 ⟨rfl, hb⟩
  have G1 := Lib.hid (grown_none (r := some g) (grown_of_below hb))
  replace HG := Lib.hid (rstand HG.out hb)
  clear hb c0 c1 c2
  obtain ⟨c0, c1, c2⟩ := rcs HG.out
  go_wp2_with fail
  refine (impl_nx HCw.out).mono ?_
  rw [← HN.out]
  rintro e w2 ⟨rfl, hb⟩
  replace G1 := Lib.hid (grown_trans G1.out (grown_none (r := some g) (grown_of_below hb)))
  replace HG := Lib.hid (rstand HG.out hb)
  clear hb c0 c1 c2
  obtain ⟨c0, c1, c2⟩ := rcs HG.out
  obtain ⟨f0, f1, f2⟩ := rfr HG.out
  have h3 : (w2.setCell ⟨g, 0, none⟩ (.int .i64 n)).heap[g]? = some (.cells #[.int .i64 n, .int .i64 s, V] 26) := blk_set HG.out 0 _
  obtain ⟨d0, d1, d2⟩ := rcs h3
  obtain ⟨e0, e1, e2⟩ := rfr h3
  have h4 : ((w2.setCell ⟨g, 0, none⟩ (.int .i64 n)).setCell ⟨g, 1, none⟩ (.int .i64 (s + 1))).heap[g]? = some (.cells #[.int .i64 n, .int .i64 (s + 1), V] 26) := blk_set h3 1 _
  have H4 := Lib.hid h4
  have G4 := Lib.hid (grown_trans (grown_trans G1.out (grown_set w2 g 0 (.int .i64 n))) (grown_set (w2.setCell ⟨g, 0, none⟩ (.int .i64 n)) g 1 (.int .i64 (s + 1))))
  clear h3 h4
  go_wp2_with fail
  go_ret
  exact ⟨rfl, H4.out, G4.out⟩

set_option maxHeartbeats 8000000 in
/-- impl.Advance. -/
theorem impl_ad {lim : Nat} {w : World} {v : Value} {xs : Kept} {c s : Int} (h : RdS kepE lim w v xs) (hlim : lim ≤ w.heap.size) (hcw : (Lit.int .i64 c).wf = true) (hsw : (Lit.int .i64 s).wf = true) (hn : xs.length ≤ 1048576) :
    Calls Try.prog 8 #[.agg #[.int .i64 c, .int .i64 s, v]] w fun e w' => ∃ v', e = .returned (.tuple #[.agg #[.int .i64 (adC c s xs), .int .i64 (adS c s xs), v'], .int .i64 (adM c s xs), .bool (adq c s xs)]) ∧ OwnS kepE 40 w.heap.size w' v' xs ∧ Below w.heap.size w w' := by
  obtain ⟨p, cap, rfl, h1, h2, -⟩ := h.open
  have HR0 := Lib.hid h
  have HCw := Lib.hid hcw
  have HSw := Lib.hid hsw
  have hsb := wf_i64 hsw
  clear h hcw hsw h1 h2
  obtain ⟨W, hW⟩ : ∃ W, W = ((w.alloc (.cells #[.int .i64 c, .int .i64 s, .slice p xs.length cap] 26)).alloc (.cells #[.int .i64 0, .int .i64 0, .slice none 0 0] 26)) := ⟨_, rfl⟩
  have HW := Lib.hid hW
  have hK := blocks2T w (.cells #[.int .i64 c, .int .i64 s, .slice p xs.length cap] 26) (.cells #[.int .i64 0, .int .i64 0, .slice none 0 0] 26)
  rw [← hW] at hK
  have HA := Lib.hid hK.1
  have HC := Lib.hid hK.2
  have HB : Hid (Below w.heap.size w W) := Lib.hid (by rw [hW]; exact ((Below.refl _ _).alloc (Nat.le_refl _) _).alloc (by simp) _)
  have HS2 : Hid (W.heap.size = w.heap.size + 1 + 1) := Lib.hid (by rw [hW]; simp)
  clear hK hW
  have HR := Lib.hid (HR0.out.behind (HB.out.mono hlim))
  clear HR0
  have HN := Lib.hid hn
  obtain ⟨t, ht⟩ : ∃ t, t = adq c s xs := ⟨_, rfl⟩
  have HT := Lib.hid ht
  rw [← ht]
  have c0 := (rcs HA.out).1
  have c1 := (rcs HA.out).2.1
  have c2 := (rcs HA.out).2.2
  rw [HW.out] at c0 c1 c2
  clear hn ht
  go_enter Try.func8, Try.ntmps8
  go_wp2_with fail
  rw [← HW.out]
  refine (impl_cpr HR.out (Nat.le_trans hlim HB.out.size) HCw.out HSw.out HN.out).mono ?_
  rintro e w4 ⟨v4, rfl, h4, hb⟩
  obtain ⟨a4, n4, rfl, _⟩ := h4.open
  have hw4 := (hb.size)
  replace HA := Lib.hid (rstand HA.out hb)
  replace HC := Lib.hid (rstand HC.out hb)
  replace HR := Lib.hid (HR.out.behind (hb.mono (Nat.le_trans hlim HB.out.size)))
  replace HB := Lib.hid (HB.out.trans (hb.mono HB.out.size))
  obtain ⟨W5, hW5⟩ : ∃ W5, W5 = w4.alloc (.cells #[.int .i64 c, .int .i64 s, .slice a4 xs.length n4] 26) := ⟨_, rfl⟩
  have HW5 := Lib.hid hW5
  obtain ⟨G, hG⟩ : ∃ G, G = w4.heap.size := ⟨_, rfl⟩
  have HE : Hid (W5.heap[G]? = some (.cells #[.int .i64 c, .int .i64 s, .slice a4 xs.length n4] 26)) := Lib.hid (by rw [hW5, hG]; exact heap_alloc_new _ _)
  have hb5 : Below w4.heap.size w4 W5 := by rw [hW5]; exact (Below.refl _ _).alloc (Nat.le_refl _) _
  have HLow : Hid (w.heap.size + 1 + 1 ≤ G) := Lib.hid (by have := HS2.out; omega)
  have HNe : Hid (∀ r, (Value.slice a4 xs.length n4).ownBlock = some r → r < G) := Lib.hid (fun r hr => by rw [hG]; exact (h4.lt r hr).2)
  have HNw : Hid (∀ r, (Value.slice a4 xs.length n4).ownBlock = some r → r ≠ w.heap.size + 1) := Lib.hid (fun r hr => by have := (h4.lt r hr).1; have := HS2.out; omega)
  have HO := Lib.hid ((h4.mono (show w.heap.size ≤ W.heap.size by have := HS2.out; omega)).next hb5)
  replace HA := Lib.hid (rstand HA.out hb5)
  replace HC := Lib.hid (rstand HC.out hb5)
  replace HR := Lib.hid (HR.out.behind (hb5.mono (Nat.le_trans hlim HB.out.size)))
  replace HB := Lib.hid (HB.out.trans (hb5.mono HB.out.size))
  clear hb5
  have HGe := Lib.hid hG
  clear h4 hw4 hW5 hG c0 c1 c2
  obtain ⟨c0, c1, c2⟩ := rcs HA.out
  rw [HW5.out] at c0 c1 c2
  go_wp2_with fail
  rw [← HW5.out, ← HGe.out]
  have HNa : Hid (w.heap.size < G) := Lib.hid (by have := HLow.out; omega)
  have HNc : Hid (w.heap.size + 1 < G) := Lib.hid (by have := HLow.out; omega)
  cases hk : okR c s xs with
  | false =>
    have HK := Lib.hid hk
    have HTf : Hid (t = false) := Lib.hid (by rw [HT.out]; unfold adq; rw [hk]; rfl)
    have HZ := Lib.hid (rad_no (HT.out.symm.trans HTf.out))
    clear hk
    refine (impl_vr HR.out (Nat.le_trans hlim HB.out.size) HCw.out HSw.out).mono ?_
    rw [HK.out]
    rintro e w6 ⟨rfl, hb⟩
    clear c0 c1 c2
    replace HA := Lib.hid (rstand HA.out hb)
    replace HC := Lib.hid (rstand HC.out hb)
    replace HE := Lib.hid (rstand HE.out hb)
    replace HO := Lib.hid (HO.out.next hb)
    replace HR := Lib.hid (HR.out.behind (hb.mono (Nat.le_trans hlim HB.out.size)))
    replace HB := Lib.hid (HB.out.trans (hb.mono HB.out.size))
    clear hb
    obtain ⟨c0, c1, c2⟩ := rcs HA.out
    obtain ⟨e0, e1, e2⟩ := rcs HE.out
    obtain ⟨q0, q1, q2⟩ := rcs HC.out
    obtain ⟨f0, f1, f2⟩ := rfr HC.out
    obtain ⟨k9, g9⟩ := rst HC.out (.int .i64 c) (.int .i64 s) (.slice a4 xs.length n4)
    obtain ⟨r0, r1, r2⟩ := rcs k9
    have HB9 := Lib.hid (HB.out.grown g9 HB.out.size (fun k hk => by injection hk with hk; omega))
    have HO9 := Lib.hid (HO.out.kept g9 (Or.inr (fun hh => HNw.out _ hh rfl)))
    clear k9 g9
    go_wp2_with fail
    exact bodyPost_ret (v := .tuple #[.agg #[.int .i64 c, .int .i64 s, .slice a4 xs.length n4], .int .i64 0, .bool false]) (by simp [results, Try.results8, go_sem, r0, r1, r2]) rfl ⟨_, by rw [HZ.out.1, HZ.out.2.1, HZ.out.2.2, HTf.out], HO9.out, HB9.out⟩
  | true =>
  have HK := Lib.hid hk
  by_cases he : s = 100000
  · have e9 : (s == 100000) = true := by simpa using he
    have HTf : Hid (t = false) := Lib.hid (by rw [HT.out]; unfold adq; rw [hk, e9]; rfl)
    have HZ := Lib.hid (rad_no (HT.out.symm.trans HTf.out))
    clear hk he
    refine (impl_vr HR.out (Nat.le_trans hlim HB.out.size) HCw.out HSw.out).mono ?_
    rw [HK.out]
    rintro e w6 ⟨rfl, hb⟩
    clear c0 c1 c2
    replace HA := Lib.hid (rstand HA.out hb)
    replace HC := Lib.hid (rstand HC.out hb)
    replace HE := Lib.hid (rstand HE.out hb)
    replace HO := Lib.hid (HO.out.next hb)
    replace HR := Lib.hid (HR.out.behind (hb.mono (Nat.le_trans hlim HB.out.size)))
    replace HB := Lib.hid (HB.out.trans (hb.mono HB.out.size))
    clear hb
    obtain ⟨c0, c1, c2⟩ := rcs HA.out
    obtain ⟨e0, e1, e2⟩ := rcs HE.out
    obtain ⟨q0, q1, q2⟩ := rcs HC.out
    obtain ⟨f0, f1, f2⟩ := rfr HC.out
    obtain ⟨k9, g9⟩ := rst HC.out (.int .i64 c) (.int .i64 s) (.slice a4 xs.length n4)
    obtain ⟨r0, r1, r2⟩ := rcs k9
    have HB9 := Lib.hid (HB.out.grown g9 HB.out.size (fun k hk => by injection hk with hk; omega))
    have HO9 := Lib.hid (HO.out.kept g9 (Or.inr (fun hh => HNw.out _ hh rfl)))
    clear k9 g9
    go_wp2_with fail
    exact bodyPost_ret (v := .tuple #[.agg #[.int .i64 c, .int .i64 s, .slice a4 xs.length n4], .int .i64 0, .bool false]) (by simp [results, Try.results8, go_sem, r0, r1, r2]) rfl ⟨_, by rw [HZ.out.1, HZ.out.2.1, HZ.out.2.2, HTf.out], HO9.out, HB9.out⟩
  · have e9 : (s == 100000) = false := by simpa using he
    have HTt : Hid (t = true) := Lib.hid (by rw [HT.out]; unfold adq; rw [hk, e9]; rfl)
    have HZ := Lib.hid (rad_yes (HT.out.symm.trans HTt.out))
    have hs0 := (okR_iff.1 hk).2.1
    clear hk
    refine (impl_vr HR.out (Nat.le_trans hlim HB.out.size) HCw.out HSw.out).mono ?_
    rw [HK.out]
    rintro e w6 ⟨rfl, hb⟩
    clear c0 c1 c2
    replace HA := Lib.hid (rstand HA.out hb)
    replace HC := Lib.hid (rstand HC.out hb)
    replace HE := Lib.hid (rstand HE.out hb)
    replace HO := Lib.hid (HO.out.next hb)
    replace HR := Lib.hid (HR.out.behind (hb.mono (Nat.le_trans hlim HB.out.size)))
    replace HB := Lib.hid (HB.out.trans (hb.mono HB.out.size))
    clear hb
    obtain ⟨c0, c1, c2⟩ := rcs HA.out
    obtain ⟨e0, e1, e2⟩ := rcs HE.out
    obtain ⟨q0, q1, q2⟩ := rcs HC.out
    obtain ⟨f0, f1, f2⟩ := rfr HC.out
    go_wp2_with fail
    refine (turn_any HE.out HCw.out (by omega)).mono ?_
    rintro e w7 ⟨rfl, hE7, hg⟩
    clear c0 c1 c2 e0 e1 e2 q0 q1 q2 f0 f1 f2
    replace HE := Lib.hid hE7
    replace HA := Lib.hid ((hg.block _ (lt_of_block HA.out) (fun h => by injection h with h; have := HNa.out; omega)).trans HA.out)
    replace HC := Lib.hid ((hg.block _ (lt_of_block HC.out) (fun h => by injection h with h; have := HNc.out; omega)).trans HC.out)
    replace HO := Lib.hid (HO.out.kept hg (Or.inr (fun hh => by have := HNe.out _ hh; omega)))
    replace HR := Lib.hid (HR.out.behind ((Below.refl lim _).grown hg (Nat.le_trans hlim HB.out.size) (fun k hk => by injection hk with hk; have := HLow.out; omega)))
    replace HB := Lib.hid (HB.out.grown hg HB.out.size (fun k hk => by injection hk with hk; have := HLow.out; omega))
    obtain ⟨m, hm⟩ : ∃ m, m = mky c := ⟨_, rfl⟩
    obtain ⟨n, hn'⟩ : ∃ n, n = nxc c := ⟨_, rfl⟩
    have HZ2 : Hid (adC c s xs = n ∧ adS c s xs = s + 1 ∧ adM c s xs = m) := Lib.hid (by rw [hm, hn']; exact HZ.out)
    clear HZ
    have HZ := HZ2
    rw [← hn'] at HE
    rw [← hm]
    clear hE7 hg hm hn'
    obtain ⟨e0, e1, e2⟩ := rcs HE.out
    obtain ⟨q0, q1, q2⟩ := rcs HC.out
    obtain ⟨f0, f1, f2⟩ := rfr HC.out
    obtain ⟨k9, g9⟩ := rst HC.out (.int .i64 n) (.int .i64 (s + 1)) (.slice a4 xs.length n4)
    obtain ⟨r0, r1, r2⟩ := rcs k9
    have HB9 := Lib.hid (HB.out.grown g9 HB.out.size (fun k hk => by injection hk with hk; omega))
    have HO9 := Lib.hid (HO.out.kept g9 (Or.inr (fun hh => HNw.out _ hh rfl)))
    clear k9 g9
    go_wp2_with fail
    exact bodyPost_ret (v := .tuple #[.agg #[.int .i64 n, .int .i64 (s + 1), .slice a4 xs.length n4], .int .i64 m, .bool true]) (by simp [results, Try.results8, go_sem, r0, r1, r2]) rfl ⟨_, by rw [HZ.out.1, HZ.out.2.1, HZ.out.2.2, HTt.out], HO9.out, HB9.out⟩


end Go.Proofs.Ytlbijjifeaimjaa
