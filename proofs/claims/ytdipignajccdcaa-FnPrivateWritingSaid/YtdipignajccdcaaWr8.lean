/- ApplyWrite, the program's and the document's. No conditions but a size that a machine holds. -/
import Derived.Test.YtdipignajccdcaaDb8
namespace Go.Proofs.Ytdipignajccdcaa
open Go Go.RowKit
set_option linter.unusedVariables false
attribute [local irreducible] kh


set_option maxRecDepth 20000 in
set_option maxHeartbeats 1000000 in
/-- impl.ApplyWrite -/
theorem impl_aw {l1 l2 : Nat} {w : World} {u v : Value} {za zb : List (List Int)} (hu : Rd2 l1 .u8 w u za) (hv : Rd2 l2 .u8 w v zb) (hl1 : l1 ≤ w.heap.size) (hl2 : l2 ≤ w.heap.size) (hn : tot za ≤ 1099511627776) (hm : tot zb ≤ 1099511627776) :
    Calls Try.prog 25 #[.agg #[u], .agg #[v]] w fun e w' => ∃ v', e = .returned (.tuple #[.agg #[v'], .bool (xdK za zb)]) ∧ Own2 22 5 .u8 (ival w.heap.size w'.heap.size) w' v' (xd za zb) ∧ Below w.heap.size w w' := by
  obtain ⟨a1, c1, rfl, _⟩ := hu.open
  obtain ⟨a2, c2, rfl, _⟩ := hv.open
  obtain ⟨n1, hn1⟩ : ∃ n, n = za.length := ⟨_, rfl⟩
  obtain ⟨n2, hn2⟩ : ∃ n, n = zb.length := ⟨_, rfl⟩
  rw [← hn1] at hu ⊢
  rw [← hn2] at hv ⊢
  have HB := Lib.hid ((((Below.refl w.heap.size w).alloc (Nat.le_refl _) (.cells #[.slice a1 n1 c1] 39)).alloc (by simp) (.cells #[.slice a2 n2 c2] 39)).alloc (by simp; omega) (.cells #[.slice none 0 0] 39))
  have hbl := blocks3 w (.cells #[.slice a1 n1 c1] 39) (.cells #[.slice a2 n2 c2] 39) (.cells #[.slice none 0 0] 39)
  have HR := Lib.hid hbl.2.2
  have HU := Lib.hid (hu.behind (HB.out.mono hl1))
  have HV := Lib.hid (hv.behind (HB.out.mono hl2))
  have HN := Lib.hid hn
  have HM := Lib.hid hm
  have cA := blk_cell hbl.1 0
  have cB := blk_cell hbl.2.1 0
  rw [one0] at cA cB
  clear hu hv hbl hn hm hn1 hn2
  go_enter Try.func25, Try.ntmps25
  go_wp2_with fail
  clear cA cB
  refine (impl_xd HU.out HV.out (Nat.le_trans hl1 HB.out.size) (Nat.le_trans hl2 HB.out.size) HN.out HM.out).mono ?_
  rintro e w2 ⟨v2, rfl, h2, hb⟩
  obtain ⟨a3, c3, hv3, _⟩ := h2.open
  obtain ⟨n3, hn3⟩ : ∃ n, n = (xd za zb).length := ⟨_, rfl⟩
  rw [← hn3] at hv3
  subst hv3
  obtain ⟨ok, hok⟩ : ∃ q, q = xdK za zb := ⟨_, rfl⟩
  rw [← hok]
  have HOk := Lib.hid hok
  have HR2 := Lib.hid ((hb.block _ (lt_of_block HR.out)).trans HR.out)
  have HO2 := Lib.hid h2
  have HB2 := Lib.hid (HB.out.trans (hb.mono HB.out.size))
  have cR := blk_cell HR2.out 0
  have fR := blk_free HR2.out 0
  rw [one0] at cR
  clear h2 hb hn3 hok
  go_wp2_with fail
  clear cR fR
  obtain ⟨s1, s2, s3⟩ := store1 HR2.out (.slice a3 n3 c3)
  obtain ⟨w3, hw3⟩ : ∃ w3, w3 = w2.setCell ⟨w.heap.size + 1 + 1, 0, none⟩ (.slice a3 n3 c3) := ⟨_, rfl⟩
  rw [← hw3] at s1 s2 s3 ⊢
  have hs3 : w3.heap.size = w2.heap.size := by rw [hw3, World.setCell_size]
  have Q1 := Lib.hid ((HO2.out.keptF s3 (fun b hb => by unfold ival at hb; simp at hb; omega)).mono (G := ival w.heap.size w3.heap.size) (fun b hb => by unfold ival at hb ⊢; simp at hb; omega))
  have Q2 := Lib.hid (HB2.out.trans (s3.below (B := w.heap.size) (fun b hb => by omega) HB2.out.size))
  clear hw3 s1 s3 hs3
  exact bodyPost_ret (v := .tuple #[.agg #[.slice a3 n3 c3], .bool ok]) (by simp [results, Try.results25, go_sem, s2]) rfl ⟨_, by rw [HOk.out], Q1.out, Q2.out⟩



set_option maxRecDepth 20000 in
set_option maxHeartbeats 1000000 in
/-- spec.ApplyWrite -/
theorem spec_aw {l1 l2 : Nat} {w : World} {u v : Value} {za zb : List (List Int)} (hu : Rd2 l1 .u8 w u za) (hv : Rd2 l2 .u8 w v zb) (hl1 : l1 ≤ w.heap.size) (hl2 : l2 ≤ w.heap.size) (hn : tot za ≤ 1099511627776) (hm : tot zb ≤ 1099511627776) :
    Calls Try.prog 23 #[.agg #[u], .agg #[v]] w fun e w' => ∃ v', e = .returned (.tuple #[.agg #[v'], .bool (xdK za zb)]) ∧ Own2 22 5 .u8 (ival w.heap.size w'.heap.size) w' v' (xd za zb) ∧ Below w.heap.size w w' := by
  obtain ⟨a1, c1, rfl, _⟩ := hu.open
  obtain ⟨a2, c2, rfl, _⟩ := hv.open
  obtain ⟨n1, hn1⟩ : ∃ n, n = za.length := ⟨_, rfl⟩
  obtain ⟨n2, hn2⟩ : ∃ n, n = zb.length := ⟨_, rfl⟩
  rw [← hn1] at hu ⊢
  rw [← hn2] at hv ⊢
  have HB := Lib.hid ((((Below.refl w.heap.size w).alloc (Nat.le_refl _) (.cells #[.slice a1 n1 c1] 39)).alloc (by simp) (.cells #[.slice a2 n2 c2] 39)).alloc (by simp; omega) (.cells #[.slice none 0 0] 39))
  have hbl := blocks3 w (.cells #[.slice a1 n1 c1] 39) (.cells #[.slice a2 n2 c2] 39) (.cells #[.slice none 0 0] 39)
  have HR := Lib.hid hbl.2.2
  have HU := Lib.hid (hu.behind (HB.out.mono hl1))
  have HV := Lib.hid (hv.behind (HB.out.mono hl2))
  have HN := Lib.hid hn
  have HM := Lib.hid hm
  have cA := blk_cell hbl.1 0
  have cB := blk_cell hbl.2.1 0
  rw [one0] at cA cB
  clear hu hv hbl hn hm hn1 hn2
  go_enter Try.func23, Try.ntmps23
  go_wp2_with fail
  clear cA cB
  refine (spec_xd HU.out HV.out (Nat.le_trans hl1 HB.out.size) (Nat.le_trans hl2 HB.out.size) HN.out HM.out).mono ?_
  rintro e w2 ⟨v2, rfl, h2, hb⟩
  obtain ⟨a3, c3, hv3, _⟩ := h2.open
  obtain ⟨n3, hn3⟩ : ∃ n, n = (xd za zb).length := ⟨_, rfl⟩
  rw [← hn3] at hv3
  subst hv3
  obtain ⟨ok, hok⟩ : ∃ q, q = xdK za zb := ⟨_, rfl⟩
  rw [← hok]
  have HOk := Lib.hid hok
  have HR2 := Lib.hid ((hb.block _ (lt_of_block HR.out)).trans HR.out)
  have HO2 := Lib.hid h2
  have HB2 := Lib.hid (HB.out.trans (hb.mono HB.out.size))
  have cR := blk_cell HR2.out 0
  have fR := blk_free HR2.out 0
  rw [one0] at cR
  clear h2 hb hn3 hok
  go_wp2_with fail
  clear cR fR
  obtain ⟨s1, s2, s3⟩ := store1 HR2.out (.slice a3 n3 c3)
  obtain ⟨w3, hw3⟩ : ∃ w3, w3 = w2.setCell ⟨w.heap.size + 1 + 1, 0, none⟩ (.slice a3 n3 c3) := ⟨_, rfl⟩
  rw [← hw3] at s1 s2 s3 ⊢
  have hs3 : w3.heap.size = w2.heap.size := by rw [hw3, World.setCell_size]
  have Q1 := Lib.hid ((HO2.out.keptF s3 (fun b hb => by unfold ival at hb; simp at hb; omega)).mono (G := ival w.heap.size w3.heap.size) (fun b hb => by unfold ival at hb ⊢; simp at hb; omega))
  have Q2 := Lib.hid (HB2.out.trans (s3.below (B := w.heap.size) (fun b hb => by omega) HB2.out.size))
  clear hw3 s1 s3 hs3
  exact bodyPost_ret (v := .tuple #[.agg #[.slice a3 n3 c3], .bool ok]) (by simp [results, Try.results23, go_sem, s2]) rfl ⟨_, by rw [HOk.out], Q1.out, Q2.out⟩


end Go.Proofs.Ytdipignajccdcaa
