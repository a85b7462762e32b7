/- Sealed cells: what the program reads behind a cell's check value, and the cell unsealed: the plain message or the error closedCell. No conditions but numbers that a machine holds. errors.As at the target '*closedCell': a nil error gives false; an error of that type gives true and is stored at the target. Go's own text of errors.As is walked; the entries for reflectlite are the model's. Conditions: the package variable errors.errorType holds the handle of the type 'error'. Sealed cells: OpenCell and FindCounter of the program. Conditions: the package variable errors.errorType holds the handle of the type 'error'. -/
import Derived.Test.YtjbkhbbchacooaaGreatDoorCl1
import Derived.Test.YtjbkhbbchacooaaGreatDoorBa8
import Derived.Test.YtjbkhbbchacooaaGreatDoorBbC
import Derived.Test.YtjbkhbbchacooaaGreatDoorBcX
import Derived.Test.YtjbkhbbchacooaaGreatDoorCry6
import Derived.Test.YtjbkhbbchacooaaGreatDoorHeldL
import Derived.BigQuiet
import Derived.Deep.RegionWith
import Derived.Deep.RegionHeld3
import Derived.Test.YtjbkhbbchacooaaGreatDoorRows
import Derived.Test.YtjbkhbbchacooaaGreatDoorBa1
import Derived.WalkKit
import Derived.Handy
import Derived.WalkSpells
import Derived.LaidEql
import Derived.Stop.Asserts
import Derived.RowKitTokens
import Derived.Lib.Hide

/-! Cl4 -/
namespace Go.Proofs.YtjbkhbbchacooaaGreatDoor
open Go Go.RowKit
set_option linter.unusedVariables false
attribute [local irreducible] kh kid

set_option maxHeartbeats 4000000 in
/-- impl.readPlain. -/
theorem rdp_any {lim : Nat} {w : World} {v : Value} {zs : List Int} (h : Rd lim .u8 w v zs) (hlim : lim ≤ w.heap.size) (hl : zs.length = 20) :
    Calls Tryz.prog 80 #[v] w fun e w' =>
      (okp zs = true ∧ (∃ v', e = .returned (.tuple #[.agg #[.int .i64 (zs.getD 0 0), v'], .nilIface]) ∧ Own 5 .u8 w.heap.size w' v' ((zs.drop 2).take (zs.getD 1 0).toNat)) ∧ Below w.heap.size w w') ∨
      (okp zs = false ∧ (∃ s, e = .returned (.tuple #[.agg #[.int .i64 0, .slice none 0 0], .iface 83 (.agg #[.string s, .bool false])])) ∧ Below w.heap.size w w') := by
  obtain ⟨i0, hi, hz0, hz1, hz2⟩ := info_parts infou8
  have Hhi := Lib.hid hi
  obtain ⟨p, cap, rfl, g1, g2, hc⟩ := h.open
  rw [hl] at h g1 hc ⊢
  obtain ⟨bk, o, rfl, hbk, hcell⟩ := hc (by omega)
  have b1 := (Below.refl w.heap.size w).alloc (Nat.le_refl _) (.cells #[.int .i64 0, .slice none 0 0] 55)
  have c1 := heap_alloc_new w (.cells #[.int .i64 0, .slice none 0 0] 55)
  have k0 := blk_cell c1 0
  have k1 := blk_cell c1 1
  rw [pc0] at k0
  rw [pc1] at k1
  obtain ⟨W, hW⟩ : ∃ W, W = w.alloc (.cells #[.int .i64 0, .slice none 0 0] 55) := ⟨_, rfl⟩
  rw [← hW] at b1 c1 k0 k1
  have HW := Lib.hid hW
  have d0 := hcell W (b1.mono hlim) 0 (by omega)
  have d1 := hcell W (b1.mono hlim) 1 (by omega)
  rw [Nat.add_zero] at d0
  have hz := wf_u8 (h.wf (i := 0) (by omega))
  have hy := wf_u8 (h.wf (i := 1) (by omega))
  have hdf : okp zs = (decide (zs.getD 0 0 ≤ 3) && decide (zs.getD 1 0 ≤ 14)) := rfl
  obtain ⟨z, hze⟩ : ∃ z, z = zs.getD 0 0 := ⟨_, rfl⟩
  obtain ⟨y, hye⟩ : ∃ y, y = zs.getD 1 0 := ⟨_, rfl⟩
  rw [← hze] at d0 hz hdf ⊢
  rw [← hye] at d1 hy hdf ⊢
  have HB := Lib.hid b1
  have HC := Lib.hid c1
  have H := Lib.hid h
  have HL := Lib.hid hl
  clear hi h hc hcell hW b1 c1 hze hye hl
  by_cases h3 : z ≤ 3
  · by_cases h14 : y ≤ 14
    · have HT : Hid (okp zs = true) := Lib.hid (by rw [hdf, decide_eq_true h3, decide_eq_true h14]; rfl)
      have e1 : decide ((3 : Int) < z) = false := by simp; omega
      have e2 : decide ((14 : Int) < y) = false := by simp; omega
      obtain ⟨n, hn⟩ : ∃ n : Nat, y = (n : Int) := ⟨y.toNat, by omega⟩
      subst hn
      have hn14 : n ≤ 14 := by omega
      have HG : Hid (2 + n ≤ zs.length) := Lib.hid (by rw [HL.out]; omega)
      have HR := Lib.hid ((H.out.behind (HB.out.drew.mono hlim)).mono (l' := lim) (Nat.le_refl _))
      have HLt : Hid (((zs.drop 2).take n).length ≤ 20) := Lib.hid (by rw [List.length_take, List.length_drop, HL.out]; omega)
      clear hdf h3 h14
      go_enter Tryz.func80, Tryz.ntmps80
      go_wp2_with fail
      rw [← HW.out]
      go_quiet (fail)
      obtain ⟨W2, hW2⟩ : ∃ W2, W2 = W.drewN nq := ⟨_, rfl⟩
      rw [← hW2]
      have HB2 : Hid (Below w.heap.size w W2) := Lib.hid (by rw [hW2]; exact HB.out.trans (below_drewN ⟨_, rfl⟩))
      have HC2 : Hid (W2.heap[w.heap.size]? = some (.cells #[.int .i64 0, .slice none 0 0] 55)) := Lib.hid (by rw [hW2]; exact HC.out)
      have HR2 : Hid (Rd lim .u8 W2 (.slice (some ⟨bk, o, none⟩) 20 cap) zs) := Lib.hid (by rw [hW2]; exact HR.out)
      have HS2 : Hid (W.heap.size ≤ W2.heap.size ∧ w.heap.size < W2.heap.size) := Lib.hid (by rw [hW2]; exact ⟨Nat.le_refl _, lt_of_block HC.out⟩)
      clear d0 d1 k0 k1 hW2
      go_wp2_with (first | (refine slice_rd _ rfl _ _ _ i0 Tryz.underlying22 Hhi.out hz1 rfl HR2.out _ _ rfl rfl rfl HG.out ?_; intro u5 hu5; have HU := Lib.hid hu5; clear hu5))
      refine (copyBytes_any HU.out (Nat.le_trans hlim HB2.out.size) (by have := HLt.out; omega)).mono ?_
      rintro e w7 ⟨v7, rfl, h7, hb7⟩
      obtain ⟨a7, c7, hv7, _⟩ := h7.open
      obtain ⟨L7, hL7⟩ : ∃ L, L = ((zs.drop 2).take n).length := ⟨_, rfl⟩
      rw [← hL7] at hv7
      subst hv7
      have hc7 : w7.heap[w.heap.size]? = some (.cells #[.int .i64 0, .slice none 0 0] 55) := (hb7.block _ (lt_of_block HC2.out)).trans HC2.out
      obtain ⟨q0, q1, f0, f1⟩ := pcs hc7
      obtain ⟨r, rg⟩ := pst hc7 (.int .i64 z) (.slice a7 L7 c7)
      obtain ⟨r0, r1, _, _⟩ := pcs r
      have h8 := h7.kept rg (by right; intro hk; have h9 := h7.lt _ hk; have := HS2.out.2; omega)
      have H8 := Lib.hid (h8.mono HB2.out.size)
      have hb8 := HB2.out.trans (hb7.mono HB2.out.size)
      have B8 := Lib.hid (hb8.grown rg hb8.size (fun k hk => by injection hk with hk; omega))
      clear hc7 h7 hb7 h8 rg r hL7 hb8
      go_wp2_with fail
      exact bodyPost_ret (v := .tuple #[.agg #[.int .i64 z, .slice a7 L7 c7], .nilIface]) (by simp [results, Tryz.results80, go_sem, r0, r1]) rfl (Or.inl ⟨HT.out, ⟨_, rfl, H8.out⟩, B8.out⟩)
    · have HT : Hid (okp zs = false) := Lib.hid (by rw [hdf, decide_eq_false h14]; simp)
      have e1 : decide ((3 : Int) < z) = false := by simp; omega
      have e2 : decide ((14 : Int) < y) = true := by simp; omega
      clear hdf h3 h14
      go_enter Tryz.func80, Tryz.ntmps80
      go_wp2_with fail
      rw [← HW.out]
      go_quiet (fail)
      obtain ⟨W2, hW2⟩ : ∃ W2, W2 = W.drewN nq := ⟨_, rfl⟩
      rw [← hW2]
      have HB2 : Hid (Below w.heap.size w W2) := Lib.hid (by rw [hW2]; exact HB.out.trans (below_drewN ⟨_, rfl⟩))
      have HC2 : Hid (W2.heap[w.heap.size]? = some (.cells #[.int .i64 0, .slice none 0 0] 55)) := Lib.hid (by rw [hW2]; exact HC.out)
      obtain ⟨_, _, f0, f1⟩ := pcs HC2.out
      obtain ⟨r, rg⟩ := pst HC2.out (.int .i64 0) (.slice none 0 0)
      obtain ⟨r0, r1, _, _⟩ := pcs r
      have B8 := Lib.hid (HB2.out.grown rg HB2.out.size (fun k hk => by injection hk with hk; omega))
      clear r rg d0 d1 k0 k1 hW2
      go_wp2_with fail
      exact bodyPost_ret (v := .tuple #[.agg #[.int .i64 0, .slice none 0 0], .iface 83 (.agg #[.string ⟨#[98, 111, 100, 121, 32, 116, 111, 111, 32, 108, 111, 110, 103]⟩, .bool false])]) (by simp [results, Tryz.results80, go_sem, r0, r1]) rfl (Or.inr ⟨HT.out, ⟨_, rfl⟩, B8.out⟩)
  · have HT : Hid (okp zs = false) := Lib.hid (by rw [hdf, decide_eq_false h3]; simp)
    have e1 : decide ((3 : Int) < z) = true := by simp; omega
    clear hdf h3
    go_enter Tryz.func80, Tryz.ntmps80
    go_wp2_with fail
    rw [← HW.out]
    go_quiet (fail)
    obtain ⟨W2, hW2⟩ : ∃ W2, W2 = W.drewN nq := ⟨_, rfl⟩
    rw [← hW2]
    have HB2 : Hid (Below w.heap.size w W2) := Lib.hid (by rw [hW2]; exact HB.out.trans (below_drewN ⟨_, rfl⟩))
    have HC2 : Hid (W2.heap[w.heap.size]? = some (.cells #[.int .i64 0, .slice none 0 0] 55)) := Lib.hid (by rw [hW2]; exact HC.out)
    obtain ⟨_, _, f0, f1⟩ := pcs HC2.out
    obtain ⟨r, rg⟩ := pst HC2.out (.int .i64 0) (.slice none 0 0)
    obtain ⟨r0, r1, _, _⟩ := pcs r
    have B8 := Lib.hid (HB2.out.grown rg HB2.out.size (fun k hk => by injection hk with hk; omega))
    clear r rg d0 d1 k0 k1 hW2
    go_wp2_with fail
    exact bodyPost_ret (v := .tuple #[.agg #[.int .i64 0, .slice none 0 0], .iface 83 (.agg #[.string ⟨#[117, 110, 107, 110, 111, 119, 110, 32, 107, 105, 110, 100]⟩, .bool false])]) (by simp [results, Tryz.results80, go_sem, r0, r1]) rfl (Or.inr ⟨HT.out, ⟨_, rfl⟩, B8.out⟩)

theorem ook_bad {k : Int} {zs : List Int} (h : inR k 1 2147483646 = false ∨ zs.length ≠ 24) : ∀ m, ook k m zs = false := by
  intro m
  unfold ook
  rcases h with h | h
  · rw [h]; rfl
  · rw [decide_eq_false h]; simp
theorem ook_n {k n : Int} {zs : List Int} (h : inR n 0 1000000000000 = false) : ook k n zs = false := by unfold ook; rw [h]; simp
theorem ook_c {k n : Int} {zs : List Int} (h : okc k n zs = false) : ook k n zs = false := by unfold ook; rw [h]; simp
theorem ook_p {k n : Int} {zs : List Int} (h : okp (decL k n zs) = false) : ook k n zs = false := by unfold ook; rw [h]; simp
theorem ook_yes {k n : Int} {zs : List Int} (h1 : inR k 1 2147483646 = true) (h2 : inR n 0 1000000000000 = true) (h3 : zs.length = 24) (h4 : okc k n zs = true) (h5 : okp (decL k n zs) = true) : ook k n zs = true := by
  unfold ook; rw [h1, h2, h4, h5, decide_eq_true h3]; rfl
theorem ocK_yes {k n : Int} {zs : List Int} (h : ook k n zs = true) : ocK k n zs = (decL k n zs).getD 0 0 := if_pos h
theorem ocB_yes {k n : Int} {zs : List Int} (h : ook k n zs = true) : ocB k n zs = ((decL k n zs).drop 2).take ((decL k n zs).getD 1 0).toNat := if_pos h
theorem okc_sym (k n : Int) (zs : List Int) : (zs.drop 20 == le4 (chkv k n (zs.take 20))) = okc k n zs := by
  unfold okc
  by_cases h : zs.drop 20 = le4 (chkv k n (zs.take 20))
  · rw [h]
  · rw [beq_eq_false_iff_ne.2 h, beq_eq_false_iff_ne.2 (Ne.symm h)]
/-- impl.isCell. -/
theorem cell_any' {w : World} {a : Option Addr} {n cap : Nat} : Calls Tryz.prog 78 #[.slice a n cap] w fun e w' => e = .returned (.bool ((n : Int) == 24)) ∧ w' = w := by
  go_enter Tryz.func78, Tryz.ntmps78
  go_wp2_with fail
  go_ret
  exact ⟨rfl, rfl⟩

set_option maxRecDepth 20000 in
set_option maxHeartbeats 4000000 in
/-- impl.unseal. -/
theorem uns_any {lim : Nat} {w : World} {v : Value} {zs : List Int} {k n : Int} (h : Rd lim .u8 w v zs) (hlim : lim ≤ w.heap.size) (hk : (Lit.int .i64 k).wf = true) (hn : (Lit.int .i64 n).wf = true) :
    Calls Tryz.prog 55 #[.int .i64 k, .int .i64 n, v] w fun e w' =>
      (ook k n zs = true ∧ (∃ v', e = .returned (.tuple #[.agg #[.int .i64 (ocK k n zs), v'], .nilIface]) ∧ Own 5 .u8 w.heap.size w' v' (ocB k n zs)) ∧ Below w.heap.size w w') ∨
      (ook k n zs = false ∧ (∃ s q, e = .returned (.tuple #[.agg #[.int .i64 0, .slice none 0 0], .iface 83 (.agg #[.string s, .bool q])]) ∧ (q = true → ∀ m, ook k m zs = false)) ∧ Below w.heap.size w w') := by
  obtain ⟨i0, hi, hz0, hz1, hz2⟩ := info_parts infou8
  have Hhi := Lib.hid hi
  have HK := Lib.hid hk
  have HN := Lib.hid hn
  obtain ⟨p, cap, rfl, g1, g2, hc⟩ := h.open
  have b1 := (Below.refl w.heap.size w).alloc (Nat.le_refl _) (.cells #[.int .i64 0, .slice none 0 0] 55)
  have c1 := heap_alloc_new w (.cells #[.int .i64 0, .slice none 0 0] 55)
  obtain ⟨W, hW⟩ : ∃ W, W = w.alloc (.cells #[.int .i64 0, .slice none 0 0] 55) := ⟨_, rfl⟩
  rw [← hW] at b1 c1
  have HW := Lib.hid hW
  have HB := Lib.hid b1
  have HC := Lib.hid c1
  have H := Lib.hid (h.behind (b1.mono hlim))
  have Hc := Lib.hid hc
  have h0 := Lib.hid h.u8s
  have hlb := h.len
  unfold maxLen at hlb g2
  clear hi h hc hW b1 c1 hk hn
  cases h1 : inR k 1 2147483646 with
  | false =>
    have H1 := Lib.hid h1
    have HT := Lib.hid (ook_bad (zs := zs) (Or.inl h1))
    obtain ⟨_, _, f0, f1⟩ := pcs HC.out
    obtain ⟨r, rg⟩ := pst HC.out (.int .i64 0) (.slice none 0 0)
    obtain ⟨r0, r1, _, _⟩ := pcs r
    have B8 := Lib.hid (HB.out.grown rg HB.out.size (fun k hk => by injection hk with hk; omega))
    clear h1 r rg
    go_enter Tryz.func55, Tryz.ntmps55
    go_wp2_with fail
    rw [← HW.out]
    refine (impl_vk HK.out).mono ?_
    rw [H1.out]
    rintro e w1 ⟨rfl, hw⟩
    obtain rfl : W = w1 := hw.symm
    go_wp2_with fail
    exact bodyPost_ret (v := .tuple #[.agg #[.int .i64 0, .slice none 0 0], .iface 83 (.agg #[.string ⟨#[105, 110, 118, 97, 108, 105, 100, 32, 107, 101, 121]⟩, .bool true])]) (by simp [results, Tryz.results55, go_sem, r0, r1]) rfl (Or.inr ⟨HT.out n, ⟨_, _, rfl, fun _ => HT.out⟩, B8.out⟩)
  | true =>
    have H1 := Lib.hid h1
    cases h2 : inR n 0 1000000000000 with
    | false =>
      have H2 := Lib.hid h2
      have HT := Lib.hid (ook_n (k := k) (zs := zs) h2)
      obtain ⟨_, _, f0, f1⟩ := pcs HC.out
      obtain ⟨r, rg⟩ := pst HC.out (.int .i64 0) (.slice none 0 0)
      obtain ⟨r0, r1, _, _⟩ := pcs r
      have B8 := Lib.hid (HB.out.grown rg HB.out.size (fun k hk => by injection hk with hk; omega))
      clear h1 h2 r rg
      go_enter Tryz.func55, Tryz.ntmps55
      go_wp2_with fail
      rw [← HW.out]
      refine (impl_vk HK.out).mono ?_
      rw [H1.out]
      rintro e w1 ⟨rfl, hw⟩
      obtain rfl : W = w1 := hw.symm
      go_wp2_with fail
      refine (isCounter_any HN.out).mono ?_
      rw [H2.out]
      rintro e w1 ⟨rfl, hw⟩
      obtain rfl : W = w1 := hw.symm
      go_wp2_with fail
      exact bodyPost_ret (v := .tuple #[.agg #[.int .i64 0, .slice none 0 0], .iface 83 (.agg #[.string ⟨#[105, 110, 118, 97, 108, 105, 100, 32, 99, 111, 117, 110, 116, 101, 114]⟩, .bool false])]) (by simp [results, Tryz.results55, go_sem, r0, r1]) rfl (Or.inr ⟨HT.out, ⟨_, _, rfl, fun h => by cases h⟩, B8.out⟩)
    | true =>
      have H2 := Lib.hid h2
      by_cases h3 : zs.length = 24
      case neg =>
        have HT := Lib.hid (ook_bad (k := k) (Or.inr h3))
        have e3 : ((zs.length : Int) == 24) = false := beq_eq_false_iff_ne.2 (by omega)
        obtain ⟨_, _, f0, f1⟩ := pcs HC.out
        obtain ⟨r, rg⟩ := pst HC.out (.int .i64 0) (.slice none 0 0)
        obtain ⟨r0, r1, _, _⟩ := pcs r
        have B8 := Lib.hid (HB.out.grown rg HB.out.size (fun k hk => by injection hk with hk; omega))
        have E3 := Lib.hid e3
        clear h1 h2 h3 r rg e3
        go_enter Tryz.func55, Tryz.ntmps55
        go_wp2_with fail
        rw [← HW.out]
        refine (impl_vk HK.out).mono ?_
        rw [H1.out]
        rintro e w1 ⟨rfl, hw⟩
        obtain rfl : W = w1 := hw.symm
        go_wp2_with fail
        refine (isCounter_any HN.out).mono ?_
        rw [H2.out]
        rintro e w1 ⟨rfl, hw⟩
        obtain rfl : W = w1 := hw.symm
        go_wp2_with fail
        refine (cell_any').mono ?_
        rw [E3.out]
        rintro e w1 ⟨rfl, hw⟩
        obtain rfl : W = w1 := hw.symm
        go_wp2_with fail
        exact bodyPost_ret (v := .tuple #[.agg #[.int .i64 0, .slice none 0 0], .iface 83 (.agg #[.string ⟨#[110, 111, 116, 32, 116, 104, 101, 32, 115, 105, 122, 101, 32, 111, 102, 32, 97, 32, 99, 101, 108, 108]⟩, .bool true])]) (by simp [results, Tryz.results55, go_sem, r0, r1]) rfl (Or.inr ⟨HT.out n, ⟨_, _, rfl, fun _ => HT.out⟩, B8.out⟩)
      have HL := Lib.hid h3
      obtain ⟨bk, o, rfl, hbk, hcell⟩ := Hc.out (by omega)
      clear hcell Hc
      have e3 : ((24 : Int) == 24) = true := rfl
      have HX := Lib.hid (chkv_bound k n (zs.take 20))
      have HQW := Lib.hid (ckey_wf k n)
      obtain ⟨q, hq⟩ : ∃ q, q = ckey k n := ⟨_, rfl⟩
      rw [← hq] at HQW
      have HQ := Lib.hid hq
      have h20 : Hid ((zs.take 20).length = 20) := Lib.hid (by rw [List.length_take, h3]; rfl)
      replace H := H.out
      rw [h3] at H g1 ⊢
      have hg20 : 20 ≤ cap := by omega
      have hs1 := H.sliced (l := 0) (n := 20) (by omega)
      have hs2 := H.sliced (l := 20) (n := 4) (by omega)
      rw [List.drop_zero] at hs1
      rw [List.take_of_length_le (by rw [List.length_drop]; omega)] at hs2
      obtain ⟨u1, hu1⟩ : ∃ u, u = Go.sliced (some ⟨bk, o, none⟩) 0 20 cap 1 := ⟨_, rfl⟩
      obtain ⟨u2, hu2⟩ : ∃ u, u = Go.sliced (some ⟨bk, o, none⟩) 20 24 cap 1 := ⟨_, rfl⟩
      rw [show (0 + 20 : Nat) = 20 from rfl, ← hu1] at hs1
      rw [show (20 + 4 : Nat) = 24 from rfl, ← hu2] at hs2
      obtain ⟨ua1, uc1, hv1, _⟩ := hs1.open
      rw [h20.out] at hv1
      obtain ⟨ua2, uc2, hv2, _⟩ := hs2.open
      have h24 : (zs.drop 20).length = 4 := by rw [List.length_drop]; omega
      rw [h24] at hv2
      have S1 := Lib.hid (hs1.drew)
      have S2 := Lib.hid (hs2.drew)
      have U1 := Lib.hid hu1
      have U2 := Lib.hid hu2
      have HWd := Lib.hid (HB.out.drew)
      have HCd : Hid (W.drew.heap[w.heap.size]? = some (.cells #[.int .i64 0, .slice none 0 0] 55)) := Lib.hid HC.out
      have HZ20 := Lib.hid (show U8s (zs.take 20) from fun z hz => h0.out z (List.mem_of_mem_take hz))
      have HZ24 := Lib.hid (show U8s (zs.drop 20) from fun z hz => h0.out z (List.mem_of_mem_drop hz))
      clear h1 h2 hq h3 H hs1 hs2 h24 hu1 hu2
      go_enter Tryz.func55, Tryz.ntmps55
      go_wp2_with fail
      rw [← HW.out]
      refine (impl_vk HK.out).mono ?_
      rw [H1.out]
      rintro e w1 ⟨rfl, hw⟩
      obtain rfl : W = w1 := hw.symm
      go_wp2_with fail
      refine (isCounter_any HN.out).mono ?_
      rw [H2.out]
      rintro e w1 ⟨rfl, hw⟩
      obtain rfl : W = w1 := hw.symm
      go_wp2_with fail
      refine (cell_any').mono ?_
      rintro e w1 ⟨rfl, hw⟩
      obtain rfl : W = w1 := hw.symm
      go_wp2_with fail
      refine region_till (fun _ => True) 5 (by kernel_rfl) ?_
      apply Till.take (i := 0) [0, 1, 4, 5]
      · simp only [List.getElem?_toArray, List.getElem?_cons_zero]
        rfl
      · kernel_rfl
      · kernel_rfl
      · kernel_rfl
      · kernel_rfl
      · exact fun _ _ _ h => h
      · first
          | exact Or.inr ⟨by rfl, rfl⟩
          | (refine Or.inl ⟨by rfl, fun wq hwq => ?_⟩
             dsimp only at hwq
             go_simp
             first
               | done
               | rfl)
      · trivial
      simp only [Act.put, List.setIfInBounds_toArray, List.set_cons_zero, List.set_cons_succ]
      apply Till.take (i := 1) (v := Go.sliced (some ⟨bk, o, none⟩) 0 20 cap 1) [1, 4, 5]
      · simp only [List.getElem?_toArray, List.getElem?_cons_succ, List.getElem?_cons_zero]
        rfl
      · kernel_rfl
      · kernel_rfl
      · kernel_rfl
      · kernel_rfl
      · exact fun _ _ _ h => h
      · refine Or.inl ⟨by rfl, fun _ _ => ?_⟩
        exact run_slice_op_h _ 22 _ 5 i0 Tryz.underlying22 Hhi.out hz1 (n := 20) _ rfl rfl rfl hg20
      · trivial
      simp only [Act.put, List.setIfInBounds_toArray, List.set_cons_zero, List.set_cons_succ]
      rw [← U1.out, hv1]
      apply Till.take (i := 2) [2, 3, 5]
      · simp only [List.getElem?_toArray, List.getElem?_cons_succ, List.getElem?_cons_zero]
        rfl
      · kernel_rfl
      · kernel_rfl
      · kernel_rfl
      · kernel_rfl
      · exact fun _ _ _ h => h
      · first
          | exact Or.inr ⟨by rfl, rfl⟩
          | (refine Or.inl ⟨by rfl, fun wq hwq => ?_⟩
             dsimp only at hwq
             go_simp
             first
               | done
               | rfl)
      · trivial
      simp only [Act.put, List.setIfInBounds_toArray, List.set_cons_zero, List.set_cons_succ]
      apply Till.take (i := 3) (v := Go.sliced (some ⟨bk, o, none⟩) 20 24 cap 1) [3, 5]
      · simp only [List.getElem?_toArray, List.getElem?_cons_succ, List.getElem?_cons_zero]
        rfl
      · kernel_rfl
      · kernel_rfl
      · kernel_rfl
      · kernel_rfl
      · exact fun _ _ _ h => h
      · refine Or.inl ⟨by rfl, fun _ _ => ?_⟩
        exact run_slice_op_l _ 22 _ 5 i0 Tryz.underlying22 Hhi.out hz1 (n := 20) _ rfl rfl rfl (by decide)
      · trivial
      simp only [Act.put, List.setIfInBounds_toArray, List.set_cons_zero, List.set_cons_succ]
      rw [← U2.out, hv2]
      apply Till.one (i := 4)
      · kernel_rfl
      · simp only [List.getElem?_toArray, List.getElem?_cons_succ, List.getElem?_cons_zero]
        rfl
      intro K hK
      go_simp
      skip
      refine hK.out _ _ (Or.inr trivial) ?_
      clear hK K
      try simp only [Act.put, List.setIfInBounds_toArray, List.set_cons_zero, List.set_cons_succ]
      apply Till.one (i := 5)
      · kernel_rfl
      · simp only [List.getElem?_toArray, List.getElem?_cons_succ, List.getElem?_cons_zero]
        rfl
      intro K hK
      go_simp
      skip
      refine hK.out _ _ (Or.inl (by rfl)) ?_
      clear hK K
      try simp only [Act.put, List.setIfInBounds_toArray, List.set_cons_zero, List.set_cons_succ]
      refine Till.done (by kernel_rfl) ?_ _
      obtain ⟨W2, hW2⟩ : ∃ W2, W2 = W.drew := ⟨_, rfl⟩
      rw [← hW2] at S1 S2 HWd HCd ⊢
      replace S1 := S1.out
      replace S2 := S2.out
      rw [hv1] at S1
      rw [hv2] at S2
      replace S1 := Lib.hid S1
      replace S2 := Lib.hid S2
      clear hW2 hv1 hv2 U1 U2
      go_wp2_with fail
      refine (impl_co S1.out (Nat.le_trans hlim HWd.out.size) HK.out HN.out (by rw [h20.out]; omega)).mono ?_
      rintro e w3 ⟨v3, rfl, h3, hb⟩
      obtain ⟨a3, c3, hv3, _⟩ := h3.open
      rw [le4_len] at hv3
      subst hv3
      have R3 := Lib.hid h3.rd
      replace S1 := Lib.hid (S1.out.behind (hb.mono (Nat.le_trans hlim HWd.out.size)))
      replace S2 := Lib.hid (S2.out.behind (hb.mono (Nat.le_trans hlim HWd.out.size)))
      replace HCd := Lib.hid ((hb.block _ (lt_of_block HCd.out)).trans HCd.out)
      replace HWd := Lib.hid (HWd.out.trans (hb.mono HWd.out.size))
      clear hb h3
      go_wp2_with fail
      refine (impl_eb S2.out R3.out).mono ?_
      rw [strEq HZ24.out (le4_u8 _), okc_sym]
      clear R3
      cases h4 : okc k n zs with
      | false =>
        rintro e w4 ⟨rfl, hw⟩
        obtain rfl : w3 = w4 := hw.symm
        have HT := Lib.hid (ook_c h4)
        obtain ⟨_, _, f0, f1⟩ := pcs HCd.out
        obtain ⟨r, rg⟩ := pst HCd.out (.int .i64 0) (.slice none 0 0)
        obtain ⟨r0, r1, _, _⟩ := pcs r
        have B8 := Lib.hid (HWd.out.grown rg HWd.out.size (fun k hk => by injection hk with hk; omega))
        clear h4 r rg
        go_wp2_with fail
        exact bodyPost_ret (v := .tuple #[.agg #[.int .i64 0, .slice none 0 0], .iface 83 (.agg #[.string ⟨#[119, 114, 111, 110, 103, 32, 99, 104, 101, 99, 107, 32, 118, 97, 108, 117, 101]⟩, .bool false])]) (by simp [results, Tryz.results55, go_sem, r0, r1]) rfl (Or.inr ⟨HT.out, ⟨_, _, rfl, fun h => by cases h⟩, B8.out⟩)
      | true =>
        rintro e w4 ⟨rfl, hw⟩
        obtain rfl : w3 = w4 := hw.symm
        have H4 := Lib.hid h4
        clear h4
        go_wp2_with fail
        refine (impl_ck HK.out HN.out).mono ?_
        rw [← HQ.out]
        rintro e w5 ⟨rfl, hb⟩
        replace S1 := Lib.hid (S1.out.behind (hb.mono (Nat.le_trans hlim HWd.out.size)))
        replace HCd := Lib.hid ((hb.block _ (lt_of_block HCd.out)).trans HCd.out)
        replace HWd := Lib.hid (HWd.out.trans (hb.mono HWd.out.size))
        clear hb
        go_wp2_with fail
        refine (impl_de S1.out (Nat.le_trans hlim HWd.out.size) HQW.out (by rw [h20.out]; omega)).mono ?_
        have HDL : Hid (dez q (zs.take 20) = decL k n zs) := Lib.hid (by rw [HQ.out]; rfl)
        rw [HDL.out]
        rintro e w6 ⟨v6, rfl, h6, hb⟩
        have HD20 : Hid ((decL k n zs).length = 20) := Lib.hid (by unfold decL; rw [dez_len]; exact h20.out)
        obtain ⟨a6, c6, hv6, _⟩ := h6.open
        rw [HD20.out] at hv6
        subst hv6
        have R6 := Lib.hid h6.rd
        replace HCd := Lib.hid ((hb.block _ (lt_of_block HCd.out)).trans HCd.out)
        replace HWd := Lib.hid (HWd.out.trans (hb.mono HWd.out.size))
        clear hb h6 S1 S2
        go_wp2_with fail
        refine (rdp_any R6.out (Nat.le_refl _) HD20.out).mono ?_
        clear R6 HDL
        rintro e w7 (⟨hp, ⟨v7, rfl, h7⟩, hb⟩ | ⟨hp, ⟨s7, rfl⟩, hb⟩)
        · have HT := Lib.hid (ook_yes H1.out H2.out HL.out H4.out hp)
          have HE1 := Lib.hid (ocK_yes HT.out)
          rw [← ocB_yes HT.out] at h7
          obtain ⟨kd, hkd⟩ : ∃ x, x = (decL k n zs).getD 0 0 := ⟨_, rfl⟩
          rw [← hkd] at HE1 ⊢
          obtain ⟨L7, hL7⟩ : ∃ L, L = (ocB k n zs).length := ⟨_, rfl⟩
          obtain ⟨a7, c7, hv7, _⟩ := h7.open
          rw [← hL7] at hv7
          subst hv7
          have hc7 : w7.heap[w.heap.size]? = some (.cells #[.int .i64 0, .slice none 0 0] 55) := (hb.block _ (lt_of_block HCd.out)).trans HCd.out
          obtain ⟨q0, q1, f0, f1⟩ := pcs hc7
          obtain ⟨r, rg⟩ := pst hc7 (.int .i64 kd) (.slice a7 L7 c7)
          obtain ⟨r0, r1, _, _⟩ := pcs r
          have h8 := h7.kept rg (by right; intro hk; have h9 := h7.lt _ hk; have := lt_of_block HCd.out; omega)
          have H8 := Lib.hid (h8.mono HWd.out.size)
          have hb8 := HWd.out.trans (hb.mono HWd.out.size)
          have B8 := Lib.hid (hb8.grown rg hb8.size (fun k hk => by injection hk with hk; omega))
          clear hc7 h7 hb h8 rg r hL7 hb8 hkd hp HCd HWd
          go_wp2_with fail
          exact bodyPost_ret (v := .tuple #[.agg #[.int .i64 kd, .slice a7 L7 c7], .nilIface]) (by simp [results, Tryz.results55, go_sem, r0, r1]) rfl (Or.inl ⟨HT.out, ⟨_, by rw [HE1.out], H8.out⟩, B8.out⟩)
        · have HT := Lib.hid (ook_p (k := k) (n := n) (zs := zs) hp)
          have hc7 : w7.heap[w.heap.size]? = some (.cells #[.int .i64 0, .slice none 0 0] 55) := (hb.block _ (lt_of_block HCd.out)).trans HCd.out
          obtain ⟨q0, q1, f0, f1⟩ := pcs hc7
          obtain ⟨r, rg⟩ := pst hc7 (.int .i64 0) (.slice none 0 0)
          obtain ⟨r0, r1, _, _⟩ := pcs r
          have hb8 := HWd.out.trans (hb.mono HWd.out.size)
          have B8 := Lib.hid (hb8.grown rg hb8.size (fun k hk => by injection hk with hk; omega))
          clear hc7 hb rg r hb8 hp HCd HWd
          go_wp2_with fail
          exact bodyPost_ret (v := .tuple #[.agg #[.int .i64 0, .slice none 0 0], .iface 83 (.agg #[.string s7, .bool false])]) (by simp [results, Tryz.results55, go_sem, r0, r1]) rfl (Or.inr ⟨HT.out, ⟨_, _, rfl, fun h => by cases h⟩, B8.out⟩)

end Go.Proofs.YtjbkhbbchacooaaGreatDoor


/-! Err -/
namespace Go.Proofs.YtjbkhbbchacooaaGreatDoor
open Go Go.RowKit Go.Extern.Stop Go.Stop Go.Extern
set_option linter.unusedVariables false

/-- The package variable errors.errorType holds the handle of 'error'. -/
def GV (w : World) : Prop := w.cell? ⟨0, 0, none⟩ = some (.iface 119 (.agg #[.pointer (some ⟨1, 79, none⟩)]))
theorem GV.pos {w : World} (h : GV w) : 0 < w.heap.size := by
  rcases Nat.lt_or_ge 0 w.heap.size with h1 | h0
  · exact h1
  · unfold GV at h; simp [World.cell?, Array.getElem?_eq_none h0] at h
theorem GV.next {w w' : World} (h : GV w) (hb : Below w.heap.size w w') : GV w' := (hb.cell (p := ⟨0, 0, none⟩) h.pos).trans h
theorem GV.below {B : Nat} {w w' : World} (h : GV w) (hb : Below B w w') (hB : 0 < B) : GV w' := (hb.cell (p := ⟨0, 0, none⟩) hB).trans h
theorem GV.alloc {w : World} (h : GV w) (o : Obj) : GV (w.alloc o) := h.next ((Below.refl _ _).alloc (Nat.le_refl _) o)

/-- errors.As(nil, target). -/
theorem as_nil (t : Value) (w : World) :
    Calls Tryz.prog 56 #[.nilIface, t] w fun e w' => e = .returned (.bool false) ∧ w' = w := by
  go_enter Tryz.func56, Tryz.ntmps56
  go_wp2
  go_ret
  exact ⟨rfl, rfl⟩

/-! The entries for reflectlite at this program's types. -/
theorem ft_valueOf (t : Addr) (w : World) : (ReflectliteValue.unpack (.iface 85 (.pointer (some t)))).run Tryz.prog w
    = .ok (.agg #[.pointer (some ⟨1, 85, none⟩), .pointer (some ⟨w.heap.size, 0, none⟩), .int .u64 150]) (w.alloc (.cells #[.pointer (some t)] 85)) := by kernel_rfl
theorem ft_type (a : Addr) (w : World) : (ReflectliteValue.methodAny (ReflectliteValue.valueError "reflectlite.Value.Type" 0) (fun t _ _ _ => ReflectliteType.toType t) #[.agg #[.pointer (some ⟨1, 85, none⟩), .pointer (some a), .int .u64 150]]).run Tryz.prog w
    = .ok (.iface 119 (.agg #[.pointer (some ⟨1, 85, none⟩)])) w := by kernel_rfl
theorem ft_mKind (h : Value) (w : World) : (Go.method (Tryz.prog.types.size + Made.depth) 119 (.agg #[h]) "Kind").run Tryz.prog w = .ok (137, h) w := by kernel_rfl
theorem ft_kindP (w : World) : ((ReflectliteType.abiMethod fun t => (fun a : Nat => Value.int IntKind.u8 (a : Int)) <$> Rtype.kind t) #[.pointer (some ⟨1, 85, none⟩)]).run Tryz.prog w = .ok (.int .u8 22) w := by kernel_rfl
theorem ft_kindS (w : World) : ((ReflectliteType.abiMethod fun t => (fun a : Nat => Value.int IntKind.u8 (a : Int)) <$> Rtype.kind t) #[.pointer (some ⟨1, 83, none⟩)]).run Tryz.prog w = .ok (.int .u8 25) w := by kernel_rfl

/-- A method of a Value, at one argument; (Value).Set at two. -/
theorem mat_met (v : Value) (h1 : Value → Sem Value) (h2 : Array Value → Sem Value) : ReflectliteValue.method.match_2 (fun _ => Sem Value) #[v] h1 h2 = h1 v := rfl
theorem mat_set (v x : Value) (h1 : Value → Value → Sem Value) (h2 : Array Value → Sem Value) : ReflectliteValue.set.match_3 (fun _ => Sem Value) #[v, x] h1 h2 = h1 v x := rfl
theorem ft_partsP (a : Addr) (w : World) : (ReflectliteValue.parts (.agg #[.pointer (some ⟨1, 85, none⟩), .pointer (some a), .int .u64 150])).run Tryz.prog w = .ok (some (85, a, 150)) w := by kernel_rfl
/-- (Value).IsNil at the Value of a pointer that is not nil. -/
theorem ft_isNil (a p : Addr) (W : World) (ha : W.cell? a = some (.pointer (some p))) :
    (ReflectliteValue.method (ReflectliteValue.valueError "reflectlite.Value.IsNil" 0) ReflectliteValue.isNil #[.agg #[.pointer (some ⟨1, 85, none⟩), .pointer (some a), .int .u64 150]]).run Tryz.prog W = .ok (.bool false) W := by
  delta ReflectliteValue.method
  rw [mat_met]
  simp only [Sem.run_bind, ft_partsP, Result.andThen]
  simp [ReflectliteValue.isNil, loadVar, isAgg, underlying, Tryz.underlying85, ha, Result.andThen]

theorem ft_mElem (h : Value) (w : World) : (Go.method (Tryz.prog.types.size + Made.depth) 119 (.agg #[h]) "Elem").run Tryz.prog w = .ok (147, .agg #[h]) w := by kernel_rfl
theorem ft_mImpl (h : Value) (w : World) : (Go.method (Tryz.prog.types.size + Made.depth) 119 (.agg #[h]) "Implements").run Tryz.prog w = .ok (148, .agg #[h]) w := by kernel_rfl
theorem ft_mAssign (h : Value) (w : World) : (Go.method (Tryz.prog.types.size + Made.depth) 119 (.agg #[h]) "AssignableTo").run Tryz.prog w = .ok (145, .agg #[h]) w := by kernel_rfl
theorem ft_elem (w : World) : (ReflectliteType.method ReflectliteType.elem #[.agg #[.pointer (some ⟨1, 85, none⟩)]]).run Tryz.prog w = .ok (.iface 119 (.agg #[.pointer (some ⟨1, 83, none⟩)])) w := by kernel_rfl
theorem ft_implements (w : World) : (ReflectliteType.relation "Implements" ReflectliteType.implements_ #[.agg #[.pointer (some ⟨1, 83, none⟩)], .iface 119 (.agg #[.pointer (some ⟨1, 79, none⟩)])]).run Tryz.prog w = .ok (.bool true) w := by kernel_rfl
theorem ft_typeOf (v : Value) (w : World) : (ReflectliteType.typeOf #[.iface 83 v]).run Tryz.prog w = .ok (.iface 119 (.agg #[.pointer (some ⟨1, 83, none⟩)])) w := by kernel_rfl
theorem ft_assignable (w : World) : (ReflectliteType.relation "AssignableTo" ReflectliteType.assignableTo #[.agg #[.pointer (some ⟨1, 83, none⟩)], .iface 119 (.agg #[.pointer (some ⟨1, 83, none⟩)])]).run Tryz.prog w = .ok (.bool true) w := by kernel_rfl
theorem ft_valueOfE (s : ByteArray) (b : Bool) (w : World) : (ReflectliteValue.unpack (.iface 83 (.agg #[.string s, .bool b]))).run Tryz.prog w
    = .ok (.agg #[.pointer (some ⟨1, 83, none⟩), .pointer (some ⟨w.heap.size, 0, none⟩), .int .u64 153]) (w.alloc (.cells #[.string s, .bool b] 83)) := by kernel_rfl

theorem ft_elemOf (w : World) : (Rtype.elem? 85).run Tryz.prog w = .ok (some 83) w := by kernel_rfl
theorem ft_mk (p : Addr) (w : World) : (ReflectliteValue.mk 83 p ReflectliteValue.flagAddr).run Tryz.prog w = .ok (.agg #[.pointer (some ⟨1, 83, none⟩), .pointer (some p), .int .u64 409]) w := by kernel_rfl
/-- (Value).Elem at the Value of the target: the Value of the variable that it points to, addressable. -/
theorem ft_elemV (a p : Addr) (W : World) (ha : W.cell? a = some (.pointer (some p))) :
    (ReflectliteValue.method (ReflectliteValue.valueError "reflectlite.Value.Elem" 0) ReflectliteValue.elem #[.agg #[.pointer (some ⟨1, 85, none⟩), .pointer (some a), .int .u64 150]]).run Tryz.prog W
      = .ok (.agg #[.pointer (some ⟨1, 83, none⟩), .pointer (some p), .int .u64 409]) W := by
  delta ReflectliteValue.method
  rw [mat_met]
  simp only [Sem.run_bind, ft_partsP, Result.andThen]
  simp [ReflectliteValue.elem, loadVar, isAgg, underlying, Tryz.underlying85, ha, Result.andThen, ft_elemOf, ft_mk]
theorem ft_partsA (a : Addr) (w : World) : (ReflectliteValue.parts (.agg #[.pointer (some ⟨1, 83, none⟩), .pointer (some a), .int .u64 409])).run Tryz.prog w = .ok (some (83, a, 409)) w := by kernel_rfl
theorem ft_partsE (a : Addr) (w : World) : (ReflectliteValue.parts (.agg #[.pointer (some ⟨1, 83, none⟩), .pointer (some a), .int .u64 153])).run Tryz.prog w = .ok (some (83, a, 153)) w := by kernel_rfl
theorem ft_direct (w : World) : (Rtype.directlyAssignable 83 83).run Tryz.prog w = .ok true w := by kernel_rfl
theorem ft_size (w : World) : (sizeOf 83).run Tryz.prog w = .ok 2 w := by kernel_rfl
/-- (Value).Set: the variable at t gets what the Value's own variable at c holds. -/
theorem ft_set (t c : Nat) (u0 u1 x0 x1 : Value) (W : World) (hc0 : W.cell? ⟨c, 0, none⟩ = some x0) (hc1 : W.cell? ⟨c, 1, none⟩ = some x1) (h1 : x0.oneCell' = true) (h2 : x1.oneCell' = true)
    (ht0 : W.cell? ⟨t, 0, none⟩ = some u0) (ht1 : (W.setCell ⟨t, 0, none⟩ x0).cell? ⟨t, 1, none⟩ = some u1) (hf : W.frozen? ⟨t, 0, none⟩ = false) (hf1 : (W.setCell ⟨t, 0, none⟩ x0).frozen? ⟨t, 1, none⟩ = false) :
    (ReflectliteValue.set #[.agg #[.pointer (some ⟨1, 83, none⟩), .pointer (some ⟨t, 0, none⟩), .int .u64 409], .agg #[.pointer (some ⟨1, 83, none⟩), .pointer (some ⟨c, 0, none⟩), .int .u64 153]]).run Tryz.prog W
      = .ok (.tuple #[]) ((W.setCell ⟨t, 0, none⟩ x0).setCell ⟨t, 1, none⟩ x1) := by
  delta ReflectliteValue.set
  rw [mat_set]
  simp only [Sem.run_bind, ft_partsA, ft_partsE, Result.andThen]
  simp [ReflectliteValue.flagAddr, loadVar, isAgg, underlying, Tryz.underlying83, loadCells, loadCellsFrom, hc0, hc1, Result.andThen, ft_direct, storeVar, Value.cells, storeCells, Addr.add]
  rw [run_store Tryz.prog W ⟨t, 0, none⟩ _ _ h1]
  simp only [ht0, hf]
  simp
  rw [run_store Tryz.prog (W.setCell ⟨t, 0, none⟩ x0) ⟨t, 1, none⟩ _ _ h2]
  simp only [ht1, hf1]
  simp

set_option maxRecDepth 20000 in
set_option maxHeartbeats 8000000 in
/-- errors.As(err, target), err of the target's element type. -/
theorem as_hit (s s0 : ByteArray) (b b0 : Bool) (t : Nat) (w : World) (hg : GV w) (ht : w.heap[t]? = some (.cells #[.string s0, .bool b0] 83 (0, 0))) :
    Calls Tryz.prog 56 #[.iface 83 (.agg #[.string s, .bool b]), .iface 85 (.pointer (some ⟨t, 0, none⟩))] w fun ev w' => ev = .returned (.bool true) ∧ w' = (((((w.alloc (.cells #[.pointer (some ⟨t, 0, none⟩)] 85)).alloc (.cells #[.pointer (some ⟨1, 85, none⟩), .pointer (some ⟨w.heap.size, 0, none⟩), .int .u64 150] 107)).alloc (.cells #[.pointer (some ⟨1, 85, none⟩), .pointer (some ⟨w.heap.size, 0, none⟩), .int .u64 150] 107)).alloc (.cells #[.string s, .bool b] 83)).setCell ⟨t, 0, none⟩ (.string s)).setCell ⟨t, 1, none⟩ (.bool b) := by
  have h_vo := @run_callFunc_extern Tryz.prog 82 _ (fun args => ReflectliteValue.unpack (args.getD 0 (.tuple #[]))) Tryz.func82 (by kernel_rfl) (by kernel_rfl) (by kernel_rfl) (by kernel_rfl)
  have h_ty := @run_callFunc_extern Tryz.prog 83 _ (ReflectliteValue.methodAny (ReflectliteValue.valueError "reflectlite.Value.Type" 0) (fun t _ _ _ => ReflectliteType.toType t)) Tryz.func83 (by kernel_rfl) (by kernel_rfl) (by kernel_rfl) (by kernel_rfl)
  have h_in := @run_callFunc_extern Tryz.prog 84 _ (ReflectliteValue.method (ReflectliteValue.valueError "reflectlite.Value.IsNil" 0) ReflectliteValue.isNil) Tryz.func84 (by kernel_rfl) (by kernel_rfl) (by kernel_rfl) (by kernel_rfl)
  have h_ki := @run_callFunc_extern Tryz.prog 137 _ (ReflectliteType.abiMethod fun t => do pure (.int .u8 (← Rtype.kind t))) Tryz.func137 (by kernel_rfl) (by kernel_rfl) (by kernel_rfl) (by kernel_rfl)
  have h_el := @run_callFunc_extern Tryz.prog 147 _ (ReflectliteType.method ReflectliteType.elem) Tryz.func147 (by kernel_rfl) (by kernel_rfl) (by kernel_rfl) (by kernel_rfl)
  have h_im := @run_callFunc_extern Tryz.prog 148 _ (ReflectliteType.relation "Implements" ReflectliteType.implements_) Tryz.func148 (by kernel_rfl) (by kernel_rfl) (by kernel_rfl) (by kernel_rfl)
  have h_to := @run_callFunc_extern Tryz.prog 98 _ ReflectliteType.typeOf Tryz.func98 (by kernel_rfl) (by kernel_rfl) (by kernel_rfl) (by kernel_rfl)
  have h_as := @run_callFunc_extern Tryz.prog 145 _ (ReflectliteType.relation "AssignableTo" ReflectliteType.assignableTo) Tryz.func145 (by kernel_rfl) (by kernel_rfl) (by kernel_rfl) (by kernel_rfl)
  have h_ve := @run_callFunc_extern Tryz.prog 99 _ (ReflectliteValue.method (ReflectliteValue.valueError "reflectlite.Value.Elem" 0) ReflectliteValue.elem) Tryz.func99 (by kernel_rfl) (by kernel_rfl) (by kernel_rfl) (by kernel_rfl)
  have h_se := @run_callFunc_extern Tryz.prog 100 _ ReflectliteValue.set Tryz.func100 (by kernel_rfl) (by kernel_rfl) (by kernel_rfl) (by kernel_rfl)
  have mK := ft_mKind
  have mE := ft_mElem
  have mI := ft_mImpl
  have mA := ft_mAssign
  have hsz : Tryz.prog.types.size + Made.depth = 284 := by kernel_rfl
  rw [hsz] at mK mE mI mA
  have vO := ft_valueOf
  have tY := ft_type
  have kP := ft_kindP
  have kS := ft_kindS
  have eL := ft_elem
  have iM := ft_implements
  have tO := ft_typeOf
  have aS := ft_assignable
  have vE := ft_valueOfE
  have htl : t < w.heap.size := by
    rcases Nat.lt_or_ge t w.heap.size with h | h
    · exact h
    · rw [Array.getElem?_eq_none h] at ht; cases ht
  have n8 := ft_isNil ⟨w.heap.size, 0, none⟩ ⟨t, 0, none⟩ ((w.alloc (.cells #[.pointer (some ⟨t, 0, none⟩)] 85)).alloc (.cells #[.pointer (some ⟨1, 85, none⟩), .pointer (some ⟨w.heap.size, 0, none⟩), .int .u64 150] 107)) (by simp)
  have hg2 : ((w.alloc (.cells #[.pointer (some ⟨t, 0, none⟩)] 85)).alloc (.cells #[.pointer (some ⟨1, 85, none⟩), .pointer (some ⟨w.heap.size, 0, none⟩), .int .u64 150] 107)).cell? ⟨0, 0, none⟩ = some (.iface 119 (.agg #[.pointer (some ⟨1, 79, none⟩)])) := (hg.alloc _).alloc _
  have el := ft_elemV ⟨w.heap.size, 0, none⟩ ⟨t, 0, none⟩ (((w.alloc (.cells #[.pointer (some ⟨t, 0, none⟩)] 85)).alloc (.cells #[.pointer (some ⟨1, 85, none⟩), .pointer (some ⟨w.heap.size, 0, none⟩), .int .u64 150] 107)).alloc (.cells #[.pointer (some ⟨1, 85, none⟩), .pointer (some ⟨w.heap.size, 0, none⟩), .int .u64 150] 107)) (by rw [World.cell?_alloc_lt _ _ ⟨w.heap.size, 0, none⟩ (by simp; omega)]; simp)
  have hb4 : ((((w.alloc (.cells #[.pointer (some ⟨t, 0, none⟩)] 85)).alloc (.cells #[.pointer (some ⟨1, 85, none⟩), .pointer (some ⟨w.heap.size, 0, none⟩), .int .u64 150] 107)).alloc (.cells #[.pointer (some ⟨1, 85, none⟩), .pointer (some ⟨w.heap.size, 0, none⟩), .int .u64 150] 107)).alloc (.cells #[.string s, .bool b] 83)).heap[t]? = some (.cells #[.string s0, .bool b0] 83 (0, 0)) :=
    (heap_alloc_old _ _ (by simp; omega)).trans ((heap_alloc_old _ _ (by simp; omega)).trans ((heap_alloc_old _ _ (by simp; omega)).trans ((heap_alloc_old _ _ htl).trans ht)))
  have hn4 : ((((w.alloc (.cells #[.pointer (some ⟨t, 0, none⟩)] 85)).alloc (.cells #[.pointer (some ⟨1, 85, none⟩), .pointer (some ⟨w.heap.size, 0, none⟩), .int .u64 150] 107)).alloc (.cells #[.pointer (some ⟨1, 85, none⟩), .pointer (some ⟨w.heap.size, 0, none⟩), .int .u64 150] 107)).alloc (.cells #[.string s, .bool b] 83)).heap[w.heap.size + 1 + 1 + 1]? = some (.cells #[.string s, .bool b] 83) := by
    have := heap_alloc_new (((w.alloc (.cells #[.pointer (some ⟨t, 0, none⟩)] 85)).alloc (.cells #[.pointer (some ⟨1, 85, none⟩), .pointer (some ⟨w.heap.size, 0, none⟩), .int .u64 150] 107)).alloc (.cells #[.pointer (some ⟨1, 85, none⟩), .pointer (some ⟨w.heap.size, 0, none⟩), .int .u64 150] 107)) (.cells #[.string s, .bool b] 83)
    simpa using this
  have b5 := blk_set hb4 0 (.string s)
  have st := ft_set t (w.heap.size + 1 + 1 + 1) (.string s0) (.bool b0) (.string s) (.bool b) ((((w.alloc (.cells #[.pointer (some ⟨t, 0, none⟩)] 85)).alloc (.cells #[.pointer (some ⟨1, 85, none⟩), .pointer (some ⟨w.heap.size, 0, none⟩), .int .u64 150] 107)).alloc (.cells #[.pointer (some ⟨1, 85, none⟩), .pointer (some ⟨w.heap.size, 0, none⟩), .int .u64 150] 107)).alloc (.cells #[.string s, .bool b] 83)) (blk_cell hn4 0) (blk_cell hn4 1) rfl rfl (blk_cell hb4 0) (blk_cell b5 1) (blk_free hb4 0) (blk_free b5 1)
  clear b5 hb4 hn4 ht hsz
  go_enter Tryz.func56, Tryz.ntmps56
  go_wp2
  refine wp_loop_rounds 1 ?_
  rw [rounds_succ]
  go_wp2
  go_ret
  exact ⟨rfl, rfl⟩
/-- The same, what the caller asks. -/
theorem as_hit' (s s0 : ByteArray) (b b0 : Bool) (t : Nat) (w : World) (hg : GV w) (ht : w.heap[t]? = some (.cells #[.string s0, .bool b0] 83 (0, 0))) :
    Calls Tryz.prog 56 #[.iface 83 (.agg #[.string s, .bool b]), .iface 85 (.pointer (some ⟨t, 0, none⟩))] w fun ev w' => ev = .returned (.bool true) ∧ w.grownBy w' (some t) ∧ w'.heap[t]? = some (.cells #[.string s, .bool b] 83 (0, 0)) := by
  have htl : t < w.heap.size := by
    rcases Nat.lt_or_ge t w.heap.size with h | h
    · exact h
    · rw [Array.getElem?_eq_none h] at ht; cases ht
  refine (as_hit s s0 b b0 t w hg ht).mono ?_
  rintro e w' ⟨he, rfl⟩
  have hb4 : ((((w.alloc (.cells #[.pointer (some ⟨t, 0, none⟩)] 85)).alloc (.cells #[.pointer (some ⟨1, 85, none⟩), .pointer (some ⟨w.heap.size, 0, none⟩), .int .u64 150] 107)).alloc (.cells #[.pointer (some ⟨1, 85, none⟩), .pointer (some ⟨w.heap.size, 0, none⟩), .int .u64 150] 107)).alloc (.cells #[.string s, .bool b] 83)).heap[t]? = some (.cells #[.string s0, .bool b0] 83 (0, 0)) :=
    (heap_alloc_old _ _ (by simp; omega)).trans ((heap_alloc_old _ _ (by simp; omega)).trans ((heap_alloc_old _ _ (by simp; omega)).trans ((heap_alloc_old _ _ htl).trans ht)))
  have hB : Below w.heap.size w ((((w.alloc (.cells #[.pointer (some ⟨t, 0, none⟩)] 85)).alloc (.cells #[.pointer (some ⟨1, 85, none⟩), .pointer (some ⟨w.heap.size, 0, none⟩), .int .u64 150] 107)).alloc (.cells #[.pointer (some ⟨1, 85, none⟩), .pointer (some ⟨w.heap.size, 0, none⟩), .int .u64 150] 107)).alloc (.cells #[.string s, .bool b] 83)) := ((((Below.refl w.heap.size w).alloc (Nat.le_refl _) _).alloc (by simp) _).alloc (by simp; omega) _).alloc (by simp; omega) _
  refine ⟨he, grown_trans (grown_trans (grown_none (grown_of_below hB)) (grown_set _ _ _ _)) (grown_set _ _ _ _), ?_⟩
  have b5 := blk_set hb4 0 (.string s)
  exact blk_set b5 1 (.bool b)

end Go.Proofs.YtjbkhbbchacooaaGreatDoor


/-! Cl5 -/
namespace Go.Proofs.YtjbkhbbchacooaaGreatDoor
open Go Go.RowKit
set_option linter.unusedVariables false
attribute [local irreducible] kh kid

theorem ocK_no {k n : Int} {zs : List Int} (h : ook k n zs = false) : ocK k n zs = 0 := if_neg (by rw [h]; decide)
theorem ocB_no {k n : Int} {zs : List Int} (h : ook k n zs = false) : ocB k n zs = [] := if_neg (by rw [h]; decide)

set_option maxRecDepth 20000 in
set_option maxHeartbeats 4000000 in
/-- impl.OpenCell. -/
theorem impl_oc {lim : Nat} {w : World} {v : Value} {zs : List Int} {k n : Int} (h : Rd lim .u8 w v zs) (hlim : lim ≤ w.heap.size) (hk : (Lit.int .i64 k).wf = true) (hn : (Lit.int .i64 n).wf = true) (hg : GV w) :
    Calls Tryz.prog 31 #[.int .i64 k, .int .i64 n, v] w fun e w' => ∃ v', e = .returned (.tuple #[.agg #[.int .i64 (ocK k n zs), v'], .bool (ook k n zs)]) ∧ Own 5 .u8 w.heap.size w' v' (ocB k n zs) ∧ Below w.heap.size w w' := by
  have HK := Lib.hid hk
  have HN := Lib.hid hn
  have HG := Lib.hid hg
  have b1 := (Below.refl w.heap.size w).alloc (Nat.le_refl _) (.cells #[.int .i64 0, .slice none 0 0] 55)
  have c1 := heap_alloc_new w (.cells #[.int .i64 0, .slice none 0 0] 55)
  obtain ⟨W, hW⟩ : ∃ W, W = w.alloc (.cells #[.int .i64 0, .slice none 0 0] 55) := ⟨_, rfl⟩
  rw [← hW] at b1 c1
  have HW := Lib.hid hW
  have HB := Lib.hid b1
  have HC := Lib.hid c1
  have H := Lib.hid (h.behind (b1.mono hlim))
  clear h hW b1 c1 hk hn hg
  go_enter Tryz.func31, Tryz.ntmps31
  go_wp2_with fail
  rw [← HW.out]
  refine (uns_any H.out (Nat.le_trans hlim HB.out.size) HK.out HN.out).mono ?_
  rintro e w2 (⟨ht, ⟨v2, rfl, h2⟩, hb⟩ | ⟨ht, ⟨s2, q2, rfl, hq⟩, hb⟩)
  · have HT := Lib.hid ht
    obtain ⟨L2, hL2⟩ : ∃ L, L = (ocB k n zs).length := ⟨_, rfl⟩
    obtain ⟨a2, c2, hv2, _⟩ := h2.open
    rw [← hL2] at hv2
    subst hv2
    obtain ⟨kd, hkd⟩ : ∃ x, x = ocK k n zs := ⟨_, rfl⟩
    rw [← hkd]
    have HKd := Lib.hid hkd
    have hc2 : w2.heap[w.heap.size]? = some (.cells #[.int .i64 0, .slice none 0 0] 55) := (hb.block _ (lt_of_block HC.out)).trans HC.out
    have hb2 := HB.out.trans (hb.mono HB.out.size)
    have H2 := Lib.hid (h2.mono HB.out.size)
    have HNe : Hid ((Value.slice a2 L2 c2).ownBlock = none ∨ (Value.slice a2 L2 c2).ownBlock ≠ some w.heap.size) := Lib.hid (by right; intro hk; have h9 := h2.lt _ hk; have := lt_of_block HC.out; omega)
    replace HC := Lib.hid hc2
    replace HB := Lib.hid hb2
    have b3 := (Below.refl w2.heap.size w2).alloc (Nat.le_refl _) (.cells #[.int .i64 kd, .slice a2 L2 c2] 55)
    have b4 := b3.alloc (by simp) (.cells #[.string ⟨#[]⟩, .bool false] 83)
    have k3 := heap_alloc_new w2 (.cells #[.int .i64 kd, .slice a2 L2 c2] 55)
    have k4 := (heap_alloc_old (w2.alloc (.cells #[.int .i64 kd, .slice a2 L2 c2] 55)) (.cells #[.string ⟨#[]⟩, .bool false] 83) (lt_of_block k3)).trans k3
    obtain ⟨W3, hW3⟩ : ∃ W, W = (w2.alloc (.cells #[.int .i64 kd, .slice a2 L2 c2] 55)).alloc (.cells #[.string ⟨#[]⟩, .bool false] 83) := ⟨_, rfl⟩
    rw [← hW3] at b4 k4
    have HW3 := Lib.hid hW3
    have hc3 : W3.heap[w.heap.size]? = some (.cells #[.int .i64 0, .slice none 0 0] 55) := (b4.block _ (lt_of_block HC.out)).trans HC.out
    have hb3 := HB.out.trans (b4.mono HB.out.size)
    have h3 := H2.out.next b4
    obtain ⟨m0, m1, _, _⟩ := pcs k4
    obtain ⟨q0, q1, f0, f1⟩ := pcs hc3
    obtain ⟨r, rg⟩ := pst hc3 (.int .i64 kd) (.slice a2 L2 c2)
    obtain ⟨r0, r1, _, _⟩ := pcs r
    have h8 := h3.kept rg (HNe.out)
    have H8 := Lib.hid h8
    have B8 := Lib.hid (hb3.grown rg hb3.size (fun k hk => by injection hk with hk; omega))
    clear h2 hb hc2 hb2 ht hL2 hkd H b3 b4 k3 k4 hW3 hc3 hb3 h3 r rg h8
    go_wp2_with fail
    rw [← HW3.out]
    refine (as_nil _ _).mono ?_
    rintro e w4 ⟨rfl, hw⟩
    obtain rfl : W3 = w4 := hw.symm
    go_wp2_with fail
    exact bodyPost_ret (v := .tuple #[.agg #[.int .i64 kd, .slice a2 L2 c2], .bool true]) (by simp [results, Tryz.results31, go_sem, r0, r1]) rfl ⟨_, by rw [HT.out, HKd.out], H8.out, B8.out⟩
  · have HT := Lib.hid ht
    have HE1 := Lib.hid (ocK_no ht)
    have HE2 := Lib.hid (ocB_no ht)
    have hc2 : w2.heap[w.heap.size]? = some (.cells #[.int .i64 0, .slice none 0 0] 55) := (hb.block _ (lt_of_block HC.out)).trans HC.out
    have hb2 := HB.out.trans (hb.mono HB.out.size)
    have b3 := (Below.refl w2.heap.size w2).alloc (Nat.le_refl _) (.cells #[.int .i64 0, .slice none 0 0] 55)
    have b4 := b3.alloc (by simp) (.cells #[.string ⟨#[]⟩, .bool false] 83)
    have k4 := heap_alloc_new (w2.alloc (.cells #[.int .i64 0, .slice none 0 0] 55)) (.cells #[.string ⟨#[]⟩, .bool false] 83)
    rw [World.size_alloc] at k4
    obtain ⟨W3, hW3⟩ : ∃ W, W = (w2.alloc (.cells #[.int .i64 0, .slice none 0 0] 55)).alloc (.cells #[.string ⟨#[]⟩, .bool false] 83) := ⟨_, rfl⟩
    rw [← hW3] at b4 k4
    have HW3 := Lib.hid hW3
    have K4 := Lib.hid k4
    have hc3 : W3.heap[w.heap.size]? = some (.cells #[.int .i64 0, .slice none 0 0] 55) := (b4.block _ (lt_of_block hc2)).trans hc2
    have hb3 := hb2.trans (b4.mono hb2.size)
    have G3 := Lib.hid (HG.out.next hb3)
    replace HC := Lib.hid hc3
    replace HB := Lib.hid hb3
    have HS := Lib.hid (show w.heap.size < w2.heap.size from lt_of_block hc2)
    clear hb hc2 hb2 ht H b3 b4 k4 hW3 hc3 hb3
    go_wp2_with fail
    rw [← HW3.out]
    refine (as_hit' s2 _ q2 _ _ _ G3.out K4.out).mono ?_
    rintro e w4 ⟨rfl, hg4, hk4⟩
    have hc4 : w4.heap[w.heap.size]? = some (.cells #[.int .i64 0, .slice none 0 0] 55) := (hg4.block _ (lt_of_block HC.out) (by intro hk; have h9 : w.heap.size = w2.heap.size + 1 := Option.some.inj hk; have := HS.out; omega)).trans HC.out
    have hb4 := HB.out.grown hg4 HB.out.size (fun k hk => by injection hk with hk; have := HS.out; omega)
    obtain ⟨q0, q1, f0, f1⟩ := pcs hc4
    obtain ⟨r, rg⟩ := pst hc4 (.int .i64 0) (.slice none 0 0)
    obtain ⟨r0, r1, _, _⟩ := pcs r
    have B8 := Lib.hid (hb4.grown rg hb4.size (fun k hk => by injection hk with hk; omega))
    clear hg4 hk4 hc4 hb4 r rg
    go_wp2_with fail
    exact bodyPost_ret (v := .tuple #[.agg #[.int .i64 0, .slice none 0 0], .bool false]) (by simp [results, Tryz.results31, go_sem, r0, r1]) rfl ⟨_, by rw [HT.out, HE1.out], by rw [HE2.out]; exact Own.nil _ _ B8.out.size, B8.out⟩

theorem fcn_found {k : Int} {c : List Int} {f : Int} : ∀ (m i d : Nat), d < m → (∀ t, t < d → ook k (wrap64 (f + ((i + t : Nat) : Int))) c = false) → ook k (wrap64 (f + ((i + d : Nat) : Int))) c = true → fcn k c f m i = wrap64 (f + ((i + d : Nat) : Int)) := by
  intro m
  induction m with
  | zero => intro i d h; omega
  | succ m ih =>
    intro i d hd hn hy
    show (if ook k (wrap64 (f + (i : Int))) c = true then wrap64 (f + (i : Int)) else fcn k c f m (i + 1)) = _
    cases d with
    | zero => rw [Nat.add_zero] at hy; rw [if_pos hy, Nat.add_zero]
    | succ d =>
      have h0 := hn 0 (by omega)
      rw [Nat.add_zero] at h0
      rw [if_neg (by rw [h0]; decide)]
      have := ih (i + 1) d (by omega) (fun t ht => by have := hn (t + 1) (by omega); rwa [show i + (t + 1) = i + 1 + t by omega] at this) (by rwa [show i + 1 + d = i + (d + 1) by omega])
      rw [this, show i + 1 + d = i + (d + 1) by omega]
theorem fcn_none {k : Int} {c : List Int} {f : Int} : ∀ (m i : Nat), (∀ t, t < m → ook k (wrap64 (f + ((i + t : Nat) : Int))) c = false) → fcn k c f m i = -1 := by
  intro m
  induction m with
  | zero => intro i _; rfl
  | succ m ih =>
    intro i hn
    show (if ook k (wrap64 (f + (i : Int))) c = true then wrap64 (f + (i : Int)) else fcn k c f m (i + 1)) = _
    have h0 := hn 0 (by omega)
    rw [Nat.add_zero] at h0
    rw [if_neg (by rw [h0]; decide)]
    exact ih (i + 1) (fun t ht => by have := hn (t + 1) (by omega); rwa [show i + (t + 1) = i + 1 + t by omega] at this)
theorem fcnt_found {k f n : Int} {c : List Int} {j : Nat} (hj : j < min n.toNat 100) (hn : ∀ t : Nat, t < j → ook k (wrap64 (f + (t : Int))) c = false) (hy : ook k (wrap64 (f + (j : Int))) c = true) : fcnt k c f n = wrap64 (f + (j : Int)) := by
  have := fcn_found (k := k) (c := c) (f := f) (min n.toNat 100) 0 j hj (fun t ht => by rw [Nat.zero_add]; exact hn t ht) (by rw [Nat.zero_add]; exact hy)
  rwa [Nat.zero_add] at this
theorem fcnt_none {k f n : Int} {c : List Int} (hn : ∀ t : Nat, t < min n.toNat 100 → ook k (wrap64 (f + (t : Int))) c = false) : fcnt k c f n = -1 :=
  fcn_none (min n.toNat 100) 0 (fun t ht => by rw [Nat.zero_add]; exact hn t ht)
theorem wf_wrap64 (x : Int) : (Lit.int .i64 (wrap64 x)).wf = true := wf_i64_of (by unfold wrap64; omega) (by unfold wrap64; omega)

end Go.Proofs.YtjbkhbbchacooaaGreatDoor
