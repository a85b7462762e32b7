/- Sealed cells: what the program reads behind a cell's check value, and the cell unsealed: the plain message or the error closedCell. No conditions but numbers that a machine holds. -/
import Derived.Test.YtlhpjfhglkngfaaDoorCl1
import Derived.Test.YtlhpjfhglkngfaaDoorBa8
import Derived.Test.YtlhpjfhglkngfaaDoorBbC
import Derived.Test.YtlhpjfhglkngfaaDoorBcX
import Derived.Test.YtlhpjfhglkngfaaDoorCry6
import Derived.Test.YtlhpjfhglkngfaaDoorHeldL
import Derived.BigQuiet
import Derived.Deep.RegionWith
import Derived.Deep.RegionHeld3
namespace Go.Proofs.YtlhpjfhglkngfaaDoor
open Go Go.RowKit
set_option linter.unusedVariables false
attribute [local irreducible] kh kid

set_option maxHeartbeats 4000000 in
/-- impl.readPlain. -/
theorem rdp_any {lim : Nat} {w : World} {v : Value} {zs : List Int} (h : Rd lim .u8 w v zs) (hlim : lim ≤ w.heap.size) (hl : zs.length = 20) :
    Calls Tryd.prog 87 #[v] w fun e w' =>
      (okp zs = true ∧ (∃ v', e = .returned (.tuple #[.agg #[.int .i64 (zs.getD 0 0), v'], .nilIface]) ∧ Own 5 .u8 w.heap.size w' v' ((zs.drop 2).take (zs.getD 1 0).toNat)) ∧ Below w.heap.size w w') ∨
      (okp zs = false ∧ (∃ s, e = .returned (.tuple #[.agg #[.int .i64 0, .slice none 0 0], .iface 95 (.agg #[.string s, .bool false])])) ∧ Below w.heap.size w w') := by
  obtain ⟨i0, hi, hz0, hz1, hz2⟩ := info_parts infou8
  have Hhi := Lib.hid hi
  obtain ⟨p, cap, rfl, g1, g2, hc⟩ := h.open
  rw [hl] at h g1 hc ⊢
  obtain ⟨bk, o, rfl, hbk, hcell⟩ := hc (by omega)
  have b1 := (Below.refl w.heap.size w).alloc (Nat.le_refl _) (.cells #[.int .i64 0, .slice none 0 0] 52)
  have c1 := heap_alloc_new w (.cells #[.int .i64 0, .slice none 0 0] 52)
  have k0 := blk_cell c1 0
  have k1 := blk_cell c1 1
  rw [pc0] at k0
  rw [pc1] at k1
  obtain ⟨W, hW⟩ : ∃ W, W = w.alloc (.cells #[.int .i64 0, .slice none 0 0] 52) := ⟨_, rfl⟩
  rw [← hW] at b1 c1 k0 k1
  have HW := Lib.hid hW
  have d0 := hcell W (b1.mono hlim) 0 (by omega)
  have d1 := hcell W (b1.mono hlim) 1 (by omega)
  rw [Nat.add_zero] at d0
  have hz := wf_u8 (h.wf (i := 0) (by omega))
  have hy := wf_u8 (h.wf (i := 1) (by omega))
  have hdf : okp zs = (decide (zs.getD 0 0 ≤ 3) && decide (zs.getD 1 0 ≤ 14)) := rfl
  obtain ⟨z, hze⟩ : ∃ z, z = zs.getD 0 0 := ⟨_, rfl⟩
  obtain ⟨y, hye⟩ : ∃ y, y = zs.getD 1 0 := ⟨_, rfl⟩
  rw [← hze] at d0 hz hdf ⊢
  rw [← hye] at d1 hy hdf ⊢
  have HB := Lib.hid b1
  have HC := Lib.hid c1
  have H := Lib.hid h
  have HL := Lib.hid hl
  clear hi h hc hcell hW b1 c1 hze hye hl
  by_cases h3 : z ≤ 3
  · by_cases h14 : y ≤ 14
    · have HT : Hid (okp zs = true) := Lib.hid (by rw [hdf, decide_eq_true h3, decide_eq_true h14]; rfl)
      have e1 : decide ((3 : Int) < z) = false := by simp; omega
      have e2 : decide ((14 : Int) < y) = false := by simp; omega
      obtain ⟨n, hn⟩ : ∃ n : Nat, y = (n : Int) := ⟨y.toNat, by omega⟩
      subst hn
      have hn14 : n ≤ 14 := by omega
      have HG : Hid (2 + n ≤ zs.length) := Lib.hid (by rw [HL.out]; omega)
      have HR := Lib.hid ((H.out.behind (HB.out.drew.mono hlim)).mono (l' := lim) (Nat.le_refl _))
      have HLt : Hid (((zs.drop 2).take n).length ≤ 20) := Lib.hid (by rw [List.length_take, List.length_drop, HL.out]; omega)
      clear hdf h3 h14
      go_enter Tryd.func87, Tryd.ntmps87
      go_wp2_with fail
      rw [← HW.out]
      go_quiet (fail)
      obtain ⟨W2, hW2⟩ : ∃ W2, W2 = W.drewN nq := ⟨_, rfl⟩
      rw [← hW2]
      have HB2 : Hid (Below w.heap.size w W2) := Lib.hid (by rw [hW2]; exact HB.out.trans (below_drewN ⟨_, rfl⟩))
      have HC2 : Hid (W2.heap[w.heap.size]? = some (.cells #[.int .i64 0, .slice none 0 0] 52)) := Lib.hid (by rw [hW2]; exact HC.out)
      have HR2 : Hid (Rd lim .u8 W2 (.slice (some ⟨bk, o, none⟩) 20 cap) zs) := Lib.hid (by rw [hW2]; exact HR.out)
      have HS2 : Hid (W.heap.size ≤ W2.heap.size ∧ w.heap.size < W2.heap.size) := Lib.hid (by rw [hW2]; exact ⟨Nat.le_refl _, lt_of_block HC.out⟩)
      clear d0 d1 k0 k1 hW2
      go_wp2_with (first | (refine slice_rd _ rfl _ _ _ i0 Tryd.underlying22 Hhi.out hz1 rfl HR2.out _ _ rfl rfl rfl HG.out ?_; intro u5 hu5; have HU := Lib.hid hu5; clear hu5))
      refine (copyBytes_any HU.out (Nat.le_trans hlim HB2.out.size) (by have := HLt.out; omega)).mono ?_
      rintro e w7 ⟨v7, rfl, h7, hb7⟩
      obtain ⟨a7, c7, hv7, _⟩ := h7.open
      obtain ⟨L7, hL7⟩ : ∃ L, L = ((zs.drop 2).take n).length := ⟨_, rfl⟩
      rw [← hL7] at hv7
      subst hv7
      have hc7 : w7.heap[w.heap.size]? = some (.cells #[.int .i64 0, .slice none 0 0] 52) := (hb7.block _ (lt_of_block HC2.out)).trans HC2.out
      obtain ⟨q0, q1, f0, f1⟩ := pcs hc7
      obtain ⟨r, rg⟩ := pst hc7 (.int .i64 z) (.slice a7 L7 c7)
      obtain ⟨r0, r1, _, _⟩ := pcs r
      have h8 := h7.kept rg (by right; intro hk; have h9 := h7.lt _ hk; have := HS2.out.2; omega)
      have H8 := Lib.hid (h8.mono HB2.out.size)
      have hb8 := HB2.out.trans (hb7.mono HB2.out.size)
      have B8 := Lib.hid (hb8.grown rg hb8.size (fun k hk => by injection hk with hk; omega))
      clear hc7 h7 hb7 h8 rg r hL7 hb8
      go_wp2_with fail
      exact bodyPost_ret (v := .tuple #[.agg #[.int .i64 z, .slice a7 L7 c7], .nilIface]) (by simp [results, Tryd.results87, go_sem, r0, r1]) rfl (Or.inl ⟨HT.out, ⟨_, rfl, H8.out⟩, B8.out⟩)
    · have HT : Hid (okp zs = false) := Lib.hid (by rw [hdf, decide_eq_false h14]; simp)
      have e1 : decide ((3 : Int) < z) = false := by simp; omega
      have e2 : decide ((14 : Int) < y) = true := by simp; omega
      clear hdf h3 h14
      go_enter Tryd.func87, Tryd.ntmps87
      go_wp2_with fail
      rw [← HW.out]
      go_quiet (fail)
      obtain ⟨W2, hW2⟩ : ∃ W2, W2 = W.drewN nq := ⟨_, rfl⟩
      rw [← hW2]
      have HB2 : Hid (Below w.heap.size w W2) := Lib.hid (by rw [hW2]; exact HB.out.trans (below_drewN ⟨_, rfl⟩))
      have HC2 : Hid (W2.heap[w.heap.size]? = some (.cells #[.int .i64 0, .slice none 0 0] 52)) := Lib.hid (by rw [hW2]; exact HC.out)
      obtain ⟨_, _, f0, f1⟩ := pcs HC2.out
      obtain ⟨r, rg⟩ := pst HC2.out (.int .i64 0) (.slice none 0 0)
      obtain ⟨r0, r1, _, _⟩ := pcs r
      have B8 := Lib.hid (HB2.out.grown rg HB2.out.size (fun k hk => by injection hk with hk; omega))
      clear r rg d0 d1 k0 k1 hW2
      go_wp2_with fail
      exact bodyPost_ret (v := .tuple #[.agg #[.int .i64 0, .slice none 0 0], .iface 95 (.agg #[.string ⟨#[98, 111, 100, 121, 32, 116, 111, 111, 32, 108, 111, 110, 103]⟩, .bool false])]) (by simp [results, Tryd.results87, go_sem, r0, r1]) rfl (Or.inr ⟨HT.out, ⟨_, rfl⟩, B8.out⟩)
  · have HT : Hid (okp zs = false) := Lib.hid (by rw [hdf, decide_eq_false h3]; simp)
    have e1 : decide ((3 : Int) < z) = true := by simp; omega
    clear hdf h3
    go_enter Tryd.func87, Tryd.ntmps87
    go_wp2_with fail
    rw [← HW.out]
    go_quiet (fail)
    obtain ⟨W2, hW2⟩ : ∃ W2, W2 = W.drewN nq := ⟨_, rfl⟩
    rw [← hW2]
    have HB2 : Hid (Below w.heap.size w W2) := Lib.hid (by rw [hW2]; exact HB.out.trans (below_drewN ⟨_, rfl⟩))
    have HC2 : Hid (W2.heap[w.heap.size]? = some (.cells #[.int .i64 0, .slice none 0 0] 52)) := Lib.hid (by rw [hW2]; exact HC.out)
    obtain ⟨_, _, f0, f1⟩ := pcs HC2.out
    obtain ⟨r, rg⟩ := pst HC2.out (.int .i64 0) (.slice none 0 0)
    obtain ⟨r0, r1, _, _⟩ := pcs r
    have B8 := Lib.hid (HB2.out.grown rg HB2.out.size (fun k hk => by injection hk with hk; omega))
    clear r rg d0 d1 k0 k1 hW2
    go_wp2_with fail
    exact bodyPost_ret (v := .tuple #[.agg #[.int .i64 0, .slice none 0 0], .iface 95 (.agg #[.string ⟨#[117, 110, 107, 110, 111, 119, 110, 32, 107, 105, 110, 100]⟩, .bool false])]) (by simp [results, Tryd.results87, go_sem, r0, r1]) rfl (Or.inr ⟨HT.out, ⟨_, rfl⟩, B8.out⟩)

theorem ook_bad {k : Int} {zs : List Int} (h : inR k 1 2147483646 = false ∨ zs.length ≠ 24) : ∀ m, ook k m zs = false := by
  intro m
  unfold ook
  rcases h with h | h
  · rw [h]; rfl
  · rw [decide_eq_false h]; simp
theorem ook_n {k n : Int} {zs : List Int} (h : inR n 0 1000000000000 = false) : ook k n zs = false := by unfold ook; rw [h]; simp
theorem ook_c {k n : Int} {zs : List Int} (h : okc k n zs = false) : ook k n zs = false := by unfold ook; rw [h]; simp
theorem ook_p {k n : Int} {zs : List Int} (h : okp (decL k n zs) = false) : ook k n zs = false := by unfold ook; rw [h]; simp
theorem ook_yes {k n : Int} {zs : List Int} (h1 : inR k 1 2147483646 = true) (h2 : inR n 0 1000000000000 = true) (h3 : zs.length = 24) (h4 : okc k n zs = true) (h5 : okp (decL k n zs) = true) : ook k n zs = true := by
  unfold ook; rw [h1, h2, h4, h5, decide_eq_true h3]; rfl
theorem ocK_yes {k n : Int} {zs : List Int} (h : ook k n zs = true) : ocK k n zs = (decL k n zs).getD 0 0 := if_pos h
theorem ocB_yes {k n : Int} {zs : List Int} (h : ook k n zs = true) : ocB k n zs = ((decL k n zs).drop 2).take ((decL k n zs).getD 1 0).toNat := if_pos h
theorem okc_sym (k n : Int) (zs : List Int) : (zs.drop 20 == le4 (chkv k n (zs.take 20))) = okc k n zs := by
  unfold okc
  by_cases h : zs.drop 20 = le4 (chkv k n (zs.take 20))
  · rw [h]
  · rw [beq_eq_false_iff_ne.2 h, beq_eq_false_iff_ne.2 (Ne.symm h)]
/-- impl.isCell. -/
theorem cell_any' {w : World} {a : Option Addr} {n cap : Nat} : Calls Tryd.prog 86 #[.slice a n cap] w fun e w' => e = .returned (.bool ((n : Int) == 24)) ∧ w' = w := by
  go_enter Tryd.func86, Tryd.ntmps86
  go_wp2_with fail
  go_ret
  exact ⟨rfl, rfl⟩

set_option maxRecDepth 20000 in
set_option maxHeartbeats 4000000 in
/-- impl.unseal. -/
theorem uns_any {lim : Nat} {w : World} {v : Value} {zs : List Int} {k n : Int} (h : Rd lim .u8 w v zs) (hlim : lim ≤ w.heap.size) (hk : (Lit.int .i64 k).wf = true) (hn : (Lit.int .i64 n).wf = true) :
    Calls Tryd.prog 79 #[.int .i64 k, .int .i64 n, v] w fun e w' =>
      (ook k n zs = true ∧ (∃ v', e = .returned (.tuple #[.agg #[.int .i64 (ocK k n zs), v'], .nilIface]) ∧ Own 5 .u8 w.heap.size w' v' (ocB k n zs)) ∧ Below w.heap.size w w') ∨
      (ook k n zs = false ∧ (∃ s q, e = .returned (.tuple #[.agg #[.int .i64 0, .slice none 0 0], .iface 95 (.agg #[.string s, .bool q])]) ∧ (q = true → ∀ m, ook k m zs = false)) ∧ Below w.heap.size w w') := by
  obtain ⟨i0, hi, hz0, hz1, hz2⟩ := info_parts infou8
  have Hhi := Lib.hid hi
  have HK := Lib.hid hk
  have HN := Lib.hid hn
  obtain ⟨p, cap, rfl, g1, g2, hc⟩ := h.open
  have b1 := (Below.refl w.heap.size w).alloc (Nat.le_refl _) (.cells #[.int .i64 0, .slice none 0 0] 52)
  have c1 := heap_alloc_new w (.cells #[.int .i64 0, .slice none 0 0] 52)
  obtain ⟨W, hW⟩ : ∃ W, W = w.alloc (.cells #[.int .i64 0, .slice none 0 0] 52) := ⟨_, rfl⟩
  rw [← hW] at b1 c1
  have HW := Lib.hid hW
  have HB := Lib.hid b1
  have HC := Lib.hid c1
  have H := Lib.hid (h.behind (b1.mono hlim))
  have Hc := Lib.hid hc
  have h0 := Lib.hid h.u8s
  have hlb := h.len
  unfold maxLen at hlb g2
  clear hi h hc hW b1 c1 hk hn
  cases h1 : inR k 1 2147483646 with
  | false =>
    have H1 := Lib.hid h1
    have HT := Lib.hid (ook_bad (zs := zs) (Or.inl h1))
    obtain ⟨_, _, f0, f1⟩ := pcs HC.out
    obtain ⟨r, rg⟩ := pst HC.out (.int .i64 0) (.slice none 0 0)
    obtain ⟨r0, r1, _, _⟩ := pcs r
    have B8 := Lib.hid (HB.out.grown rg HB.out.size (fun k hk => by injection hk with hk; omega))
    clear h1 r rg
    go_enter Tryd.func79, Tryd.ntmps79
    go_wp2_with fail
    rw [← HW.out]
    refine (impl_vk HK.out).mono ?_
    rw [H1.out]
    rintro e w1 ⟨rfl, hw⟩
    obtain rfl : W = w1 := hw.symm
    go_wp2_with fail
    exact bodyPost_ret (v := .tuple #[.agg #[.int .i64 0, .slice none 0 0], .iface 95 (.agg #[.string ⟨#[105, 110, 118, 97, 108, 105, 100, 32, 107, 101, 121]⟩, .bool true])]) (by simp [results, Tryd.results79, go_sem, r0, r1]) rfl (Or.inr ⟨HT.out n, ⟨_, _, rfl, fun _ => HT.out⟩, B8.out⟩)
  | true =>
    have H1 := Lib.hid h1
    cases h2 : inR n 0 1000000000000 with
    | false =>
      have H2 := Lib.hid h2
      have HT := Lib.hid (ook_n (k := k) (zs := zs) h2)
      obtain ⟨_, _, f0, f1⟩ := pcs HC.out
      obtain ⟨r, rg⟩ := pst HC.out (.int .i64 0) (.slice none 0 0)
      obtain ⟨r0, r1, _, _⟩ := pcs r
      have B8 := Lib.hid (HB.out.grown rg HB.out.size (fun k hk => by injection hk with hk; omega))
      clear h1 h2 r rg
      go_enter Tryd.func79, Tryd.ntmps79
      go_wp2_with fail
      rw [← HW.out]
      refine (impl_vk HK.out).mono ?_
      rw [H1.out]
      rintro e w1 ⟨rfl, hw⟩
      obtain rfl : W = w1 := hw.symm
      go_wp2_with fail
      refine (isCounter_any HN.out).mono ?_
      rw [H2.out]
      rintro e w1 ⟨rfl, hw⟩
      obtain rfl : W = w1 := hw.symm
      go_wp2_with fail
      exact bodyPost_ret (v := .tuple #[.agg #[.int .i64 0, .slice none 0 0], .iface 95 (.agg #[.string ⟨#[105, 110, 118, 97, 108, 105, 100, 32, 99, 111, 117, 110, 116, 101, 114]⟩, .bool false])]) (by simp [results, Tryd.results79, go_sem, r0, r1]) rfl (Or.inr ⟨HT.out, ⟨_, _, rfl, fun h => by cases h⟩, B8.out⟩)
    | true =>
      have H2 := Lib.hid h2
      by_cases h3 : zs.length = 24
      case neg =>
        have HT := Lib.hid (ook_bad (k := k) (Or.inr h3))
        have e3 : ((zs.length : Int) == 24) = false := beq_eq_false_iff_ne.2 (by omega)
        obtain ⟨_, _, f0, f1⟩ := pcs HC.out
        obtain ⟨r, rg⟩ := pst HC.out (.int .i64 0) (.slice none 0 0)
        obtain ⟨r0, r1, _, _⟩ := pcs r
        have B8 := Lib.hid (HB.out.grown rg HB.out.size (fun k hk => by injection hk with hk; omega))
        have E3 := Lib.hid e3
        clear h1 h2 h3 r rg e3
        go_enter Tryd.func79, Tryd.ntmps79
        go_wp2_with fail
        rw [← HW.out]
        refine (impl_vk HK.out).mono ?_
        rw [H1.out]
        rintro e w1 ⟨rfl, hw⟩
        obtain rfl : W = w1 := hw.symm
        go_wp2_with fail
        refine (isCounter_any HN.out).mono ?_
        rw [H2.out]
        rintro e w1 ⟨rfl, hw⟩
        obtain rfl : W = w1 := hw.symm
        go_wp2_with fail
        refine (cell_any').mono ?_
        rw [E3.out]
        rintro e w1 ⟨rfl, hw⟩
        obtain rfl : W = w1 := hw.symm
        go_wp2_with fail
        exact bodyPost_ret (v := .tuple #[.agg #[.int .i64 0, .slice none 0 0], .iface 95 (.agg #[.string ⟨#[110, 111, 116, 32, 116, 104, 101, 32, 115, 105, 122, 101, 32, 111, 102, 32, 97, 32, 99, 101, 108, 108]⟩, .bool true])]) (by simp [results, Tryd.results79, go_sem, r0, r1]) rfl (Or.inr ⟨HT.out n, ⟨_, _, rfl, fun _ => HT.out⟩, B8.out⟩)
      have HL := Lib.hid h3
      obtain ⟨bk, o, rfl, hbk, hcell⟩ := Hc.out (by omega)
      clear hcell Hc
      have e3 : ((24 : Int) == 24) = true := rfl
      have HX := Lib.hid (chkv_bound k n (zs.take 20))
      have HQW := Lib.hid (ckey_wf k n)
      obtain ⟨q, hq⟩ : ∃ q, q = ckey k n := ⟨_, rfl⟩
      rw [← hq] at HQW
      have HQ := Lib.hid hq
      have h20 : Hid ((zs.take 20).length = 20) := Lib.hid (by rw [List.length_take, h3]; rfl)
      replace H := H.out
      rw [h3] at H g1 ⊢
      have hg20 : 20 ≤ cap := by omega
      have hs1 := H.sliced (l := 0) (n := 20) (by omega)
      have hs2 := H.sliced (l := 20) (n := 4) (by omega)
      rw [List.drop_zero] at hs1
      rw [List.take_of_length_le (by rw [List.length_drop]; omega)] at hs2
      obtain ⟨u1, hu1⟩ : ∃ u, u = Go.sliced (some ⟨bk, o, none⟩) 0 20 cap 1 := ⟨_, rfl⟩
      obtain ⟨u2, hu2⟩ : ∃ u, u = Go.sliced (some ⟨bk, o, none⟩) 20 24 cap 1 := ⟨_, rfl⟩
      rw [show (0 + 20 : Nat) = 20 from rfl, ← hu1] at hs1
      rw [show (20 + 4 : Nat) = 24 from rfl, ← hu2] at hs2
      obtain ⟨ua1, uc1, hv1, _⟩ := hs1.open
      rw [h20.out] at hv1
      obtain ⟨ua2, uc2, hv2, _⟩ := hs2.open
      have h24 : (zs.drop 20).length = 4 := by rw [List.length_drop]; omega
      rw [h24] at hv2
      have S1 := Lib.hid (hs1.drew)
      have S2 := Lib.hid (hs2.drew)
      have U1 := Lib.hid hu1
      have U2 := Lib.hid hu2
      have HWd := Lib.hid (HB.out.drew)
      have HCd : Hid (W.drew.heap[w.heap.size]? = some (.cells #[.int .i64 0, .slice none 0 0] 52)) := Lib.hid HC.out
      have HZ20 := Lib.hid (show U8s (zs.take 20) from fun z hz => h0.out z (List.mem_of_mem_take hz))
      have HZ24 := Lib.hid (show U8s (zs.drop 20) from fun z hz => h0.out z (List.mem_of_mem_drop hz))
      clear h1 h2 hq h3 H hs1 hs2 h24 hu1 hu2
      go_enter Tryd.func79, Tryd.ntmps79
      go_wp2_with fail
      rw [← HW.out]
      refine (impl_vk HK.out).mono ?_
      rw [H1.out]
      rintro e w1 ⟨rfl, hw⟩
      obtain rfl : W = w1 := hw.symm
      go_wp2_with fail
      refine (isCounter_any HN.out).mono ?_
      rw [H2.out]
      rintro e w1 ⟨rfl, hw⟩
      obtain rfl : W = w1 := hw.symm
      go_wp2_with fail
      refine (cell_any').mono ?_
      rintro e w1 ⟨rfl, hw⟩
      obtain rfl : W = w1 := hw.symm
      go_wp2_with fail
      refine region_till (fun _ => True) 5 (by kernel_rfl) ?_
      apply Till.take (i := 0) [0, 1, 4, 5]
      · simp only [List.getElem?_toArray, List.getElem?_cons_zero]
        rfl
      · kernel_rfl
      · kernel_rfl
      · kernel_rfl
      · kernel_rfl
      · exact fun _ _ _ h => h
      · first
          | exact Or.inr ⟨by rfl, rfl⟩
          | (refine Or.inl ⟨by rfl, fun wq hwq => ?_⟩
             dsimp only at hwq
             go_simp
             first
               | done
               | rfl)
      · trivial
      simp only [Act.put, List.setIfInBounds_toArray, List.set_cons_zero, List.set_cons_succ]
      apply Till.take (i := 1) (v := Go.sliced (some ⟨bk, o, none⟩) 0 20 cap 1) [1, 4, 5]
      · simp only [List.getElem?_toArray, List.getElem?_cons_succ, List.getElem?_cons_zero]
        rfl
      · kernel_rfl
      · kernel_rfl
      · kernel_rfl
      · kernel_rfl
      · exact fun _ _ _ h => h
      · refine Or.inl ⟨by rfl, fun _ _ => ?_⟩
        exact run_slice_op_h _ 22 _ 5 i0 Tryd.underlying22 Hhi.out hz1 (n := 20) _ rfl rfl rfl hg20
      · trivial
      simp only [Act.put, List.setIfInBounds_toArray, List.set_cons_zero, List.set_cons_succ]
      rw [← U1.out, hv1]
      apply Till.take (i := 2) [2, 3, 5]
      · simp only [List.getElem?_toArray, List.getElem?_cons_succ, List.getElem?_cons_zero]
        rfl
      · kernel_rfl
      · kernel_rfl
      · kernel_rfl
      · kernel_rfl
      · exact fun _ _ _ h => h
      · first
          | exact Or.inr ⟨by rfl, rfl⟩
          | (refine Or.inl ⟨by rfl, fun wq hwq => ?_⟩
             dsimp only at hwq
             go_simp
             first
               | done
               | rfl)
      · trivial
      simp only [Act.put, List.setIfInBounds_toArray, List.set_cons_zero, List.set_cons_succ]
      apply Till.take (i := 3) (v := Go.sliced (some ⟨bk, o, none⟩) 20 24 cap 1) [3, 5]
      · simp only [List.getElem?_toArray, List.getElem?_cons_succ, List.getElem?_cons_zero]
        rfl
      · kernel_rfl
      · kernel_rfl
      · kernel_rfl
      · kernel_rfl
      · exact fun _ _ _ h => h
      · refine Or.inl ⟨by rfl, fun _ _ => ?_⟩
        exact run_slice_op_l _ 22 _ 5 i0 Tryd.underlying22 Hhi.out hz1 (n := 20) _ rfl rfl rfl (by decide)
      · trivial
      simp only [Act.put, List.setIfInBounds_toArray, List.set_cons_zero, List.set_cons_succ]
      rw [← U2.out, hv2]
      apply Till.one (i := 4)
      · kernel_rfl
      · simp only [List.getElem?_toArray, List.getElem?_cons_succ, List.getElem?_cons_zero]
        rfl
      intro K hK
      go_simp
      skip
      refine hK.out _ _ (Or.inr trivial) ?_
      clear hK K
      try simp only [Act.put, List.setIfInBounds_toArray, List.set_cons_zero, List.set_cons_succ]
      apply Till.one (i := 5)
      · kernel_rfl
      · simp only [List.getElem?_toArray, List.getElem?_cons_succ, List.getElem?_cons_zero]
        rfl
      intro K hK
      go_simp
      skip
      refine hK.out _ _ (Or.inl (by rfl)) ?_
      clear hK K
      try simp only [Act.put, List.setIfInBounds_toArray, List.set_cons_zero, List.set_cons_succ]
      refine Till.done (by kernel_rfl) ?_ _
      obtain ⟨W2, hW2⟩ : ∃ W2, W2 = W.drew := ⟨_, rfl⟩
      rw [← hW2] at S1 S2 HWd HCd ⊢
      replace S1 := S1.out
      replace S2 := S2.out
      rw [hv1] at S1
      rw [hv2] at S2
      replace S1 := Lib.hid S1
      replace S2 := Lib.hid S2
      clear hW2 hv1 hv2 U1 U2
      go_wp2_with fail
      refine (impl_co S1.out (Nat.le_trans hlim HWd.out.size) HK.out HN.out (by rw [h20.out]; omega)).mono ?_
      rintro e w3 ⟨v3, rfl, h3, hb⟩
      obtain ⟨a3, c3, hv3, _⟩ := h3.open
      rw [le4_len] at hv3
      subst hv3
      have R3 := Lib.hid h3.rd
      replace S1 := Lib.hid (S1.out.behind (hb.mono (Nat.le_trans hlim HWd.out.size)))
      replace S2 := Lib.hid (S2.out.behind (hb.mono (Nat.le_trans hlim HWd.out.size)))
      replace HCd := Lib.hid ((hb.block _ (lt_of_block HCd.out)).trans HCd.out)
      replace HWd := Lib.hid (HWd.out.trans (hb.mono HWd.out.size))
      clear hb h3
      go_wp2_with fail
      refine (impl_eb S2.out R3.out).mono ?_
      rw [strEq HZ24.out (le4_u8 _), okc_sym]
      clear R3
      cases h4 : okc k n zs with
      | false =>
        rintro e w4 ⟨rfl, hw⟩
        obtain rfl : w3 = w4 := hw.symm
        have HT := Lib.hid (ook_c h4)
        obtain ⟨_, _, f0, f1⟩ := pcs HCd.out
        obtain ⟨r, rg⟩ := pst HCd.out (.int .i64 0) (.slice none 0 0)
        obtain ⟨r0, r1, _, _⟩ := pcs r
        have B8 := Lib.hid (HWd.out.grown rg HWd.out.size (fun k hk => by injection hk with hk; omega))
        clear h4 r rg
        go_wp2_with fail
        exact bodyPost_ret (v := .tuple #[.agg #[.int .i64 0, .slice none 0 0], .iface 95 (.agg #[.string ⟨#[119, 114, 111, 110, 103, 32, 99, 104, 101, 99, 107, 32, 118, 97, 108, 117, 101]⟩, .bool false])]) (by simp [results, Tryd.results79, go_sem, r0, r1]) rfl (Or.inr ⟨HT.out, ⟨_, _, rfl, fun h => by cases h⟩, B8.out⟩)
      | true =>
        rintro e w4 ⟨rfl, hw⟩
        obtain rfl : w3 = w4 := hw.symm
        have H4 := Lib.hid h4
        clear h4
        go_wp2_with fail
        refine (impl_ck HK.out HN.out).mono ?_
        rw [← HQ.out]
        rintro e w5 ⟨rfl, hb⟩
        replace S1 := Lib.hid (S1.out.behind (hb.mono (Nat.le_trans hlim HWd.out.size)))
        replace HCd := Lib.hid ((hb.block _ (lt_of_block HCd.out)).trans HCd.out)
        replace HWd := Lib.hid (HWd.out.trans (hb.mono HWd.out.size))
        clear hb
        go_wp2_with fail
        refine (impl_de S1.out (Nat.le_trans hlim HWd.out.size) HQW.out (by rw [h20.out]; omega)).mono ?_
        have HDL : Hid (dez q (zs.take 20) = decL k n zs) := Lib.hid (by rw [HQ.out]; rfl)
        rw [HDL.out]
        rintro e w6 ⟨v6, rfl, h6, hb⟩
        have HD20 : Hid ((decL k n zs).length = 20) := Lib.hid (by unfold decL; rw [dez_len]; exact h20.out)
        obtain ⟨a6, c6, hv6, _⟩ := h6.open
        rw [HD20.out] at hv6
        subst hv6
        have R6 := Lib.hid h6.rd
        replace HCd := Lib.hid ((hb.block _ (lt_of_block HCd.out)).trans HCd.out)
        replace HWd := Lib.hid (HWd.out.trans (hb.mono HWd.out.size))
        clear hb h6 S1 S2
        go_wp2_with fail
        refine (rdp_any R6.out (Nat.le_refl _) HD20.out).mono ?_
        clear R6 HDL
        rintro e w7 (⟨hp, ⟨v7, rfl, h7⟩, hb⟩ | ⟨hp, ⟨s7, rfl⟩, hb⟩)
        · have HT := Lib.hid (ook_yes H1.out H2.out HL.out H4.out hp)
          have HE1 := Lib.hid (ocK_yes HT.out)
          rw [← ocB_yes HT.out] at h7
          obtain ⟨kd, hkd⟩ : ∃ x, x = (decL k n zs).getD 0 0 := ⟨_, rfl⟩
          rw [← hkd] at HE1 ⊢
          obtain ⟨L7, hL7⟩ : ∃ L, L = (ocB k n zs).length := ⟨_, rfl⟩
          obtain ⟨a7, c7, hv7, _⟩ := h7.open
          rw [← hL7] at hv7
          subst hv7
          have hc7 : w7.heap[w.heap.size]? = some (.cells #[.int .i64 0, .slice none 0 0] 52) := (hb.block _ (lt_of_block HCd.out)).trans HCd.out
          obtain ⟨q0, q1, f0, f1⟩ := pcs hc7
          obtain ⟨r, rg⟩ := pst hc7 (.int .i64 kd) (.slice a7 L7 c7)
          obtain ⟨r0, r1, _, _⟩ := pcs r
          have h8 := h7.kept rg (by right; intro hk; have h9 := h7.lt _ hk; have := lt_of_block HCd.out; omega)
          have H8 := Lib.hid (h8.mono HWd.out.size)
          have hb8 := HWd.out.trans (hb.mono HWd.out.size)
          have B8 := Lib.hid (hb8.grown rg hb8.size (fun k hk => by injection hk with hk; omega))
          clear hc7 h7 hb h8 rg r hL7 hb8 hkd hp HCd HWd
          go_wp2_with fail
          exact bodyPost_ret (v := .tuple #[.agg #[.int .i64 kd, .slice a7 L7 c7], .nilIface]) (by simp [results, Tryd.results79, go_sem, r0, r1]) rfl (Or.inl ⟨HT.out, ⟨_, by rw [HE1.out], H8.out⟩, B8.out⟩)
        · have HT := Lib.hid (ook_p (k := k) (n := n) (zs := zs) hp)
          have hc7 : w7.heap[w.heap.size]? = some (.cells #[.int .i64 0, .slice none 0 0] 52) := (hb.block _ (lt_of_block HCd.out)).trans HCd.out
          obtain ⟨q0, q1, f0, f1⟩ := pcs hc7
          obtain ⟨r, rg⟩ := pst hc7 (.int .i64 0) (.slice none 0 0)
          obtain ⟨r0, r1, _, _⟩ := pcs r
          have hb8 := HWd.out.trans (hb.mono HWd.out.size)
          have B8 := Lib.hid (hb8.grown rg hb8.size (fun k hk => by injection hk with hk; omega))
          clear hc7 hb rg r hb8 hp HCd HWd
          go_wp2_with fail
          exact bodyPost_ret (v := .tuple #[.agg #[.int .i64 0, .slice none 0 0], .iface 95 (.agg #[.string s7, .bool false])]) (by simp [results, Tryd.results79, go_sem, r0, r1]) rfl (Or.inr ⟨HT.out, ⟨_, _, rfl, fun h => by cases h⟩, B8.out⟩)

end Go.Proofs.YtlhpjfhglkngfaaDoor
