/- Sealed cells: OpenCell and FindCounter of the document. No conditions but numbers that a machine holds. -/
import Derived.Test.YtjbkhbbchacooaaGreatDoorBdO
namespace Go.Proofs.YtjbkhbbchacooaaGreatDoor
open Go Go.RowKit
set_option linter.unusedVariables false
attribute [local irreducible] kh kid

theorem ocK_no' {k n : Int} {zs : List Int} (h : ook k n zs = false) : ocK k n zs = 0 := if_neg (by rw [h]; decide)
theorem ocB_no' {k n : Int} {zs : List Int} (h : ook k n zs = false) : ocB k n zs = [] := if_neg (by rw [h]; decide)
/-- Four bytes as one number. -/
theorem or4 (a b c d : Int) (ha : 0 ≤ a ∧ a ≤ 255) (hb : 0 ≤ b ∧ b ≤ 255) (hc : 0 ≤ c ∧ c ≤ 255) (hd : 0 ≤ d ∧ d ≤ 255) :
    bits .or .i64 (bits .or .i64 (bits .or .i64 a (b * 256)) (c * 65536)) (d * 16777216) = a + 256 * b + 65536 * c + 16777216 * d := by
  obtain ⟨a, rfl⟩ : ∃ n : Nat, a = n := ⟨a.toNat, by omega⟩
  obtain ⟨b, rfl⟩ : ∃ n : Nat, b = n := ⟨b.toNat, by omega⟩
  obtain ⟨c, rfl⟩ : ∃ n : Nat, c = n := ⟨c.toNat, by omega⟩
  obtain ⟨d, rfl⟩ : ∃ n : Nat, d = n := ⟨d.toNat, by omega⟩
  have h1 : a ||| b * 256 = a + b * 256 := or_high (k := 8) (a := a) (b := b) (by omega)
  have h2 : (a + b * 256) ||| c * 65536 = a + b * 256 + c * 65536 := or_high (k := 16) (a := a + b * 256) (b := c) (by omega)
  have h3 : (a + b * 256 + c * 65536) ||| d * 16777216 = a + b * 256 + c * 65536 + d * 16777216 := or_high (k := 24) (a := a + b * 256 + c * 65536) (b := d) (by omega)
  rw [show (b : Int) * 256 = ((b * 256 : Nat) : Int) from (Int.natCast_mul b 256).symm, i64_or _ _ (by omega) (by omega), h1]
  rw [show (c : Int) * 65536 = ((c * 65536 : Nat) : Int) from (Int.natCast_mul c 65536).symm, i64_or _ _ (by omega) (by omega), h2]
  rw [show (d : Int) * 16777216 = ((d * 16777216 : Nat) : Int) from (Int.natCast_mul d 16777216).symm, i64_or _ _ (by omega) (by omega), h3]
  omega
/-- x[lo : hi] at an operation. -/
theorem run_slice_op_lh {P : Program} (w : World) (t : TypeId) (x : Operand) (e : TypeId) (i : TypeInfo) (ht : P.underlying t = some (.slice e)) (hi : P.info? e = some i) (hsz : i.size = 1) {o : Oper} {a : Act} {p : Option Addr} {len cap l m : Nat}
    (lo hi' : Operand) (hop : o.op = .slice t x (some lo) (some hi') none) (hx : a.eval x = .slice p len cap) (hlo : a.eval lo = .int .i64 (l : Int)) {M : Int} (hhi : a.eval hi' = .int .i64 M) (hM : M = (m : Int)) (h1 : l ≤ m) (h2 : m ≤ cap) :
    (execOp a.eval o).run P w = .ok (.value (Go.sliced p l m cap 1)) w := by
  subst hM
  simp only [execOp, hop, Option.map_some, Option.map_none, hx, hlo, hhi]
  simp only [Sem.run_bind, Sem.run_pure, run_sliceAt_slice w t _ _ _ _ (und_elem t e ht), run_slice_lh w t p len cap (und_elem t e ht) .i64 .i64 (l : Int) (m : Int) (by omega) (by omega) (by omega), size_elem t e i ht hi hsz, Result.andThen_ok, Int.toNat_natCast]
/-- The check value is right: the number of its four bytes. -/
theorem okc_num {k n : Int} {zs : List Int} (hl : zs.length = 24) (h0 : U8s zs) : okc k n zs = decide (zs.getD 20 0 + 256 * zs.getD 21 0 + 65536 * zs.getD 22 0 + 16777216 * zs.getD 23 0 = chkv k n (zs.take 20)) := by
  have hx := chkv_bound k n (zs.take 20)
  have a0 := h0.get 20
  have a1 := h0.get 21
  have a2 := h0.get 22
  have a3 := h0.get 23
  have hd : zs.drop 20 = [zs.getD 20 0, zs.getD 21 0, zs.getD 22 0, zs.getD 23 0] := by
    rw [drop_getD (j := 20) (by omega), drop_getD (j := 20 + 1) (by omega), drop_getD (j := 20 + 1 + 1) (by omega), drop_getD (j := 20 + 1 + 1 + 1) (by omega), List.drop_of_length_le (by omega)]
  unfold okc
  rw [le4_eq, hd]
  revert hx
  generalize chkv k n (zs.take 20) = x
  revert a0 a1 a2 a3
  generalize zs.getD 20 0 = p0
  generalize zs.getD 21 0 = p1
  generalize zs.getD 22 0 = p2
  generalize zs.getD 23 0 = p3
  intro a3 a2 a1 a0 hx
  by_cases h : p0 + 256 * p1 + 65536 * p2 + 16777216 * p3 = x
  · rw [decide_eq_true h]
    have e0 : x % 256 = p0 := by omega
    have e1 : x / 256 % 256 = p1 := by omega
    have e2 : x / 65536 % 256 = p2 := by omega
    have e3 : x / 16777216 % 256 = p3 := by omega
    rw [e0, e1, e2, e3]
    simp
  · rw [decide_eq_false h]
    refine beq_eq_false_iff_ne.2 (fun hc => h ?_)
    simp only [List.cons.injEq, and_true] at hc
    omega

set_option maxRecDepth 20000 in
set_option maxHeartbeats 4000000 in
/-- spec.OpenCell. -/
theorem spec_oc {lim : Nat} {w : World} {v : Value} {zs : List Int} {k n : Int} (h : Rd lim .u8 w v zs) (hlim : lim ≤ w.heap.size) (hk : (Lit.int .i64 k).wf = true) (hn : (Lit.int .i64 n).wf = true) :
    Calls Tryz.prog 42 #[.int .i64 k, .int .i64 n, v] w fun e w' => ∃ v', e = .returned (.tuple #[.agg #[.int .i64 (ocK k n zs), v'], .bool (ook k n zs)]) ∧ Own 5 .u8 w.heap.size w' v' (ocB k n zs) ∧ Below w.heap.size w w' := by
  obtain ⟨i0, hi, hz0, hz1, hz2⟩ := info_parts infou8
  have Hhi := Lib.hid hi
  have HK := Lib.hid hk
  have HN := Lib.hid hn
  obtain ⟨p, cap, rfl, g1, g2, hc⟩ := h.open
  have b1 := (Below.refl w.heap.size w).alloc (Nat.le_refl _) (.cells #[.int .i64 0, .slice none 0 0] 55)
  have c1 := heap_alloc_new w (.cells #[.int .i64 0, .slice none 0 0] 55)
  obtain ⟨W, hW⟩ : ∃ W, W = w.alloc (.cells #[.int .i64 0, .slice none 0 0] 55) := ⟨_, rfl⟩
  rw [← hW] at b1 c1
  have HW := Lib.hid hW
  have HB := Lib.hid b1
  have HC := Lib.hid c1
  have H := Lib.hid (h.behind (b1.mono hlim))
  have Hc := Lib.hid hc
  have h0 := Lib.hid h.u8s
  have hlb := h.len
  unfold maxLen at hlb g2
  clear hi h hc hW b1 c1 hk hn
  cases h1 : inR k 1 2147483646 with
  | false =>
    have H1 := Lib.hid h1
    have HT := Lib.hid (ook_bad (zs := zs) (Or.inl h1) n)
    have HE1 := Lib.hid (ocK_no' HT.out)
    have HE2 := Lib.hid (ocB_no' HT.out)
    obtain ⟨_, _, f0, f1⟩ := pcs HC.out
    obtain ⟨r, rg⟩ := pst HC.out (.int .i64 0) (.slice none 0 0)
    obtain ⟨r0, r1, _, _⟩ := pcs r
    have B8 := Lib.hid (HB.out.grown rg HB.out.size (fun k hk => by injection hk with hk; omega))
    clear r rg
    clear h1
    go_enter Tryz.func42, Tryz.ntmps42
    go_wp2_with fail
    rw [← HW.out]
    refine (spec_vk HK.out).mono ?_
    rw [H1.out]
    rintro e w1 ⟨rfl, hw⟩
    obtain rfl : W = w1 := hw.symm
    go_wp2_with fail
    exact bodyPost_ret (v := .tuple #[.agg #[.int .i64 0, .slice none 0 0], .bool false]) (by simp [results, Tryz.results42, go_sem, r0, r1]) rfl ⟨_, by rw [HT.out, HE1.out], by rw [HE2.out]; exact Own.nil _ _ B8.out.size, B8.out⟩
  | true =>
    have H1 := Lib.hid h1
    cases h2 : inR n 0 1000000000000 with
    | false =>
      have H2 := Lib.hid h2
      have HT := Lib.hid (ook_n (k := k) (zs := zs) h2)
      have HE1 := Lib.hid (ocK_no' HT.out)
      have HE2 := Lib.hid (ocB_no' HT.out)
      obtain ⟨_, _, f0, f1⟩ := pcs HC.out
      obtain ⟨r, rg⟩ := pst HC.out (.int .i64 0) (.slice none 0 0)
      obtain ⟨r0, r1, _, _⟩ := pcs r
      have B8 := Lib.hid (HB.out.grown rg HB.out.size (fun k hk => by injection hk with hk; omega))
      clear r rg
      clear h1 h2
      go_enter Tryz.func42, Tryz.ntmps42
      go_wp2_with fail
      rw [← HW.out]
      refine (spec_vk HK.out).mono ?_
      rw [H1.out]
      rintro e w1 ⟨rfl, hw⟩
      obtain rfl : W = w1 := hw.symm
      go_wp2_with fail
      refine (spec_in _ _ _ _ HN.out).mono ?_
      rw [H2.out]
      rintro e w1 ⟨rfl, hw⟩
      obtain rfl : W = w1 := hw.symm
      go_wp2_with fail
      exact bodyPost_ret (v := .tuple #[.agg #[.int .i64 0, .slice none 0 0], .bool false]) (by simp [results, Tryz.results42, go_sem, r0, r1]) rfl ⟨_, by rw [HT.out, HE1.out], by rw [HE2.out]; exact Own.nil _ _ B8.out.size, B8.out⟩
    | true =>
      have H2 := Lib.hid h2
      by_cases h3 : zs.length = 24
      case neg =>
        have HT := Lib.hid (ook_bad (k := k) (Or.inr h3) n)
        have HE1 := Lib.hid (ocK_no' HT.out)
        have HE2 := Lib.hid (ocB_no' HT.out)
        have e3 : ((zs.length : Int) != 24) = true := by
          have : ¬ (zs.length : Int) = 24 := by omega
          simp [this]
        obtain ⟨_, _, f0, f1⟩ := pcs HC.out
        obtain ⟨r, rg⟩ := pst HC.out (.int .i64 0) (.slice none 0 0)
        obtain ⟨r0, r1, _, _⟩ := pcs r
        have B8 := Lib.hid (HB.out.grown rg HB.out.size (fun k hk => by injection hk with hk; omega))
        clear r rg
        clear h1 h2 h3
        go_enter Tryz.func42, Tryz.ntmps42
        go_wp2_with fail
        rw [← HW.out]
        refine (spec_vk HK.out).mono ?_
        rw [H1.out]
        rintro e w1 ⟨rfl, hw⟩
        obtain rfl : W = w1 := hw.symm
        go_wp2_with fail
        refine (spec_in _ _ _ _ HN.out).mono ?_
        rw [H2.out]
        rintro e w1 ⟨rfl, hw⟩
        obtain rfl : W = w1 := hw.symm
        go_wp2_with fail
        exact bodyPost_ret (v := .tuple #[.agg #[.int .i64 0, .slice none 0 0], .bool false]) (by simp [results, Tryz.results42, go_sem, r0, r1]) rfl ⟨_, by rw [HT.out, HE1.out], by rw [HE2.out]; exact Own.nil _ _ B8.out.size, B8.out⟩
      have HL := Lib.hid h3
      obtain ⟨bk, o, rfl, hbk, hcell⟩ := Hc.out (by omega)
      have x0 := hcell W (HB.out.mono hlim) 20 (by omega)
      have x1 := hcell W (HB.out.mono hlim) 21 (by omega)
      have x2 := hcell W (HB.out.mono hlim) 22 (by omega)
      have x3 := hcell W (HB.out.mono hlim) 23 (by omega)
      have y0 := h0.out.get 20
      have y1 := h0.out.get 21
      have y2 := h0.out.get 22
      have y3 := h0.out.get 23
      have HNm := okc_num (k := k) (n := n) h3 h0.out
      obtain ⟨p0, hp0⟩ : ∃ p, p = zs.getD 20 0 := ⟨_, rfl⟩
      obtain ⟨p1, hp1⟩ : ∃ p, p = zs.getD 21 0 := ⟨_, rfl⟩
      obtain ⟨p2, hp2⟩ : ∃ p, p = zs.getD 22 0 := ⟨_, rfl⟩
      obtain ⟨p3, hp3⟩ : ∃ p, p = zs.getD 23 0 := ⟨_, rfl⟩
      rw [← hp0, ← hp1, ← hp2, ← hp3] at HNm
      rw [← hp0] at x0 y0
      rw [← hp1] at x1 y1
      rw [← hp2] at x2 y2
      rw [← hp3] at x3 y3
      obtain ⟨S, hS⟩ : ∃ S, S = p0 + 256 * p1 + 65536 * p2 + 16777216 * p3 := ⟨_, rfl⟩
      have or9 := or4 p0 p1 p2 p3 y0 y1 y2 y3
      rw [← hS] at HNm or9
      have hSb : 0 ≤ S ∧ S ≤ 4294967295 := by omega
      have HO9 := Lib.hid or9
      have HNM := Lib.hid HNm
      clear hcell Hc hp0 hp1 hp2 hp3 hS HNm
      have HQW := Lib.hid (ckey_wf k n)
      obtain ⟨q, hq⟩ : ∃ q, q = ckey k n := ⟨_, rfl⟩
      rw [← hq] at HQW
      have HQ := Lib.hid hq
      have h20 : Hid ((zs.take 20).length = 20) := Lib.hid (by rw [List.length_take, h3]; rfl)
      replace H := H.out
      rw [h3] at H g1 ⊢
      have hg20 : 20 ≤ cap := by omega
      replace H := Lib.hid H
      clear h1 h2 hq h3
      go_enter Tryz.func42, Tryz.ntmps42
      go_wp2_with fail
      rw [← HW.out]
      refine (spec_vk HK.out).mono ?_
      rw [H1.out]
      rintro e w1 ⟨rfl, hw⟩
      obtain rfl : W = w1 := hw.symm
      go_wp2_with fail
      refine (spec_in _ _ _ _ HN.out).mono ?_
      rw [H2.out]
      rintro e w1 ⟨rfl, hw⟩
      obtain rfl : W = w1 := hw.symm
      go_wp2_with fail
      go_quiet (fail)
      obtain ⟨W2, hW2⟩ : ∃ W2, W2 = W.drewN nq := ⟨_, rfl⟩
      rw [← hW2]
      replace HB : Hid (Below w.heap.size w W2) := Lib.hid (by rw [hW2]; exact HB.out.trans (below_drewN ⟨_, rfl⟩))
      replace HC : Hid (W2.heap[w.heap.size]? = some (.cells #[.int .i64 0, .slice none 0 0] 55)) := Lib.hid (by rw [hW2]; exact HC.out)
      replace H : Hid (Rd lim .u8 W2 (.slice (some ⟨bk, o, none⟩) 24 cap) zs) := Lib.hid (by rw [hW2]; exact H.out.behind (below_drewN ⟨_, rfl⟩))
      clear x0 x1 x2 x3 or9 hW2
      go_wp2_with (first | (refine slice_rd_h _ rfl _ _ _ i0 Tryz.underlying22 Hhi.out hz1 rfl H.out (n := 20) _ rfl rfl (by rw [HL.out]; decide) ?_; intro u5 hu5; have HU := Lib.hid hu5; clear hu5))
      refine (spec_cc HU.out (Nat.le_trans hlim HB.out.size) HK.out HN.out (by rw [h20.out]; omega)).mono ?_
      obtain ⟨cv, hcv⟩ : ∃ x, x = chkv k n (zs.take 20) := ⟨_, rfl⟩
      rw [← hcv] at HNM ⊢
      rintro e w3 ⟨rfl, hb⟩
      replace H := Lib.hid (H.out.behind (hb.mono (Nat.le_trans hlim HB.out.size)))
      replace HC := Lib.hid ((hb.block _ (lt_of_block HC.out)).trans HC.out)
      replace HB := Lib.hid (HB.out.trans (hb.mono HB.out.size))
      clear hb hcv HU
      by_cases h4 : S = cv
      case neg =>
        have e4 : (S != cv) = true := by simp [h4]
        have HT := Lib.hid (ook_c (by rw [HNM.out, decide_eq_false h4] : okc k n zs = false))
        have HE1 := Lib.hid (ocK_no' HT.out)
        have HE2 := Lib.hid (ocB_no' HT.out)
        obtain ⟨_, _, f0, f1⟩ := pcs HC.out
        obtain ⟨r, rg⟩ := pst HC.out (.int .i64 0) (.slice none 0 0)
        obtain ⟨r0, r1, _, _⟩ := pcs r
        have B8 := Lib.hid (HB.out.grown rg HB.out.size (fun k hk => by injection hk with hk; omega))
        clear r rg
        clear h4
        go_wp2_with fail
        exact bodyPost_ret (v := .tuple #[.agg #[.int .i64 0, .slice none 0 0], .bool false]) (by simp [results, Tryz.results42, go_sem, r0, r1]) rfl ⟨_, by rw [HT.out, HE1.out], by rw [HE2.out]; exact Own.nil _ _ B8.out.size, B8.out⟩
      have e4 : (S != cv) = false := by simp [h4]
      have H4 : Hid (okc k n zs = true) := Lib.hid (by rw [HNM.out, decide_eq_true h4])
      clear h4 HNM
      go_wp2_with fail
      have hs1 := H.out.sliced (l := 0) (n := 20) (by rw [HL.out]; omega)
      rw [List.drop_zero] at hs1
      obtain ⟨u1, hu1⟩ : ∃ u, u = Go.sliced (some ⟨bk, o, none⟩) 0 20 cap 1 := ⟨_, rfl⟩
      rw [show (0 + 20 : Nat) = 20 from rfl, ← hu1] at hs1
      obtain ⟨ua1, uc1, hv1, _⟩ := hs1.open
      rw [h20.out] at hv1
      have S1 := Lib.hid hs1.drew
      have U1 := Lib.hid hu1
      have HCd : Hid (w3.drew.heap[w.heap.size]? = some (.cells #[.int .i64 0, .slice none 0 0] 55)) := Lib.hid HC.out
      have HBd := Lib.hid HB.out.drew
      clear hs1 hu1
      refine region_till (fun _ => True) 6 (by kernel_rfl) ?_
      apply Till.take (i := 0) [0, 2, 5, 6]
      · simp only [List.getElem?_toArray, List.getElem?_cons_zero]
        rfl
      · kernel_rfl
      · kernel_rfl
      · kernel_rfl
      · kernel_rfl
      · exact fun _ _ _ h => h
      · first
          | exact Or.inr ⟨by rfl, rfl⟩
          | (refine Or.inl ⟨by rfl, fun wq hwq => ?_⟩
             dsimp only at hwq
             go_simp
             first
               | done
               | rfl)
      · trivial
      simp only [Act.put, List.setIfInBounds_toArray, List.set_cons_zero, List.set_cons_succ]
      apply Till.take (i := 1) [1, 2, 5, 6]
      · simp only [List.getElem?_toArray, List.getElem?_cons_succ, List.getElem?_cons_zero]
        rfl
      · kernel_rfl
      · kernel_rfl
      · kernel_rfl
      · kernel_rfl
      · exact fun _ _ _ h => h
      · first
          | exact Or.inr ⟨by rfl, rfl⟩
          | (refine Or.inl ⟨by rfl, fun wq hwq => ?_⟩
             dsimp only at hwq
             go_simp
             first
               | done
               | rfl)
      · trivial
      simp only [Act.put, List.setIfInBounds_toArray, List.set_cons_zero, List.set_cons_succ]
      apply Till.take (i := 3) [3, 4, 5, 6]
      · simp only [List.getElem?_toArray, List.getElem?_cons_succ, List.getElem?_cons_zero]
        rfl
      · kernel_rfl
      · kernel_rfl
      · kernel_rfl
      · kernel_rfl
      · exact fun _ _ _ h => h
      · first
          | exact Or.inr ⟨by rfl, rfl⟩
          | (refine Or.inl ⟨by rfl, fun wq hwq => ?_⟩
             dsimp only at hwq
             go_simp
             first
               | done
               | rfl)
      · trivial
      simp only [Act.put, List.setIfInBounds_toArray, List.set_cons_zero, List.set_cons_succ]
      apply Till.take (i := 4) (v := Go.sliced (some ⟨bk, o, none⟩) 0 20 cap 1) [4, 5, 6]
      · simp only [List.getElem?_toArray, List.getElem?_cons_succ, List.getElem?_cons_zero]
        rfl
      · kernel_rfl
      · kernel_rfl
      · kernel_rfl
      · kernel_rfl
      · exact fun _ _ _ h => h
      · refine Or.inl ⟨by rfl, fun _ _ => ?_⟩
        exact run_slice_op_h _ 22 _ 5 i0 Tryz.underlying22 Hhi.out hz1 (n := 20) _ rfl rfl rfl hg20
      · trivial
      simp only [Act.put, List.setIfInBounds_toArray, List.set_cons_zero, List.set_cons_succ]
      rw [← U1.out, hv1]
      apply Till.one (i := 2)
      · kernel_rfl
      · simp only [List.getElem?_toArray, List.getElem?_cons_succ, List.getElem?_cons_zero]
        rfl
      intro K hK
      go_simp
      refine (spec_ck HK.out HN.out).mono ?_
      rw [← HQ.out]
      rintro e' w5 ⟨rfl, hb⟩
      have S5 := S1.out.behind (hb.mono (Nat.le_trans hlim HBd.out.size))
      rw [hv1] at S5
      replace S5 := Lib.hid S5
      have C5 := Lib.hid ((hb.block _ (lt_of_block HCd.out)).trans HCd.out)
      have B5 := Lib.hid (HBd.out.trans (hb.mono HBd.out.size))
      clear hb
      refine hK.out _ _ (Or.inr trivial) ?_
      clear hK K
      try simp only [Act.put, List.setIfInBounds_toArray, List.set_cons_zero, List.set_cons_succ]
      apply Till.one (i := 5)
      · kernel_rfl
      · simp only [List.getElem?_toArray, List.getElem?_cons_succ, List.getElem?_cons_zero]
        rfl
      intro K hK
      go_simp
      refine (spec_de S5.out (Nat.le_trans hlim B5.out.size) HQW.out (by rw [h20.out]; omega)).mono ?_
      rw [show dez q (zs.take 20) = decL k n zs from by rw [HQ.out]; rfl]
      rintro e' w6 ⟨v6, rfl, h6, hb⟩
      have HD20 : Hid ((decL k n zs).length = 20) := Lib.hid (by unfold decL; rw [dez_len]; exact h20.out)
      obtain ⟨a6, c6, hv6, hg6⟩ := h6.open
      obtain ⟨g, rfl⟩ := hg6 (by rw [HD20.out]; decide)
      rw [HD20.out] at hv6
      subst hv6
      have O6 := Lib.hid (h6.mono B5.out.size)
      have G6 := Lib.hid (h6.lt g rfl)
      have C6 := Lib.hid ((hb.block _ (lt_of_block C5.out)).trans C5.out)
      have B6 := Lib.hid (B5.out.trans (hb.mono B5.out.size))
      clear hb h6
      refine hK.out _ _ (Or.inr trivial) ?_
      clear hK K
      try simp only [Act.put, List.setIfInBounds_toArray, List.set_cons_zero, List.set_cons_succ]
      apply Till.one (i := 6)
      · kernel_rfl
      · simp only [List.getElem?_toArray, List.getElem?_cons_succ, List.getElem?_cons_zero]
        rfl
      intro K hK
      go_simp
      skip
      refine hK.out _ _ (Or.inl (by rfl)) ?_
      clear hK K
      try simp only [Act.put, List.setIfInBounds_toArray, List.set_cons_zero, List.set_cons_succ]
      refine Till.done (by kernel_rfl) ?_ _
      have hcW : Hid (w.heap.size < g) := Lib.hid (by have := G6.out.1; have := lt_of_block C5.out; omega)
      have hdz := dec_get k n zs 0
      have hdy := dec_get k n zs 1
      have hc6 := lt_of_block C6.out
      have z0 := O6.out.cellAt (j := 0) HD20.out (by decide)
      have z1 := O6.out.cellAt (j := 1) HD20.out (by decide)
      have hdf : okp (decL k n zs) = (decide ((decL k n zs).getD 0 0 ≤ 3) && decide ((decL k n zs).getD 1 0 ≤ 14)) := rfl
      obtain ⟨z, hze⟩ : ∃ z, z = (decL k n zs).getD 0 0 := ⟨_, rfl⟩
      obtain ⟨y, hye⟩ : ∃ y, y = (decL k n zs).getD 1 0 := ⟨_, rfl⟩
      rw [← hze] at z0 hdz hdf
      rw [← hye] at z1 hdy hdf
      have HZE := Lib.hid hze
      have HYE := Lib.hid hye
      clear hze hye hv1 S1 S5 U1
      by_cases h3 : z ≤ 3
      case neg =>
        have e5 : decide ((3 : Int) < z) = true := by simp; omega
        have HT := Lib.hid (ook_p (k := k) (n := n) (zs := zs) (by rw [hdf, decide_eq_false h3]; rfl))
        have HE1 := Lib.hid (ocK_no' HT.out)
        have HE2 := Lib.hid (ocB_no' HT.out)
        obtain ⟨_, _, f0, f1⟩ := pcs C6.out
        obtain ⟨r, rg⟩ := pst C6.out (.int .i64 0) (.slice none 0 0)
        obtain ⟨r0, r1, _, _⟩ := pcs r
        have B8 := Lib.hid (B6.out.grown rg B6.out.size (fun k hk => by injection hk with hk; omega))
        clear r rg
        clear h3 hdf
        go_wp2_with fail
        exact bodyPost_ret (v := .tuple #[.agg #[.int .i64 0, .slice none 0 0], .bool false]) (by simp [results, Tryz.results42, go_sem, r0, r1]) rfl ⟨_, by rw [HT.out, HE1.out], by rw [HE2.out]; exact Own.nil _ _ B8.out.size, B8.out⟩
      have e5 : decide ((3 : Int) < z) = false := by simp; omega
      by_cases h14 : y ≤ 14
      case neg =>
        have e6 : decide ((14 : Int) < y) = true := by simp; omega
        have HT := Lib.hid (ook_p (k := k) (n := n) (zs := zs) (by rw [hdf, decide_eq_false h14]; simp))
        have HE1 := Lib.hid (ocK_no' HT.out)
        have HE2 := Lib.hid (ocB_no' HT.out)
        obtain ⟨_, _, f0, f1⟩ := pcs C6.out
        obtain ⟨r, rg⟩ := pst C6.out (.int .i64 0) (.slice none 0 0)
        obtain ⟨r0, r1, _, _⟩ := pcs r
        have B8 := Lib.hid (B6.out.grown rg B6.out.size (fun k hk => by injection hk with hk; omega))
        clear r rg
        clear h3 h14 hdf
        go_wp2_with fail
        exact bodyPost_ret (v := .tuple #[.agg #[.int .i64 0, .slice none 0 0], .bool false]) (by simp [results, Tryz.results42, go_sem, r0, r1]) rfl ⟨_, by rw [HT.out, HE1.out], by rw [HE2.out]; exact Own.nil _ _ B8.out.size, B8.out⟩
      have e6 : decide ((14 : Int) < y) = false := by simp; omega
      have HT := Lib.hid (ook_yes H1.out H2.out HL.out H4.out (by rw [hdf, decide_eq_true h3, decide_eq_true h14]; rfl))
      have HE1 : Hid (ocK k n zs = z) := Lib.hid (by rw [ocK_yes HT.out, HZE.out])
      obtain ⟨m, hm⟩ : ∃ m : Nat, y = (m : Int) := ⟨y.toNat, by omega⟩
      subst hm
      have hm14 : m ≤ 14 := by omega
      have HE2 : Hid (((decL k n zs).drop 2).take m = ocB k n zs) := Lib.hid (by rw [ocB_yes HT.out, ← HYE.out]; rfl)
      have hs7 := O6.out.rd.sliced (l := 2) (n := m) (by rw [HD20.out]; omega)
      rw [HE2.out] at hs7
      have h26 : 2 + m ≤ c6 := by
        have h9 := O6.out.rd.open
        obtain ⟨_, _, hx, hx1, _⟩ := h9
        injection hx with hx1' hx2 hx3
        rw [HD20.out] at hx1
        omega
      obtain ⟨u7, hu7⟩ : ∃ u, u = Go.sliced (some ⟨g, 0, none⟩) 2 (2 + m) c6 1 := ⟨_, rfl⟩
      rw [← hu7] at hs7
      have S7 := Lib.hid hs7
      have U7 := Lib.hid hu7
      have O7 : Hid (Own 5 .u8 w6.heap.size (w6.drew.alloc (.cells #[] 5)) (.slice (some ⟨w6.heap.size, 0, none⟩) 0 0) []) := Lib.hid (Own.lit _ _ (Nat.le_refl _))
      have HLb := Lib.hid (ocB_len k n zs)
      have k9 : w6.drew.cell? ⟨g, 0, none⟩ = some (.int .u8 z) ∧ w6.drew.cell? ⟨g, 1, none⟩ = some (.int .u8 (m : Int)) := ⟨z0, z1⟩
      have hwz : IntKind.i64.wrap z = z := i64w (by omega) (by omega)
      have hwm : IntKind.i64.wrap (m : Int) = (m : Int) := i64w (by omega) (by omega)
      have hwm2 : IntKind.i64.wrap (2 + (m : Int)) = 2 + (m : Int) := i64w (by omega) (by omega)
      clear hs7 hu7 h3 h14 hdf
      go_wp2_with fail
      refine region_till (fun w' => w'.cell? ⟨g, 0, none⟩ = some (.int .u8 z) ∧ w'.cell? ⟨g, 1, none⟩ = some (.int .u8 (m : Int))) 14 (by kernel_rfl) ?_
      apply Till.take (i := 0) [0, 1, 2, 3, 13, 14]
      · simp only [List.getElem?_toArray, List.getElem?_cons_zero]
        rfl
      · kernel_rfl
      · kernel_rfl
      · kernel_rfl
      · kernel_rfl
      · exact fun _ _ _ h => h
      · first
          | exact Or.inr ⟨by rfl, rfl⟩
          | (refine Or.inl ⟨by rfl, fun wq hwq => ?_⟩
             have hwq0 := hwq.1
             have hwq1 := hwq.2
             go_simp
             first
               | done
               | rfl)
      · exact k9
      simp only [Act.put, List.setIfInBounds_toArray, List.set_cons_zero, List.set_cons_succ]
      apply Till.take (i := 1) [1, 2, 3, 13, 14]
      · simp only [List.getElem?_toArray, List.getElem?_cons_succ, List.getElem?_cons_zero]
        rfl
      · kernel_rfl
      · kernel_rfl
      · kernel_rfl
      · kernel_rfl
      · exact fun _ _ _ h => h
      · first
          | exact Or.inr ⟨by rfl, rfl⟩
          | (refine Or.inl ⟨by rfl, fun wq hwq => ?_⟩
             have hwq0 := hwq.1
             have hwq1 := hwq.2
             go_simp
             first
               | done
               | rfl)
      · exact k9
      simp only [Act.put, List.setIfInBounds_toArray, List.set_cons_zero, List.set_cons_succ]
      apply Till.take (i := 2) [2, 3, 13, 14]
      · simp only [List.getElem?_toArray, List.getElem?_cons_succ, List.getElem?_cons_zero]
        rfl
      · kernel_rfl
      · kernel_rfl
      · kernel_rfl
      · kernel_rfl
      · exact fun _ _ _ h => h
      · first
          | exact Or.inr ⟨by rfl, rfl⟩
          | (refine Or.inl ⟨by rfl, fun wq hwq => ?_⟩
             have hwq0 := hwq.1
             have hwq1 := hwq.2
             go_simp
             first
               | done
               | rfl)
      · exact k9
      simp only [Act.put, List.setIfInBounds_toArray, List.set_cons_zero, List.set_cons_succ]
      apply Till.take (i := 3) [3, 13, 14]
      · simp only [List.getElem?_toArray, List.getElem?_cons_succ, List.getElem?_cons_zero]
        rfl
      · kernel_rfl
      · kernel_rfl
      · kernel_rfl
      · kernel_rfl
      · exact fun _ _ _ h => h
      · first
          | exact Or.inr ⟨by rfl, rfl⟩
          | (refine Or.inl ⟨by rfl, fun wq hwq => ?_⟩
             have hwq0 := hwq.1
             have hwq1 := hwq.2
             go_simp
             first
               | done
               | rfl)
      · exact k9
      simp only [Act.put, List.setIfInBounds_toArray, List.set_cons_zero, List.set_cons_succ]
      apply Till.take (i := 5) [5, 11, 12, 13, 14]
      · simp only [List.getElem?_toArray, List.getElem?_cons_succ, List.getElem?_cons_zero]
        rfl
      · kernel_rfl
      · kernel_rfl
      · kernel_rfl
      · kernel_rfl
      · exact fun _ _ _ h => h
      · first
          | exact Or.inr ⟨by rfl, rfl⟩
          | (refine Or.inl ⟨by rfl, fun wq hwq => ?_⟩
             have hwq0 := hwq.1
             have hwq1 := hwq.2
             go_simp
             first
               | done
               | rfl)
      · exact k9
      simp only [Act.put, List.setIfInBounds_toArray, List.set_cons_zero, List.set_cons_succ]
      apply Till.take (i := 6) [6, 7, 8, 9, 10, 11, 12, 13, 14]
      · simp only [List.getElem?_toArray, List.getElem?_cons_succ, List.getElem?_cons_zero]
        rfl
      · kernel_rfl
      · kernel_rfl
      · kernel_rfl
      · kernel_rfl
      · exact fun _ _ _ h => h
      · first
          | exact Or.inr ⟨by rfl, rfl⟩
          | (refine Or.inl ⟨by rfl, fun wq hwq => ?_⟩
             have hwq0 := hwq.1
             have hwq1 := hwq.2
             go_simp
             first
               | done
               | rfl)
      · exact k9
      simp only [Act.put, List.setIfInBounds_toArray, List.set_cons_zero, List.set_cons_succ]
      apply Till.take (i := 7) [7, 8, 9, 10, 11, 12, 13, 14]
      · simp only [List.getElem?_toArray, List.getElem?_cons_succ, List.getElem?_cons_zero]
        rfl
      · kernel_rfl
      · kernel_rfl
      · kernel_rfl
      · kernel_rfl
      · exact fun _ _ _ h => h
      · first
          | exact Or.inr ⟨by rfl, rfl⟩
          | (refine Or.inl ⟨by rfl, fun wq hwq => ?_⟩
             have hwq0 := hwq.1
             have hwq1 := hwq.2
             go_simp
             first
               | done
               | rfl)
      · exact k9
      simp only [Act.put, List.setIfInBounds_toArray, List.set_cons_zero, List.set_cons_succ]
      apply Till.take (i := 8) [8, 9, 10, 11, 12, 13, 14]
      · simp only [List.getElem?_toArray, List.getElem?_cons_succ, List.getElem?_cons_zero]
        rfl
      · kernel_rfl
      · kernel_rfl
      · kernel_rfl
      · kernel_rfl
      · exact fun _ _ _ h => h
      · first
          | exact Or.inr ⟨by rfl, rfl⟩
          | (refine Or.inl ⟨by rfl, fun wq hwq => ?_⟩
             have hwq0 := hwq.1
             have hwq1 := hwq.2
             go_simp
             first
               | done
               | rfl)
      · exact k9
      simp only [Act.put, List.setIfInBounds_toArray, List.set_cons_zero, List.set_cons_succ]
      apply Till.take (i := 9) [9, 10, 11, 12, 13, 14]
      · simp only [List.getElem?_toArray, List.getElem?_cons_succ, List.getElem?_cons_zero]
        rfl
      · kernel_rfl
      · kernel_rfl
      · kernel_rfl
      · kernel_rfl
      · exact fun _ _ _ h => h
      · first
          | exact Or.inr ⟨by rfl, rfl⟩
          | (refine Or.inl ⟨by rfl, fun wq hwq => ?_⟩
             have hwq0 := hwq.1
             have hwq1 := hwq.2
             go_simp
             first
               | done
               | rfl)
      · exact k9
      simp only [Act.put, List.setIfInBounds_toArray, List.set_cons_zero, List.set_cons_succ]
      apply Till.take (i := 10) [10, 11, 12, 13, 14]
      · simp only [List.getElem?_toArray, List.getElem?_cons_succ, List.getElem?_cons_zero]
        rfl
      · kernel_rfl
      · kernel_rfl
      · kernel_rfl
      · kernel_rfl
      · exact fun _ _ _ h => h
      · first
          | exact Or.inr ⟨by rfl, rfl⟩
          | (refine Or.inl ⟨by rfl, fun wq hwq => ?_⟩
             have hwq0 := hwq.1
             have hwq1 := hwq.2
             go_simp
             first
               | done
               | rfl)
      · exact k9
      simp only [Act.put, List.setIfInBounds_toArray, List.set_cons_zero, List.set_cons_succ]
      apply Till.take (i := 11) (v := Go.sliced (some ⟨g, 0, none⟩) 2 (2 + m) c6 1) [11, 12, 13, 14]
      · simp only [List.getElem?_toArray, List.getElem?_cons_succ, List.getElem?_cons_zero]
        rfl
      · kernel_rfl
      · kernel_rfl
      · kernel_rfl
      · kernel_rfl
      · exact fun _ _ _ h => h
      · refine Or.inl ⟨by rfl, fun _ _ => ?_⟩
        exact run_slice_op_lh _ 22 _ 5 i0 Tryz.underlying22 Hhi.out hz1 (l := 2) (m := 2 + m) _ _ rfl rfl rfl rfl (by omega) (by omega) h26
      · exact k9
      simp only [Act.put, List.setIfInBounds_toArray, List.set_cons_zero, List.set_cons_succ]
      rw [← U7.out]
      apply Till.one (i := 4)
      · kernel_rfl
      · simp only [List.getElem?_toArray, List.getElem?_cons_succ, List.getElem?_cons_zero]
        rfl
      intro K hK
      go_simp
      have hb : Below w6.drew.heap.size w6.drew (w6.drew.alloc (.cells #[] 5)) := (Below.refl w6.drew.heap.size w6.drew).alloc (Nat.le_refl _) _
      have S8 := Lib.hid (S7.out.drew.behind hb)
      have C8 : Hid ((w6.drew.alloc (.cells #[] 5)).heap[w.heap.size]? = some (.cells #[.int .i64 0, .slice none 0 0] 55)) := Lib.hid ((hb.block _ (lt_of_block (w := w6.drew) C6.out)).trans C6.out)
      have B8 := Lib.hid (B6.out.drew.trans (hb.mono B6.out.drew.size))
      have k8 : (w6.drew.alloc (.cells #[] 5)).cell? ⟨g, 0, none⟩ = some (.int .u8 z) ∧ (w6.drew.alloc (.cells #[] 5)).cell? ⟨g, 1, none⟩ = some (.int .u8 (m : Int)) := ⟨(hb.cell (p := ⟨g, 0, none⟩) G6.out.2).trans k9.1, (hb.cell (p := ⟨g, 1, none⟩) G6.out.2).trans k9.2⟩
      clear hb
      refine hK.out _ _ (Or.inr k8) ?_
      clear hK K
      try simp only [Act.put, List.setIfInBounds_toArray, List.set_cons_zero, List.set_cons_succ]
      apply Till.one (i := 12)
      · kernel_rfl
      · simp only [List.getElem?_toArray, List.getElem?_cons_succ, List.getElem?_cons_zero]
        rfl
      intro K hK
      refine step_append_rds _ (by rfl) _ _ 22 (by rfl) 5 i0 (.int .u8 0) 1 Tryz.underlying22 Hhi.out hz0 hz1 hz2 rfl (by omega) (by rfl) O7.out (by rfl) S8.out (by have := HLb.out; simp only [List.length_nil]; omega) ?_
      rw [List.nil_append]
      intro v9 w9 h9 hg9
      obtain ⟨a9, c9, hv9, _⟩ := h9.open
      obtain ⟨L9, hL9⟩ : ∃ L, L = (ocB k n zs).length := ⟨_, rfl⟩
      rw [← hL9] at hv9
      subst hv9
      have hn9 : ∀ x : Nat, x < w6.heap.size → some x ≠ (Value.slice (some ⟨w6.heap.size, 0, none⟩) 0 0).ownBlock := fun x hx hk => by have h9 : x = w6.heap.size := Option.some.inj hk; omega
      have O9 := Lib.hid (h9.mono B6.out.size)
      have HNe : Hid ((Value.slice a9 L9 c9).ownBlock = none ∨ (Value.slice a9 L9 c9).ownBlock ≠ some w.heap.size) := Lib.hid (by right; intro hk; have h10 := h9.lt _ hk; omega)
      have C9 := Lib.hid ((hg9.block _ (lt_of_block C8.out) (hn9 _ (lt_of_block C6.out))).trans C8.out)
      have B9 := Lib.hid (B8.out.grown hg9 B8.out.size (fun x hx => by have h9 : w6.heap.size = x := Option.some.inj hx; have := B6.out.size; omega))
      have hgb := hg9.block g (Nat.lt_of_lt_of_le G6.out.2 (by simp)) (hn9 _ G6.out.2)
      have k9' : w9.cell? ⟨g, 0, none⟩ = some (.int .u8 z) ∧ w9.cell? ⟨g, 1, none⟩ = some (.int .u8 (m : Int)) := by
        unfold World.cell? at k8 ⊢
        rw [hgb]
        exact k8
      obtain ⟨q0, q1, f0, f1⟩ := pcs C9.out
      clear h9 hg9 hL9 hn9 hgb
      refine hK.out _ _ (Or.inr k9') ?_
      clear hK K
      try simp only [Act.put, List.setIfInBounds_toArray, List.set_cons_zero, List.set_cons_succ]
      apply Till.take (i := 13) [13, 14]
      · simp only [List.getElem?_toArray, List.getElem?_cons_succ, List.getElem?_cons_zero]
        rfl
      · kernel_rfl
      · kernel_rfl
      · kernel_rfl
      · kernel_rfl
      · exact fun _ _ _ h => h
      · first
          | exact Or.inr ⟨by rfl, rfl⟩
          | (refine Or.inl ⟨by rfl, fun wq hwq => ?_⟩
             have hwq0 := hwq.1
             have hwq1 := hwq.2
             go_simp
             first
               | done
               | rfl)
      · exact k9'
      simp only [Act.put, List.setIfInBounds_toArray, List.set_cons_zero, List.set_cons_succ]
      apply Till.one (i := 14)
      · kernel_rfl
      · simp only [List.getElem?_toArray, List.getElem?_cons_succ, List.getElem?_cons_zero]
        rfl
      intro K hK
      go_simp
      skip
      refine hK.out _ _ (Or.inl (by rfl)) ?_
      clear hK K
      try simp only [Act.put, List.setIfInBounds_toArray, List.set_cons_zero, List.set_cons_succ]
      apply Till.one (i := 15)
      · kernel_rfl
      · simp only [List.getElem?_toArray, List.getElem?_cons_succ, List.getElem?_cons_zero]
        rfl
      intro K hK
      go_simp
      skip
      refine hK.out _ _ (Or.inl (by rfl)) ?_
      clear hK K
      try simp only [Act.put, List.setIfInBounds_toArray, List.set_cons_zero, List.set_cons_succ]
      refine Till.done (by kernel_rfl) ?_ _
      obtain ⟨r, rg⟩ := pst C9.out (.int .i64 z) (.slice a9 L9 c9)
      obtain ⟨r0, r1, _, _⟩ := pcs r
      have H8 := Lib.hid (O9.out.kept rg HNe.out)
      have B10 := Lib.hid (B9.out.grown rg B9.out.size (fun k hk => by injection hk with hk; omega))
      clear r rg k9' k8 k9
      go_wp2_with fail
      exact bodyPost_ret (v := .tuple #[.agg #[.int .i64 z, .slice a9 L9 c9], .bool true]) (by simp [results, Tryz.results42, go_sem, r0, r1]) rfl ⟨_, by rw [HT.out, HE1.out], H8.out, B10.out⟩

end Go.Proofs.YtjbkhbbchacooaaGreatDoor
