/- What spec.DrawSealCell draws: a key, a counter, a plain message. No conditions but sizes that a machine holds. -/
import Derived.Test.YtbimihljaalllaaDoorDrawB
import Derived.Test.YtbimihljaalllaaDoorBaD
import Derived.Test.YtbimihljaalllaaDoorCl1
namespace Go.Proofs.YtbimihljaalllaaDoor
open Go Go.RowKit
set_option linter.unusedVariables false

/-- spec.l1Int over a list of numbers that the call has made: one of them. -/
theorem int_in (B b l : Nat) (zs : List Int) (t : TypeId) (fz : Nat × Nat) (n : Nat) (w : World) (h : Cur B b w) (hne : l ≠ b) (hl : w.heap[l]? = some (.cells (zs.map (Value.int .i64)).toArray t fz))
    (hn : n = zs.length) (hn1 : 1 ≤ n) (hs : n ≤ 1000) :
    Calls Tryd.prog 70 #[.pointer (some ⟨b, 0, none⟩), .slice (some ⟨l, 0, none⟩) n n] w fun e w' => ∃ x : Int, x ∈ zs ∧ e = .returned (.int .i64 x) ∧ Cur B b w' ∧ w.grownBy w' (some b) := by
  have H := Lib.hid h
  have HL := Lib.hid hl
  have HN := Lib.hid hn
  have hlt := lt_of_block hl
  clear h hl hn
  go_enter Tryd.func70, Tryd.ntmps70
  go_wp2_with fail
  refine (below_any B b _ _ H.out (by omega) (by omega)).mono ?_
  rintro e w1 ⟨x, x0, x1, rfl, hc, hg⟩
  obtain ⟨k, rfl⟩ := Int.eq_ofNat_of_zero_le x0
  have hk : k < n := by omega
  have hc1 : w1.cell? ⟨l, k, none⟩ = some (.int .i64 (zs.getD k 0)) := by
    have e1 := hg.block l hlt (by simpa using hne)
    rw [HL.out] at e1
    rw [blk_cell e1]
    have hN := HN.out
    have hk' : k < zs.length := by omega
    simp [List.getD, List.getElem?_eq_getElem hk']
  have hm : zs.getD k 0 ∈ zs := by
    have hN := HN.out
    have hk' : k < zs.length := by omega
    rw [List.getD_eq_getElem?_getD, List.getElem?_eq_getElem hk']; simp
  obtain ⟨y, hy⟩ : ∃ y, y = zs.getD k 0 := ⟨_, rfl⟩
  rw [← hy] at hc1 hm
  have HM := Lib.hid hm
  clear hy hm
  go_wp2_with fail
  go_ret
  exact ⟨y, HM.out, rfl, hc, hg⟩
theorem int_in_alloc (B b : Nat) (zs : List Int) (t : TypeId) (n : Nat) (w : World) (h : Cur B b w) (hn : n = zs.length) (hn1 : 1 ≤ n) (hs : n ≤ 1000) :
    Calls Tryd.prog 70 #[.pointer (some ⟨b, 0, none⟩), .slice (some ⟨w.heap.size, 0, none⟩) n n] (w.alloc (.cells (zs.map (Value.int .i64)).toArray t)) fun e w' => ∃ x : Int, x ∈ zs ∧ e = .returned (.int .i64 x) ∧ Cur B b w' ∧ w.grownBy w' (some b) := by
  have hlt := h.lt
  refine (int_in B b w.heap.size zs t (0, 0) n _ (h.alloc _) (by omega) ?_ hn hn1 hs).mono ?_
  · show (w.heap.push _)[w.heap.size]? = _
    simp
  · rintro e w1 ⟨x, h0, he, hc, hg⟩
    exact ⟨x, h0, he, hc, grown_trans (World.grownBy_alloc _ _ _) hg⟩

/-- spec.l13Key. -/
theorem key13 (B b : Nat) (w : World) (h : Cur B b w) :
    Calls Tryd.prog 39 #[.pointer (some ⟨b, 0, none⟩)] w (StepOut B b (-1) 2147483647 w) := by
  have H := Lib.hid h
  clear h
  go_enter Tryd.func39, Tryd.ntmps39
  go_wp2_with fail
  refine (once_any B b _ _ H.out (by omega) (by omega)).mono ?_
  rintro e w1 ⟨t, rfl, hc, hg⟩
  cases t
  · go_wp2_with fail
    refine (below_any B b _ _ hc (by omega) (by omega)).mono ?_
    rintro e w3 ⟨y, y0, y1, rfl, hc3, hg3⟩
    go_wp2_with fail
    go_ret
    exact ⟨1 + y, by omega, by omega, rfl, hc3, grown_trans hg hg3⟩
  · go_wp2_with fail
    refine (int_alloc B b (-1) 2147483647 [0, -1, 2147483646, 2147483647] _ 4 _ hc rfl (by omega) (by omega) (by decide)).mono ?_
    rintro e w2 ⟨y, y0, y1, rfl, hc2, hg2⟩
    go_wp2_with fail
    go_ret
    exact ⟨y, y0, y1, rfl, hc2, grown_trans hg hg2⟩

/-- What a drawn counter is. -/
def CtrOk (n : Int) : Prop := (0 ≤ n ∧ n ≤ 49) ∨ n = -1 ∨ n = 1000000000000 ∨ n = 1000000000001
/-- spec.l13Counter. -/
theorem counter13 (B b : Nat) (w : World) (h : Cur B b w) :
    Calls Tryd.prog 40 #[.pointer (some ⟨b, 0, none⟩)] w fun e w' => ∃ n : Int, CtrOk n ∧ e = .returned (.int .i64 n) ∧ Cur B b w' ∧ w.grownBy w' (some b) := by
  have H := Lib.hid h
  clear h
  go_enter Tryd.func40, Tryd.ntmps40
  go_wp2_with fail
  refine (once_any B b _ _ H.out (by omega) (by omega)).mono ?_
  rintro e w1 ⟨t, rfl, hc, hg⟩
  cases t
  · go_wp2_with fail
    refine (below_any B b _ _ hc (by omega) (by omega)).mono ?_
    rintro e w3 ⟨y, y0, y1, rfl, hc3, hg3⟩
    have HY : Hid (CtrOk y) := Lib.hid (Or.inl ⟨y0, by omega⟩)
    go_wp2_with fail
    go_ret
    exact ⟨y, HY.out, rfl, hc3, grown_trans hg hg3⟩
  · go_wp2_with fail
    refine (int_in_alloc B b [-1, 0, 1000000000000, 1000000000001] _ 4 _ hc rfl (by omega) (by omega)).mono ?_
    rintro e w2 ⟨y, hy, rfl, hc2, hg2⟩
    have HY : Hid (CtrOk y) := Lib.hid (by
      simp only [List.mem_cons, List.not_mem_nil, or_false] at hy
      unfold CtrOk
      omega)
    clear hy
    go_wp2_with fail
    go_ret
    exact ⟨y, HY.out, rfl, hc2, grown_trans hg hg2⟩

/-- What a drawn plain message is told of. -/
def PlainOut (B b : Nat) (w : World) (e : Ending) (w' : World) : Prop :=
  ∃ (d : Int) (v : Value) (zs : List Int), e = .returned (.agg #[.int .i64 d, v]) ∧ Own 5 .u8 w.heap.size w' v zs ∧ zs.length ≤ 15 ∧ (-1 ≤ d ∧ d ≤ 4) ∧ Cur B b w' ∧ w.grownBy w' (some b)

set_option maxHeartbeats 2000000 in
/-- spec.l13Plain. -/
theorem plain13 (B b : Nat) (w : World) (h : Cur B b w) :
    Calls Tryd.prog 72 #[.pointer (some ⟨b, 0, none⟩)] w (PlainOut B b w) := by
  have hbl := h.lt
  have c1 := heap_alloc_new w (.cells #[.int .i64 0, .slice none 0 0] 25)
  have hB := (Below.refl w.heap.size w).alloc (Nat.le_refl _) (.cells #[.int .i64 0, .slice none 0 0] 25)
  have hcW := h.alloc (.cells #[.int .i64 0, .slice none 0 0] 25)
  obtain ⟨W, hW⟩ : ∃ W, W = w.alloc (.cells #[.int .i64 0, .slice none 0 0] 25) := ⟨_, rfl⟩
  rw [← hW] at c1 hcW hB
  have HW := Lib.hid hW
  have HC := Lib.hid c1
  have HCu := Lib.hid hcW
  have HG := Lib.hid (grown_none (r := some b) (grown_of_below hB))
  have HLt := Lib.hid hbl.2
  have HLB := Lib.hid hbl.1
  clear h hW c1 hcW hB hbl
  go_enter Tryd.func72, Tryd.ntmps72
  go_wp2_with fail
  rw [← HW.out]
  refine (below_any B b _ _ HCu.out (by omega) (by omega)).mono ?_
  rintro e w2 ⟨d, d0, d1, rfl, hc2, hg2⟩
  replace HC := Lib.hid ((hg2.block _ (lt_of_block HC.out) (by intro hk; have := Option.some.inj hk; have := HLt.out; omega)).trans HC.out)
  replace HCu := Lib.hid hc2
  replace HG := Lib.hid (grown_trans HG.out hg2)
  clear hc2 hg2
  go_wp2_with fail
  refine (below_any B b _ _ HCu.out (by omega) (by omega)).mono ?_
  rintro e w3 ⟨x, x0, x1, rfl, hc3, hg3⟩
  obtain ⟨n, rfl⟩ : ∃ n : Nat, x = (n : Int) := ⟨x.toNat, by omega⟩
  replace HC := Lib.hid ((hg3.block _ (lt_of_block HC.out) (by intro hk; have := Option.some.inj hk; have := HLt.out; omega)).trans HC.out)
  replace HCu := Lib.hid hc3
  replace HG := Lib.hid (grown_trans HG.out hg3)
  clear hc3 hg3
  go_wp2_with fail
  refine (bytes_any B b n _ HCu.out (by omega)).mono ?_
  rintro e w4 ⟨v4, zs, rfl, hO, l1, l2, hc4, hg4⟩
  obtain ⟨a4, c4, hv4, _⟩ := hO.open
  obtain ⟨L4, hL4⟩ : ∃ L, L = zs.length := ⟨_, rfl⟩
  rw [← hL4] at hv4
  subst hv4
  have hne4 : (Value.slice a4 L4 c4).ownBlock = none ∨ (Value.slice a4 L4 c4).ownBlock ≠ some w.heap.size := by
    right; intro hk; have h9 := hO.lt _ hk; have := lt_of_block HC.out; omega
  have hc4' : w4.heap[w.heap.size]? = some (.cells #[.int .i64 0, .slice none 0 0] 25) := (hg4.block _ (lt_of_block HC.out) (by intro hk; have := Option.some.inj hk; have := HLt.out; omega)).trans HC.out
  obtain ⟨q0, q1, f0, f1⟩ := pcs hc4'
  obtain ⟨r, rg⟩ := pst hc4' (.int .i64 d) (.slice a4 L4 c4)
  obtain ⟨r0, r1, _, _⟩ := pcs r
  have HO := Lib.hid ((hO.mono HG.out.size).kept rg hne4)
  have hcu := hc4.kept rg (fun e => by have := Option.some.inj e; have := HLt.out; omega) (fun x hx => by have := Option.some.inj hx; have := HLt.out; have := HLB.out; omega)
  have HCu5 := Lib.hid hcu
  have HG5 := Lib.hid (grown_own (grown_trans HG.out hg4) rg (fun x hx => by have := Option.some.inj hx; omega))
  have HLn : Hid (zs.length ≤ 15) := Lib.hid (by omega)
  have HD : Hid (-1 ≤ d ∧ d ≤ 4) := Lib.hid (by omega)
  clear hO hc4 hg4 hne4 hc4' r rg hcu hL4 l1 l2 HCu HC HG
  go_wp2_with fail
  exact bodyPost_ret (v := .agg #[.int .i64 d, .slice a4 L4 c4]) (by simp [results, Tryd.results72, go_sem, r0, r1]) rfl ⟨d, _, zs, rfl, HO.out, HLn.out, HD.out, HCu5.out, HG5.out⟩

set_option maxHeartbeats 2000000 in
/-- spec.l13Any. -/
theorem any13 (B b : Nat) (w : World) (h : Cur B b w) :
    Calls Tryd.prog 41 #[.pointer (some ⟨b, 0, none⟩)] w (PlainOut B b w) := by
  obtain ⟨i0, hi, hz0, hz1, hz2⟩ := info_parts infou8
  have Hhi := Lib.hid hi
  have hbl := h.lt
  have c1 := heap_alloc_new w (.cells #[.int .i64 0, .slice none 0 0] 25)
  have hB := (Below.refl w.heap.size w).alloc (Nat.le_refl _) (.cells #[.int .i64 0, .slice none 0 0] 25)
  have hcW := h.alloc (.cells #[.int .i64 0, .slice none 0 0] 25)
  obtain ⟨W, hW⟩ : ∃ W, W = w.alloc (.cells #[.int .i64 0, .slice none 0 0] 25) := ⟨_, rfl⟩
  rw [← hW] at c1 hcW hB
  have HW := Lib.hid hW
  have HC := Lib.hid c1
  have HCu := Lib.hid hcW
  have HG := Lib.hid (grown_none (r := some b) (grown_of_below hB))
  have HLt := Lib.hid hbl.2
  have HLB := Lib.hid hbl.1
  clear h hW c1 hcW hB hbl hi
  go_enter Tryd.func41, Tryd.ntmps41
  go_wp2_with fail
  rw [← HW.out]
  refine (plain13 B b _ HCu.out).mono ?_
  rintro e w2 ⟨d, v2, zs, rfl, hO, hl, hd, hc2, hg2⟩
  obtain ⟨a2, c2, hv2, _⟩ := hO.open
  obtain ⟨L2, hL2⟩ : ∃ L, L = zs.length := ⟨_, rfl⟩
  rw [← hL2] at hv2
  subst hv2
  have HNe : Hid ((Value.slice a2 L2 c2).ownBlock = none ∨ (Value.slice a2 L2 c2).ownBlock ≠ some w.heap.size) := Lib.hid (by
    right; intro hk; have h9 := hO.lt _ hk; have := lt_of_block HC.out; omega)
  have HNe2 : Hid ((Value.slice a2 L2 c2).ownBlock = none ∨ (Value.slice a2 L2 c2).ownBlock ≠ some w2.heap.size) := Lib.hid (by
    right; intro hk; have h9 := hO.lt _ hk; omega)
  have hc2' : w2.heap[w.heap.size]? = some (.cells #[.int .i64 0, .slice none 0 0] 25) := (hg2.block _ (lt_of_block HC.out) (by intro hk; have := Option.some.inj hk; have := HLt.out; omega)).trans HC.out
  have hS : w.heap.size < w2.heap.size := lt_of_block hc2'
  have hp := heap_alloc_new w2 (.cells #[.int .i64 d, .slice a2 L2 c2] 25)
  have hb3 := (Below.refl w2.heap.size w2).alloc (Nat.le_refl _) (.cells #[.int .i64 d, .slice a2 L2 c2] 25)
  have ho3 := (hO.mono HG.out.size).next hb3
  have hc3 := hc2.alloc (.cells #[.int .i64 d, .slice a2 L2 c2] 25)
  have hg3 := grown_trans (grown_trans HG.out hg2) (grown_none (grown_of_below hb3))
  have hcc := (hb3.block _ (lt_of_block hc2')).trans hc2'
  obtain ⟨W3, hW3⟩ : ∃ W, W = w2.alloc (.cells #[.int .i64 d, .slice a2 L2 c2] 25) := ⟨_, rfl⟩
  rw [← hW3] at hp ho3 hc3 hg3 hcc
  have HW3 := Lib.hid hW3
  have HP := Lib.hid hp
  have HO := Lib.hid ho3
  replace HCu := Lib.hid hc3
  replace HG := Lib.hid hg3
  replace HC := Lib.hid hcc
  have HS := Lib.hid (show w.heap.size < w2.heap.size ∧ b < w2.heap.size from ⟨hS, by have := HLt.out; omega⟩)
  have HLn := Lib.hid hl
  have HD := Lib.hid hd
  clear hO hc2 hg2 hc2' hS hp hb3 ho3 hc3 hg3 hcc hW3 hL2 hl hd
  go_wp2_with fail
  rw [← HW3.out]
  refine (below_any B b _ _ HCu.out (by omega) (by omega)).mono ?_
  rintro e w4 ⟨x, x0, x1, rfl, hc4, hg4⟩
  replace HC := Lib.hid ((hg4.block _ (lt_of_block HC.out) (by intro hk; have := Option.some.inj hk; have := HLt.out; omega)).trans HC.out)
  replace HP := Lib.hid ((hg4.block _ (lt_of_block HP.out) (by intro hk; have := Option.some.inj hk; have := HLt.out; have := HS.out; omega)).trans HP.out)
  replace HO := Lib.hid (HO.out.kept hg4 (by right; intro hk; have h9 := HO.out.lt _ hk; have := HLt.out; omega))
  replace HCu := Lib.hid hc4
  replace HG := Lib.hid (grown_trans HG.out hg4)
  clear hc4 hg4
  by_cases hx0 : x = 0
  · subst hx0
    go_wp2_with fail
    refine (int_alloc B b (-1) 4 [-1, 4] _ 2 _ HCu.out rfl (by omega) (by omega) (by decide)).mono ?_
    rintro e w5 ⟨y, y0, y1, rfl, hc5, hg5⟩
    replace HC := Lib.hid ((hg5.block _ (lt_of_block HC.out) (by intro hk; have := Option.some.inj hk; have := HLt.out; omega)).trans HC.out)
    replace HP := Lib.hid ((hg5.block _ (lt_of_block HP.out) (by intro hk; have := Option.some.inj hk; have := HLt.out; have := HS.out; omega)).trans HP.out)
    replace HO := Lib.hid (HO.out.kept hg5 (by right; intro hk; have h9 := HO.out.lt _ hk; have := HLt.out; omega))
    replace HG := Lib.hid (grown_trans HG.out hg5)
    obtain ⟨p0, p1, g0, g1⟩ := pcs HP.out
    have hp6 := blk_set HP.out 0 (.int .i64 y)
    have hg6 := grown_set w5 w2.heap.size 0 (.int .i64 y)
    have ho6 := HO.out.kept hg6 HNe2.out
    have hc6 := hc5.kept hg6 (fun e => by have := Option.some.inj e; have := HS.out; omega) (fun x hx => by have := Option.some.inj hx; have := HS.out; have := HLB.out; have := HLt.out; omega)
    have hgg := grown_own HG.out hg6 (fun x hx => by have := Option.some.inj hx; have := HS.out; omega)
    have hcc := (hg6.block _ (lt_of_block HC.out) (by intro hk; have := Option.some.inj hk; have := HS.out; omega)).trans HC.out
    replace HP : Hid ((w5.setCell ⟨w2.heap.size, 0, none⟩ (.int .i64 y)).heap[w2.heap.size]? = some (.cells #[.int .i64 y, .slice a2 L2 c2] 25)) := Lib.hid hp6
    replace HO := Lib.hid ho6
    replace HCu := Lib.hid hc6
    replace HG := Lib.hid hgg
    replace HC := Lib.hid hcc
    replace HD := Lib.hid (show -1 ≤ y ∧ y ≤ 4 from ⟨y0, y1⟩)
    have u0 := p0
    have v0 := g0
    clear hp6 hg6 ho6 hc6 hgg hcc hc5 hg5 y0 y1
    obtain ⟨q0, q1, f0, f1⟩ := pcs HC.out
    obtain ⟨p0, p1, g0, g1⟩ := pcs HP.out
    obtain ⟨r, rg⟩ := pst HC.out (.int .i64 y) (.slice a2 L2 c2)
    obtain ⟨r0, r1, _, _⟩ := pcs r
    have HO5 := Lib.hid (HO.out.kept rg HNe.out)
    have hcu := HCu.out.kept rg (fun e => by have := Option.some.inj e; have := HLt.out; omega) (fun x hx => by have := Option.some.inj hx; have := HLt.out; have := HLB.out; omega)
    have HCu5 := Lib.hid hcu
    have HG5 := Lib.hid (grown_own HG.out rg (fun x hx => by have := Option.some.inj hx; omega))
    clear hcu r rg HCu HG
    go_wp2_with fail
    exact bodyPost_ret (v := .agg #[.int .i64 y, .slice a2 L2 c2]) (by simp [results, Tryd.results41, go_sem, r0, r1]) rfl ⟨y, _, zs, rfl, HO5.out, HLn.out, HD.out, HCu5.out, HG5.out⟩
  · have e0 : (x == 0) = false := beq_eq_false_iff_ne.2 hx0
    by_cases hx1 : x = 1
    · subst hx1
      go_wp2_with fail
      refine (below_any B b _ _ HCu.out (by omega) (by omega)).mono ?_
      rintro e w5 ⟨y, y0, y1, rfl, hc5, hg5⟩
      obtain ⟨n, rfl⟩ : ∃ n : Nat, y = (n : Int) := ⟨y.toNat, by omega⟩
      have hn1 : n ≤ 1 := by omega
      replace HC := Lib.hid ((hg5.block _ (lt_of_block HC.out) (by intro hk; have := Option.some.inj hk; have := HLt.out; omega)).trans HC.out)
      replace HP := Lib.hid ((hg5.block _ (lt_of_block HP.out) (by intro hk; have := Option.some.inj hk; have := HLt.out; have := HS.out; omega)).trans HP.out)
      replace HG := Lib.hid (grown_trans HG.out hg5)
      replace HCu := Lib.hid hc5
      clear hc5 hg5 y0 y1 HO HNe
      go_wp2_with (first | (at_make; refine wpList_make_full _ rfl _ _ 22 rfl w5.heap.size 5 i0 (.int .u8 0) 1 Tryd.underlying22 Hhi.out hz0 hz1 .i64 .i64 (14 + (n : Int)) (14 + (n : Int)) (14 + n) rfl rfl (by omega) (by omega) (by rw [hz2]; omega) (by unfold maxLen; omega) (Nat.le_refl _) ?_))
      intro w6 hown hg6
      have hO6 := own_made hown hg6.size (by decide)
      have HSz : Hid (w.heap.size < w5.heap.size ∧ w2.heap.size < w5.heap.size) := Lib.hid ⟨lt_of_block HC.out, lt_of_block HP.out⟩
      have hc6 := HCu.out.kept hg6 (by simp) (fun r hr => by cases hr)
      have hgg6 := grown_trans HG.out (grown_none hg6)
      have hp6 := (hg6.block _ (lt_of_block HP.out) (by simp)).trans HP.out
      have hr6 := (hg6.block _ (lt_of_block HC.out) (by simp)).trans HC.out
      obtain ⟨p0, p1, g0, g1⟩ := pcs hp6
      have hp7 := blk_set hp6 1 (.slice (some ⟨w5.heap.size, 0, none⟩) (14 + n) (14 + n))
      have hg7 := grown_set w6 w2.heap.size 1 (.slice (some ⟨w5.heap.size, 0, none⟩) (14 + n) (14 + n))
      have ho7 := (hO6.mono HG.out.size).kept hg7 (by right; intro hk; have h9 : w5.heap.size = w2.heap.size := Option.some.inj hk; have := HSz.out; omega)
      have HNe : Hid ((Value.slice (some ⟨w5.heap.size, 0, none⟩) (14 + n) (14 + n)).ownBlock = none ∨ (Value.slice (some ⟨w5.heap.size, 0, none⟩) (14 + n) (14 + n)).ownBlock ≠ some w.heap.size) := Lib.hid (by right; intro hk; have h9 : w5.heap.size = w.heap.size := Option.some.inj hk; have := HSz.out; omega)
      have hc7 := hc6.kept hg7 (fun e => by have := Option.some.inj e; have := HS.out; omega) (fun x hx => by have := Option.some.inj hx; have := HS.out; have := HLB.out; have := HLt.out; omega)
      have hgg := grown_own hgg6 hg7 (fun x hx => by have := Option.some.inj hx; have := HS.out; omega)
      have hcc := (hg7.block _ (lt_of_block hr6) (by intro hk; have := Option.some.inj hk; have := HS.out; omega)).trans hr6
      replace HP : Hid ((w6.setCell ⟨w2.heap.size, 1, none⟩ (.slice (some ⟨w5.heap.size, 0, none⟩) (14 + n) (14 + n))).heap[w2.heap.size]? = some (.cells #[.int .i64 d, (.slice (some ⟨w5.heap.size, 0, none⟩) (14 + n) (14 + n))] 25)) := Lib.hid hp7
      have HO := Lib.hid ho7
      replace HCu := Lib.hid hc7
      replace HG := Lib.hid hgg
      replace HC := Lib.hid hcc
      replace HLn : Hid ((List.replicate (14 + n) (0 : Int)).length ≤ 15) := Lib.hid (by rw [List.length_replicate]; omega)
      have u0 := p0
      have v0 := g1
      clear hown hg6 hO6 hc6 hgg6 hp6 hr6 hp7 hg7 ho7 hc7 hgg hcc
      obtain ⟨q0, q1, f0, f1⟩ := pcs HC.out
      obtain ⟨p0, p1, g0, g1⟩ := pcs HP.out
      obtain ⟨r, rg⟩ := pst HC.out (.int .i64 d) (.slice (some ⟨w5.heap.size, 0, none⟩) (14 + n) (14 + n))
      obtain ⟨r0, r1, _, _⟩ := pcs r
      have HO5 := Lib.hid (HO.out.kept rg HNe.out)
      have hcu := HCu.out.kept rg (fun e => by have := Option.some.inj e; have := HLt.out; omega) (fun x hx => by have := Option.some.inj hx; have := HLt.out; have := HLB.out; omega)
      have HCu5 := Lib.hid hcu
      have HG5 := Lib.hid (grown_own HG.out rg (fun x hx => by have := Option.some.inj hx; omega))
      clear hcu r rg HCu HG
      go_wp2_with fail
      exact bodyPost_ret (v := .agg #[.int .i64 d, .slice (some ⟨w5.heap.size, 0, none⟩) (14 + n) (14 + n)]) (by simp [results, Tryd.results41, go_sem, r0, r1]) rfl ⟨d, _, List.replicate (14 + n) (0 : Int), rfl, HO5.out, HLn.out, HD.out, HCu5.out, HG5.out⟩
    · have e1 : (x == 1) = false := beq_eq_false_iff_ne.2 hx1
      clear hx0 hx1
      obtain ⟨q0, q1, f0, f1⟩ := pcs HC.out
      obtain ⟨p0, p1, g0, g1⟩ := pcs HP.out
      obtain ⟨r, rg⟩ := pst HC.out (.int .i64 d) (.slice a2 L2 c2)
      obtain ⟨r0, r1, _, _⟩ := pcs r
      have HO5 := Lib.hid (HO.out.kept rg HNe.out)
      have hcu := HCu.out.kept rg (fun e => by have := Option.some.inj e; have := HLt.out; omega) (fun x hx => by have := Option.some.inj hx; have := HLt.out; have := HLB.out; omega)
      have HCu5 := Lib.hid hcu
      have HG5 := Lib.hid (grown_own HG.out rg (fun x hx => by have := Option.some.inj hx; omega))
      clear hcu r rg HCu HG
      go_wp2_with fail
      exact bodyPost_ret (v := .agg #[.int .i64 d, .slice a2 L2 c2]) (by simp [results, Tryd.results41, go_sem, r0, r1]) rfl ⟨d, _, zs, rfl, HO5.out, HLn.out, HD.out, HCu5.out, HG5.out⟩

set_option maxHeartbeats 2000000 in
/-- spec.DrawSealCell. -/
theorem draw_se (B : Nat) (a : Option Addr) (len cap : Nat) (zs : List Int) (w : World) (hB : B ≤ w.heap.size) (hrow : RowB B .u8 w a len cap zs) (hl : len ≤ maxLen) :
    Calls Tryd.prog 9 #[.slice a len cap] w fun e w' => ∃ (k n d : Int) (v : Value) (bs : List Int), e = .returned (.tuple #[.int .i64 k, .int .i64 n, .agg #[.int .i64 d, v]]) ∧ (-1 ≤ k ∧ k ≤ 2147483647) ∧ CtrOk n ∧ (-1 ≤ d ∧ d ≤ 4) ∧ Own 5 .u8 w.heap.size w' v bs ∧ bs.length ≤ 15 ∧ Below w.heap.size w w' := by
  have c1 := heap_alloc_new w (.cells #[.int .i64 0, .slice none 0 0] 25)
  have hBw := (Below.refl w.heap.size w).alloc (Nat.le_refl _) (.cells #[.int .i64 0, .slice none 0 0] 25)
  have hr1 := hrow.behind (hBw.mono hB)
  obtain ⟨W, hW⟩ : ∃ W, W = w.alloc (.cells #[.int .i64 0, .slice none 0 0] 25) := ⟨_, rfl⟩
  rw [← hW] at c1 hBw hr1
  have HW := Lib.hid hW
  have HC := Lib.hid c1
  have HBw := Lib.hid hBw
  have HR := Lib.hid hr1
  have HS := Lib.hid (show w.heap.size < W.heap.size from lt_of_block c1)
  clear hrow hW c1 hBw hr1
  go_enter Tryd.func9, Tryd.ntmps9
  go_wp2_with fail
  rw [← HW.out]
  refine (new_any B a len cap zs _ (Nat.le_trans hB HBw.out.size) HR.out hl).mono ?_
  rintro e w1 ⟨rfl, hc, hg⟩
  have HCu := Lib.hid hc
  have HG := Lib.hid (grown_none (r := some W.heap.size) hg)
  clear hc hg HR
  go_wp2_with fail
  refine (key13 B W.heap.size _ HCu.out).mono ?_
  rintro e w2 ⟨k, k0, k1, rfl, hc, hg⟩
  have HK := Lib.hid (And.intro k0 k1)
  replace HCu := Lib.hid hc
  replace HG := Lib.hid (grown_trans HG.out hg)
  clear hc hg
  go_wp2_with fail
  refine (counter13 B W.heap.size _ HCu.out).mono ?_
  rintro e w3 ⟨n, hn, rfl, hc, hg⟩
  have HN := Lib.hid hn
  replace HCu := Lib.hid hc
  replace HG := Lib.hid (grown_trans HG.out hg)
  have HG3 : Hid (w.heap.size < w3.heap.size) := Lib.hid (by have := HG.out.size; have := HS.out; omega)
  clear hc hg hn
  go_wp2_with fail
  refine (any13 B W.heap.size _ HCu.out).mono ?_
  rintro e w4 ⟨d, v, bs, rfl, hO, hl4, hd, hc, hg⟩
  obtain ⟨a4, c4, hv4, _⟩ := hO.open
  obtain ⟨L4, hL4⟩ : ∃ L, L = bs.length := ⟨_, rfl⟩
  rw [← hL4] at hv4
  subst hv4
  replace HG := Lib.hid (grown_trans HG.out hg)
  have hc4 : w4.heap[w.heap.size]? = some (.cells #[.int .i64 0, .slice none 0 0] 25) := (HG.out.block _ (lt_of_block HC.out) (by intro hk; have h9 : w.heap.size = W.heap.size := Option.some.inj hk; have := HS.out; omega)).trans HC.out
  have hb4 := below_of_grown (B := w.heap.size) HG.out (by have := HS.out; omega) HBw.out.size
  obtain ⟨q0, q1, f0, f1⟩ := pcs hc4
  obtain ⟨r, rg⟩ := pst hc4 (.int .i64 d) (.slice a4 L4 c4)
  obtain ⟨r0, r1, _, _⟩ := pcs r
  have hO4 := hO.kept rg (by right; intro hk; have h9 := hO.lt _ hk; have := HG3.out; omega)
  have HO4 := Lib.hid (hO4.mono (B' := w.heap.size) (by have := HG3.out; omega))
  have HB4 := Lib.hid ((HBw.out.trans hb4).grown rg (HBw.out.trans hb4).size (fun k hk => by have := Option.some.inj hk; omega))
  have HD := Lib.hid hd
  have HL4 := Lib.hid hl4
  clear hO hc hg hc4 hb4 r rg hO4 hL4 HCu HG HC
  go_wp2_with fail
  exact bodyPost_ret (v := .tuple #[.int .i64 k, .int .i64 n, .agg #[.int .i64 d, .slice a4 L4 c4]]) (by simp [results, Tryd.results9, go_sem, r0, r1]) rfl ⟨k, n, d, _, bs, rfl, HK.out, HN.out, HD.out, HO4.out, HL4.out, HB4.out⟩

end Go.Proofs.YtbimihljaalllaaDoor
