/- Sealed cells: OpenCell and FindCounter of the program. Conditions: the package variable errors.errorType holds the handle of the type 'error'. -/
import Derived.Test.YtlhpjfhglkngfaaDoorCl4
import Derived.Test.YtlhpjfhglkngfaaDoorErr
import Derived.Test.YtlhpjfhglkngfaaDoorBcX
namespace Go.Proofs.YtlhpjfhglkngfaaDoor
open Go Go.RowKit
set_option linter.unusedVariables false
attribute [local irreducible] kh kid

theorem ocK_no {k n : Int} {zs : List Int} (h : ook k n zs = false) : ocK k n zs = 0 := if_neg (by rw [h]; decide)
theorem ocB_no {k n : Int} {zs : List Int} (h : ook k n zs = false) : ocB k n zs = [] := if_neg (by rw [h]; decide)

set_option maxRecDepth 20000 in
set_option maxHeartbeats 4000000 in
/-- impl.OpenCell. -/
theorem impl_oc {lim : Nat} {w : World} {v : Value} {zs : List Int} {k n : Int} (h : Rd lim .u8 w v zs) (hlim : lim ≤ w.heap.size) (hk : (Lit.int .i64 k).wf = true) (hn : (Lit.int .i64 n).wf = true) (hg : GV w) :
    Calls Tryd.prog 57 #[.int .i64 k, .int .i64 n, v] w fun e w' => ∃ v', e = .returned (.tuple #[.agg #[.int .i64 (ocK k n zs), v'], .bool (ook k n zs)]) ∧ Own 5 .u8 w.heap.size w' v' (ocB k n zs) ∧ Below w.heap.size w w' := by
  have HK := Lib.hid hk
  have HN := Lib.hid hn
  have HG := Lib.hid hg
  have b1 := (Below.refl w.heap.size w).alloc (Nat.le_refl _) (.cells #[.int .i64 0, .slice none 0 0] 52)
  have c1 := heap_alloc_new w (.cells #[.int .i64 0, .slice none 0 0] 52)
  obtain ⟨W, hW⟩ : ∃ W, W = w.alloc (.cells #[.int .i64 0, .slice none 0 0] 52) := ⟨_, rfl⟩
  rw [← hW] at b1 c1
  have HW := Lib.hid hW
  have HB := Lib.hid b1
  have HC := Lib.hid c1
  have H := Lib.hid (h.behind (b1.mono hlim))
  clear h hW b1 c1 hk hn hg
  go_enter Tryd.func57, Tryd.ntmps57
  go_wp2_with fail
  rw [← HW.out]
  refine (uns_any H.out (Nat.le_trans hlim HB.out.size) HK.out HN.out).mono ?_
  rintro e w2 (⟨ht, ⟨v2, rfl, h2⟩, hb⟩ | ⟨ht, ⟨s2, q2, rfl, hq⟩, hb⟩)
  · have HT := Lib.hid ht
    obtain ⟨L2, hL2⟩ : ∃ L, L = (ocB k n zs).length := ⟨_, rfl⟩
    obtain ⟨a2, c2, hv2, _⟩ := h2.open
    rw [← hL2] at hv2
    subst hv2
    obtain ⟨kd, hkd⟩ : ∃ x, x = ocK k n zs := ⟨_, rfl⟩
    rw [← hkd]
    have HKd := Lib.hid hkd
    have hc2 : w2.heap[w.heap.size]? = some (.cells #[.int .i64 0, .slice none 0 0] 52) := (hb.block _ (lt_of_block HC.out)).trans HC.out
    have hb2 := HB.out.trans (hb.mono HB.out.size)
    have H2 := Lib.hid (h2.mono HB.out.size)
    have HNe : Hid ((Value.slice a2 L2 c2).ownBlock = none ∨ (Value.slice a2 L2 c2).ownBlock ≠ some w.heap.size) := Lib.hid (by right; intro hk; have h9 := h2.lt _ hk; have := lt_of_block HC.out; omega)
    replace HC := Lib.hid hc2
    replace HB := Lib.hid hb2
    have b3 := (Below.refl w2.heap.size w2).alloc (Nat.le_refl _) (.cells #[.int .i64 kd, .slice a2 L2 c2] 52)
    have b4 := b3.alloc (by simp) (.cells #[.string ⟨#[]⟩, .bool false] 95)
    have k3 := heap_alloc_new w2 (.cells #[.int .i64 kd, .slice a2 L2 c2] 52)
    have k4 := (heap_alloc_old (w2.alloc (.cells #[.int .i64 kd, .slice a2 L2 c2] 52)) (.cells #[.string ⟨#[]⟩, .bool false] 95) (lt_of_block k3)).trans k3
    obtain ⟨W3, hW3⟩ : ∃ W, W = (w2.alloc (.cells #[.int .i64 kd, .slice a2 L2 c2] 52)).alloc (.cells #[.string ⟨#[]⟩, .bool false] 95) := ⟨_, rfl⟩
    rw [← hW3] at b4 k4
    have HW3 := Lib.hid hW3
    have hc3 : W3.heap[w.heap.size]? = some (.cells #[.int .i64 0, .slice none 0 0] 52) := (b4.block _ (lt_of_block HC.out)).trans HC.out
    have hb3 := HB.out.trans (b4.mono HB.out.size)
    have h3 := H2.out.next b4
    obtain ⟨m0, m1, _, _⟩ := pcs k4
    obtain ⟨q0, q1, f0, f1⟩ := pcs hc3
    obtain ⟨r, rg⟩ := pst hc3 (.int .i64 kd) (.slice a2 L2 c2)
    obtain ⟨r0, r1, _, _⟩ := pcs r
    have h8 := h3.kept rg (HNe.out)
    have H8 := Lib.hid h8
    have B8 := Lib.hid (hb3.grown rg hb3.size (fun k hk => by injection hk with hk; omega))
    clear h2 hb hc2 hb2 ht hL2 hkd H b3 b4 k3 k4 hW3 hc3 hb3 h3 r rg h8
    go_wp2_with fail
    rw [← HW3.out]
    refine (as_nil _ _).mono ?_
    rintro e w4 ⟨rfl, hw⟩
    obtain rfl : W3 = w4 := hw.symm
    go_wp2_with fail
    exact bodyPost_ret (v := .tuple #[.agg #[.int .i64 kd, .slice a2 L2 c2], .bool true]) (by simp [results, Tryd.results57, go_sem, r0, r1]) rfl ⟨_, by rw [HT.out, HKd.out], H8.out, B8.out⟩
  · have HT := Lib.hid ht
    have HE1 := Lib.hid (ocK_no ht)
    have HE2 := Lib.hid (ocB_no ht)
    have hc2 : w2.heap[w.heap.size]? = some (.cells #[.int .i64 0, .slice none 0 0] 52) := (hb.block _ (lt_of_block HC.out)).trans HC.out
    have hb2 := HB.out.trans (hb.mono HB.out.size)
    have b3 := (Below.refl w2.heap.size w2).alloc (Nat.le_refl _) (.cells #[.int .i64 0, .slice none 0 0] 52)
    have b4 := b3.alloc (by simp) (.cells #[.string ⟨#[]⟩, .bool false] 95)
    have k4 := heap_alloc_new (w2.alloc (.cells #[.int .i64 0, .slice none 0 0] 52)) (.cells #[.string ⟨#[]⟩, .bool false] 95)
    rw [World.size_alloc] at k4
    obtain ⟨W3, hW3⟩ : ∃ W, W = (w2.alloc (.cells #[.int .i64 0, .slice none 0 0] 52)).alloc (.cells #[.string ⟨#[]⟩, .bool false] 95) := ⟨_, rfl⟩
    rw [← hW3] at b4 k4
    have HW3 := Lib.hid hW3
    have K4 := Lib.hid k4
    have hc3 : W3.heap[w.heap.size]? = some (.cells #[.int .i64 0, .slice none 0 0] 52) := (b4.block _ (lt_of_block hc2)).trans hc2
    have hb3 := hb2.trans (b4.mono hb2.size)
    have G3 := Lib.hid (HG.out.next hb3)
    replace HC := Lib.hid hc3
    replace HB := Lib.hid hb3
    have HS := Lib.hid (show w.heap.size < w2.heap.size from lt_of_block hc2)
    clear hb hc2 hb2 ht H b3 b4 k4 hW3 hc3 hb3
    go_wp2_with fail
    rw [← HW3.out]
    refine (as_hit' s2 _ q2 _ _ _ G3.out K4.out).mono ?_
    rintro e w4 ⟨rfl, hg4, hk4⟩
    have hc4 : w4.heap[w.heap.size]? = some (.cells #[.int .i64 0, .slice none 0 0] 52) := (hg4.block _ (lt_of_block HC.out) (by intro hk; have h9 : w.heap.size = w2.heap.size + 1 := Option.some.inj hk; have := HS.out; omega)).trans HC.out
    have hb4 := HB.out.grown hg4 HB.out.size (fun k hk => by injection hk with hk; have := HS.out; omega)
    obtain ⟨q0, q1, f0, f1⟩ := pcs hc4
    obtain ⟨r, rg⟩ := pst hc4 (.int .i64 0) (.slice none 0 0)
    obtain ⟨r0, r1, _, _⟩ := pcs r
    have B8 := Lib.hid (hb4.grown rg hb4.size (fun k hk => by injection hk with hk; omega))
    clear hg4 hk4 hc4 hb4 r rg
    go_wp2_with fail
    exact bodyPost_ret (v := .tuple #[.agg #[.int .i64 0, .slice none 0 0], .bool false]) (by simp [results, Tryd.results57, go_sem, r0, r1]) rfl ⟨_, by rw [HT.out, HE1.out], by rw [HE2.out]; exact Own.nil _ _ B8.out.size, B8.out⟩

theorem fcn_found {k : Int} {c : List Int} {f : Int} : ∀ (m i d : Nat), d < m → (∀ t, t < d → ook k (wrap64 (f + ((i + t : Nat) : Int))) c = false) → ook k (wrap64 (f + ((i + d : Nat) : Int))) c = true → fcn k c f m i = wrap64 (f + ((i + d : Nat) : Int)) := by
  intro m
  induction m with
  | zero => intro i d h; omega
  | succ m ih =>
    intro i d hd hn hy
    show (if ook k (wrap64 (f + (i : Int))) c = true then wrap64 (f + (i : Int)) else fcn k c f m (i + 1)) = _
    cases d with
    | zero => rw [Nat.add_zero] at hy; rw [if_pos hy, Nat.add_zero]
    | succ d =>
      have h0 := hn 0 (by omega)
      rw [Nat.add_zero] at h0
      rw [if_neg (by rw [h0]; decide)]
      have := ih (i + 1) d (by omega) (fun t ht => by have := hn (t + 1) (by omega); rwa [show i + (t + 1) = i + 1 + t by omega] at this) (by rwa [show i + 1 + d = i + (d + 1) by omega])
      rw [this, show i + 1 + d = i + (d + 1) by omega]
theorem fcn_none {k : Int} {c : List Int} {f : Int} : ∀ (m i : Nat), (∀ t, t < m → ook k (wrap64 (f + ((i + t : Nat) : Int))) c = false) → fcn k c f m i = -1 := by
  intro m
  induction m with
  | zero => intro i _; rfl
  | succ m ih =>
    intro i hn
    show (if ook k (wrap64 (f + (i : Int))) c = true then wrap64 (f + (i : Int)) else fcn k c f m (i + 1)) = _
    have h0 := hn 0 (by omega)
    rw [Nat.add_zero] at h0
    rw [if_neg (by rw [h0]; decide)]
    exact ih (i + 1) (fun t ht => by have := hn (t + 1) (by omega); rwa [show i + (t + 1) = i + 1 + t by omega] at this)
theorem fcnt_found {k f n : Int} {c : List Int} {j : Nat} (hj : j < min n.toNat 100) (hn : ∀ t : Nat, t < j → ook k (wrap64 (f + (t : Int))) c = false) (hy : ook k (wrap64 (f + (j : Int))) c = true) : fcnt k c f n = wrap64 (f + (j : Int)) := by
  have := fcn_found (k := k) (c := c) (f := f) (min n.toNat 100) 0 j hj (fun t ht => by rw [Nat.zero_add]; exact hn t ht) (by rw [Nat.zero_add]; exact hy)
  rwa [Nat.zero_add] at this
theorem fcnt_none {k f n : Int} {c : List Int} (hn : ∀ t : Nat, t < min n.toNat 100 → ook k (wrap64 (f + (t : Int))) c = false) : fcnt k c f n = -1 :=
  fcn_none (min n.toNat 100) 0 (fun t ht => by rw [Nat.zero_add]; exact hn t ht)
theorem wf_wrap64 (x : Int) : (Lit.int .i64 (wrap64 x)).wf = true := wf_i64_of (by unfold wrap64; omega) (by unfold wrap64; omega)

end Go.Proofs.YtlhpjfhglkngfaaDoor
