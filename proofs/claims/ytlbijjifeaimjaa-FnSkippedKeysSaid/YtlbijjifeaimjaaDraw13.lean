/- What spec.DrawSealCell draws: a key, a counter, a plain message. No conditions but sizes that a machine holds. -/
import Derived.Test.YtlbijjifeaimjaaDrawB
import Derived.Test.YtlbijjifeaimjaaBaD
import Derived.Test.YtlbijjifeaimjaaCl1
namespace Go.Proofs.Ytlbijjifeaimjaa
open Go Go.RowKit
set_option linter.unusedVariables false

/-- spec.l1Int over a list of numbers that the call has made: one of them. -/
theorem int_in (B b l : Nat) (zs : List Int) (t : TypeId) (fz : Nat × Nat) (n : Nat) (w : World) (h : Cur B b w) (hne : l ≠ b) (hl : w.heap[l]? = some (.cells (zs.map (Value.int .i64)).toArray t fz))
    (hn : n = zs.length) (hn1 : 1 ≤ n) (hs : n ≤ 1000) :
    Calls Try.prog 27 #[.pointer (some ⟨b, 0, none⟩), .slice (some ⟨l, 0, none⟩) n n] w fun e w' => ∃ x : Int, x ∈ zs ∧ e = .returned (.int .i64 x) ∧ Cur B b w' ∧ w.grownBy w' (some b) := by
  have H := Lib.hid h
  have HL := Lib.hid hl
  have HN := Lib.hid hn
  have hlt := lt_of_block hl
  clear h hl hn
  go_enter Try.func27, Try.ntmps27
  go_wp2_with fail
  refine (below_any B b _ _ H.out (by omega) (by omega)).mono ?_
  rintro e w1 ⟨x, x0, x1, rfl, hc, hg⟩
  obtain ⟨k, rfl⟩ := Int.eq_ofNat_of_zero_le x0
  have hk : k < n := by omega
  have hc1 : w1.cell? ⟨l, k, none⟩ = some (.int .i64 (zs.getD k 0)) := by
    have e1 := hg.block l hlt (by simpa using hne)
    rw [HL.out] at e1
    rw [blk_cell e1]
    have hN := HN.out
    have hk' : k < zs.length := by omega
    simp [List.getD, List.getElem?_eq_getElem hk']
  have hm : zs.getD k 0 ∈ zs := by
    have hN := HN.out
    have hk' : k < zs.length := by omega
    rw [List.getD_eq_getElem?_getD, List.getElem?_eq_getElem hk']; simp
  obtain ⟨y, hy⟩ : ∃ y, y = zs.getD k 0 := ⟨_, rfl⟩
  rw [← hy] at hc1 hm
  have HM := Lib.hid hm
  clear hy hm
  go_wp2_with fail
  go_ret
  exact ⟨y, HM.out, rfl, hc, hg⟩
theorem int_in_alloc (B b : Nat) (zs : List Int) (t : TypeId) (n : Nat) (w : World) (h : Cur B b w) (hn : n = zs.length) (hn1 : 1 ≤ n) (hs : n ≤ 1000) :
    Calls Try.prog 27 #[.pointer (some ⟨b, 0, none⟩), .slice (some ⟨w.heap.size, 0, none⟩) n n] (w.alloc (.cells (zs.map (Value.int .i64)).toArray t)) fun e w' => ∃ x : Int, x ∈ zs ∧ e = .returned (.int .i64 x) ∧ Cur B b w' ∧ w.grownBy w' (some b) := by
  have hlt := h.lt
  refine (int_in B b w.heap.size zs t (0, 0) n _ (h.alloc _) (by omega) ?_ hn hn1 hs).mono ?_
  · show (w.heap.push _)[w.heap.size]? = _
    simp
  · rintro e w1 ⟨x, h0, he, hc, hg⟩
    exact ⟨x, h0, he, hc, grown_trans (World.grownBy_alloc _ _ _) hg⟩

/-- spec.l13Key. -/
theorem key13 (B b : Nat) (w : World) (h : Cur B b w) :
    Calls Try.prog 26 #[.pointer (some ⟨b, 0, none⟩)] w (StepOut B b (-1) 2147483647 w) := by
  have H := Lib.hid h
  clear h
  go_enter Try.func26, Try.ntmps26
  go_wp2_with fail
  refine (once_any B b _ _ H.out (by omega) (by omega)).mono ?_
  rintro e w1 ⟨t, rfl, hc, hg⟩
  cases t
  · go_wp2_with fail
    refine (below_any B b _ _ hc (by omega) (by omega)).mono ?_
    rintro e w3 ⟨y, y0, y1, rfl, hc3, hg3⟩
    go_wp2_with fail
    go_ret
    exact ⟨1 + y, by omega, by omega, rfl, hc3, grown_trans hg hg3⟩
  · go_wp2_with fail
    refine (int_alloc B b (-1) 2147483647 [0, -1, 2147483646, 2147483647] _ 4 _ hc rfl (by omega) (by omega) (by decide)).mono ?_
    rintro e w2 ⟨y, y0, y1, rfl, hc2, hg2⟩
    go_wp2_with fail
    go_ret
    exact ⟨y, y0, y1, rfl, hc2, grown_trans hg hg2⟩

/-- What a drawn counter is. -/
def CtrOk (n : Int) : Prop := (0 ≤ n ∧ n ≤ 49) ∨ n = -1 ∨ n = 1000000000000 ∨ n = 1000000000001
/-- What a drawn plain message is told of. -/
def PlainOut (B b : Nat) (w : World) (e : Ending) (w' : World) : Prop :=
  ∃ (d : Int) (v : Value) (zs : List Int), e = .returned (.agg #[.int .i64 d, v]) ∧ Own 5 .u8 w.heap.size w' v zs ∧ zs.length ≤ 15 ∧ (-1 ≤ d ∧ d ≤ 4) ∧ Cur B b w' ∧ w.grownBy w' (some b)

end Go.Proofs.Ytlbijjifeaimjaa
