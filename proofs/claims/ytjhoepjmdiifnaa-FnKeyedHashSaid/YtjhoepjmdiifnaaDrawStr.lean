/- Strings drawn from the cursor. No conditions. -/
import Derived.Test.YtjhoepjmdiifnaaDrawNum
namespace Go.Proofs.Ytjhoepjmdiifnaa
open Go.RowKit
set_option linter.unusedVariables false

/-- spec.l1Str over a list of strings that the call has made. -/
def StrOut (B b : Nat) (n : Nat) (w : World) (e : Ending) (w' : World) : Prop :=
  ∃ s : ByteArray, s.size ≤ n ∧ e = .returned (.string s) ∧ Cur B b w' ∧ w.grownBy w' (some b)

theorem str_alloc (B b : Nat) (m : Nat) (ss : List ByteArray) (t : TypeId) (n : Nat) (w : World) (h : Cur B b w) (hn : n = ss.length) (hn1 : 1 ≤ n) (hs : n ≤ 1000) (hz : ∀ x ∈ ss, x.size ≤ m) :
    Calls Try.prog 54 #[.pointer (some ⟨b, 0, none⟩), .slice (some ⟨w.heap.size, 0, none⟩) n n] (w.alloc (.cells (ss.map Value.string).toArray t)) (StrOut B b m w) := by
  have hlt := h.lt
  have H := Lib.hid (h.alloc (.cells (ss.map Value.string).toArray t))
  have HN := Lib.hid hn
  obtain ⟨W, hW⟩ : ∃ W, W = w.alloc (.cells (ss.map Value.string).toArray t) := ⟨_, rfl⟩
  have hl : W.heap[w.heap.size]? = some (.cells (ss.map Value.string).toArray t (0, 0)) := by
    rw [hW]; show (w.heap.push _)[w.heap.size]? = _; simp
  have hsz : w.heap.size < W.heap.size := lt_of_block hl
  have hg0 : w.grownBy W (some b) := by rw [hW]; exact World.grownBy_alloc _ _ _
  rw [← hW] at H ⊢
  have HL := Lib.hid hl
  obtain ⟨l, hl0⟩ : ∃ l, l = w.heap.size := ⟨_, rfl⟩
  rw [← hl0] at HL hsz ⊢
  have hne : l ≠ b := by omega
  clear h hl hn hW hlt hl0
  go_enter Try.func54, Try.ntmps54
  go_wp2_with fail
  refine (below_any B b _ _ H.out (by omega) (by omega)).mono ?_
  rintro e w1 ⟨x, x0, x1, rfl, hc, hg⟩
  obtain ⟨k, rfl⟩ := Int.eq_ofNat_of_zero_le x0
  have hk : k < n := by omega
  obtain ⟨y, hy, hm⟩ : ∃ y, w1.cell? ⟨l, k, none⟩ = some (.string y) ∧ y.size ≤ m := by
    have e1 := hg.block l hsz (by simpa using hne)
    rw [HL.out] at e1
    have hN := HN.out
    have hk' : k < ss.length := by omega
    refine ⟨ss[k], ?_, hz _ (List.getElem_mem _)⟩
    rw [blk_cell e1]
    simp [List.getElem?_eq_getElem hk']
  clear hz
  go_wp2_with fail
  go_ret
  exact ⟨y, hm, rfl, hc, grown_trans hg0 hg⟩

end Go.Proofs.Ytjhoepjmdiifnaa
