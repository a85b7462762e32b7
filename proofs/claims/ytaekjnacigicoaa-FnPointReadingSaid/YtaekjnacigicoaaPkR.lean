/- What the property of reading with point keys needs: the answers of two servers join to the row. No program. -/
import Derived.Test.YtaekjnacigicoaaPkP
import Derived.Test.YtaekjnacigicoaaQuP
namespace Go.Proofs.Ytaekjnacigicoaa
open Go Go.RowKit
set_option linter.unusedVariables false
attribute [local irreducible] kh

section
variable {d : List (List Int)}
theorem pk_vrows (hr : ∀ z ∈ d, z.length = 24) : vrows d = true := List.all_eq_true.2 fun z hz => by rw [hr z hz]; rfl
theorem pk_ans_len (hr : ∀ z ∈ d, z.length = 24) {v : List Int} (hk : ansK d v = true) : (ans d v).length = 24 := by
  rw [ans_yes hk, xorl_len, List.length_replicate]
  by_cases he : chosen d v = []
  · unfold sx
    rw [he, xorAll_nil]
    simp
  · unfold sx
    rw [xorAll_len_same (chosen_mem hr) he]
    simp
/-- Two servers' answers. -/
theorem pk_read (hr : ∀ z ∈ d, z.length = 24) (hd : ∀ z ∈ d, U8s z) {n I : Nat} (hn : d.length = n) (h64 : n ≤ 64) (hI : I < n) {X Y : List Int} (hX : isel X (n : Int) = true) (hY : isel Y (n : Int) = true) (hx : xors X Y = (List.replicate n 0).set I 1) :
    caK [ans d X, ans d Y] = true ∧ ca [ans d X, ans d Y] = d.getD I [] := by
  have hv : vd d = true := by unfold vd; rw [pk_vrows hr, decide_eq_true (by omega)]; rfl
  have kX : ansK d X = true := by unfold ansK; rw [hv, hn, hX]; rfl
  have kY : ansK d Y = true := by unfold ansK; rw [hv, hn, hY]; rfl
  have hall : ∀ z ∈ [ans d X, ans d Y], z.length = 24 := fun z hz => by
    rcases List.mem_cons.1 hz with rfl | hz
    · exact pk_ans_len hr kX
    · rw [List.mem_singleton.1 hz]; exact pk_ans_len hr kY
  have hk : caK [ans d X, ans d Y] = true := by
    unfold caK
    rw [pk_vrows hall]
    rfl
  have hId : I < d.length := by omega
  have h24 : (d.getD I []).length = 24 := by
    rw [List.getD_eq_getElem?_getD, List.getElem?_eq_getElem hId]
    exact hr _ (List.getElem_mem hId)
  refine ⟨hk, ?_⟩
  rw [ca_yes hk]
  refine list_eq (by rw [xorAll_len_same hall (by simp), h24]) fun i hi => ?_
  have e1 : (xorAll [ans d X, ans d Y]).getD i 0 = bx (bx 0 ((ans d X).getD i 0)) ((ans d Y).getD i 0) := by
    unfold xorAll
    rw [xorAll_bxf]
    rfl
  have bX := isel_iff.1 hX
  have bY := isel_iff.1 hY
  have hs := sx_xor hd bX.1 bY.1 (by omega) i
  have ho := sx_one hd hn h64 hI
  have hu : unitV (n : Int) (I : Int) = (List.replicate n (0 : Int)).set I 1 := by
    unfold unitV
    rw [if_pos (by omega)]
    rfl
  rw [hu, ← hx] at ho
  rw [ho] at hs
  have hc := bx_cancel ((sx_u8 hd X).get i).1 (by rw [← ho]; exact ((sx_u8 hd _).get i).1) ((sx_u8 hd Y).get i).1 hs
  rw [e1, ans_getD hd hv (by rw [hn]; exact hX) i, ans_getD hd hv (by rw [hn]; exact hY) i, zero_bx ((sx_u8 hd X).get i).1, hc]
theorem pk_fl (hr : ∀ z ∈ d, z.length = 24) : fl d = d.length * 24 := by
  induction d with
  | nil => rfl
  | cons z l ih =>
    have h1 := hr z (List.mem_cons_self ..)
    have h2 := ih fun y hy => hr y (List.mem_cons_of_mem _ hy)
    unfold fl at h2 ⊢
    rw [List.map_cons, List.sum_cons, h1, h2, List.length_cons]
    omega
theorem pk_tot (hr : ∀ z ∈ d, z.length = 24) {n : Nat} (hn : d.length = n) (h64 : n ≤ 64) : tot d ≤ 1099511627776 := by
  have h1 := pk_fl hr
  unfold tot
  omega
theorem pk_two (hr : ∀ z ∈ d, z.length = 24) {n : Nat} (hn : d.length = n) (h64 : n ≤ 64) {X Y : List Int} (hX : isel X (n : Int) = true) (hY : isel Y (n : Int) = true) : ∀ z ∈ [ans d X, ans d Y], z.length = 24 := fun z hz => by
  have hv : vd d = true := by unfold vd; rw [pk_vrows hr, decide_eq_true (by omega)]; rfl
  rcases List.mem_cons.1 hz with rfl | hz
  · exact pk_ans_len hr (by unfold ansK; rw [hv, hn, hX]; rfl)
  · rw [List.mem_singleton.1 hz]; exact pk_ans_len hr (by unfold ansK; rw [hv, hn, hY]; rfl)
theorem pk_set (hr : ∀ z ∈ d, z.length = 24) (i : Nat) {z : List Int} (hz : z.length = 24) : ∀ y ∈ d.set i z, y.length = 24 := fun y hy => by
  rcases List.mem_or_eq_of_mem_set hy with h | h
  · exact hr y h
  · rw [h]; exact hz
end

theorem pk_u8 {lim : Nat} {w : World} {v : Value} {d : List (List Int)} (h : Rd2 lim .u8 w v d) : ∀ z ∈ d, U8s z := fun z hz => by
  obtain ⟨us, hus, _, hr⟩ := h
  obtain ⟨i, hi, rfl⟩ := List.mem_iff_getElem.1 hz
  exact (hr i us[i] _ (List.getElem?_eq_getElem (by omega)) (List.getElem?_eq_getElem hi)).u8s
/-- A literal of two rows. -/
theorem rd2_two {w : World} {u v : Value} {xs ys : List Int} {k : IntKind} {l1 l2 : Nat} (hu : Rd l1 k w u xs) (hv : Rd l2 k w v ys) (h1 : l1 ≤ w.heap.size) (h2 : l2 ≤ w.heap.size) (t : TypeId) :
    Rd2 (w.heap.size + 1) k (w.alloc (.cells #[u, v] t)) (.slice (some ⟨w.heap.size, 0, none⟩) 2 2) [xs, ys] := by
  have b1 := (Below.refl w.heap.size w).alloc (Nat.le_refl _) (.cells #[u, v] t)
  refine ⟨[u, v], rfl, ⟨_, 2, rfl, Nat.le_refl _, by unfold maxLen; omega, .inr ⟨_, rfl, fun i y hy => ?_, .inl (Nat.lt_succ_self _)⟩⟩, fun i x zs hx hz => ?_⟩
  · have e1 : (⟨w.heap.size, 0, none⟩ : Addr).add i = ⟨w.heap.size, i, none⟩ := by unfold Addr.add; split <;> simp_all
    rw [e1, blk_cell (heap_alloc_new w (.cells #[u, v] t)) i, ← hy]
    simp
  · rcases i with _ | _ | i
    · injection hx with hx
      injection hz with hz
      subst hx
      subst hz
      exact (hu.behind (b1.mono h1)).mono (by omega)
    · injection hx with hx
      injection hz with hz
      subst hx
      subst hz
      exact (hv.behind (b1.mono h2)).mono (by omega)
    · simp at hx

end Go.Proofs.Ytaekjnacigicoaa
