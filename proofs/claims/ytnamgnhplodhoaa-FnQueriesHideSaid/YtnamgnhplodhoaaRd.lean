/- Slices of integers as they are read, and rows that a call made itself. No program. -/
import Derived.Test.YtnamgnhplodhoaaJ1
import Derived.OwnWalk
import Derived.Laws.AppendOwnNone
import Derived.Laws.BytesArg
import Derived.Lib.Hide
import Derived.OpenShut
namespace Go.Proofs.Ytnamgnhplodhoaa
open Go Go.RowKit
set_option linter.unusedVariables false

theorem addr_add_block (x : Addr) (i : Nat) : (x.add i).block = x.block := by unfold Addr.add; split <;> rfl

/-- The slice v reads zs; its cells lie below block lim. -/
def Rd (lim : Nat) (k : IntKind) (w : World) (v : Value) (zs : List Int) : Prop :=
  (∀ z ∈ zs, (Lit.int k z).wf = true) ∧ ∃ a cap, v = .slice a zs.length cap ∧ zs.length ≤ cap ∧ cap ≤ maxLen ∧
    ((a = none ∧ cap = 0) ∨ ∃ x, a = some x ∧ (∀ i, i < zs.length → w.cell? (x.add i) = some (.int k (zs.getD i 0))) ∧ (x.block < lim ∨ zs.length = 0))

/-- v is nil or the head of a row of the call's own (blocks from B on) whose elements are zs. -/
def Own (e : TypeId) (k : IntKind) (B : Nat) (w : World) (v : Value) (zs : List Int) : Prop :=
  (∀ z ∈ zs, (Lit.int k z).wf = true) ∧ B ≤ w.heap.size ∧ w.ownsRow B e 1 v zs.length (zs.map (Value.int k))

/-- The two rows share no block. -/
def Apart (v u : Value) : Prop := ∀ r, v.ownBlock = some r → u.ownBlock ≠ some r

theorem IsRow.rd {k : IntKind} {w : World} {a : Option Addr} {len cap : Nat} {zs : List Int} (h : IsRow k w a len cap zs) : Rd w.heap.size k w (.slice a len cap) (zs.take len) := by
  rcases h with ⟨rfl, rfl, rfl, rfl⟩ | ⟨x, rfl, hl, hc, hz, hcell, hwf, hb⟩
  · exact ⟨by simp, none, 0, by simp, by simp, by unfold maxLen; omega, .inl ⟨rfl, rfl⟩⟩
  · have e : (zs.take len).length = len := by simp; omega
    refine ⟨fun z hz => hwf z (List.mem_of_mem_take hz), some x, cap, by rw [e], by omega, hc, .inr ⟨x, rfl, fun i hi => ?_, ?_⟩⟩
    · rw [hcell i (by omega)]
      simp [List.getD_eq_getElem?_getD, show i < len by omega]
    · rcases hb with h | h
      · exact .inl h
      · right; omega

theorem Rd.mono {l l' : Nat} {k : IntKind} {w : World} {v : Value} {zs : List Int} (h : Rd l k w v zs) (hl : l ≤ l') : Rd l' k w v zs := by
  obtain ⟨hw, a, cap, hv, h1, h2, h3⟩ := h
  refine ⟨hw, a, cap, hv, h1, h2, ?_⟩
  rcases h3 with h3 | ⟨x, h4, h5, h6⟩
  · exact .inl h3
  · exact .inr ⟨x, h4, h5, by omega⟩

theorem Rd.behind {l : Nat} {k : IntKind} {w w' : World} {v : Value} {zs : List Int} (h : Rd l k w v zs) (hb : Below l w w') : Rd l k w' v zs := by
  obtain ⟨hw, a, cap, hv, h1, h2, h3⟩ := h
  refine ⟨hw, a, cap, hv, h1, h2, ?_⟩
  rcases h3 with h3 | ⟨x, h4, h5, h6⟩
  · exact .inl h3
  · refine .inr ⟨x, h4, fun i hi => ?_, h6⟩
    rw [← h5 i hi]
    exact hb.cell (p := x.add i) (by rw [addr_add_block]; omega)

/-- With at least one element: the address and its cells. -/
theorem Rd.at {l : Nat} {k : IntKind} {w : World} {v : Value} {zs : List Int} (h : Rd l k w v zs) (hp : 0 < zs.length) :
    ∃ b o cap, v = .slice (some ⟨b, o, none⟩) zs.length cap ∧ zs.length ≤ cap ∧ cap ≤ maxLen ∧ (∀ i, i < zs.length → w.cell? ⟨b, o + i, none⟩ = some (.int k (zs.getD i 0))) ∧ b < l := by
  obtain ⟨hw, a, cap, hv, h1, h2, h3⟩ := h
  rcases h3 with h3 | ⟨x, rfl, h5, h6⟩
  · omega
  · obtain ⟨xb, xo, rfl, hc⟩ := ints_at h5 hp
    refine ⟨xb, xo, cap, hv, h1, h2, hc, ?_⟩
    rcases h6 with h | h
    · exact h
    · omega

/-- The slice's value, and what its elements read in every later world. -/
theorem Rd.open {l : Nat} {k : IntKind} {w : World} {v : Value} {zs : List Int} (h : Rd l k w v zs) :
    ∃ a cap, v = .slice a zs.length cap ∧ zs.length ≤ cap ∧ cap ≤ maxLen ∧
      (0 < zs.length → ∃ b o, a = some ⟨b, o, none⟩ ∧ b < l ∧ ∀ w', Below l w w' → ∀ i, i < zs.length → w'.cell? ⟨b, o + i, none⟩ = some (.int k (zs.getD i 0))) := by
  have h' := h
  obtain ⟨hw, a, cap, hv, h1, h2, h3⟩ := h
  refine ⟨a, cap, hv, h1, h2, fun hp => ?_⟩
  obtain ⟨b, o, cap', hv', _, _, hc, hb⟩ := h'.at hp
  rw [hv] at hv'
  injection hv' with e1 e2 e3
  refine ⟨b, o, e1, hb, fun w' hb' i hi => ?_⟩
  rw [← hc i hi]
  exact hb'.cell (p := ⟨b, o + i, none⟩) hb

/-- With no element: a slice of length 0. -/
theorem Rd.empty {l : Nat} {k : IntKind} {w : World} {v : Value} {zs : List Int} (h : Rd l k w v zs) (hp : zs = []) : ∃ a cap, v = .slice a 0 cap ∧ cap ≤ maxLen := by
  obtain ⟨hw, a, cap, hv, h1, h2, h3⟩ := h
  subst hp
  exact ⟨a, cap, hv, h2⟩

theorem Rd.len {l : Nat} {k : IntKind} {w : World} {v : Value} {zs : List Int} (h : Rd l k w v zs) : zs.length ≤ maxLen := by
  obtain ⟨hw, a, cap, hv, h1, h2, h3⟩ := h
  omega

theorem Rd.len_eq {l : Nat} {k : IntKind} {w : World} {a : Option Addr} {len cap : Nat} {zs : List Int} (h : Rd l k w (.slice a len cap) zs) : len = zs.length := by
  obtain ⟨_, a', c', hv, _⟩ := h
  injection hv

theorem Rd.wf {l : Nat} {k : IntKind} {w : World} {v : Value} {zs : List Int} (h : Rd l k w v zs) {i : Nat} (hi : i < zs.length) : (Lit.int k (zs.getD i 0)).wf = true := by
  refine h.1 _ ?_
  rw [List.getD_eq_getElem?_getD, List.getElem?_eq_getElem hi]; simp

theorem wf_u8 {n : Int} (h : (Lit.int .u8 n).wf = true) : 0 ≤ n ∧ n ≤ 255 := by
  have e1 : IntKind.u8.min = 0 := rfl
  have e2 : IntKind.u8.max = 255 := rfl
  simp [Lit.wf, e1, e2] at h
  exact h
theorem wf_u8_of {n : Int} (h0 : 0 ≤ n) (h1 : n ≤ 255) : (Lit.int .u8 n).wf = true := by
  have e1 : IntKind.u8.min = 0 := rfl
  have e2 : IntKind.u8.max = 255 := rfl
  simp [Lit.wf, e1, e2]; omega
theorem wf_i64 {n : Int} (h : (Lit.int .i64 n).wf = true) : -9223372036854775808 ≤ n ∧ n ≤ 9223372036854775807 := by
  have e1 : IntKind.i64.min = -9223372036854775808 := rfl
  have e2 : IntKind.i64.max = 9223372036854775807 := rfl
  simp [Lit.wf, e1, e2] at h
  exact h
theorem wf_i64_of {n : Int} (h0 : -9223372036854775808 ≤ n) (h1 : n ≤ 9223372036854775807) : (Lit.int .i64 n).wf = true := by
  have e1 : IntKind.i64.min = -9223372036854775808 := rfl
  have e2 : IntKind.i64.max = 9223372036854775807 := rfl
  simp [Lit.wf, e1, e2]; omega

section
variable {e : TypeId} {k : IntKind} {B : Nat} {w w' : World} {v u : Value} {zs ys : List Int}

theorem Own.lt (h : Own e k B w v zs) : ∀ r, v.ownBlock = some r → B ≤ r ∧ r < w.heap.size := h.2.2.lt

theorem Own.rd (h : Own e k B w v zs) : Rd w.heap.size k w v zs := by
  obtain ⟨hw, hB, ho⟩ := h
  have ho' := ho
  rcases ho.2 with ⟨rfl, h0⟩ | ⟨g, cap, cur, rfl, hb, hg, hn, hc, hs, ht⟩
  · have : zs = [] := List.eq_nil_of_length_eq_zero h0
    subst this
    exact ⟨hw, none, 0, rfl, by simp, by unfold maxLen; omega, .inl ⟨rfl, rfl⟩⟩
  · refine ⟨hw, _, cap, rfl, hn, hc, .inr ⟨_, rfl, fun i hi => ?_, .inl (Array.getElem?_eq_some_iff.1 hg).1⟩⟩
    have e1 : (⟨g, 0, none⟩ : Addr).add i = ⟨g, i, none⟩ := by unfold Addr.add; split <;> simp_all
    rw [e1, World.ownsRow.cellAt ho' i (by omega)]
    simp [List.getD_eq_getElem?_getD, List.getElem?_eq_getElem hi]

theorem Own.kept {row : Option Nat} (h : Own e k B w v zs) (hg : w.grownBy w' row) (hne : v.ownBlock = none ∨ v.ownBlock ≠ row) : Own e k B w' v zs :=
  ⟨h.1, Nat.le_trans h.2.1 hg.size, h.2.2.kept hg hne⟩

theorem grown_of_below_at {C : Nat} {a b : World} (h : Below C a b) (hC : a.heap.size ≤ C) : a.grownBy b none :=
  ⟨h.os, h.tape, h.output, h.size, fun k hk _ => h.block k (by omega)⟩

/-- Behind a call that leaves all there was. -/
theorem Own.next (h : Own e k B w v zs) (hb : Below w.heap.size w w') : Own e k B w' v zs :=
  h.kept (grown_of_below hb) (by cases hv : v.ownBlock <;> simp)

theorem Own.alloc (h : Own e k B w v zs) (o : Obj) : Own e k B (w.alloc o) v zs :=
  h.kept (World.grownBy_alloc w o none) (by cases hv : v.ownBlock <;> simp)

/-- What was there before a row was made shares no block with it. -/
theorem Own.apart {e' : TypeId} {k' : IntKind} (h : Own e k B w v zs) (hu : Own e' k' w.heap.size w' u ys) : Apart v u := fun r hr he => by
  have h1 := h.lt r hr
  have h2 := hu.lt r he
  omega

theorem Apart.symm {v u : Value} (h : Apart v u) : Apart u v := fun r hr he => h r he hr

/-- A store into one row leaves the other. -/
theorem Own.beside (h : Own e k B w v zs) (ha : Apart v u) (hg : w.grownBy w' u.ownBlock) : Own e k B w' v zs := by
  refine h.kept hg ?_
  cases hv : v.ownBlock with
  | none => exact .inl rfl
  | some r =>
    right
    intro he
    exact ha r hv he.symm

theorem Own.below {C : Nat} (h : Own e k B w v zs) (hC : C ≤ B) (hg : w.grownBy w' v.ownBlock) : Below C w w' :=
  (Below.refl C w).grown hg (Nat.le_trans hC h.2.1) (fun r hr => by have := (h.lt r hr).1; omega)

theorem Own.mono {B' : Nat} (h : Own e k B w v zs) (hB : B' ≤ B) : Own e k B' w v zs := by
  obtain ⟨hw, h1, h2, h3⟩ := h
  refine ⟨hw, by omega, h2, ?_⟩
  rcases h3 with h3 | ⟨g, cap, cur, h4, h5, h6⟩
  · exact .inl h3
  · exact .inr ⟨g, cap, cur, h4, by omega, h6⟩

theorem Own.nil (e : TypeId) (k : IntKind) (hB : B ≤ w.heap.size) : Own e k B w (.slice none 0 0) [] := ⟨by simp, hB, World.ownsRow_nil _ _ _ _⟩

/-- An empty literal. -/
theorem Own.lit (e : TypeId) (k : IntKind) (hB : B ≤ w.heap.size) : Own e k B (w.alloc (.cells #[] e)) (.slice (some ⟨w.heap.size, 0, none⟩) 0 0) [] :=
  ⟨by simp, by simp; omega, World.ownsRow_made w #[] 0 hB (Nat.zero_le _) rfl⟩
end

/-- A literal of one element. -/
theorem Rd.one (e : TypeId) (k : IntKind) (w : World) (z : Int) (hz : (Lit.int k z).wf = true) : Rd (w.heap.size + 1) k (w.alloc (.cells #[.int k z] e)) (.slice (some ⟨w.heap.size, 0, none⟩) 1 1) [z] := by
  refine ⟨by simpa using hz, _, 1, rfl, Nat.le_refl _, by unfold maxLen; omega, .inr ⟨_, rfl, fun i hi => ?_, .inl (Nat.lt_succ_self _)⟩⟩
  have : i = 0 := by simpa using hi
  subst this
  have e1 : (⟨w.heap.size, 0, none⟩ : Addr).add 0 = ⟨w.heap.size, 0, none⟩ := by unfold Addr.add; split <;> simp_all
  rw [e1]
  have := blk_cell (heap_alloc_new w (.cells #[.int k z] e)) 0
  rw [this]; rfl

/-- A literal of one element, as a row of the call's own. -/
theorem Own.one {B : Nat} {w : World} {z : Int} (e : TypeId) (k : IntKind) (hB : B ≤ w.heap.size) (hz : (Lit.int k z).wf = true) : Own e k B (w.alloc (.cells #[.int k z] e)) (.slice (some ⟨w.heap.size, 0, none⟩) 1 1) [z] :=
  ⟨by simpa using hz, by simp; omega, World.ownsRow_lit w #[.int k z] 1 hB (by unfold maxLen; omega) rfl⟩

/-- append to a row of the call's own of what is read. -/
theorem append_rd {P : Program} (w : World) {ops : Array Oper} {rest : List Oper} {o : Oper} {a : Act} {Q : Exit → Act → World → Prop} (hg : o.guard = none) (s x : Operand) (t : TypeId)
    (hop : o.op = .call { callee := .builtin .append, args := #[s, x], argTypes := #[t, t] }) (e : TypeId) (i : TypeInfo) (z : Value) (bytes : Nat) (ht : P.underlying t = some (.slice e)) (hi : P.info? e = some i) (hz : i.zero = some z)
    (hsize : i.size = 1) (hby : i.bytes = bytes) (hzs : z.cells.size = 1) (hb1 : 1 ≤ bytes) {k : IntKind} {B lim : Nat} {v u : Value} {xs ys : List Int} (hs : a.eval s = v) (hown : Own e k B w v xs) (hx : a.eval x = u) (hu : Rd lim k w u ys)
    (hle : (xs.length + ys.length) * bytes ≤ 140737488355328)
    (h : ∀ v' w', Own e k B w' v' (xs ++ ys) → w.grownBy w' v.ownBlock → wpList P ops Q rest (a.put o.dst v') w') : wpList P ops Q (o :: rest) a w := by
  obtain ⟨uw, ua, ucap, rfl, u1, u2, u3⟩ := hu
  obtain ⟨vw, vB, vo⟩ := hown
  have hm : xs.length + ys.length ≤ maxLen := by
    have : (xs.length + ys.length) * 1 ≤ (xs.length + ys.length) * bytes := Nat.mul_le_mul_left _ hb1
    unfold maxLen; omega
  have key : ∀ v' w', w'.ownsRow B e 1 v' (xs.length + ys.length) (xs.map (Value.int k) ++ ys.map (Value.int k)) → w.grownBy w' v.ownBlock → wpList P ops Q rest (a.put o.dst v') w' := fun v' w' h1 h2 =>
    h v' w' ⟨by intro n hn; rcases List.mem_append.1 hn with h | h; exact vw n h; exact uw n h, Nat.le_trans vB h2.size, by simpa using h1⟩ h2
  rcases u3 with ⟨rfl, rfl⟩ | ⟨y, rfl, hc, hbl⟩
  · have hy : ys = [] := List.eq_nil_of_length_eq_zero (by omega)
    subst hy
    refine wpList_append_own_none hg s x t hop B e i 1 ht hi v xs.length _ hs vo hx ?_
    exact key v w (by simpa using vo) (World.grownBy.refl _ _)
  · refine wpList_append_own w hg s x t hop B e i z 1 bytes ht hi hz hsize hby hzs (by decide) v xs.length _ hs vo y ys.length ucap (ys.map (Value.int k)) hx (by simp) ?_ ?_ hm hle vB ?_
    · intro j n hn
      rw [List.getElem?_map] at hn
      rcases hj : ys[j]? with _ | q
      · simp [hj] at hn
      · simp [hj] at hn
        have hlt : j < ys.length := (List.getElem?_eq_some_iff.1 hj).1
        rw [hc j hlt, List.getD_eq_getElem?_getD, hj]
        simpa using hn
    · intro n hn
      obtain ⟨q, _, rfl⟩ := List.mem_map.1 hn
      rfl
    · intro v' w' h1 h2 _
      exact key v' w' h1 h2

end Go.Proofs.Ytnamgnhplodhoaa
