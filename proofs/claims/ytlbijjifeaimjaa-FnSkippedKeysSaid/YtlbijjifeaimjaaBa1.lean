/- What my walks are told of a slice of integers that came in. No program. The last bits of a number, as the model reckons them. No program. A block known whole: its cells, a store into it, and what a store leaves. No program. Slices of integers as they are read, and rows that a call made itself. No program. A list that is written from its head on. No program. -/
import Derived.Below
import Derived.WalkKit
import Derived.Laws.Bits128
import Derived.OwnWalk
import Derived.OneCell
import Derived.RangeFuncBox
import Derived.Deep.QuietTactic
import Derived.Laws.AppendOwnNone
import Derived.Laws.BytesArg
import Derived.Lib.Hide
import Derived.OpenShut

/-! RowIn -/
namespace Go.Proofs.Ytlbijjifeaimjaa
open Go.RowKit

/-- A slice of integers that came in: it is nil; or it leads to a row of 'cap' cells that hold 'zs', of which the first 'len' are its elements. -/
def IsRow (k : IntKind) (w : World) (a : Option Addr) (len cap : Nat) (zs : List Int) : Prop :=
  (a = none ∧ len = 0 ∧ cap = 0 ∧ zs = []) ∨
  ∃ x, a = some x ∧ len ≤ cap ∧ cap ≤ maxLen ∧ zs.length = cap ∧ (∀ i, i < zs.length → w.cell? (x.add i) = some (.int k (zs.getD i 0))) ∧ (∀ n ∈ zs, (Lit.int k n).wf = true) ∧ (x.block < w.heap.size ∨ zs.length = 0)

end Go.Proofs.Ytlbijjifeaimjaa


/-! Bits -/
namespace Go.Proofs.Ytlbijjifeaimjaa
open Go

theorem i64_mask (k : Nat) (m : Int) (hk : k ≤ 62) (hm : (BitVec.ofInt 64 m).toNat = 2 ^ k - 1) (n : Int) : bits .and .i64 n m = n % ((2 ^ k : Nat) : Int) := by
  have key : (BitVec.ofInt 64 n &&& BitVec.ofInt 64 m).toNat = (n % ((2 ^ 64 : Nat) : Int)).toNat % 2 ^ k := by
    rw [BitVec.toNat_and, BitVec.toNat_ofInt, hm, Nat.and_two_pow_sub_one_eq_mod]
  show IntKind.i64.wrap ((BitVec.ofInt 64 n &&& BitVec.ofInt 64 m).toNat : Nat) = _
  rw [key, IntKind.wrap_i64]
  have hd : (2 ^ 64 : Nat) = 2 ^ k * 2 ^ (64 - k) := by rw [← Nat.pow_add]; congr 1; omega
  have e1 : (n % ((2 ^ 64 : Nat) : Int)).toNat % 2 ^ k = (n % ((2 ^ k : Nat) : Int)).toNat := by
    apply Int.ofNat_inj.1
    rw [Int.natCast_emod, Int.toNat_of_nonneg (Int.emod_nonneg _ (by decide)), Int.toNat_of_nonneg (Int.emod_nonneg _ (by have := Nat.pow_pos (n := k) (show 0 < 2 by decide); omega)), hd]
    rw [Int.emod_emod_of_dvd _ (by rw [Int.natCast_mul]; exact Int.dvd_mul_right _ _)]
  rw [e1]
  have hp : (2 : Nat) ^ k ≤ 2 ^ 62 := Nat.pow_le_pow_right (by decide) hk
  have hp0 := Nat.pow_pos (n := k) (show 0 < 2 by decide)
  have e62 : (2 : Nat) ^ 62 = 4611686018427387904 := by decide
  have b1 := Int.emod_nonneg n (b := ((2 ^ k : Nat) : Int)) (by omega)
  have b2 := Int.emod_lt_of_pos n (b := ((2 ^ k : Nat) : Int)) (by omega)
  generalize n % ((2 ^ k : Nat) : Int) = r at b1 b2 ⊢
  omega

theorem i64_and255 (n : Int) : bits .and .i64 n 255 = n % 256 := i64_mask 8 255 (by decide) (by decide) n
theorem i64_and30 (n : Int) : bits .and .i64 n 1073741823 = n % 1073741824 := i64_mask 30 1073741823 (by decide) (by decide) n

end Go.Proofs.Ytlbijjifeaimjaa


/-! Blk -/
namespace Go.Proofs.Ytlbijjifeaimjaa
open Go Go.RowKit

theorem blk_cell {w : World} {b : Nat} {C : Array Value} {t : TypeId} {fz : Nat × Nat} (h : w.heap[b]? = some (.cells C t fz)) (i : Nat) : w.cell? ⟨b, i, none⟩ = C[i]? := by
  simp [World.cell?, h]
theorem blk_free {w : World} {b : Nat} {C : Array Value} {t : TypeId} (h : w.heap[b]? = some (.cells C t (0, 0))) (i : Nat) : w.frozen? ⟨b, i, none⟩ = false := by
  simp [World.frozen?, h]
theorem blk_set {w : World} {b : Nat} {C : Array Value} {t : TypeId} {fz : Nat × Nat} (h : w.heap[b]? = some (.cells C t fz)) (i : Nat) (u : Value) :
    (w.setCell ⟨b, i, none⟩ u).heap[b]? = some (.cells (C.setIfInBounds i u) t fz) := by
  have hlt := lt_of_block h
  have h' : w.heap[b] = .cells C t fz := by simpa [Array.getElem?_eq_getElem hlt] using h
  show (w.heap.modify b _)[b]? = _
  rw [Array.getElem?_eq_getElem (by simpa using hlt), Array.getElem_modify_self, h']
  rfl
theorem grown_set (w : World) (b i : Nat) (u : Value) : w.grownBy (w.setCell ⟨b, i, none⟩ u) (some b) :=
  ⟨rfl, rfl, rfl, by simp [World.setCell], fun k _ hk => Below.heap_setCell _ _ _ k (fun e => hk (by rw [e]))⟩
theorem grown_trans {a b c : World} {r : Option Nat} (h : a.grownBy b r) (k : b.grownBy c r) : a.grownBy c r :=
  ⟨k.os.trans h.os, k.tape.trans h.tape, k.output.trans h.output, Nat.le_trans h.size k.size, fun j hj hr => (k.block j (Nat.lt_of_lt_of_le hj h.size) hr).trans (h.block j hj hr)⟩
theorem grown_drewN (w : World) (n : Nat) (r : Option Nat) : w.grownBy (w.drewN n) r := ⟨rfl, rfl, rfl, Nat.le_refl _, fun _ _ _ => rfl⟩
theorem grown_none {a b : World} {r : Option Nat} (h : a.grownBy b none) : a.grownBy b r := ⟨h.os, h.tape, h.output, h.size, fun k hk _ => h.block k hk (by simp)⟩
theorem below_of_grown {B : Nat} {a b : World} {r : Nat} (h : a.grownBy b (some r)) (hr : B ≤ r) (hB : B ≤ a.heap.size) : Below B a b :=
  (Below.refl _ _).grown h hB (fun k hk => by injection hk with hk; omega)
theorem grown_of_below {a b : World} (h : Below a.heap.size a b) : a.grownBy b none := ⟨h.os, h.tape, h.output, h.size, fun k hk _ => h.block k hk⟩

end Go.Proofs.Ytlbijjifeaimjaa


/-! Rd -/
namespace Go.Proofs.Ytlbijjifeaimjaa
open Go Go.RowKit
set_option linter.unusedVariables false

theorem addr_add_block (x : Addr) (i : Nat) : (x.add i).block = x.block := by unfold Addr.add; split <;> rfl

/-- The slice v reads zs; its cells lie below block lim. -/
def Rd (lim : Nat) (k : IntKind) (w : World) (v : Value) (zs : List Int) : Prop :=
  (∀ z ∈ zs, (Lit.int k z).wf = true) ∧ ∃ a cap, v = .slice a zs.length cap ∧ zs.length ≤ cap ∧ cap ≤ maxLen ∧
    ((a = none ∧ cap = 0) ∨ ∃ x, a = some x ∧ (∀ i, i < zs.length → w.cell? (x.add i) = some (.int k (zs.getD i 0))) ∧ (x.block < lim ∨ zs.length = 0))

/-- v is nil or the head of a row of the call's own (blocks from B on) whose elements are zs. -/
def Own (e : TypeId) (k : IntKind) (B : Nat) (w : World) (v : Value) (zs : List Int) : Prop :=
  (∀ z ∈ zs, (Lit.int k z).wf = true) ∧ B ≤ w.heap.size ∧ w.ownsRow B e 1 v zs.length (zs.map (Value.int k))

/-- The two rows share no block. -/
def Apart (v u : Value) : Prop := ∀ r, v.ownBlock = some r → u.ownBlock ≠ some r

theorem IsRow.rd {k : IntKind} {w : World} {a : Option Addr} {len cap : Nat} {zs : List Int} (h : IsRow k w a len cap zs) : Rd w.heap.size k w (.slice a len cap) (zs.take len) := by
  rcases h with ⟨rfl, rfl, rfl, rfl⟩ | ⟨x, rfl, hl, hc, hz, hcell, hwf, hb⟩
  · exact ⟨by simp, none, 0, by simp, by simp, by unfold maxLen; omega, .inl ⟨rfl, rfl⟩⟩
  · have e : (zs.take len).length = len := by simp; omega
    refine ⟨fun z hz => hwf z (List.mem_of_mem_take hz), some x, cap, by rw [e], by omega, hc, .inr ⟨x, rfl, fun i hi => ?_, ?_⟩⟩
    · rw [hcell i (by omega)]
      simp [List.getD_eq_getElem?_getD, show i < len by omega]
    · rcases hb with h | h
      · exact .inl h
      · right; omega

theorem Rd.mono {l l' : Nat} {k : IntKind} {w : World} {v : Value} {zs : List Int} (h : Rd l k w v zs) (hl : l ≤ l') : Rd l' k w v zs := by
  obtain ⟨hw, a, cap, hv, h1, h2, h3⟩ := h
  refine ⟨hw, a, cap, hv, h1, h2, ?_⟩
  rcases h3 with h3 | ⟨x, h4, h5, h6⟩
  · exact .inl h3
  · exact .inr ⟨x, h4, h5, by omega⟩

theorem Rd.behind {l : Nat} {k : IntKind} {w w' : World} {v : Value} {zs : List Int} (h : Rd l k w v zs) (hb : Below l w w') : Rd l k w' v zs := by
  obtain ⟨hw, a, cap, hv, h1, h2, h3⟩ := h
  refine ⟨hw, a, cap, hv, h1, h2, ?_⟩
  rcases h3 with h3 | ⟨x, h4, h5, h6⟩
  · exact .inl h3
  · refine .inr ⟨x, h4, fun i hi => ?_, h6⟩
    rw [← h5 i hi]
    exact hb.cell (p := x.add i) (by rw [addr_add_block]; omega)

/-- With at least one element: the address and its cells. -/
theorem Rd.at {l : Nat} {k : IntKind} {w : World} {v : Value} {zs : List Int} (h : Rd l k w v zs) (hp : 0 < zs.length) :
    ∃ b o cap, v = .slice (some ⟨b, o, none⟩) zs.length cap ∧ zs.length ≤ cap ∧ cap ≤ maxLen ∧ (∀ i, i < zs.length → w.cell? ⟨b, o + i, none⟩ = some (.int k (zs.getD i 0))) ∧ b < l := by
  obtain ⟨hw, a, cap, hv, h1, h2, h3⟩ := h
  rcases h3 with h3 | ⟨x, rfl, h5, h6⟩
  · omega
  · obtain ⟨xb, xo, rfl, hc⟩ := ints_at h5 hp
    refine ⟨xb, xo, cap, hv, h1, h2, hc, ?_⟩
    rcases h6 with h | h
    · exact h
    · omega

/-- The slice's value, and what its elements read in every later world. -/
theorem Rd.open {l : Nat} {k : IntKind} {w : World} {v : Value} {zs : List Int} (h : Rd l k w v zs) :
    ∃ a cap, v = .slice a zs.length cap ∧ zs.length ≤ cap ∧ cap ≤ maxLen ∧
      (0 < zs.length → ∃ b o, a = some ⟨b, o, none⟩ ∧ b < l ∧ ∀ w', Below l w w' → ∀ i, i < zs.length → w'.cell? ⟨b, o + i, none⟩ = some (.int k (zs.getD i 0))) := by
  have h' := h
  obtain ⟨hw, a, cap, hv, h1, h2, h3⟩ := h
  refine ⟨a, cap, hv, h1, h2, fun hp => ?_⟩
  obtain ⟨b, o, cap', hv', _, _, hc, hb⟩ := h'.at hp
  rw [hv] at hv'
  injection hv' with e1 e2 e3
  refine ⟨b, o, e1, hb, fun w' hb' i hi => ?_⟩
  rw [← hc i hi]
  exact hb'.cell (p := ⟨b, o + i, none⟩) hb

/-- With no element: a slice of length 0. -/
theorem Rd.empty {l : Nat} {k : IntKind} {w : World} {v : Value} {zs : List Int} (h : Rd l k w v zs) (hp : zs = []) : ∃ a cap, v = .slice a 0 cap ∧ cap ≤ maxLen := by
  obtain ⟨hw, a, cap, hv, h1, h2, h3⟩ := h
  subst hp
  exact ⟨a, cap, hv, h2⟩

theorem Rd.len {l : Nat} {k : IntKind} {w : World} {v : Value} {zs : List Int} (h : Rd l k w v zs) : zs.length ≤ maxLen := by
  obtain ⟨hw, a, cap, hv, h1, h2, h3⟩ := h
  omega

theorem Rd.len_eq {l : Nat} {k : IntKind} {w : World} {a : Option Addr} {len cap : Nat} {zs : List Int} (h : Rd l k w (.slice a len cap) zs) : len = zs.length := by
  obtain ⟨_, a', c', hv, _⟩ := h
  injection hv

theorem Rd.wf {l : Nat} {k : IntKind} {w : World} {v : Value} {zs : List Int} (h : Rd l k w v zs) {i : Nat} (hi : i < zs.length) : (Lit.int k (zs.getD i 0)).wf = true := by
  refine h.1 _ ?_
  rw [List.getD_eq_getElem?_getD, List.getElem?_eq_getElem hi]; simp

theorem wf_u8 {n : Int} (h : (Lit.int .u8 n).wf = true) : 0 ≤ n ∧ n ≤ 255 := by
  have e1 : IntKind.u8.min = 0 := rfl
  have e2 : IntKind.u8.max = 255 := rfl
  simp [Lit.wf, e1, e2] at h
  exact h
theorem wf_u8_of {n : Int} (h0 : 0 ≤ n) (h1 : n ≤ 255) : (Lit.int .u8 n).wf = true := by
  have e1 : IntKind.u8.min = 0 := rfl
  have e2 : IntKind.u8.max = 255 := rfl
  simp [Lit.wf, e1, e2]; omega
theorem wf_i64 {n : Int} (h : (Lit.int .i64 n).wf = true) : -9223372036854775808 ≤ n ∧ n ≤ 9223372036854775807 := by
  have e1 : IntKind.i64.min = -9223372036854775808 := rfl
  have e2 : IntKind.i64.max = 9223372036854775807 := rfl
  simp [Lit.wf, e1, e2] at h
  exact h
theorem wf_i64_of {n : Int} (h0 : -9223372036854775808 ≤ n) (h1 : n ≤ 9223372036854775807) : (Lit.int .i64 n).wf = true := by
  have e1 : IntKind.i64.min = -9223372036854775808 := rfl
  have e2 : IntKind.i64.max = 9223372036854775807 := rfl
  simp [Lit.wf, e1, e2]; omega

section
variable {e : TypeId} {k : IntKind} {B : Nat} {w w' : World} {v u : Value} {zs ys : List Int}

theorem Own.lt (h : Own e k B w v zs) : ∀ r, v.ownBlock = some r → B ≤ r ∧ r < w.heap.size := h.2.2.lt

theorem Own.rd (h : Own e k B w v zs) : Rd w.heap.size k w v zs := by
  obtain ⟨hw, hB, ho⟩ := h
  have ho' := ho
  rcases ho.2 with ⟨rfl, h0⟩ | ⟨g, cap, cur, rfl, hb, hg, hn, hc, hs, ht⟩
  · have : zs = [] := List.eq_nil_of_length_eq_zero h0
    subst this
    exact ⟨hw, none, 0, rfl, by simp, by unfold maxLen; omega, .inl ⟨rfl, rfl⟩⟩
  · refine ⟨hw, _, cap, rfl, hn, hc, .inr ⟨_, rfl, fun i hi => ?_, .inl (Array.getElem?_eq_some_iff.1 hg).1⟩⟩
    have e1 : (⟨g, 0, none⟩ : Addr).add i = ⟨g, i, none⟩ := by unfold Addr.add; split <;> simp_all
    rw [e1, World.ownsRow.cellAt ho' i (by omega)]
    simp [List.getD_eq_getElem?_getD, List.getElem?_eq_getElem hi]

theorem Own.kept {row : Option Nat} (h : Own e k B w v zs) (hg : w.grownBy w' row) (hne : v.ownBlock = none ∨ v.ownBlock ≠ row) : Own e k B w' v zs :=
  ⟨h.1, Nat.le_trans h.2.1 hg.size, h.2.2.kept hg hne⟩

theorem grown_of_below_at {C : Nat} {a b : World} (h : Below C a b) (hC : a.heap.size ≤ C) : a.grownBy b none :=
  ⟨h.os, h.tape, h.output, h.size, fun k hk _ => h.block k (by omega)⟩

/-- Behind a call that leaves all there was. -/
theorem Own.next (h : Own e k B w v zs) (hb : Below w.heap.size w w') : Own e k B w' v zs :=
  h.kept (grown_of_below hb) (by cases hv : v.ownBlock <;> simp)

theorem Own.alloc (h : Own e k B w v zs) (o : Obj) : Own e k B (w.alloc o) v zs :=
  h.kept (World.grownBy_alloc w o none) (by cases hv : v.ownBlock <;> simp)

/-- What was there before a row was made shares no block with it. -/
theorem Own.apart {e' : TypeId} {k' : IntKind} (h : Own e k B w v zs) (hu : Own e' k' w.heap.size w' u ys) : Apart v u := fun r hr he => by
  have h1 := h.lt r hr
  have h2 := hu.lt r he
  omega

theorem Apart.symm {v u : Value} (h : Apart v u) : Apart u v := fun r hr he => h r he hr

/-- A store into one row leaves the other. -/
theorem Own.beside (h : Own e k B w v zs) (ha : Apart v u) (hg : w.grownBy w' u.ownBlock) : Own e k B w' v zs := by
  refine h.kept hg ?_
  cases hv : v.ownBlock with
  | none => exact .inl rfl
  | some r =>
    right
    intro he
    exact ha r hv he.symm

theorem Own.below {C : Nat} (h : Own e k B w v zs) (hC : C ≤ B) (hg : w.grownBy w' v.ownBlock) : Below C w w' :=
  (Below.refl C w).grown hg (Nat.le_trans hC h.2.1) (fun r hr => by have := (h.lt r hr).1; omega)

theorem Own.mono {B' : Nat} (h : Own e k B w v zs) (hB : B' ≤ B) : Own e k B' w v zs := by
  obtain ⟨hw, h1, h2, h3⟩ := h
  refine ⟨hw, by omega, h2, ?_⟩
  rcases h3 with h3 | ⟨g, cap, cur, h4, h5, h6⟩
  · exact .inl h3
  · exact .inr ⟨g, cap, cur, h4, by omega, h6⟩

theorem Own.nil (e : TypeId) (k : IntKind) (hB : B ≤ w.heap.size) : Own e k B w (.slice none 0 0) [] := ⟨by simp, hB, World.ownsRow_nil _ _ _ _⟩

/-- An empty literal. -/
theorem Own.lit (e : TypeId) (k : IntKind) (hB : B ≤ w.heap.size) : Own e k B (w.alloc (.cells #[] e)) (.slice (some ⟨w.heap.size, 0, none⟩) 0 0) [] :=
  ⟨by simp, by simp; omega, World.ownsRow_made w #[] 0 hB (Nat.zero_le _) rfl⟩
end

/-- A literal of one element. -/
theorem Rd.one (e : TypeId) (k : IntKind) (w : World) (z : Int) (hz : (Lit.int k z).wf = true) : Rd (w.heap.size + 1) k (w.alloc (.cells #[.int k z] e)) (.slice (some ⟨w.heap.size, 0, none⟩) 1 1) [z] := by
  refine ⟨by simpa using hz, _, 1, rfl, Nat.le_refl _, by unfold maxLen; omega, .inr ⟨_, rfl, fun i hi => ?_, .inl (Nat.lt_succ_self _)⟩⟩
  have : i = 0 := by simpa using hi
  subst this
  have e1 : (⟨w.heap.size, 0, none⟩ : Addr).add 0 = ⟨w.heap.size, 0, none⟩ := by unfold Addr.add; split <;> simp_all
  rw [e1]
  have := blk_cell (heap_alloc_new w (.cells #[.int k z] e)) 0
  rw [this]; rfl

/-- A literal of one element, as a row of the call's own. -/
theorem Own.one {B : Nat} {w : World} {z : Int} (e : TypeId) (k : IntKind) (hB : B ≤ w.heap.size) (hz : (Lit.int k z).wf = true) : Own e k B (w.alloc (.cells #[.int k z] e)) (.slice (some ⟨w.heap.size, 0, none⟩) 1 1) [z] :=
  ⟨by simpa using hz, by simp; omega, World.ownsRow_lit w #[.int k z] 1 hB (by unfold maxLen; omega) rfl⟩

/-- append to a row of the call's own of what is read. -/
theorem append_rd {P : Program} (w : World) {ops : Array Oper} {rest : List Oper} {o : Oper} {a : Act} {Q : Exit → Act → World → Prop} (hg : o.guard = none) (s x : Operand) (t : TypeId)
    (hop : o.op = .call { callee := .builtin .append, args := #[s, x], argTypes := #[t, t] }) (e : TypeId) (i : TypeInfo) (z : Value) (bytes : Nat) (ht : P.underlying t = some (.slice e)) (hi : P.info? e = some i) (hz : i.zero = some z)
    (hsize : i.size = 1) (hby : i.bytes = bytes) (hzs : z.cells.size = 1) (hb1 : 1 ≤ bytes) {k : IntKind} {B lim : Nat} {v u : Value} {xs ys : List Int} (hs : a.eval s = v) (hown : Own e k B w v xs) (hx : a.eval x = u) (hu : Rd lim k w u ys)
    (hle : (xs.length + ys.length) * bytes ≤ 140737488355328)
    (h : ∀ v' w', Own e k B w' v' (xs ++ ys) → w.grownBy w' v.ownBlock → wpList P ops Q rest (a.put o.dst v') w') : wpList P ops Q (o :: rest) a w := by
  obtain ⟨uw, ua, ucap, rfl, u1, u2, u3⟩ := hu
  obtain ⟨vw, vB, vo⟩ := hown
  have hm : xs.length + ys.length ≤ maxLen := by
    have : (xs.length + ys.length) * 1 ≤ (xs.length + ys.length) * bytes := Nat.mul_le_mul_left _ hb1
    unfold maxLen; omega
  have key : ∀ v' w', w'.ownsRow B e 1 v' (xs.length + ys.length) (xs.map (Value.int k) ++ ys.map (Value.int k)) → w.grownBy w' v.ownBlock → wpList P ops Q rest (a.put o.dst v') w' := fun v' w' h1 h2 =>
    h v' w' ⟨by intro n hn; rcases List.mem_append.1 hn with h | h; exact vw n h; exact uw n h, Nat.le_trans vB h2.size, by simpa using h1⟩ h2
  rcases u3 with ⟨rfl, rfl⟩ | ⟨y, rfl, hc, hbl⟩
  · have hy : ys = [] := List.eq_nil_of_length_eq_zero (by omega)
    subst hy
    refine wpList_append_own_none hg s x t hop B e i 1 ht hi v xs.length _ hs vo hx ?_
    exact key v w (by simpa using vo) (World.grownBy.refl _ _)
  · refine wpList_append_own w hg s x t hop B e i z 1 bytes ht hi hz hsize hby hzs (by decide) v xs.length _ hs vo y ys.length ucap (ys.map (Value.int k)) hx (by simp) ?_ ?_ hm hle vB ?_
    · intro j n hn
      rw [List.getElem?_map] at hn
      rcases hj : ys[j]? with _ | q
      · simp [hj] at hn
      · simp [hj] at hn
        have hlt : j < ys.length := (List.getElem?_eq_some_iff.1 hj).1
        rw [hc j hlt, List.getD_eq_getElem?_getD, hj]
        simpa using hn
    · intro n hn
      obtain ⟨q, _, rfl⟩ := List.mem_map.1 hn
      rfl
    · intro v' w' h1 h2 _
      exact key v' w' h1 h2

end Go.Proofs.Ytlbijjifeaimjaa


/-! Upt -/
namespace Go.Proofs.Ytlbijjifeaimjaa
open Go Go.RowKit

/-- n places, those below j as f says, the others as g says. -/
def upt (f g : Nat → Int) (j n : Nat) : List Int := (List.range n).map fun i => if i < j then f i else g i

theorem upt_length (f g : Nat → Int) (j n : Nat) : (upt f g j n).length = n := by simp [upt]
theorem upt_get (f g : Nat → Int) (j n i : Nat) (hi : i < n) : (upt f g j n)[i]? = some (if i < j then f i else g i) := by
  simp [upt, hi]
theorem upt_set (f g : Nat → Int) (j n : Nat) : (upt f g j n).set j (f j) = upt f g (j + 1) n := by
  apply List.ext_getElem?
  intro i
  by_cases hi : i < n
  · rw [List.getElem?_set, upt_length, upt_get _ _ _ _ _ hi, upt_get _ _ _ _ _ hi]
    by_cases h : j = i
    · subst h; simp [hi]
    · rw [if_neg h]
      by_cases h2 : i < j
      · simp [h2, Nat.lt_succ_of_lt h2]
      · rw [if_neg h2, if_neg (by omega)]
  · rw [List.getElem?_eq_none (by simp [upt]; omega), List.getElem?_eq_none (by simp [upt]; omega)]
theorem upt_zero (f g : Nat → Int) (n : Nat) : upt f g 0 n = (List.range n).map g := by simp [upt]
theorem upt_full (f g : Nat → Int) (n : Nat) : upt f g n n = (List.range n).map f := by
  unfold upt
  apply List.map_congr_left
  intro i hi
  simp [List.mem_range.1 hi]
theorem range_getD (zs : List Int) : (List.range zs.length).map (fun i => zs.getD i 0) = zs := by
  apply List.ext_getElem?
  intro i
  rw [List.getElem?_map]
  by_cases hi : i < zs.length
  · rw [List.getElem?_range hi]
    simp [List.getD_eq_getElem?_getD, List.getElem?_eq_getElem hi]
  · rw [List.getElem?_eq_none (by simpa using hi), List.getElem?_eq_none (by omega)]
    rfl
theorem upt_map_set (k : IntKind) (f g : Nat → Int) (j n : Nat) : ((upt f g j n).map (Value.int k)).set j (.int k (f j)) = (upt f g (j + 1) n).map (Value.int k) := by
  rw [← upt_set, List.map_set]
theorem upt_mem {f g : Nat → Int} {j n : Nat} {p : Int → Prop} (hf : ∀ i, i < n → p (f i)) (hg : ∀ i, i < n → p (g i)) : ∀ z ∈ upt f g j n, p z := by
  intro z hz
  obtain ⟨i, hi, rfl⟩ := List.mem_map.1 hz
  have := List.mem_range.1 hi
  split
  · exact hf i this
  · exact hg i this

/-- A store into a row of the call's own whose elements are being written from its head on. -/
theorem Own.put {e : TypeId} {k : IntKind} {B : Nat} {w : World} {g cap n : Nat} {f q : Nat → Int} {j : Nat} (h : Own e k B w (.slice (some ⟨g, 0, none⟩) n cap) (upt f q j n)) (hf : (Lit.int k (f j)).wf = true) :
    Own e k B (w.setCell ⟨g, j, none⟩ (.int k (f j))) (.slice (some ⟨g, 0, none⟩) n cap) (upt f q (j + 1) n) ∧ w.grownBy (w.setCell ⟨g, j, none⟩ (.int k (f j))) (some g) := by
  obtain ⟨hw, hB, ho⟩ := h
  rw [upt_length] at ho
  obtain ⟨h1, h2⟩ := ho.stored j (.int k (f j))
  rw [upt_map_set] at h1
  refine ⟨⟨?_, Nat.le_trans hB h2.size, by rw [upt_length]; exact h1⟩, h2⟩
  intro z hz
  obtain ⟨i, hi, rfl⟩ := List.mem_map.1 hz
  have hn := List.mem_range.1 hi
  by_cases hj : i < j + 1
  · rw [if_pos hj]
    by_cases hij : i = j
    · subst hij; exact hf
    · refine hw _ (List.mem_map.2 ⟨i, hi, ?_⟩)
      rw [if_pos (by omega)]
  · rw [if_neg hj]
    refine hw _ (List.mem_map.2 ⟨i, hi, ?_⟩)
    rw [if_neg (by omega)]

theorem Own.cellAt {e : TypeId} {k : IntKind} {B : Nat} {w : World} {g cap n : Nat} {zs : List Int} (h : Own e k B w (.slice (some ⟨g, 0, none⟩) n cap) zs) (hz : zs.length = n) {j : Nat} (hj : j < n) : w.cell? ⟨g, j, none⟩ = some (.int k (zs.getD j 0)) := by
  obtain ⟨hw, hB, ho⟩ := h
  subst hz
  rw [ho.cellAt j (by omega)]
  simp [List.getD_eq_getElem?_getD, List.getElem?_eq_getElem hj]
theorem Own.free {e : TypeId} {k : IntKind} {B : Nat} {w : World} {g cap n : Nat} {zs : List Int} (h : Own e k B w (.slice (some ⟨g, 0, none⟩) n cap) zs) (hz : zs.length = n) (j : Nat) : w.frozen? ⟨g, j, none⟩ = false := by
  obtain ⟨hw, hB, ho⟩ := h
  subst hz
  exact ho.frozenAt j

theorem Own.open {e : TypeId} {k : IntKind} {B : Nat} {w : World} {v : Value} {zs : List Int} (h : Own e k B w v zs) : ∃ a cap, v = .slice a zs.length cap ∧ (0 < zs.length → ∃ g, a = some ⟨g, 0, none⟩) := by
  obtain ⟨hw, hB, h1, h2⟩ := h
  rcases h2 with ⟨rfl, h3⟩ | ⟨g, cap, cur, rfl, h4⟩
  · exact ⟨none, 0, by rw [h3], fun h => by omega⟩
  · exact ⟨_, cap, rfl, fun _ => ⟨g, rfl⟩⟩

end Go.Proofs.Ytlbijjifeaimjaa
