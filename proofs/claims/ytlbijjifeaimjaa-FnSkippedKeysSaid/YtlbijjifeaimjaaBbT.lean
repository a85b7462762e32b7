/- Slices of structs of one-cell fields: as they are read, and rows that a call made itself. No program. Values of any type made of integers, structs and slices: as they are read, and those that a call made itself. No program. Slices of integers and of flat structs, as the older texts say it and as the general one does. No program. Rows of rows of numbers, in the words of BaT. No program. append of one more element, of any type, to a slice of the call's own; heads and tails of slices that are read. No program. -/
import Derived.Test.YtlbijjifeaimjaaBa2
import Derived.Test.YtlbijjifeaimjaaBa5
import Derived.Test.YtlbijjifeaimjaaBa6

/-! BaS -/
namespace Go.Proofs.Ytlbijjifeaimjaa
open Go Go.RowKit
set_option linter.unusedVariables false

/-- How the elements of a slice of structs lie in cells: each takes sz cells. -/
structure Enc (α : Type) where
  sz : Nat
  en : α → List Value
  ok : α → Prop
  pos : 0 < sz
  len : ∀ x, (en x).length = sz
  one : ∀ x, ∀ u ∈ en x, u.oneCell' = true

section
variable {α : Type} {E : Enc α}

theorem Enc.flat_len (E : Enc α) (xs : List α) : (xs.flatMap E.en).length = xs.length * E.sz := by
  induction xs with
  | nil => simp
  | cons x l ih => rw [List.flatMap_cons, List.length_append, ih, E.len, List.length_cons, Nat.add_mul, Nat.one_mul, Nat.add_comm]

theorem Enc.flat_get (E : Enc α) {xs : List α} {i j : Nat} {x : α} (hi : xs[i]? = some x) (hj : j < E.sz) : (xs.flatMap E.en)[i * E.sz + j]? = (E.en x)[j]? := by
  induction xs generalizing i with
  | nil => simp at hi
  | cons y l ih =>
    rw [List.flatMap_cons]
    cases i with
    | zero =>
      have : y = x := by simpa using hi
      subst this
      rw [List.getElem?_append_left (by rw [E.len]; omega)]
      simp
    | succ i =>
      have hi' : l[i]? = some x := by simpa using hi
      rw [List.getElem?_append_right (by rw [E.len, Nat.add_mul]; omega), E.len, ← ih hi']
      congr 1
      rw [Nat.add_mul, Nat.one_mul]; omega

theorem Enc.flat_set (E : Enc α) {xs : List α} {i j : Nat} {x y : α} {u : Value} (hi : xs[i]? = some x) (hj : j < E.sz) (hy : E.en y = (E.en x).set j u) : (xs.set i y).flatMap E.en = (xs.flatMap E.en).set (i * E.sz + j) u := by
  induction xs generalizing i with
  | nil => simp at hi
  | cons z l ih =>
    cases i with
    | zero =>
      have : z = x := by simpa using hi
      subst this
      rw [List.set_cons_zero, List.flatMap_cons, List.flatMap_cons, hy, List.set_append_left _ _ (by rw [E.len]; omega)]
      simp
    | succ i =>
      have hi' : l[i]? = some x := by simpa using hi
      rw [List.set_cons_succ, List.flatMap_cons, List.flatMap_cons, ih hi', List.set_append_right _ _ (by rw [E.len, Nat.add_mul]; omega), E.len]
      congr 2
      rw [Nat.add_mul, Nat.one_mul]; omega

theorem Enc.flat_one (E : Enc α) (xs : List α) : ∀ u ∈ xs.flatMap E.en, u.oneCell' = true := by
  intro u hu
  obtain ⟨x, _, h⟩ := List.mem_flatMap.1 hu
  exact E.one x u h

/-- The slice v reads xs; its cells lie below block lim. -/
def RdS (E : Enc α) (lim : Nat) (w : World) (v : Value) (xs : List α) : Prop :=
  (∀ x ∈ xs, E.ok x) ∧ ∃ a cap, v = .slice a xs.length cap ∧ xs.length ≤ cap ∧ cap ≤ maxLen ∧
    ((a = none ∧ cap = 0) ∨ ∃ p, a = some p ∧ (∀ (i : Nat) (x : α), xs[i]? = some x → ∀ (j : Nat) (u : Value), (E.en x)[j]? = some u → w.cell? (p.add (i * E.sz + j)) = some u) ∧ (p.block < lim ∨ xs.length = 0))

/-- v is nil or the head of a row of the call's own (blocks from B on) whose elements are xs. -/
def OwnS (E : Enc α) (e : TypeId) (B : Nat) (w : World) (v : Value) (xs : List α) : Prop :=
  (∀ x ∈ xs, E.ok x) ∧ B ≤ w.heap.size ∧ w.ownsRow B e E.sz v xs.length (xs.flatMap E.en)

section
variable {l l' : Nat} {w w' : World} {v : Value} {xs : List α}

theorem RdS.mono (h : RdS E l w v xs) (hl : l ≤ l') : RdS E l' w v xs := by
  obtain ⟨hw, a, cap, hv, h1, h2, h3⟩ := h
  refine ⟨hw, a, cap, hv, h1, h2, ?_⟩
  rcases h3 with h3 | ⟨x, h4, h5, h6⟩
  · exact .inl h3
  · exact .inr ⟨x, h4, h5, by omega⟩

theorem RdS.behind (h : RdS E l w v xs) (hb : Below l w w') : RdS E l w' v xs := by
  obtain ⟨hw, a, cap, hv, h1, h2, h3⟩ := h
  refine ⟨hw, a, cap, hv, h1, h2, ?_⟩
  rcases h3 with h3 | ⟨p, h4, h5, h6⟩
  · exact .inl h3
  · refine .inr ⟨p, h4, fun i x hi j u hu => ?_, h6⟩
    rw [← h5 i x hi j u hu]
    have := (List.getElem?_eq_some_iff.1 hi).1
    exact hb.cell (p := p.add (i * E.sz + j)) (by rw [addr_add_block]; omega)

theorem RdS.drew (h : RdS E l w v xs) : RdS E l w.drew v xs := h.behind (Below.refl _ _).drew

theorem RdS.okAt (h : RdS E l w v xs) {i : Nat} {x : α} (hi : xs[i]? = some x) : E.ok x := h.1 x (List.mem_of_getElem? hi)

/-- The slice's value, and what its elements read in every later world. -/
theorem RdS.open (h : RdS E l w v xs) : ∃ a cap, v = .slice a xs.length cap ∧ xs.length ≤ cap ∧ cap ≤ maxLen ∧
    (0 < xs.length → ∃ b o, a = some ⟨b, o, none⟩ ∧ b < l ∧ ∀ w', Below l w w' → ∀ (i : Nat) (x : α), xs[i]? = some x → ∀ (j : Nat) (u : Value), (E.en x)[j]? = some u → w'.cell? ⟨b, o + (i * E.sz + j), none⟩ = some u) := by
  obtain ⟨hw, a, cap, hv, h1, h2, h3⟩ := h
  refine ⟨a, cap, hv, h1, h2, fun hp => ?_⟩
  rcases h3 with h3 | ⟨p, rfl, h5, h6⟩
  · omega
  · obtain ⟨b, o, s⟩ := p
    have hbl : b < l := by
      rcases h6 with h6 | h6
      · exact h6
      · omega
    have h0 := h5 0 _ (List.getElem?_eq_getElem hp)
    cases s with
    | none =>
      refine ⟨b, o, rfl, hbl, fun w' hb i x hi j u hu => ?_⟩
      have e1 : (⟨b, o, none⟩ : Addr).add (i * E.sz + j) = ⟨b, o + (i * E.sz + j), none⟩ := by unfold Addr.add; split <;> simp_all
      rw [← h5 i x hi j u hu, e1]
      exact hb.cell (p := ⟨b, o + (i * E.sz + j), none⟩) hbl
    | some s =>
      exfalso
      have hj : 0 < (E.en xs[0]).length := by rw [E.len]; exact E.pos
      have h1 := h0 0 _ (List.getElem?_eq_getElem hj)
      simp only [World.cell?, Addr.add] at h1
      split at h1 <;> (try split at h1) <;> simp_all

theorem RdS.len (h : RdS E l w v xs) : xs.length ≤ maxLen := by
  obtain ⟨a, cap, hv, h1, h2, h3⟩ := h.open
  omega
theorem RdS.len_eq {a : Option Addr} {len cap : Nat} (h : RdS E l w (.slice a len cap) xs) : len = xs.length := by
  obtain ⟨a', cap', hv, _⟩ := h.open
  injection hv
theorem RdS.nil (E : Enc α) (l : Nat) (w : World) : RdS E l w (.slice none 0 0) [] := ⟨by simp, none, 0, rfl, by simp, by unfold maxLen; omega, .inl ⟨rfl, rfl⟩⟩
end

section
variable {e : TypeId} {B : Nat} {w w' : World} {v u : Value} {xs ys : List α}

theorem OwnS.lt (h : OwnS E e B w v xs) : ∀ r, v.ownBlock = some r → B ≤ r ∧ r < w.heap.size := h.2.2.lt

theorem OwnS.open (h : OwnS E e B w v xs) : ∃ a cap, v = .slice a xs.length cap ∧ (0 < xs.length → ∃ g, a = some ⟨g, 0, none⟩) := by
  obtain ⟨hw, hB, h1, h2⟩ := h
  rcases h2 with ⟨rfl, h3⟩ | ⟨g, cap, cur, rfl, h4⟩
  · exact ⟨none, 0, by rw [h3], fun h => by omega⟩
  · exact ⟨_, cap, rfl, fun _ => ⟨g, rfl⟩⟩

theorem OwnS.rd (h : OwnS E e B w v xs) : RdS E w.heap.size w v xs := by
  obtain ⟨hw, hB, ho⟩ := h
  have ho' := ho
  rcases ho.2 with ⟨rfl, h0⟩ | ⟨g, cap, cur, rfl, hb, hg, hn, hc, hs, ht⟩
  · have : xs = [] := List.eq_nil_of_length_eq_zero h0
    subst this
    exact RdS.nil E _ w
  · refine ⟨hw, _, cap, rfl, hn, hc, .inr ⟨_, rfl, fun i x hi j u hu => ?_, .inl (Array.getElem?_eq_some_iff.1 hg).1⟩⟩
    have hi' := (List.getElem?_eq_some_iff.1 hi).1
    have hj : j < E.sz := by have := (List.getElem?_eq_some_iff.1 hu).1; rwa [E.len] at this
    have e1 : (⟨g, 0, none⟩ : Addr).add (i * E.sz + j) = ⟨g, i * E.sz + j, none⟩ := by unfold Addr.add; split <;> simp_all
    rw [e1, World.ownsRow.cellAt ho' _ (by have := Nat.mul_le_mul_right E.sz (show i + 1 ≤ xs.length by omega); rw [Nat.add_mul, Nat.one_mul] at this; omega), E.flat_get hi hj]
    exact hu

theorem OwnS.kept {row : Option Nat} (h : OwnS E e B w v xs) (hg : w.grownBy w' row) (hne : v.ownBlock = none ∨ v.ownBlock ≠ row) : OwnS E e B w' v xs :=
  ⟨h.1, Nat.le_trans h.2.1 hg.size, h.2.2.kept hg hne⟩
theorem OwnS.next (h : OwnS E e B w v xs) (hb : Below w.heap.size w w') : OwnS E e B w' v xs :=
  h.kept (grown_of_below hb) (by cases hv : v.ownBlock <;> simp)
theorem OwnS.alloc (h : OwnS E e B w v xs) (o : Obj) : OwnS E e B (w.alloc o) v xs :=
  h.kept (World.grownBy_alloc w o none) (by cases hv : v.ownBlock <;> simp)
theorem OwnS.drew (h : OwnS E e B w v xs) : OwnS E e B w.drew v xs := h.next (Below.refl _ _).drew
theorem OwnS.beside (h : OwnS E e B w v xs) (ha : Apart v u) (hg : w.grownBy w' u.ownBlock) : OwnS E e B w' v xs := by
  refine h.kept hg ?_
  cases hv : v.ownBlock with
  | none => exact .inl rfl
  | some r =>
    right
    intro he
    exact ha r hv he.symm
theorem OwnS.below {C : Nat} (h : OwnS E e B w v xs) (hC : C ≤ B) (hg : w.grownBy w' v.ownBlock) : Below C w w' :=
  (Below.refl C w).grown hg (Nat.le_trans hC h.2.1) (fun r hr => by have := (h.lt r hr).1; omega)
theorem ownsRowS_of_block {w w' : World} {B n z : Nat} {e : TypeId} {v : Value} {xs : List Value} (h : w.ownsRow B e z v n xs) (hb : ∀ r, v.ownBlock = some r → w'.heap[r]? = w.heap[r]?) : w'.ownsRow B e z v n xs := by
  obtain ⟨h1, h2⟩ := h
  refine ⟨h1, ?_⟩
  rcases h2 with h2 | ⟨g, cap, cur, rfl, h3, h4, h5⟩
  · exact .inl h2
  · exact .inr ⟨g, cap, cur, rfl, h3, (hb g rfl).trans h4, h5⟩
theorem OwnS.keptF {F : Nat → Prop} (h : OwnS E e B w v xs) (hk : KeptF F w w') (hn : ∀ r, v.ownBlock = some r → ¬ F r) : OwnS E e B w' v xs :=
  ⟨h.1, Nat.le_trans h.2.1 hk.size, ownsRowS_of_block h.2.2 fun r hr => hk.block r (h.2.2.lt r hr).2 (hn r hr)⟩
theorem OwnS.mono {B' : Nat} (h : OwnS E e B w v xs) (hB : B' ≤ B) : OwnS E e B' w v xs := by
  obtain ⟨hw, h1, h2, h3⟩ := h
  refine ⟨hw, by omega, h2, ?_⟩
  rcases h3 with h3 | ⟨g, cap, cur, h4, h5, h6⟩
  · exact .inl h3
  · exact .inr ⟨g, cap, cur, h4, by omega, h6⟩
theorem OwnS.nil (E : Enc α) (e : TypeId) (hB : B ≤ w.heap.size) : OwnS E e B w (.slice none 0 0) [] := ⟨by simp, hB, World.ownsRow_nil _ _ _ _⟩
/-- An empty literal. -/
theorem OwnS.lit (E : Enc α) (e : TypeId) (hB : B ≤ w.heap.size) : OwnS E e B (w.alloc (.cells #[] e)) (.slice (some ⟨w.heap.size, 0, none⟩) 0 0) [] :=
  ⟨by simp, by simp; omega, World.ownsRow_made w #[] 0 hB (Nat.zero_le _) (by simp)⟩
/-- A literal of these elements. -/
theorem OwnS.lits (E : Enc α) (e : TypeId) (hB : B ≤ w.heap.size) {cs : Array Value} {n : Nat} (hx : ∀ x ∈ xs, E.ok x) (hcs : cs.toList = xs.flatMap E.en) (hn : n = xs.length) (hm : n ≤ maxLen) : OwnS E e B (w.alloc (.cells cs e)) (.slice (some ⟨w.heap.size, 0, none⟩) n n) xs := by
  subst hn
  refine ⟨hx, by simp; omega, ?_⟩
  have := World.ownsRow_lit (base := B) (e := e) (size := E.sz) w cs xs.length hB hm (by rw [← Array.length_toList, hcs, E.flat_len])
  rwa [hcs] at this
/-- Behind make: n times the zero. -/
theorem OwnS.made {n : Nat} {x : α} {zc : Array Value} (hx : E.ok x) (hz : E.en x = zc.toList) (hB : B ≤ w.heap.size) (h : w.ownsRow B e E.sz v n (madeCells zc (n * E.sz)).toList) : OwnS E e B w v (List.replicate n x) := by
  refine ⟨fun y hy => by rw [List.eq_of_mem_replicate hy]; exact hx, hB, ?_⟩
  rw [List.length_replicate]
  have hs : zc.size = E.sz := by rw [← Array.length_toList, ← hz, E.len]
  have : (madeCells zc (n * E.sz)).toList = (List.replicate n x).flatMap E.en := by
    apply List.ext_getElem?
    intro i
    by_cases hi : i < n * E.sz
    · have hq : i / E.sz < n := Nat.div_lt_of_lt_mul (by rwa [Nat.mul_comm])
      have hr := Nat.mod_lt i E.pos
      have h1 := E.flat_get (xs := List.replicate n x) (i := i / E.sz) (j := i % E.sz) (x := x) (by simp [hq]) hr
      rw [Nat.div_add_mod'] at h1
      rw [h1, hz]
      simp [madeCells, hi, hs]
      rw [Array.getElem?_eq_getElem (by omega), getElem!_pos zc _ (by omega)]
    · rw [List.getElem?_eq_none (by rw [Array.length_toList, size_madeCells]; omega), List.getElem?_eq_none (by rw [E.flat_len, List.length_replicate]; omega)]
  rwa [this] at h

theorem OwnS.len_eq {g cap n : Nat} (h : OwnS E e B w (.slice (some ⟨g, 0, none⟩) n cap) xs) : n = xs.length := by
  obtain ⟨a, c, hv, _⟩ := h.open
  injection hv
theorem OwnS.cellAt {g cap n i j : Nat} {x : α} {y : Value} (h : OwnS E e B w (.slice (some ⟨g, 0, none⟩) n cap) xs) (hi : xs[i]? = some x) (hj : (E.en x)[j]? = some y) : w.cell? ⟨g, i * E.sz + j, none⟩ = some y := by
  have hn := h.len_eq
  subst hn
  have hi' := (List.getElem?_eq_some_iff.1 hi).1
  have hj' : j < E.sz := by have := (List.getElem?_eq_some_iff.1 hj).1; rwa [E.len] at this
  rw [h.2.2.cellAt _ (by have := Nat.mul_le_mul_right E.sz (show i + 1 ≤ xs.length by omega); rw [Nat.add_mul, Nat.one_mul] at this; omega), E.flat_get hi hj', hj]
theorem OwnS.free {g cap n : Nat} (h : OwnS E e B w (.slice (some ⟨g, 0, none⟩) n cap) xs) (j : Nat) : w.frozen? ⟨g, j, none⟩ = false := by
  have hn := h.len_eq
  subst hn
  exact h.2.2.frozenAt j

/-- A store into one field of an element. -/
theorem OwnS.set1 {g cap n i j : Nat} {x y : α} {y' : Value} (h : OwnS E e B w (.slice (some ⟨g, 0, none⟩) n cap) xs) (hi : xs[i]? = some x) (hj : j < E.sz) (hy : E.en y = (E.en x).set j y') (hok : E.ok y) :
    OwnS E e B (w.setCell ⟨g, i * E.sz + j, none⟩ y') (.slice (some ⟨g, 0, none⟩) n cap) (xs.set i y) ∧ w.grownBy (w.setCell ⟨g, i * E.sz + j, none⟩ y') (some g) := by
  have hn := h.len_eq
  subst hn
  obtain ⟨hw, hB, ho⟩ := h
  obtain ⟨h1, h2⟩ := ho.stored (i * E.sz + j) y'
  rw [← E.flat_set hi hj hy] at h1
  refine ⟨⟨fun z hz => ?_, Nat.le_trans hB h2.size, by rw [List.length_set]; exact h1⟩, h2⟩
  rcases List.mem_or_eq_of_mem_set hz with h | rfl
  · exact hw z h
  · exact hok
end

/-- append to a row of the call's own of what is read. -/
theorem run_append_rds {P : Program} (w : World) (t ty e : TypeId) (i : TypeInfo) (z : Value) (bytes : Nat) (ht : P.underlying t = some (.slice e)) (hi : P.info? e = some i) (hz : i.zero = some z)
    (hsize : i.size = E.sz) (hby : i.bytes = bytes) (hzs : z.cells.size = E.sz) (hb1 : 1 ≤ bytes) {B lim : Nat} {v u : Value} {xs ys : List α} (hown : OwnS E e B w v xs) (hu : RdS E lim w u ys)
    (hle : (xs.length + ys.length) * bytes ≤ 140737488355328) :
    ∃ v' w', (Builtin.append_ #[t, t] ty #[v, u]).run P w = .ok v' w' ∧ OwnS E e B w' v' (xs ++ ys) ∧ w.grownBy w' v.ownBlock := by
  obtain ⟨uw, ua, ucap, rfl, u1, u2, u3⟩ := hu
  obtain ⟨vw, vB, vo⟩ := hown
  have hm : xs.length + ys.length ≤ maxLen := by
    have : (xs.length + ys.length) * 1 ≤ (xs.length + ys.length) * bytes := Nat.mul_le_mul_left _ hb1
    unfold maxLen; omega
  have hok : ∀ x ∈ xs ++ ys, E.ok x := fun x hx => by
    rcases List.mem_append.1 hx with h | h
    · exact vw x h
    · exact uw x h
  rcases u3 with ⟨rfl, rfl⟩ | ⟨p, rfl, hc, hbl⟩
  · have hy : ys = [] := List.eq_nil_of_length_eq_zero (by omega)
    subst hy
    have hrun := run_append_owned_none (P := P) (w := w) B t ty e i E.sz ht hi v xs.length _ vo
    refine ⟨v, w, by simpa using hrun, ⟨hok, vB, by simpa using vo⟩, World.grownBy.refl _ _⟩
  · obtain ⟨v', w', r1, r2, r3, _⟩ := run_append_own (P := P) w B t ty e i z E.sz bytes ht hi hz hsize hby hzs E.pos v xs.length _ vo p ys.length ucap (ys.flatMap E.en) (E.flat_len ys) (fun j n hn => by
      have hj : j < ys.length * E.sz := by have := (List.getElem?_eq_some_iff.1 hn).1; rwa [E.flat_len] at this
      have hq : j / E.sz < ys.length := Nat.div_lt_of_lt_mul (by rwa [Nat.mul_comm])
      have hr := Nat.mod_lt j E.pos
      have h1 := E.flat_get (xs := ys) (i := j / E.sz) (j := j % E.sz) (List.getElem?_eq_getElem hq) hr
      rw [Nat.div_add_mod', hn] at h1
      have h2 := hc (j / E.sz) _ (List.getElem?_eq_getElem hq) (j % E.sz) n h1.symm
      rwa [Nat.div_add_mod'] at h2) (E.flat_one ys) hm hle vB
    refine ⟨v', w', r1, ⟨hok, Nat.le_trans vB r3.size, ?_⟩, r3⟩
    rw [List.length_append, List.flatMap_append]
    exact r2

theorem append_rds {P : Program} (w : World) {ops : Array Oper} {rest : List Oper} {o : Oper} {a : Act} {Q : Exit → Act → World → Prop} (hg : o.guard = none) (s x : Operand) (t : TypeId)
    (hop : o.op = .call { callee := .builtin .append, args := #[s, x], argTypes := #[t, t] }) (e : TypeId) (i : TypeInfo) (z : Value) (bytes : Nat) (ht : P.underlying t = some (.slice e)) (hi : P.info? e = some i) (hz : i.zero = some z)
    (hsize : i.size = E.sz) (hby : i.bytes = bytes) (hzs : z.cells.size = E.sz) (hb1 : 1 ≤ bytes) {B lim : Nat} {v u : Value} {xs ys : List α} (hs : a.eval s = v) (hown : OwnS E e B w v xs) (hx : a.eval x = u) (hu : RdS E lim w u ys)
    (hle : (xs.length + ys.length) * bytes ≤ 140737488355328)
    (h : ∀ v' w', OwnS E e B w' v' (xs ++ ys) → w.grownBy w' v.ownBlock → wpList P ops Q rest (a.put o.dst v') w') : wpList P ops Q (o :: rest) a w := by
  obtain ⟨v', w', hr, h1, h2⟩ := run_append_rds (P := P) w t o.type e i z bytes ht hi hz hsize hby hzs hb1 hown hu hle
  refine wpList_plain hg fun K hK => ?_
  unfold Oper.wp
  simp only [execOp, hop, resolve, invoke, builtin, Sem.run_bind, Sem.run_pure, Result.andThen_ok, List.map_toArray, List.map_cons, List.map_nil, hs, hx]
  rw [hr]
  exact hK _ _ (h v' w' h1 h2)

/-- At a step of a region that draws its order. -/
theorem step_append_rdS {P : Program} (w : World) {ops : Array Oper} {o : Oper} {a : Act} {K : Act → World → Prop} {Q : Exit → Act → World → Prop} {F : Prop} (hgd : o.guard = none) (s x : Operand) (t : TypeId)
    (hop : o.op = .call { callee := .builtin .append, args := #[s, x], argTypes := #[t, t] }) (e : TypeId) (i : TypeInfo) (z : Value) (bytes : Nat) (ht : P.underlying t = some (.slice e)) (hi : P.info? e = some i) (hz : i.zero = some z)
    (hsize : i.size = E.sz) (hby : i.bytes = bytes) (hzs : z.cells.size = E.sz) (hb1 : 1 ≤ bytes) {B lim : Nat} {v u : Value} {xs ys : List α} (hs : a.eval s = v) (hown : OwnS E e B w v xs) (hx : a.eval x = u) (hu : RdS E lim w u ys)
    (hle : (xs.length + ys.length) * bytes ≤ 140737488355328)
    (h : ∀ v' w', OwnS E e B w' v' (xs ++ ys) → w.grownBy w' v.ownBlock → K (a.put o.dst v') w') :
    if Region.wanted o (yielded ops a.tmps) = true then Oper.wp P o a w K Q else F := by
  have hw : Region.wanted o (yielded ops a.tmps) = true := by simp [Region.wanted, hgd]
  rw [if_pos hw]
  obtain ⟨v', w', hr, h1, h2⟩ := run_append_rds (P := P) w t o.type e i z bytes ht hi hz hsize hby hzs hb1 hown hu hle
  unfold Oper.wp
  simp only [execOp, hop, resolve, invoke, builtin, Sem.run_bind, Sem.run_pure, Result.andThen_ok, List.map_toArray, List.map_cons, List.map_nil, hs, hx]
  rw [hr]
  exact h v' w' h1 h2
end

end Go.Proofs.Ytlbijjifeaimjaa


/-! BaT -/
namespace Go.Proofs.Ytlbijjifeaimjaa
open Go Go.RowKit
set_option linter.unusedVariables false

/-- How the values of a type lie in memory: 'rd l w cs x': the cells cs read x, all that they lead to lies below block l; 'own F w cs x': they read x, all that they lead to is the call's own, lies in F, and no two parts share a block.
'mrk k x': x with marks from k on, as an element of a slice; 'vmrk k x': as a value of its own; 'cnt', 'vcnt': how many marks; 'tot': what the exact laws count. -/
structure Ty (α : Type) where
  sz : Nat
  rd : Nat → World → List Value → α → Prop
  own : (Nat → Prop) → World → List Value → α → Prop
  mrk : Int → α → α
  vmrk : Int → α → α
  cnt : α → Nat
  vcnt : α → Nat
  tot : α → Nat
  zero : α
  zc : List Value
  pos : 0 < sz
  len : ∀ {l : Nat} {w : World} {cs : List Value} {x : α}, rd l w cs x → cs.length = sz
  one : ∀ {l : Nat} {w : World} {cs : List Value} {x : α}, rd l w cs x → ∀ u ∈ cs, u.oneCell' = true
  mono : ∀ {l l' : Nat} {w : World} {cs : List Value} {x : α}, rd l w cs x → l ≤ l' → rd l' w cs x
  behind : ∀ {l : Nat} {w w' : World} {cs : List Value} {x : α}, rd l w cs x → Below l w w' → rd l w' cs x
  omono : ∀ {F G : Nat → Prop} {w : World} {cs : List Value} {x : α}, own F w cs x → (∀ b, F b → G b) → own G w cs x
  okept : ∀ {F G : Nat → Prop} {w w' : World} {cs : List Value} {x : α}, own F w cs x → KeptF G w w' → (∀ b, F b → ¬ G b) → own F w' cs x
  ord : ∀ {F : Nat → Prop} {w : World} {cs : List Value} {x : α}, own F w cs x → rd w.heap.size w cs x
  ozero : ∀ (F : Nat → Prop) (w : World), own F w zc zero
  cnt_mrk : ∀ (k : Int) (x : α), cnt (mrk k x) = cnt x
  vcnt_vmrk : ∀ (k : Int) (x : α), vcnt (vmrk k x) = vcnt x

section
variable {α : Type} {T : Ty α} {F G : Nat → Prop} {w w' : World} {cs : List Value} {x : α} {l : Nat}
theorem Ty.olen (T : Ty α) (h : T.own F w cs x) : cs.length = T.sz := T.len (T.ord h)
theorem Ty.oone (T : Ty α) (h : T.own F w cs x) : ∀ u ∈ cs, u.oneCell' = true := T.one (T.ord h)
theorem Ty.drew (T : Ty α) (h : T.rd l w cs x) : T.rd l w.drew cs x := T.behind h (Below.refl _ _).drew
/-- Behind a call that leaves all there was. -/
theorem Ty.onext (T : Ty α) (h : T.own F w cs x) (hb : Below w.heap.size w w') : T.own F w' cs x := T.okept (G := fun _ => False) h (KeptF.of_below hb) (fun _ _ h => h)
theorem Ty.odrew (T : Ty α) (h : T.own F w cs x) : T.own F w.drew cs x := T.onext h (Below.refl _ _).drew
theorem Ty.oalloc (T : Ty α) (h : T.own F w cs x) (o : Obj) : T.own F (w.alloc o) cs x := T.onext h ((Below.refl _ _).alloc (Nat.le_refl _) _)
end

theorem sizeSet (w : World) (p : Addr) (u : Value) : (w.setCell p u).heap.size = w.heap.size := by simp [World.setCell]

theorem blocks2T (w : World) (o1 o2 : Obj) : ((w.alloc o1).alloc o2).heap[w.heap.size]? = some o1 ∧ ((w.alloc o1).alloc o2).heap[w.heap.size + 1]? = some o2 := by
  refine ⟨(heap_alloc_old _ _ (by simp)).trans (heap_alloc_new w _), ?_⟩
  have := heap_alloc_new (w.alloc o1) o2
  rwa [World.size_alloc] at this
theorem blocks3T (w : World) (o1 o2 o3 : Obj) : (((w.alloc o1).alloc o2).alloc o3).heap[w.heap.size]? = some o1 ∧ (((w.alloc o1).alloc o2).alloc o3).heap[w.heap.size + 1]? = some o2 ∧ (((w.alloc o1).alloc o2).alloc o3).heap[w.heap.size + 1 + 1]? = some o3 := by
  have h1 := blocks2T w o1 o2
  refine ⟨(heap_alloc_old _ _ (by simp; omega)).trans h1.1, (heap_alloc_old _ _ (by simp)).trans h1.2, ?_⟩
  have := heap_alloc_new ((w.alloc o1).alloc o2) o3
  rwa [World.size_alloc, World.size_alloc] at this

/-! ### An integer -/

theorem oneCell_int (k : IntKind) (n : Int) : (Value.int k n).oneCell' = true := rfl

def intT (k : IntKind) (f : Int → Int) (hz : (Lit.int k 0).wf = true) : Ty Int where
  sz := 1
  rd _ _ cs n := cs = [.int k n] ∧ (Lit.int k n).wf = true
  own _ _ cs n := cs = [.int k n] ∧ (Lit.int k n).wf = true
  mrk k0 _ := f k0
  vmrk _ n := n
  cnt _ := 1
  vcnt _ := 0
  tot _ := 0
  zero := 0
  zc := [.int k 0]
  pos := by decide
  len h := by rw [h.1]; rfl
  one h u hu := by rw [h.1] at hu; simp at hu; subst hu; rfl
  mono h _ := h
  behind h _ := h
  omono h _ := h
  okept h _ _ := h
  ord h := h
  ozero _ _ := ⟨rfl, hz⟩
  cnt_mrk _ _ := rfl
  vcnt_vmrk _ _ := rfl

def i64T : Ty Int := intT .i64 (fun k => k) (by decide)
def u8T : Ty Int := intT .u8 (fun k => k % 256) (by decide)

/-! ### One behind the other: the fields of a struct -/

section
variable {α β : Type}

def consT (A : Ty α) (B : Ty β) : Ty (α × β) where
  sz := A.sz + B.sz
  rd l w cs p := cs.length = A.sz + B.sz ∧ A.rd l w (cs.take A.sz) p.1 ∧ B.rd l w (cs.drop A.sz) p.2
  own F w cs p := cs.length = A.sz + B.sz ∧ ∃ F1 F2 : Nat → Prop, A.own F1 w (cs.take A.sz) p.1 ∧ B.own F2 w (cs.drop A.sz) p.2 ∧ (∀ b, F1 b → F b ∧ ¬ F2 b) ∧ ∀ b, F2 b → F b
  mrk k p := (A.mrk k p.1, B.mrk (k + A.cnt p.1) p.2)
  vmrk k p := (A.vmrk k p.1, B.vmrk (k + A.vcnt p.1) p.2)
  cnt p := A.cnt p.1 + B.cnt p.2
  vcnt p := A.vcnt p.1 + B.vcnt p.2
  tot p := A.tot p.1 + B.tot p.2
  zero := (A.zero, B.zero)
  zc := A.zc ++ B.zc
  pos := by have := A.pos; omega
  len h := h.1
  one h u hu := by
    rename_i l w cs x
    rw [← List.take_append_drop A.sz cs] at hu
    rcases List.mem_append.1 hu with hu | hu
    · exact A.one h.2.1 u hu
    · exact B.one h.2.2 u hu
  mono h hl := ⟨h.1, A.mono h.2.1 hl, B.mono h.2.2 hl⟩
  behind h hb := ⟨h.1, A.behind h.2.1 hb, B.behind h.2.2 hb⟩
  omono h hFG := by
    obtain ⟨h0, F1, F2, h1, h2, h3, h4⟩ := h
    exact ⟨h0, F1, F2, h1, h2, fun b hb => ⟨hFG b (h3 b hb).1, (h3 b hb).2⟩, fun b hb => hFG b (h4 b hb)⟩
  okept h hk hd := by
    obtain ⟨h0, F1, F2, h1, h2, h3, h4⟩ := h
    exact ⟨h0, F1, F2, A.okept h1 hk fun b hb => hd b (h3 b hb).1, B.okept h2 hk fun b hb => hd b (h4 b hb), h3, h4⟩
  ord h := by
    obtain ⟨h0, F1, F2, h1, h2, h3, h4⟩ := h
    exact ⟨h0, A.ord h1, B.ord h2⟩
  ozero F w := by
    have e1 : A.zc.length = A.sz := A.olen (A.ozero F w)
    have e2 : B.zc.length = B.sz := B.olen (B.ozero F w)
    refine ⟨by rw [List.length_append, e1, e2], fun _ => False, fun _ => False, ?_, ?_, fun _ h => h.elim, fun _ h => h.elim⟩
    · rw [List.take_left' e1]; exact A.ozero _ w
    · rw [List.drop_left' e1]; exact B.ozero _ w
  cnt_mrk k p := by simp only [A.cnt_mrk, B.cnt_mrk]
  vcnt_vmrk k p := by simp only [A.vcnt_vmrk, B.vcnt_vmrk]

/-- An integer ahead. -/
def intC (k : IntKind) (f : Int → Int) (hz : (Lit.int k 0).wf = true) (B : Ty β) : Ty (Int × β) where
  sz := B.sz + 1
  rd l w cs p := ∃ r, cs = .int k p.1 :: r ∧ (Lit.int k p.1).wf = true ∧ B.rd l w r p.2
  own F w cs p := ∃ r, cs = .int k p.1 :: r ∧ (Lit.int k p.1).wf = true ∧ B.own F w r p.2
  mrk k0 p := (f k0, B.mrk (k0 + 1) p.2)
  vmrk k0 p := (p.1, B.vmrk k0 p.2)
  cnt p := B.cnt p.2 + 1
  vcnt p := B.vcnt p.2
  tot p := B.tot p.2
  zero := (0, B.zero)
  zc := .int k 0 :: B.zc
  pos := by omega
  len h := by obtain ⟨r, rfl, _, h⟩ := h; rw [List.length_cons, B.len h]
  one h u hu := by
    obtain ⟨r, rfl, _, h⟩ := h
    rcases List.mem_cons.1 hu with rfl | hu
    · rfl
    · exact B.one h u hu
  mono h hl := by obtain ⟨r, h1, h2, h⟩ := h; exact ⟨r, h1, h2, B.mono h hl⟩
  behind h hb := by obtain ⟨r, h1, h2, h⟩ := h; exact ⟨r, h1, h2, B.behind h hb⟩
  omono h hFG := by obtain ⟨r, h1, h2, h⟩ := h; exact ⟨r, h1, h2, B.omono h hFG⟩
  okept h hk hd := by obtain ⟨r, h1, h2, h⟩ := h; exact ⟨r, h1, h2, B.okept h hk hd⟩
  ord h := by obtain ⟨r, h1, h2, h⟩ := h; exact ⟨r, h1, h2, B.ord h⟩
  ozero F w := ⟨_, rfl, hz, B.ozero F w⟩
  cnt_mrk k0 p := by simp only [B.cnt_mrk]
  vcnt_vmrk k0 p := by simp only [B.vcnt_vmrk]
def iC (B : Ty β) : Ty (Int × β) := intC .i64 (fun k => k) (by decide) B

variable {B : Ty β} {F : Nat → Prop} {w w' : World} {cs : List Value} {l : Nat}
theorem rd_int {p : Int × β} (h : (iC B).rd l w cs p) : ∃ r, cs = .int .i64 p.1 :: r ∧ (Lit.int .i64 p.1).wf = true ∧ B.rd l w r p.2 := h
theorem own_int {p : Int × β} (h : (iC B).own F w cs p) : ∃ r, cs = .int .i64 p.1 :: r ∧ (Lit.int .i64 p.1).wf = true ∧ B.own F w r p.2 := h
theorem int_rd {p : Int × β} {r : List Value} (hn : (Lit.int .i64 p.1).wf = true) (h : B.rd l w r p.2) : (iC B).rd l w (.int .i64 p.1 :: r) p := ⟨r, rfl, hn, h⟩
theorem int_own {p : Int × β} {r : List Value} (hn : (Lit.int .i64 p.1).wf = true) (h : B.own F w r p.2) : (iC B).own F w (.int .i64 p.1 :: r) p := ⟨r, rfl, hn, h⟩
end

/-! Anything of one cell, or a struct, ahead. -/
section
variable {α β : Type} {A : Ty α} {B : Ty β} {F : Nat → Prop} {w w' : World} {cs : List Value} {l : Nat}
theorem rd_st {p : α × β} (h : (consT A B).rd l w cs p) : ∃ c r, cs = c ++ r ∧ A.rd l w c p.1 ∧ B.rd l w r p.2 :=
  ⟨_, _, (List.take_append_drop A.sz cs).symm, h.2.1, h.2.2⟩
theorem own_st {p : α × β} (h : (consT A B).own F w cs p) : ∃ (c r : List Value) (F1 F2 : Nat → Prop), cs = c ++ r ∧ A.own F1 w c p.1 ∧ B.own F2 w r p.2 ∧ (∀ b, F1 b → F b) ∧ (∀ b, F2 b → F b) ∧ ∀ b, F1 b → ¬ F2 b := by
  obtain ⟨h0, F1, F2, h1, h2, h3, h4⟩ := h
  exact ⟨_, _, F1, F2, (List.take_append_drop A.sz cs).symm, h1, h2, fun b hb => (h3 b hb).1, h4, fun b hb => (h3 b hb).2⟩
theorem st_rd {p : α} {q : β} {c r : List Value} (h1 : A.rd l w c p) (h2 : B.rd l w r q) : (consT A B).rd l w (c ++ r) (p, q) := by
  have e := A.len h1
  exact ⟨by rw [List.length_append, e, B.len h2], by rw [List.take_left' e]; exact h1, by rw [List.drop_left' e]; exact h2⟩
theorem st_own {F1 F2 : Nat → Prop} {p : α} {q : β} {c r : List Value} (h1 : A.own F1 w c p) (h2 : B.own F2 w r q) (hd : ∀ b, F1 b → ¬ F2 b) : (consT A B).own (fun b => F1 b ∨ F2 b) w (c ++ r) (p, q) := by
  have e := A.olen h1
  exact ⟨by rw [List.length_append, e, B.olen h2], F1, F2, by rw [List.take_left' e]; exact h1, by rw [List.drop_left' e]; exact h2, fun b hb => ⟨.inl hb, hd b hb⟩, fun b hb => .inr hb⟩
end

/-! ### A slice -/

section
variable {α : Type}

theorem flatten_len {css : List (List Value)} {z : Nat} (hz : ∀ c ∈ css, c.length = z) : css.flatten.length = css.length * z := by
  induction css with
  | nil => simp
  | cons c l ih => rw [List.flatten_cons, List.length_append, ih (fun c hc => hz c (List.mem_cons_of_mem _ hc)), hz c (List.mem_cons_self), List.length_cons, Nat.add_mul, Nat.one_mul, Nat.add_comm]
theorem flatten_get {css : List (List Value)} {z i j : Nat} {c : List Value} (hz : ∀ c ∈ css, c.length = z) (hi : css[i]? = some c) (hj : j < z) : css.flatten[i * z + j]? = c[j]? := by
  induction css generalizing i with
  | nil => simp at hi
  | cons y l ih =>
    have hy := hz y (List.mem_cons_self)
    rw [List.flatten_cons]
    cases i with
    | zero =>
      have : y = c := by simpa using hi
      subst this
      rw [List.getElem?_append_left (by omega)]
      simp
    | succ i =>
      have hi' : l[i]? = some c := by simpa using hi
      rw [List.getElem?_append_right (by rw [hy, Nat.add_mul]; omega), hy, ← ih (fun c hc => hz c (List.mem_cons_of_mem _ hc)) hi']
      congr 1
      rw [Nat.add_mul, Nat.one_mul]; omega
theorem flatten_set {css : List (List Value)} {z i j : Nat} {c : List Value} {u : Value} (hz : ∀ c ∈ css, c.length = z) (hi : css[i]? = some c) (hj : j < z) : (css.set i (c.set j u)).flatten = css.flatten.set (i * z + j) u := by
  induction css generalizing i with
  | nil => simp at hi
  | cons y l ih =>
    have hy := hz y (List.mem_cons_self)
    cases i with
    | zero =>
      have : y = c := by simpa using hi
      subst this
      rw [List.set_cons_zero, List.flatten_cons, List.flatten_cons, List.set_append_left _ _ (by omega)]
      simp
    | succ i =>
      have hi' : l[i]? = some c := by simpa using hi
      rw [List.set_cons_succ, List.flatten_cons, List.flatten_cons, ih (fun c hc => hz c (List.mem_cons_of_mem _ hc)) hi', List.set_append_right _ _ (by rw [hy, Nat.add_mul]; omega), hy]
      congr 2
      rw [Nat.add_mul, Nat.one_mul]; omega

def mkL (T : Ty α) (k : Int) : List α → List α
  | [] => []
  | x :: r => T.mrk k x :: mkL T (k + T.cnt x) r
def cntL (T : Ty α) (xs : List α) : Nat := (xs.map T.cnt).sum
def totL (T : Ty α) (xs : List α) : Nat := xs.length + (xs.map T.tot).sum

theorem mkL_len (T : Ty α) (k : Int) (xs : List α) : (mkL T k xs).length = xs.length := by
  induction xs generalizing k with
  | nil => rfl
  | cons x l ih => simp [mkL, ih]
theorem cntL_mkL (T : Ty α) (k : Int) (xs : List α) : cntL T (mkL T k xs) = cntL T xs := by
  induction xs generalizing k with
  | nil => rfl
  | cons x l ih =>
    have := ih (k + T.cnt x)
    simp only [cntL, mkL, List.map_cons, List.sum_cons, T.cnt_mrk] at this ⊢
    omega
theorem cntL_append (T : Ty α) (xs ys : List α) : cntL T (xs ++ ys) = cntL T xs + cntL T ys := by simp [cntL, List.sum_append]
theorem mkL_append (T : Ty α) (k : Int) (xs ys : List α) : mkL T k (xs ++ ys) = mkL T k xs ++ mkL T (k + cntL T xs) ys := by
  induction xs generalizing k with
  | nil => simp [mkL, cntL]
  | cons x l ih => simp [mkL, ih, cntL, Int.add_assoc]
theorem cntL_take {T : Ty α} {xs : List α} {j : Nat} {x : α} (h : xs[j]? = some x) : cntL T (xs.take (j + 1)) = cntL T (xs.take j) + T.cnt x := by
  obtain ⟨l, r, rfl, rfl⟩ := split_at h
  rw [List.take_left' rfl, take_mid, cntL_append]
  simp [cntL]
theorem cntL_take_le (T : Ty α) (xs : List α) (j : Nat) : cntL T (xs.take j) ≤ cntL T xs := by
  conv => rhs; rw [← List.take_append_drop j xs, cntL_append]
  omega
theorem mkL_get {T : Ty α} {k : Int} {xs : List α} {j : Nat} {x : α} (h : xs[j]? = some x) : (mkL T k xs)[j]? = some (T.mrk (k + cntL T (xs.take j)) x) := by
  obtain ⟨l, r, rfl, rfl⟩ := split_at h
  rw [mkL_append, List.getElem?_append_right (by rw [mkL_len]; exact Nat.le_refl _), mkL_len, List.take_left' rfl]
  simp [mkL]
theorem mkL_set {T : Ty α} {k : Int} {xs : List α} {j : Nat} {x : α} (h : xs[j]? = some x) :
    (mkL T k (xs.take j) ++ xs.drop j).set j (T.mrk (k + cntL T (xs.take j)) x) = mkL T k (xs.take (j + 1)) ++ xs.drop (j + 1) := by
  obtain ⟨l, r, rfl, rfl⟩ := split_at h
  rw [List.take_left' rfl, List.drop_left' rfl, List.set_append_right _ _ (by rw [mkL_len]; exact Nat.le_refl _), mkL_len, Nat.sub_self, List.set_cons_zero]
  have e1 : List.take (l.length + 1) (l ++ x :: r) = l ++ [x] := take_mid l r x
  have e2 : List.drop (l.length + 1) (l ++ x :: r) = r := drop_mid l r x
  rw [e1, e2, mkL_append]
  simp [mkL]
theorem totL_take {T : Ty α} {xs : List α} {j : Nat} {x : α} (h : xs[j]? = some x) : totL T (xs.take (j + 1)) = totL T (xs.take j) + 1 + T.tot x := by
  obtain ⟨l, r, rfl, rfl⟩ := split_at h
  rw [List.take_left' rfl, take_mid]
  simp [totL, List.sum_append]; omega
/-- What is still to be counted behind the length. -/
def etot (T : Ty α) (xs : List α) : Nat := (xs.map T.tot).sum
theorem totL_eq (T : Ty α) (xs : List α) : totL T xs = xs.length + etot T xs := rfl
theorem etot_take {T : Ty α} {xs : List α} {j : Nat} {x : α} (h : xs[j]? = some x) : etot T (xs.take (j + 1)) = etot T (xs.take j) + T.tot x := by
  obtain ⟨l, r, rfl, rfl⟩ := split_at h
  rw [List.take_left' rfl, take_mid]
  simp [etot, List.sum_append]
theorem etot_le (T : Ty α) (xs : List α) (j : Nat) : etot T (xs.take j) ≤ etot T xs := by
  conv => rhs; rw [← List.take_append_drop j xs]
  simp only [etot, List.map_append, List.sum_append]
  omega

theorem totL_flat {T : Ty α} (h : ∀ x, T.tot x = 0) (xs : List α) : totL T xs = xs.length := by
  have : (xs.map T.tot).sum = 0 := by
    induction xs with
    | nil => rfl
    | cons x r ih => rw [List.map_cons, List.sum_cons, h, ih]
  rw [totL, this]; rfl
theorem fillT_set {zs : List α} {j : Nat} {z y : α} (h : zs[j]? = some y) : (zs.take j ++ List.replicate (zs.length - j) z).set j y = zs.take (j + 1) ++ List.replicate (zs.length - (j + 1)) z := by
  obtain ⟨l, r, rfl, rfl⟩ := split_at h
  have e0 : (l ++ y :: r).length - l.length = r.length + 1 := by simp
  have e3 : (l ++ y :: r).length - (l.length + 1) = r.length := by simp; omega
  have e1 : List.take (l.length + 1) (l ++ y :: r) = l ++ [y] := take_mid l r y
  rw [e0, e3, e1, List.take_left' rfl, List.set_append_right _ _ (Nat.le_refl _), Nat.sub_self, List.replicate_succ, List.set_cons_zero]
  simp
theorem fillT_get {zs : List α} {j : Nat} {z : α} (h : j < zs.length) : (zs.take j ++ List.replicate (zs.length - j) z)[j]? = some z := by
  rw [List.getElem?_append_right (by simp; omega), List.length_take, Nat.min_eq_left (by omega), Nat.sub_self, List.getElem?_replicate]
  rw [if_pos (by omega)]

def sliceT (e : TypeId) (T : Ty α) : Ty (List α) where
  sz := 1
  rd l w cs xs := ∃ a cap, cs = [.slice a xs.length cap] ∧ xs.length ≤ cap ∧ cap ≤ maxLen ∧
    ((a = none ∧ cap = 0) ∨ ∃ p, a = some p ∧ (p.block < l ∨ xs.length = 0) ∧ ∀ (i : Nat) (x : α), xs[i]? = some x → ∃ c, T.rd l w c x ∧ ∀ (j : Nat) (u : Value), c[j]? = some u → w.cell? (p.add (i * T.sz + j)) = some u)
  own F w cs xs := ∃ (v : Value) (css : List (List Value)) (Fs : Nat → Nat → Prop), cs = [v] ∧ css.length = xs.length ∧ w.ownsRow 0 e T.sz v xs.length css.flatten ∧ In F v ∧
    (∀ (i : Nat) (c : List Value) (x : α), css[i]? = some c → xs[i]? = some x → T.own (Fs i) w c x ∧ ∀ b, Fs i b → F b ∧ v.ownBlock ≠ some b) ∧ ∀ i j, i ≠ j → ∀ b, Fs i b → ¬ Fs j b
  mrk k xs := mkL T k xs
  vmrk k xs := mkL T k xs
  cnt xs := cntL T xs
  vcnt xs := cntL T xs
  tot xs := totL T xs
  zero := []
  zc := [.slice none 0 0]
  pos := by decide
  len h := by obtain ⟨a, cap, rfl, _⟩ := h; rfl
  one h u hu := by obtain ⟨a, cap, rfl, _⟩ := h; simp at hu; subst hu; rfl
  mono h hl := by
    obtain ⟨a, cap, h0, h1, h2, h3⟩ := h
    refine ⟨a, cap, h0, h1, h2, ?_⟩
    rcases h3 with h3 | ⟨p, h4, h5, h6⟩
    · exact .inl h3
    · refine .inr ⟨p, h4, by omega, fun i x hi => ?_⟩
      obtain ⟨c, q1, q2⟩ := h6 i x hi
      exact ⟨c, T.mono q1 hl, q2⟩
  behind h hb := by
    obtain ⟨a, cap, h0, h1, h2, h3⟩ := h
    refine ⟨a, cap, h0, h1, h2, ?_⟩
    rcases h3 with h3 | ⟨p, h4, h5, h6⟩
    · exact .inl h3
    · refine .inr ⟨p, h4, h5, fun i x hi => ?_⟩
      obtain ⟨c, q1, q2⟩ := h6 i x hi
      refine ⟨c, T.behind q1 hb, fun j u hu => ?_⟩
      rw [← q2 j u hu]
      have := (List.getElem?_eq_some_iff.1 hi).1
      exact hb.cell (p := p.add (i * T.sz + j)) (by rw [addr_add_block]; omega)
  omono h hFG := by
    obtain ⟨v, css, Fs, h0, h1, h2, h3, h4, h5⟩ := h
    exact ⟨v, css, Fs, h0, h1, h2, h3.mono hFG, fun i c x hc hx => ⟨(h4 i c x hc hx).1, fun b hb => ⟨hFG b ((h4 i c x hc hx).2 b hb).1, ((h4 i c x hc hx).2 b hb).2⟩⟩, h5⟩
  okept h hk hd := by
    obtain ⟨v, css, Fs, h0, h1, h2, h3, h4, h5⟩ := h
    refine ⟨v, css, Fs, h0, h1, ownsRowS_of_block h2 fun r hr => hk.block r (h2.lt r hr).2 (hd r (h3 r hr)), h3, fun i c x hc hx => ?_, h5⟩
    obtain ⟨q1, q2⟩ := h4 i c x hc hx
    exact ⟨T.okept q1 hk fun b hb => hd b (q2 b hb).1, q2⟩
  ord {F w cs xs} h := by
    obtain ⟨v, css, Fs, rfl, h1, h2, h3, h4, h5⟩ := h
    have h2' := h2
    have hzs : ∀ c ∈ css, c.length = T.sz := fun c hc => by
      obtain ⟨i, hi⟩ := List.mem_iff_getElem?.1 hc
      have hlt := (List.getElem?_eq_some_iff.1 hi).1
      exact T.olen (h4 i c _ hi (List.getElem?_eq_getElem (by omega))).1
    rcases h2.2 with ⟨rfl, q0⟩ | ⟨g, cap, cur, rfl, q1, q2, q3, q4, q5⟩
    · exact ⟨none, 0, by rw [q0], by omega, by unfold maxLen; omega, .inl ⟨rfl, rfl⟩⟩
    · refine ⟨_, cap, rfl, q3, q4, .inr ⟨_, rfl, .inl (Array.getElem?_eq_some_iff.1 q2).1, fun i x hi => ?_⟩⟩
      have hlt := (List.getElem?_eq_some_iff.1 hi).1
      have hc := List.getElem?_eq_getElem (l := css) (i := i) (by omega)
      refine ⟨css[i]'(by omega), T.ord (h4 i _ x hc hi).1, fun j u hu => ?_⟩
      have hj : j < T.sz := by have := (List.getElem?_eq_some_iff.1 hu).1; rwa [hzs _ (List.mem_of_getElem? hc)] at this
      have e1 : (⟨g, 0, none⟩ : Addr).add (i * T.sz + j) = ⟨g, i * T.sz + j, none⟩ := by unfold Addr.add; split <;> simp_all
      rw [e1, World.ownsRow.cellAt h2' _ (by have := Nat.mul_le_mul_right T.sz (show i + 1 ≤ xs.length by omega); rw [Nat.add_mul, Nat.one_mul] at this; omega), flatten_get hzs hc hj]
      exact hu
  ozero F w := ⟨.slice none 0 0, [], fun _ _ => False, rfl, rfl, World.ownsRow_nil _ _ _ _, In.nil F, fun i c x hc => by simp at hc, fun _ _ _ _ h => h.elim⟩
  cnt_mrk k xs := cntL_mkL T k xs
  vcnt_vmrk k xs := cntL_mkL T k xs


section
variable {e : TypeId} {T : Ty α} {F : Nat → Prop} {w w' : World} {xs : List α} {v : Value} {l : Nat}

/-- The slice's value, and what its elements read in every later world. -/
theorem sl_open {cs : List Value} (h : (sliceT e T).rd l w cs xs) : ∃ a cap, cs = [.slice a xs.length cap] ∧ xs.length ≤ cap ∧ cap ≤ maxLen ∧
    (0 < xs.length → ∃ b o, a = some ⟨b, o, none⟩ ∧ b < l ∧ ∀ w', Below l w w' → ∀ (i : Nat) (x : α), xs[i]? = some x → ∃ c, T.rd l w' c x ∧ ∀ (j : Nat) (u : Value), c[j]? = some u → w'.cell? ⟨b, o + (i * T.sz + j), none⟩ = some u) := by
  obtain ⟨a, cap, hv, h1, h2, h3⟩ := h
  refine ⟨a, cap, hv, h1, h2, fun hp => ?_⟩
  rcases h3 with h3 | ⟨p, rfl, h5, h6⟩
  · omega
  · obtain ⟨b, o, s⟩ := p
    have hbl : b < l := by
      rcases h5 with h5 | h5
      · exact h5
      · omega
    obtain ⟨c0, q0, q1⟩ := h6 0 _ (List.getElem?_eq_getElem hp)
    cases s with
    | none =>
      refine ⟨b, o, rfl, hbl, fun w' hb i x hi => ?_⟩
      obtain ⟨c, r1, r2⟩ := h6 i x hi
      refine ⟨c, T.behind r1 hb, fun j u hu => ?_⟩
      have e1 : (⟨b, o, none⟩ : Addr).add (i * T.sz + j) = ⟨b, o + (i * T.sz + j), none⟩ := by unfold Addr.add; split <;> simp_all
      rw [← r2 j u hu, e1]
      exact hb.cell (p := ⟨b, o + (i * T.sz + j), none⟩) hbl
    | some s =>
      exfalso
      have hj : 0 < c0.length := by rw [T.len q0]; exact T.pos
      have h1 := q1 0 _ (List.getElem?_eq_getElem hj)
      simp only [World.cell?, Addr.add] at h1
      split at h1 <;> (try split at h1) <;> simp_all

theorem sl_len {cs : List Value} (h : (sliceT e T).rd l w cs xs) : xs.length ≤ maxLen := by
  obtain ⟨a, cap, hv, h1, h2, h3⟩ := sl_open h
  omega
theorem sl_len_eq {a : Option Addr} {n cap : Nat} (h : (sliceT e T).rd l w [.slice a n cap] xs) : n = xs.length := by
  obtain ⟨a', cap', hv, _⟩ := sl_open h
  injection hv with hv
  injection hv
theorem slo_open {cs : List Value} (h : (sliceT e T).own F w cs xs) : ∃ a cap, cs = [.slice a xs.length cap] ∧ xs.length ≤ cap ∧ cap ≤ maxLen ∧ (0 < xs.length → ∃ g, a = some ⟨g, 0, none⟩ ∧ F g) := by
  obtain ⟨v, css, Fs, rfl, h1, h2, h3, h4, h5⟩ := h
  rcases h2.2 with ⟨rfl, q0⟩ | ⟨g, cap, cur, rfl, q1, q2, q3, q4, q5⟩
  · exact ⟨none, 0, by rw [q0], by omega, by unfold maxLen; omega, fun h => by omega⟩
  · exact ⟨_, cap, rfl, q3, q4, fun _ => ⟨g, rfl, h3 g rfl⟩⟩

/-- Behind make: n times the zero. -/
theorem slo_made {n : Nat} {zc : Array Value} (hz : T.zc = zc.toList) {B : Nat} (h : w.ownsRow B e T.sz v n (madeCells zc (n * T.sz)).toList) (hF : ∀ b, v.ownBlock = some b → F b) : (sliceT e T).own F w [v] (List.replicate n T.zero) := by
  have hs : zc.size = T.sz := by rw [← Array.length_toList, ← hz]; exact T.olen (T.ozero F w)
  have e1 : (madeCells zc (n * T.sz)).toList = (List.replicate n T.zc).flatten := by
    have hzs : ∀ c ∈ List.replicate n T.zc, c.length = T.sz := fun c hc => by rw [List.eq_of_mem_replicate hc]; exact T.olen (T.ozero F w)
    apply List.ext_getElem?
    intro i
    by_cases hi : i < n * T.sz
    · have hq : i / T.sz < n := Nat.div_lt_of_lt_mul (by rwa [Nat.mul_comm])
      have hr := Nat.mod_lt i T.pos
      have h1 := flatten_get (i := i / T.sz) (j := i % T.sz) (c := T.zc) hzs (by simp [hq]) hr
      rw [Nat.div_add_mod'] at h1
      rw [h1, hz]
      simp [madeCells, hi, hs]
      rw [Array.getElem?_eq_getElem (by omega), getElem!_pos zc _ (by omega)]
    · rw [List.getElem?_eq_none (by rw [Array.length_toList, size_madeCells]; omega), List.getElem?_eq_none (by rw [flatten_len hzs, List.length_replicate]; omega)]
  rw [e1] at h
  refine ⟨v, List.replicate n T.zc, fun _ _ => False, rfl, by simp, ?_, fun r hr => hF r hr, fun i c x hc hx => ?_, fun _ _ _ _ h => h.elim⟩
  · rw [List.length_replicate]
    obtain ⟨p1, p2⟩ := h
    refine ⟨p1, ?_⟩
    rcases p2 with p2 | ⟨g, cap, cur, q1, q2, q3⟩
    · exact .inl p2
    · exact .inr ⟨g, cap, cur, q1, Nat.zero_le _, q3⟩
  · have ec : c = T.zc := List.eq_of_mem_replicate (List.mem_of_getElem? hc)
    have ex : x = T.zero := List.eq_of_mem_replicate (List.mem_of_getElem? hx)
    rw [ec, ex]
    exact ⟨T.ozero _ _, fun b hb => hb.elim⟩

/-- One element taken out: its cells are c, what it leads to may change within Fi. -/
def Foc (e : TypeId) (T : Ty α) (F : Nat → Prop) (w : World) (g cap : Nat) (xs : List α) (i : Nat) (Fi : Nat → Prop) (c : List Value) : Prop :=
  i < xs.length ∧ ∃ (css : List (List Value)) (Fs : Nat → Nat → Prop), css.length = xs.length ∧ (∀ c ∈ css, c.length = T.sz) ∧ w.ownsRow 0 e T.sz (.slice (some ⟨g, 0, none⟩) xs.length cap) xs.length css.flatten ∧ F g ∧ css[i]? = some c ∧ (∀ b, Fi b → F b ∧ b ≠ g) ∧
    (∀ (j : Nat) (d : List Value) (x : α), j ≠ i → css[j]? = some d → xs[j]? = some x → T.own (Fs j) w d x ∧ ∀ b, Fs j b → F b ∧ b ≠ g) ∧ (∀ j, j ≠ i → ∀ b, Fs j b → ¬ Fi b) ∧ ∀ j k, j ≠ i → k ≠ i → j ≠ k → ∀ b, Fs j b → ¬ Fs k b

theorem Foc.take {g n cap i : Nat} {x : α} (h : (sliceT e T).own F w [.slice (some ⟨g, 0, none⟩) n cap] xs) (hi : xs[i]? = some x) :
    ∃ Fi c, Foc e T F w g cap xs i Fi c ∧ T.own Fi w c x ∧ n = xs.length := by
  obtain ⟨v, css, Fs, hv, h1, h2, h3, h4, h5⟩ := h
  injection hv with hv
  subst hv
  have hn : n = xs.length := by
    rcases h2.2 with ⟨q, _⟩ | ⟨g', cap', cur, q, _⟩
    · cases q
    · injection q
  subst hn
  have hlt := (List.getElem?_eq_some_iff.1 hi).1
  have hc := List.getElem?_eq_getElem (l := css) (i := i) (by omega)
  have hne : ∀ b, Value.ownBlock (.slice (some ⟨g, 0, none⟩) xs.length cap) ≠ some b → b ≠ g := fun b hb e => hb (by rw [e]; rfl)
  have hzs : ∀ c ∈ css, c.length = T.sz := fun c hc => by
    obtain ⟨i, hi⟩ := List.mem_iff_getElem?.1 hc
    have hlt := (List.getElem?_eq_some_iff.1 hi).1
    exact T.olen (h4 i c _ hi (List.getElem?_eq_getElem (by omega))).1
  obtain ⟨q1, q2⟩ := h4 i _ x hc hi
  exact ⟨Fs i, _, ⟨hlt, css, Fs, h1, hzs, h2, h3 g rfl, hc, fun b hb => ⟨(q2 b hb).1, hne b (q2 b hb).2⟩, fun j d y hj hd hy => ⟨(h4 j d y hd hy).1, fun b hb => ⟨((h4 j d y hd hy).2 b hb).1, hne b ((h4 j d y hd hy).2 b hb).2⟩⟩, fun j hj b hb => h5 j i hj b hb, fun j k _ _ hjk => h5 j k hjk⟩, q1, rfl⟩

variable {g cap i : Nat} {Fi : Nat → Prop} {c : List Value} {x : α}

theorem Foc.cell (h : Foc e T F w g cap xs i Fi c) {j : Nat} {u : Value} (hj : c[j]? = some u) : w.cell? ⟨g, i * T.sz + j, none⟩ = some u := by
  obtain ⟨hi, css, Fs, h1, h2, h3, h4, h5, _⟩ := h
  have hj' : j < T.sz := by have := (List.getElem?_eq_some_iff.1 hj).1; rwa [h2 _ (List.mem_of_getElem? h5)] at this
  rw [h3.cellAt _ (by have := Nat.mul_le_mul_right T.sz (show i + 1 ≤ xs.length by omega); rw [Nat.add_mul, Nat.one_mul] at this; omega), flatten_get h2 h5 hj', hj]
theorem Foc.free (h : Foc e T F w g cap xs i Fi c) (j : Nat) : w.frozen? ⟨g, j, none⟩ = false := by
  obtain ⟨hi, css, Fs, h1, h2, h3, _⟩ := h
  exact h3.frozenAt j
theorem Foc.lt (h : Foc e T F w g cap xs i Fi c) : g < w.heap.size := by
  obtain ⟨hi, css, Fs, h1, h2, h3, _⟩ := h
  exact (h3.lt g rfl).2
theorem Foc.fi (h : Foc e T F w g cap xs i Fi c) : ∀ b, Fi b → F b ∧ b ≠ g := by
  obtain ⟨hi, css, Fs, h1, h2, h3, h4, h5, h6, _⟩ := h
  exact h6
theorem Foc.fg (h : Foc e T F w g cap xs i Fi c) : F g := by
  obtain ⟨hi, css, Fs, h1, h2, h3, h4, _⟩ := h
  exact h4

/-- A store into one of its cells. -/
theorem Foc.store (h : Foc e T F w g cap xs i Fi c) {j : Nat} (hj : j < T.sz) (u : Value) :
    Foc e T F (w.setCell ⟨g, i * T.sz + j, none⟩ u) g cap xs i Fi (c.set j u) ∧ KeptF (fun b => b = g) w (w.setCell ⟨g, i * T.sz + j, none⟩ u) := by
  obtain ⟨hi, css, Fs, h1, h2, h3, h4, h5, h6, h7, h8, h9⟩ := h
  obtain ⟨p1, p2⟩ := h3.stored (i * T.sz + j) u
  have hk : KeptF (fun b => b = g) w (w.setCell ⟨g, i * T.sz + j, none⟩ u) := KeptF.of_grown p2 (fun b hb => by injection hb with hb; exact hb.symm)
  rw [← flatten_set h2 h5 hj] at p1
  refine ⟨⟨hi, css.set i (c.set j u), Fs, by rw [List.length_set]; exact h1, fun d hd => ?_, p1, h4, List.getElem?_set_self (by omega), h6, fun k d y hk' hd hy => ?_, h8, h9⟩, hk⟩
  · rcases List.mem_or_eq_of_mem_set hd with hd | rfl
    · exact h2 d hd
    · rw [List.length_set]; exact h2 _ (List.mem_of_getElem? h5)
  · rw [List.getElem?_set_ne (Ne.symm hk')] at hd
    obtain ⟨q1, q2⟩ := h7 k d y hk' hd hy
    exact ⟨T.okept q1 hk fun b hb => (q2 b hb).2, q2⟩

/-- What it leads to has changed, or nothing that was there. -/
theorem Foc.kept {G : Nat → Prop} (h : Foc e T F w g cap xs i Fi c) (hk : KeptF G w w') (hG : ∀ b, G b → b < w.heap.size → F b → Fi b) : Foc e T F w' g cap xs i Fi c := by
  obtain ⟨hi, css, Fs, h1, h2, h3, h4, h5, h6, h7, h8, h9⟩ := h
  have hk' : KeptF (fun b => G b ∧ b < w.heap.size) w w' := ⟨hk.os, hk.tape, hk.output, hk.size, fun b hb hn => hk.block b hb fun hg => hn ⟨hg, hb⟩⟩
  refine ⟨hi, css, Fs, h1, h2, ownsRowS_of_block h3 fun r hr => ?_, h4, h5, h6, fun j d y hj hd hy => ?_, h8, h9⟩
  · have hr' : r = g := by injection hr with hr; exact hr.symm
    subst hr'
    exact hk'.block r (h3.lt r rfl).2 fun hg => (h6 r (hG r hg.1 hg.2 h4)).2 rfl
  · obtain ⟨q1, q2⟩ := h7 j d y hj hd hy
    exact ⟨T.okept q1 hk' fun b hb hg => h8 j hj b hb (hG b hg.1 hg.2 (q2 b hb).1), q2⟩

/-- Put back. -/
theorem Foc.close (h : Foc e T F w g cap xs i Fi c) (ho : T.own Fi w c x) : (sliceT e T).own F w [.slice (some ⟨g, 0, none⟩) xs.length cap] (xs.set i x) := by
  obtain ⟨hi, css, Fs, h1, h2, h3, h4, h5, h6, h7, h8, h9⟩ := h
  have hne : ∀ b, b ≠ g → Value.ownBlock (.slice (some ⟨g, 0, none⟩) xs.length cap) ≠ some b := fun b hb e => by injection e with e; exact hb e.symm
  refine ⟨_, css, fun j => if j = i then Fi else Fs j, rfl, by rw [List.length_set]; exact h1, by rw [List.length_set]; exact h3, fun r hr => by injection hr with hr; subst hr; exact h4, fun j d y hd hy => ?_, fun j k hjk b hj hk => ?_⟩
  · by_cases hj : j = i
    · subst hj
      rw [List.getElem?_set_self (by omega)] at hy
      injection hy with hy
      subst hy
      rw [h5] at hd
      injection hd with hd
      subst hd
      simp only [if_pos]
      exact ⟨ho, fun b hb => ⟨(h6 b hb).1, hne b (h6 b hb).2⟩⟩
    · rw [List.getElem?_set_ne (Ne.symm hj)] at hy
      simp only [if_neg hj]
      obtain ⟨q1, q2⟩ := h7 j d y hj hd hy
      exact ⟨q1, fun b hb => ⟨(q2 b hb).1, hne b (q2 b hb).2⟩⟩
  · by_cases hji : j = i
    · by_cases hki : k = i
      · exact hjk (hji.trans hki.symm)
      · simp only [if_pos hji, if_neg hki] at hj hk
        exact h8 k hki b hk hj
    · by_cases hki : k = i
      · simp only [if_neg hji, if_pos hki] at hj hk
        exact h8 j hji b hj hk
      · simp only [if_neg hji, if_neg hki] at hj hk
        exact h9 j k hji hki hjk b hj hk

/-- Put back with what is new. -/
theorem Foc.fill {G : Nat → Prop} (h : Foc e T F w g cap xs i Fi c) (ho : T.own G w c x) (hG : ∀ b, G b → ¬ F b) : (sliceT e T).own (fun b => F b ∨ G b) w [.slice (some ⟨g, 0, none⟩) xs.length cap] (xs.set i x) := by
  obtain ⟨hi, css, Fs, h1, h2, h3, h4, h5, h6, h7, h8, h9⟩ := h
  refine Foc.close (Fi := G) ⟨hi, css, fun j b => j < xs.length ∧ Fs j b, h1, h2, h3, .inl h4, h5, fun b hb => ⟨.inr hb, fun e => hG b hb (e ▸ h4)⟩, fun j d y hj hd hy => ?_, fun j hj b hb hg => ?_, fun j k hj hk hjk b hb hb' => h9 j k hj hk hjk b hb.2 hb'.2⟩ ho
  · obtain ⟨q1, q2⟩ := h7 j d y hj hd hy
    exact ⟨T.omono q1 fun b hb => ⟨(List.getElem?_eq_some_iff.1 hy).1, hb⟩, fun b hb => ⟨.inl (q2 b hb.2).1, (q2 b hb.2).2⟩⟩
  · exact hG b hg ((h7 j _ _ hj (List.getElem?_eq_getElem (by omega)) (List.getElem?_eq_getElem hb.1)).2 b hb.2).1

end

end

end Go.Proofs.Ytlbijjifeaimjaa


/-! BaU -/
namespace Go.Proofs.Ytlbijjifeaimjaa
open Go Go.RowKit
set_option linter.unusedVariables false

section
variable {α : Type} {e : TypeId} {T : Ty α} {F : Nat → Prop} {w : World} {xs : List α} {v : Value} {l : Nat}

/-- A type whose values lie in their cells alone. -/
def FlatAs (T : Ty α) (E : Enc α) : Prop := T.sz = E.sz ∧ (∀ (l : Nat) (w : World) (cs : List Value) (x : α), T.rd l w cs x ↔ cs = E.en x ∧ E.ok x) ∧ ∀ (F : Nat → Prop) (w : World) (cs : List Value) (x : α), T.own F w cs x ↔ cs = E.en x ∧ E.ok x

theorem rds_of_sl {E : Enc α} (hT : FlatAs T E) (h : (sliceT e T).rd l w [v] xs) : RdS E l w v xs := by
  obtain ⟨e0, e1, _⟩ := hT
  obtain ⟨a, cap, hv, h1, h2, h3⟩ := h
  injection hv with hv
  subst hv
  rcases h3 with ⟨rfl, rfl⟩ | ⟨p, rfl, h5, h6⟩
  · have : xs = [] := List.eq_nil_of_length_eq_zero (by omega)
    subst this
    exact RdS.nil E l w
  · refine ⟨fun x hx => ?_, some p, cap, rfl, h1, h2, .inr ⟨p, rfl, fun i x hi j u hu => ?_, h5⟩⟩
    · obtain ⟨i, hi⟩ := List.mem_iff_getElem?.1 hx
      obtain ⟨c, q1, _⟩ := h6 i x hi
      exact ((e1 _ _ _ _).1 q1).2
    · obtain ⟨c, q1, q2⟩ := h6 i x hi
      obtain ⟨rfl, _⟩ := (e1 _ _ _ _).1 q1
      rw [← e0]
      exact q2 j u hu
theorem sl_of_rds {E : Enc α} (hT : FlatAs T E) (h : RdS E l w v xs) : (sliceT e T).rd l w [v] xs := by
  obtain ⟨e0, e1, _⟩ := hT
  obtain ⟨hw, a, cap, rfl, h1, h2, h3⟩ := h
  refine ⟨a, cap, rfl, h1, h2, ?_⟩
  rcases h3 with h3 | ⟨p, rfl, h5, h6⟩
  · exact .inl h3
  · refine .inr ⟨p, rfl, h6, fun i x hi => ⟨E.en x, (e1 _ _ _ _).2 ⟨rfl, hw x (List.mem_of_getElem? hi)⟩, fun j u hu => ?_⟩⟩
    rw [e0]
    exact h5 i x hi j u hu
theorem slo_of_ownS_in {E : Enc α} {B : Nat} (hT : FlatAs T E) (h : OwnS E e B w v xs) (hF : In F v) : (sliceT e T).own F w [v] xs := by
  obtain ⟨e0, _, e1⟩ := hT
  obtain ⟨hw, hB, ho⟩ := h
  have hfl : (xs.map E.en).flatten = xs.flatMap E.en := by rw [List.flatMap_def]
  refine ⟨v, xs.map E.en, fun _ _ => False, rfl, by simp, ?_, hF, fun i c x hc hx => ?_, fun _ _ _ _ h => h.elim⟩
  · rw [hfl, e0]
    rcases ho with ⟨p1, p2 | ⟨g, cap, cur, p2, p3, p4⟩⟩
    · exact ⟨p1, .inl p2⟩
    · exact ⟨p1, .inr ⟨g, cap, cur, p2, Nat.zero_le _, p4⟩⟩
  · rw [List.getElem?_map, hx] at hc
    injection hc with hc
    exact ⟨(e1 _ _ _ _).2 ⟨hc.symm, hw x (List.mem_of_getElem? hx)⟩, fun b hb => hb.elim⟩
theorem slo_of_ownS {E : Enc α} {B : Nat} (hT : FlatAs T E) (h : OwnS E e B w v xs) (hF : ∀ b, B ≤ b → b < w.heap.size → F b) : (sliceT e T).own F w [v] xs :=
  slo_of_ownS_in hT h fun r hr => hF r (h.lt r hr).1 (h.lt r hr).2
theorem ownS_of_slo {E : Enc α} (hT : FlatAs T E) (h : (sliceT e T).own F w [v] xs) : OwnS E e 0 w v xs ∧ In F v := by
  obtain ⟨e0, _, e1⟩ := hT
  obtain ⟨v', css, Fs, hv, h1, h2, h3, h4, h5⟩ := h
  injection hv with hv
  subst hv
  have hc : css = xs.map E.en := by
    apply List.ext_getElem?
    intro i
    by_cases hi : i < xs.length
    · have hc := List.getElem?_eq_getElem (l := css) (i := i) (by omega)
      have hx := List.getElem?_eq_getElem (l := xs) (i := i) hi
      have := ((e1 _ _ _ _).1 (h4 i _ _ hc hx).1).1
      rw [List.getElem?_map, hx, hc, this]
      rfl
    · rw [List.getElem?_eq_none (by omega), List.getElem?_eq_none (by simp; omega)]
  refine ⟨⟨fun x hx => ?_, Nat.zero_le _, ?_⟩, h3⟩
  · obtain ⟨i, hi⟩ := List.mem_iff_getElem?.1 hx
    have hlt := (List.getElem?_eq_some_iff.1 hi).1
    have hc := List.getElem?_eq_getElem (l := css) (i := i) (by omega)
    exact ((e1 _ _ _ _).1 (h4 i _ _ hc hi).1).2
  · rw [hc, e0] at h2
    rw [List.flatMap_def]
    exact h2
end

section
variable {e t : TypeId} {F : Nat → Prop} {w : World} {v : Value} {l : Nat} {k : IntKind} {f : Int → Int} {hz : (Lit.int k 0).wf = true} {zs : List Int} {zss : List (List Int)}

theorem rd_of_sl (h : (sliceT e (intT k f hz)).rd l w [v] zs) : Rd l k w v zs := by
  obtain ⟨a, cap, hv, h1, h2, h3⟩ := h
  injection hv with hv
  subst hv
  rcases h3 with ⟨rfl, rfl⟩ | ⟨p, rfl, h5, h6⟩
  · have : zs = [] := List.eq_nil_of_length_eq_zero (by omega)
    subst this
    exact ⟨by simp, none, 0, rfl, by simp, by unfold maxLen; omega, .inl ⟨rfl, rfl⟩⟩
  · refine ⟨fun x hx => ?_, some p, cap, rfl, h1, h2, .inr ⟨p, rfl, fun i hi => ?_, h5⟩⟩
    · obtain ⟨i, hi⟩ := List.mem_iff_getElem?.1 hx
      obtain ⟨c, q1, _⟩ := h6 i x hi
      exact q1.2
    · obtain ⟨c, q1, q2⟩ := h6 i _ (List.getElem?_eq_getElem hi)
      have hc : c = [.int k (zs[i]'hi)] := q1.1
      subst hc
      have := q2 0 _ rfl
      have e1 : i * (intT k f hz).sz + 0 = i := by show i * 1 + 0 = i; omega
      rw [e1] at this
      rw [this, List.getD_eq_getElem?_getD, List.getElem?_eq_getElem hi]
      rfl
theorem sl_of_rd (h : Rd l k w v zs) : (sliceT e (intT k f hz)).rd l w [v] zs := by
  obtain ⟨hw, a, cap, rfl, h1, h2, h3⟩ := h
  refine ⟨a, cap, rfl, h1, h2, ?_⟩
  rcases h3 with h3 | ⟨p, rfl, h5, h6⟩
  · exact .inl h3
  · refine .inr ⟨p, rfl, h6, fun i x hi => ⟨[.int k x], ⟨rfl, hw x (List.mem_of_getElem? hi)⟩, fun j u hu => ?_⟩⟩
    have hj : j = 0 := by have := (List.getElem?_eq_some_iff.1 hu).1; simpa using this
    subst hj
    have hu' : Value.int k x = u := by simpa using hu
    subst hu'
    have hlt := (List.getElem?_eq_some_iff.1 hi).1
    have e1 : i * (intT k f hz).sz + 0 = i := by show i * 1 + 0 = i; omega
    rw [e1, h5 i hlt, List.getD_eq_getElem?_getD, hi]
    rfl
theorem ints_flatten (k : IntKind) (zs : List Int) : (zs.map fun n => [Value.int k n]).flatten = zs.map (Value.int k) := by
  induction zs with
  | nil => rfl
  | cons z r ih => simp [ih]
theorem slo_of_own_in {B : Nat} (h : Own e k B w v zs) (hF : In F v) : (sliceT e (intT k f hz)).own F w [v] zs := by
  obtain ⟨hw, hB, ho⟩ := h
  refine ⟨v, zs.map fun n => [Value.int k n], fun _ _ => False, rfl, by simp, ?_, hF, fun i c x hc hx => ?_, fun _ _ _ _ h => h.elim⟩
  · rw [ints_flatten]
    rcases ho with ⟨p1, p2 | ⟨g, cap, cur, p2, p3, p4⟩⟩
    · exact ⟨p1, .inl p2⟩
    · exact ⟨p1, .inr ⟨g, cap, cur, p2, Nat.zero_le _, p4⟩⟩
  · rw [List.getElem?_map, hx] at hc
    injection hc with hc
    exact ⟨⟨hc.symm, hw x (List.mem_of_getElem? hx)⟩, fun b hb => hb.elim⟩
theorem slo_of_own {B : Nat} (h : Own e k B w v zs) (hF : ∀ b, B ≤ b → b < w.heap.size → F b) : (sliceT e (intT k f hz)).own F w [v] zs :=
  slo_of_own_in h fun r hr => hF r (h.2.2.lt r hr).1 (h.2.2.lt r hr).2
theorem own_of_slo (h : (sliceT e (intT k f hz)).own F w [v] zs) : Own e k 0 w v zs ∧ In F v := by
  obtain ⟨v', css, Fs, hv, h1, h2, h3, h4, h5⟩ := h
  injection hv with hv
  subst hv
  have hc : css = zs.map fun n => [Value.int k n] := by
    apply List.ext_getElem?
    intro i
    by_cases hi : i < zs.length
    · have hc := List.getElem?_eq_getElem (l := css) (i := i) (by omega)
      have hx := List.getElem?_eq_getElem (l := zs) (i := i) hi
      have : css[i]'(by omega) = [Value.int k (zs[i]'hi)] := (h4 i _ _ hc hx).1.1
      rw [List.getElem?_map, hx, hc, this]
      rfl
    · rw [List.getElem?_eq_none (by omega), List.getElem?_eq_none (by simp; omega)]
  refine ⟨⟨fun x hx => ?_, Nat.zero_le _, ?_⟩, h3⟩
  · obtain ⟨i, hi⟩ := List.mem_iff_getElem?.1 hx
    have hlt := (List.getElem?_eq_some_iff.1 hi).1
    have hc := List.getElem?_eq_getElem (l := css) (i := i) (by omega)
    exact (h4 i _ _ hc hi).1.2
  · rw [hc, ints_flatten] at h2
    exact h2

theorem mkL_i64 (k0 : Int) (zs : List Int) : mkL i64T k0 zs = marksInt k0 zs.length := by
  induction zs generalizing k0 with
  | nil => rfl
  | cons z r ih =>
    rw [mkL, ih]
    show k0 :: marksInt (k0 + (1 : Nat)) r.length = marksInt k0 (r.length + 1)
    unfold marksInt
    rw [List.range_succ_eq_map, List.map_cons, List.map_map]
    simp only [List.cons.injEq]
    refine ⟨by simp, List.map_congr_left fun i _ => ?_⟩
    simp only [Function.comp, Nat.succ_eq_add_one]
    omega
theorem mkL_u8 (k0 : Int) (zs : List Int) : mkL u8T k0 zs = marksByte k0 zs.length := by
  induction zs generalizing k0 with
  | nil => rfl
  | cons z r ih =>
    rw [mkL, ih]
    show k0 % 256 :: marksByte (k0 + (1 : Nat)) r.length = marksByte k0 (r.length + 1)
    unfold marksByte
    rw [List.range_succ_eq_map, List.map_cons, List.map_map]
    simp only [List.cons.injEq]
    refine ⟨by simp, List.map_congr_left fun i _ => ?_⟩
    simp only [Function.comp, Nat.succ_eq_add_one]
    omega
theorem cntL_int (k : IntKind) (f : Int → Int) (hz : (Lit.int k 0).wf = true) (zs : List Int) : cntL (intT k f hz) zs = zs.length := by
  induction zs with
  | nil => rfl
  | cons z r ih =>
    have : cntL (intT k f hz) (z :: r) = 1 + cntL (intT k f hz) r := rfl
    rw [this, ih, List.length_cons]; omega
theorem totL_int (k : IntKind) (f : Int → Int) (hz : (Lit.int k 0).wf = true) (zs : List Int) : totL (intT k f hz) zs = zs.length := by
  induction zs with
  | nil => rfl
  | cons z r ih =>
    have : totL (intT k f hz) (z :: r) = r.length + 1 + (0 + (r.map fun _ => 0).sum) := rfl
    have h2 : totL (intT k f hz) r = r.length + (r.map fun _ => 0).sum := rfl
    rw [h2] at ih
    rw [this, List.length_cons]; omega
end

end Go.Proofs.Ytlbijjifeaimjaa


/-! BaW -/
namespace Go.Proofs.Ytlbijjifeaimjaa
open Go Go.RowKit
set_option linter.unusedVariables false

section
variable {e t : TypeId} {F : Nat → Prop} {w : World} {v : Value} {l : Nat} {k : IntKind} {f : Int → Int} {hz : (Lit.int k 0).wf = true} {zs : List Int} {zss : List (List Int)}

theorem ones_flatten (us : List Value) : (us.map fun u => [u]).flatten = us := by
  induction us with
  | nil => rfl
  | cons u r ih => simp [ih]
theorem slo2_of_own2 (h : Own2 t e k F w v zss) : (sliceT t (sliceT e (intT k f hz))).own F w [v] zss := by
  obtain ⟨us, e1, h1, h2, h3, h4⟩ := h
  refine ⟨v, us.map fun u => [u], fun i b => ∃ u, us[i]? = some u ∧ u.ownBlock = some b, rfl, by rw [List.length_map, e1], ?_, h2, fun i c x hc hx => ?_, fun i j hij b hi hj => ?_⟩
  · rw [ones_flatten, ← e1]
    exact h1
  · rw [List.getElem?_map] at hc
    cases hu : us[i]? with
    | none => rw [hu] at hc; cases hc
    | some u =>
      rw [hu] at hc
      injection hc with hc
      subst hc
      obtain ⟨q1, q2, q3⟩ := h3 i u x hu hx
      refine ⟨slo_of_own_in q1 (fun r hr => ⟨u, hu, hr⟩), fun b hb => ?_⟩
      obtain ⟨u', hu', hb⟩ := hb
      rw [hu] at hu'
      injection hu' with hu'
      subst hu'
      exact ⟨q2 b hb, fun he => q3 b hb he⟩
  · obtain ⟨u, hu, hb⟩ := hi
    obtain ⟨u', hu', hb'⟩ := hj
    rcases Nat.lt_or_gt_of_ne hij with hlt | hgt
    · exact h4 i j u u' hlt hu hu' b hb hb'
    · exact h4 j i u' u hgt hu' hu b hb' hb
theorem own2_of_slo2 (h : (sliceT t (sliceT e (intT k f hz))).own F w [v] zss) : Own2 t e k F w v zss := by
  obtain ⟨v', css, Fs, hv, h1, h2, h3, h4, h5⟩ := h
  injection hv with hv
  subst hv
  have hone : ∀ (i : Nat) (c : List Value), css[i]? = some c → ∃ u, c = [u] := fun i c hc => by
    have hlt := (List.getElem?_eq_some_iff.1 hc).1
    obtain ⟨u, _, _, q, _⟩ := (h4 i c _ hc (List.getElem?_eq_getElem (by omega))).1
    exact ⟨u, q⟩
  obtain ⟨us, hus⟩ : ∃ us, us = css.map fun c => c.headD v := ⟨_, rfl⟩
  have hul : us.length = css.length := by rw [hus, List.length_map]
  have hget : ∀ (i : Nat) (u : Value), us[i]? = some u → css[i]? = some [u] := fun i u hu => by
    rw [hus, List.getElem?_map] at hu
    cases hc : css[i]? with
    | none => rw [hc] at hu; cases hu
    | some c =>
      rw [hc] at hu
      injection hu with hu
      obtain ⟨y, rfl⟩ := hone i c hc
      rw [← hu]; rfl
  have hfl : css.flatten = us := by
    have : css = us.map fun u => [u] := by
      apply List.ext_getElem?
      intro i
      rw [List.getElem?_map]
      cases hu : us[i]? with
      | none => rw [List.getElem?_eq_none (by rw [← hul]; exact List.getElem?_eq_none_iff.1 hu)]; rfl
      | some u => rw [hget i u hu]; rfl
    rw [this, ones_flatten]
  rw [hfl] at h2
  refine ⟨us, by omega, by rw [hul, h1]; exact h2, h3, fun i u zs hu hz' => ?_, fun i j u u' hij hu hu' => ?_⟩
  · obtain ⟨q1, q2⟩ := h4 i _ zs (hget i u hu) hz'
    obtain ⟨p1, p2⟩ := own_of_slo q1
    exact ⟨p1, fun r hr => (q2 r (p2 r hr)).1, fun r hr he => (q2 r (p2 r hr)).2 he⟩
  · intro r hr he
    have li := (List.getElem?_eq_some_iff.1 hu).1
    have lj := (List.getElem?_eq_some_iff.1 hu').1
    have a1 := (own_of_slo (h4 i _ _ (hget i u hu) (List.getElem?_eq_getElem (by omega))).1).2 r hr
    have a2 := (own_of_slo (h4 j _ _ (hget j u' hu') (List.getElem?_eq_getElem (by omega))).1).2 r he
    exact h5 i j (by omega) r a1 a2
theorem sl2_of_rd2 (h : Rd2 l k w v zss) : (sliceT t (sliceT e (intT k f hz))).rd l w [v] zss := by
  obtain ⟨us, hus, ⟨a, cap, rfl, h1, h2, h3⟩, hr⟩ := h
  rw [hus] at h1 h3
  refine ⟨a, cap, by rw [hus], h1, h2, ?_⟩
  rcases h3 with h3 | ⟨x, h4, h5, h6⟩
  · exact .inl h3
  · refine .inr ⟨x, h4, h6, fun i zs hi => ?_⟩
    have hlt := (List.getElem?_eq_some_iff.1 hi).1
    have hu := List.getElem?_eq_getElem (l := us) (i := i) (by omega)
    refine ⟨[us[i]'(by omega)], sl_of_rd (hr i _ zs hu hi), fun j u hj => ?_⟩
    have hj0 : j = 0 := by have := (List.getElem?_eq_some_iff.1 hj).1; simpa using this
    subst hj0
    have hj' : us[i]'(by omega) = u := by simpa using hj
    subst hj'
    have e1 : i * (sliceT e (intT k f hz)).sz + 0 = i := by show i * 1 + 0 = i; omega
    rw [e1]
    exact h5 i _ hu
theorem rd2_of_sl2 (h : (sliceT t (sliceT e (intT k f hz))).rd l w [v] zss) : Rd2 l k w v zss := by
  obtain ⟨a, cap, hv, h1, h2, h3⟩ := h
  injection hv with hv
  subst hv
  rcases h3 with ⟨rfl, rfl⟩ | ⟨p, rfl, h5, h6⟩
  · have : zss = [] := List.eq_nil_of_length_eq_zero (by omega)
    subst this
    exact ⟨[], rfl, ⟨none, 0, rfl, Nat.le_refl _, by unfold maxLen; omega, .inl ⟨rfl, rfl⟩⟩, fun i u zs hu => by simp at hu⟩
  · obtain ⟨us, hus⟩ : ∃ us, us = (List.range zss.length).map fun i => (w.cell? (p.add i)).getD (.int k 0) := ⟨_, rfl⟩
    have hl : us.length = zss.length := by rw [hus]; simp
    have hat : ∀ (i : Nat) (zs : List Int), zss[i]? = some zs → ∃ u, us[i]? = some u ∧ w.cell? (p.add i) = some u ∧ Rd l k w u zs := fun i zs hi => by
      have hlt := (List.getElem?_eq_some_iff.1 hi).1
      obtain ⟨c, q1, q2⟩ := h6 i zs hi
      obtain ⟨a', cap', hc, _⟩ := sl_open q1
      subst hc
      have := q2 0 _ rfl
      have e1 : i * (sliceT e (intT k f hz)).sz + 0 = i := by show i * 1 + 0 = i; omega
      rw [e1] at this
      refine ⟨_, ?_, this, rd_of_sl q1⟩
      rw [hus, List.getElem?_map, List.getElem?_range hlt]
      show some ((w.cell? (p.add i)).getD _) = _
      rw [this]; rfl
    refine ⟨us, hl, ⟨some p, cap, by rw [hl], by omega, h2, .inr ⟨p, rfl, fun i u hu => ?_, by rw [hl]; exact h5⟩⟩, fun i u zs hu hi => ?_⟩
    · have hlt := (List.getElem?_eq_some_iff.1 hu).1
      obtain ⟨u', q1, q2, _⟩ := hat i _ (List.getElem?_eq_getElem (by omega))
      rw [hu] at q1
      injection q1 with q1
      subst q1
      exact q2
    · obtain ⟨u', q1, _, q3⟩ := hat i zs hi
      rw [hu] at q1
      injection q1 with q1
      subst q1
      exact q3
theorem mkL2_u8 (e : TypeId) (k0 : Int) (zss : List (List Int)) : mkL (sliceT e u8T) k0 zss = marks2Byte k0 zss := by
  induction zss generalizing k0 with
  | nil => rfl
  | cons z r ih =>
    rw [mkL, ih]
    show mkL u8T k0 z :: marks2Byte (k0 + (cntL u8T z : Nat)) r = marksByte k0 z.length :: marks2Byte (k0 + z.length) r
    rw [mkL_u8, show cntL u8T z = z.length from cntL_int _ _ _ _]
theorem mkL2_i64 (e : TypeId) (k0 : Int) (zss : List (List Int)) : mkL (sliceT e i64T) k0 zss = marks2Int k0 zss := by
  induction zss generalizing k0 with
  | nil => rfl
  | cons z r ih =>
    rw [mkL, ih]
    show mkL i64T k0 z :: marks2Int (k0 + (cntL i64T z : Nat)) r = marksInt k0 z.length :: marks2Int (k0 + z.length) r
    rw [mkL_i64, show cntL i64T z = z.length from cntL_int _ _ _ _]
theorem cntL2 (e : TypeId) (k : IntKind) (f : Int → Int) (hz : (Lit.int k 0).wf = true) (zss : List (List Int)) : cntL (sliceT e (intT k f hz)) zss = fl zss := by
  induction zss with
  | nil => rfl
  | cons z r ih =>
    have : cntL (sliceT e (intT k f hz)) (z :: r) = cntL (intT k f hz) z + cntL (sliceT e (intT k f hz)) r := rfl
    rw [this, ih, cntL_int]
    rfl
theorem totL2 (e : TypeId) (k : IntKind) (f : Int → Int) (hz : (Lit.int k 0).wf = true) (zss : List (List Int)) : totL (sliceT e (intT k f hz)) zss = tot zss := by
  induction zss with
  | nil => rfl
  | cons z r ih =>
    have h1 : totL (sliceT e (intT k f hz)) (z :: r) = 1 + totL (intT k f hz) z + totL (sliceT e (intT k f hz)) r := by
      have h2 := totL_eq (sliceT e (intT k f hz)) r
      have h3 : totL (sliceT e (intT k f hz)) (z :: r) = r.length + 1 + (totL (intT k f hz) z + etot (sliceT e (intT k f hz)) r) := by
        rw [totL_eq, List.length_cons]; rfl
      omega
    rw [h1, ih, totL_int]
    show 1 + z.length + (r.length + fl r) = r.length + 1 + (z.length + fl r)
    omega
end

end Go.Proofs.Ytlbijjifeaimjaa


/-! BaY -/
namespace Go.Proofs.Ytlbijjifeaimjaa
open Go Go.RowKit
set_option linter.unusedVariables false

section
variable {α : Type} {e : TypeId} {T : Ty α} {F G : Nat → Prop} {w : World} {v : Value} {xs : List α} {x : α} {cs : List Value} {l : Nat}

theorem slo_nil : (sliceT e T).own F w [.slice none 0 0] [] := (sliceT e T).ozero F w

theorem run_append_slo {P : Program} (w : World) (tt ty e : TypeId) (i : TypeInfo) (z : Value) (bytes : Nat) (ht : P.underlying tt = some (.slice e)) (hi : P.info? e = some i) (hz : i.zero = some z)
    (hsize : i.size = T.sz) (hby : i.bytes = bytes) (hzs : z.cells.size = T.sz) (hb1 : 1 ≤ bytes) {ad : Addr} {c : Nat} (hown : (sliceT e T).own F w [v] xs) (hF : ∀ b, F b → b < w.heap.size)
    (hx : T.own G w cs x) (hG : ∀ b, G b → ¬ F b) (hGl : ∀ b, G b → b < w.heap.size) (hc : ∀ (j : Nat) (u : Value), cs[j]? = some u → w.cell? (ad.add j) = some u) (hle : (xs.length + 1) * bytes ≤ 140737488355328) :
    ∃ v' w', (Builtin.append_ #[tt, tt] ty #[v, .slice (some ad) 1 c]).run P w = .ok v' w' ∧ (sliceT e T).own (fun b => F b ∨ G b ∨ (w.heap.size ≤ b ∧ b < w'.heap.size)) w' [v'] (xs ++ [x]) ∧ w.grownBy w' v.ownBlock ∧
      ∃ g cap, v' = .slice (some ⟨g, 0, none⟩) (xs.length + 1) cap := by
  have hm : xs.length + 1 ≤ maxLen := by
    have : (xs.length + 1) * 1 ≤ (xs.length + 1) * bytes := Nat.mul_le_mul_left _ hb1
    unfold maxLen; omega
  obtain ⟨v0, css, Fs, hv, h1, h2, h3, h4, h5⟩ := hown
  injection hv with hv
  subst hv
  obtain ⟨v', w', hr, p1, p2, p4, p3⟩ := run_append_own_at (P := P) w 0 tt ty e i z T.sz bytes ht hi hz hsize hby hzs T.pos v xs.length css.flatten h2 ad 1 c cs (by rw [T.olen hx, Nat.one_mul]) (fun j y hj => hc j y hj) (T.oone hx) hm hle (Nat.zero_le _)
  have hk : KeptF (fun b => v.ownBlock = some b) w w' := KeptF.of_grown p2 (fun b h => h)
  have hsz : w.heap.size ≤ w'.heap.size := p2.size
  have hnv : ∀ b, F b ∨ G b → b < w.heap.size := fun b hb => hb.elim (hF b) (hGl b)
  refine ⟨v', w', hr, ⟨v', css ++ [cs], fun j b => (j < xs.length ∧ Fs j b ∧ F b ∧ v.ownBlock ≠ some b) ∨ (j = xs.length ∧ G b), rfl, by simp [h1], ?_, fun r hr' => ?_, fun j c' x' hc' hx' => ?_, fun a b hab y ha hb => ?_⟩, p2, ?_⟩
  · rw [List.length_append, List.length_singleton, List.flatten_append, List.flatten_cons, List.flatten_nil, List.append_nil]
    exact p1
  · rcases p3 with p3 | p3
    · exact .inl (h3 r (p3 ▸ hr'))
    · have := (p1.lt r hr').2
      rw [p3] at hr'
      injection hr' with hr'
      exact .inr (.inr ⟨by omega, this⟩)
  · by_cases hj : j < xs.length
    · rw [List.getElem?_append_left (by omega)] at hc'
      rw [List.getElem?_append_left hj] at hx'
      obtain ⟨q1, q2⟩ := h4 j c' x' hc' hx'
      refine ⟨T.omono (T.okept q1 hk fun b hb e => (q2 b hb).2 e) fun b hb => .inl ⟨hj, hb, (q2 b hb).1, (q2 b hb).2⟩, fun b hb => ?_⟩
      rcases hb with ⟨_, hb, hFb, hvb⟩ | ⟨hb, _⟩
      · refine ⟨.inl hFb, fun e => ?_⟩
        rcases p3 with p3 | p3
        · exact hvb (p3 ▸ e)
        · rw [p3] at e
          injection e with e
          have := hF b hFb; omega
      · omega
    · have hjl : j < (css ++ [cs]).length := (List.getElem?_eq_some_iff.1 hc').1
      have hj' : j = xs.length := by simp at hjl; omega
      subst hj'
      rw [List.getElem?_append_right (by omega), h1, Nat.sub_self] at hc'
      rw [List.getElem?_append_right (Nat.le_refl _), Nat.sub_self] at hx'
      have hcc : cs = c' := by simpa using hc'
      have hxx : x = x' := by simpa using hx'
      subst hcc
      subst hxx
      refine ⟨T.omono (T.okept hx hk fun b hb e => hG b hb (h3 b e)) fun b hb => .inr ⟨rfl, hb⟩, fun b hb => ?_⟩
      rcases hb with ⟨hb, _⟩ | ⟨_, hb⟩
      · omega
      · refine ⟨.inr (.inl hb), fun e => ?_⟩
        rcases p3 with p3 | p3
        · exact hG b hb (h3 b (p3 ▸ e))
        · rw [p3] at e
          injection e with e
          have := hGl b hb; omega
  · rcases ha with ⟨a1, a2, a3, a4⟩ | ⟨a1, a2⟩
    · rcases hb with ⟨b1, b2, b3, b4⟩ | ⟨b1, b2⟩
      · exact h5 a b hab y a2 b2
      · exact hG y b2 a3
    · rcases hb with ⟨b1, b2, b3, b4⟩ | ⟨b1, b2⟩
      · exact hG y a2 b3
      · omega
  · rcases p1.2 with ⟨_, q⟩ | ⟨g, cap, cur, q, _⟩
    · omega
    · exact ⟨g, cap, q⟩

/-- append of one element of the call's own to a slice of the call's own. -/
theorem append_slo {P : Program} (w : World) {ops : Array Oper} {rest : List Oper} {o : Oper} {a : Act} {Q : Exit → Act → World → Prop} (hg : o.guard = none) (s x' : Operand) (tt : TypeId)
    (hop : o.op = .call { callee := .builtin .append, args := #[s, x'], argTypes := #[tt, tt] }) (e : TypeId) (i : TypeInfo) (z : Value) (bytes : Nat) (ht : P.underlying tt = some (.slice e)) (hi : P.info? e = some i) (hz : i.zero = some z)
    (hsize : i.size = T.sz) (hby : i.bytes = bytes) (hzs : z.cells.size = T.sz) (hb1 : 1 ≤ bytes) {ad : Addr} {c : Nat} (hs : a.eval s = v) (hown : (sliceT e T).own F w [v] xs) (hF : ∀ b, F b → b < w.heap.size)
    (hux : a.eval x' = .slice (some ad) 1 c) (hx : T.own G w cs x) (hG : ∀ b, G b → ¬ F b) (hGl : ∀ b, G b → b < w.heap.size) (hc : ∀ (j : Nat) (u : Value), cs[j]? = some u → w.cell? (ad.add j) = some u) (hle : (xs.length + 1) * bytes ≤ 140737488355328)
    (h : ∀ v' w', (sliceT e T).own (fun b => F b ∨ G b ∨ (w.heap.size ≤ b ∧ b < w'.heap.size)) w' [v'] (xs ++ [x]) → w.grownBy w' v.ownBlock → wpList P ops Q rest (a.put o.dst v') w') : wpList P ops Q (o :: rest) a w := by
  obtain ⟨v', w', hr, p1, p2, _⟩ := run_append_slo (P := P) w tt o.type e i z bytes ht hi hz hsize hby hzs hb1 hown hF hx hG hGl hc hle
  refine wpList_plain hg fun K hK => ?_
  unfold Oper.wp
  simp only [execOp, hop, resolve, invoke, builtin, Sem.run_bind, Sem.run_pure, Result.andThen_ok, List.map_toArray, List.map_cons, List.map_nil, hs, hux]
  rw [hr]
  exact hK _ _ (h v' w' p1 p2)

/-- The head of a slice that is read. -/
theorem sl_head {p : Addr} {n cap c : Nat} (h : (sliceT e T).rd l w [.slice (some p) n cap] xs) (hc : c ≤ n) : (sliceT e T).rd l w [.slice (some p) c cap] (xs.take c) := by
  have hn := sl_len_eq h
  obtain ⟨a, cap', hv, h1, h2, h3⟩ := h
  injection hv with hv
  injection hv with e1 e2 e3
  subst e3
  have hl : (xs.take c).length = c := by rw [List.length_take]; omega
  refine ⟨some p, cap, by rw [hl], by omega, h2, ?_⟩
  rcases h3 with ⟨h3, _⟩ | ⟨q, h4, h5, h6⟩
  · rw [← e1] at h3; cases h3
  · rw [← e1] at h4
    injection h4 with h4
    subst h4
    refine .inr ⟨p, rfl, ?_, fun i x hi => ?_⟩
    · rcases h5 with h5 | h5
      · exact .inl h5
      · exact .inr (by omega)
    · rw [List.getElem?_take] at hi
      split at hi
      · exact h6 i x hi
      · cases hi

theorem add_none (b o k : Nat) : (⟨b, o, none⟩ : Addr).add k = ⟨b, o + k, none⟩ := by unfold Addr.add; split <;> simp_all
theorem cells_at {p : Addr} {w : World} {j k : Nat} {u : Value} (h : w.cell? (p.add j) = some u) (hk : j = k) : w.cell? (p.add k) = some u := hk ▸ h
/-- The tail of a slice that is read. -/
theorem sl_tail {b o n cap : Nat} (h : (sliceT e T).rd l w [.slice (some ⟨b, o, none⟩) n cap] xs) (hc : 1 ≤ n) : (sliceT e T).rd l w [.slice (some ⟨b, o + T.sz, none⟩) (n - 1) (cap - 1)] (xs.drop 1) := by
  have hn := sl_len_eq h
  obtain ⟨a, cap', hv, h1, h2, h3⟩ := h
  injection hv with hv
  injection hv with e1 e2 e3
  subst e3
  have hl : (xs.drop 1).length = n - 1 := by rw [List.length_drop]; omega
  refine ⟨some ⟨b, o + T.sz, none⟩, cap - 1, by rw [hl], by omega, by omega, ?_⟩
  rcases h3 with ⟨h3, _⟩ | ⟨q, h4, h5, h6⟩
  · rw [← e1] at h3; cases h3
  · rw [← e1] at h4
    injection h4 with h4
    subst h4
    refine .inr ⟨_, rfl, ?_, fun i x hi => ?_⟩
    · rcases h5 with h5 | h5
      · exact .inl h5
      · omega
    · rw [List.getElem?_drop] at hi
      obtain ⟨c, q1, q2⟩ := h6 (1 + i) x hi
      refine ⟨c, q1, fun j u hu => ?_⟩
      have := q2 j u hu
      have e1 : (⟨b, o, none⟩ : Addr).add ((1 + i) * T.sz + j) = (⟨b, o + T.sz, none⟩ : Addr).add (i * T.sz + j) := by
        have e2 : o + ((1 + i) * T.sz + j) = o + T.sz + (i * T.sz + j) := by rw [Nat.add_mul, Nat.one_mul]; omega
        rw [add_none, add_none, e2]
      rwa [e1] at this
theorem slo_in (h : (sliceT e T).own F w [v] xs) : ∀ b, v.ownBlock = some b → F b := by
  obtain ⟨v', css, Fs, hv, h1, h2, h3, h4, h5⟩ := h
  obtain rfl : v = v' := by injection hv
  exact h3
theorem slo_lit (hF : F w.heap.size) : (sliceT e T).own F (w.alloc (.cells #[] e)) [.slice (some ⟨w.heap.size, 0, none⟩) 0 0] [] :=
  ⟨_, [], fun _ _ => False, rfl, rfl, World.ownsRow_made w #[] 0 (Nat.zero_le _) (Nat.zero_le _) (by simp), fun r hr => by cases hr; exact hF, fun i c x hc => by simp at hc, fun _ _ _ _ h => h.elim⟩
theorem sliced_head (b o k cap : Nat) : Go.sliced (some ⟨b, o, none⟩) 0 k cap 1 = .slice (some ⟨b, o, none⟩) k cap := by
  unfold Go.sliced
  simp only [Nat.mul_one, Nat.sub_zero, Option.map_some, add_none, Nat.add_zero, ite_self]
/-- The tail of a slice of elements of one cell. -/
theorem sl_sliced {a : Option Addr} {n cap k : Nat} (hz : T.sz = 1) (h : (sliceT e T).rd l w [.slice a n cap] xs) (hk : k ≤ n) : (sliceT e T).rd l w [Go.sliced a k n cap 1] (xs.drop k) := by
  have hn := sl_len_eq h
  have h0 := h
  obtain ⟨a', cap', hv, h1, h2, h3⟩ := h
  injection hv with hv
  injection hv with e1 e2 e3
  subst e1
  subst e3
  have hl : (xs.drop k).length = n - k := by rw [List.length_drop]; omega
  unfold Go.sliced
  rw [Nat.mul_one]
  by_cases hkn : k = n
  · have e0 : xs.drop k = [] := List.drop_of_length_le (by omega)
    rw [e0, show n - k = 0 by omega]
    rcases h3 with ⟨rfl, rfl⟩ | ⟨x, rfl, h4, h5⟩
    · exact ⟨none, 0, by simp, by simp, by unfold maxLen; omega, .inl ⟨rfl, rfl⟩⟩
    · refine ⟨_, cap - k, rfl, Nat.zero_le _, by omega, .inr ?_⟩
      by_cases hc : cap = k
      · rw [if_pos hc]; exact ⟨x, rfl, .inr rfl, fun i u hi => by simp at hi⟩
      · rw [if_neg hc]; exact ⟨x.add k, rfl, .inr rfl, fun i u hi => by simp at hi⟩
  · obtain ⟨a', cap', hv, _, _, hc⟩ := sl_open h0
    injection hv with hv
    injection hv with e1 e2 e3
    subst e3
    subst e1
    obtain ⟨b, o, rfl, hb, hcell⟩ := hc (by omega)
    have hcl := hcell w (Below.refl _ _)
    clear h3 h0 hcell
    refine ⟨some ⟨b, o + k, none⟩, cap - k, by rw [if_neg (by omega), hl, Option.map_some, add_none], by omega, by omega, .inr ⟨_, rfl, .inl hb, fun i x hi => ?_⟩⟩
    rw [List.getElem?_drop] at hi
    obtain ⟨c, q1, q2⟩ := hcl (k + i) x hi
    refine ⟨c, q1, fun j u hu => ?_⟩
    have := q2 j u hu
    rw [hz, Nat.mul_one] at this ⊢
    rw [add_none, show o + k + (i + j) = o + (k + i + j) by omega]
    exact this
end

end Go.Proofs.Ytlbijjifeaimjaa
