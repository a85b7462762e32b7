/- Slices of structs of one-cell fields: as they are read, and rows that a call made itself. No program. -/
import Derived.Test.YtngdcnocjgibkaaBa2
import Derived.Test.YtngdcnocjgibkaaBa5
namespace Go.Proofs.Ytngdcnocjgibkaa
open Go Go.RowKit
set_option linter.unusedVariables false

/-- How the elements of a slice of structs lie in cells: each takes sz cells. -/
structure Enc (α : Type) where
  sz : Nat
  en : α → List Value
  ok : α → Prop
  pos : 0 < sz
  len : ∀ x, (en x).length = sz
  one : ∀ x, ∀ u ∈ en x, u.oneCell' = true

section
variable {α : Type} {E : Enc α}

theorem Enc.flat_len (E : Enc α) (xs : List α) : (xs.flatMap E.en).length = xs.length * E.sz := by
  induction xs with
  | nil => simp
  | cons x l ih => rw [List.flatMap_cons, List.length_append, ih, E.len, List.length_cons, Nat.add_mul, Nat.one_mul, Nat.add_comm]

theorem Enc.flat_get (E : Enc α) {xs : List α} {i j : Nat} {x : α} (hi : xs[i]? = some x) (hj : j < E.sz) : (xs.flatMap E.en)[i * E.sz + j]? = (E.en x)[j]? := by
  induction xs generalizing i with
  | nil => simp at hi
  | cons y l ih =>
    rw [List.flatMap_cons]
    cases i with
    | zero =>
      have : y = x := by simpa using hi
      subst this
      rw [List.getElem?_append_left (by rw [E.len]; omega)]
      simp
    | succ i =>
      have hi' : l[i]? = some x := by simpa using hi
      rw [List.getElem?_append_right (by rw [E.len, Nat.add_mul]; omega), E.len, ← ih hi']
      congr 1
      rw [Nat.add_mul, Nat.one_mul]; omega

theorem Enc.flat_set (E : Enc α) {xs : List α} {i j : Nat} {x y : α} {u : Value} (hi : xs[i]? = some x) (hj : j < E.sz) (hy : E.en y = (E.en x).set j u) : (xs.set i y).flatMap E.en = (xs.flatMap E.en).set (i * E.sz + j) u := by
  induction xs generalizing i with
  | nil => simp at hi
  | cons z l ih =>
    cases i with
    | zero =>
      have : z = x := by simpa using hi
      subst this
      rw [List.set_cons_zero, List.flatMap_cons, List.flatMap_cons, hy, List.set_append_left _ _ (by rw [E.len]; omega)]
      simp
    | succ i =>
      have hi' : l[i]? = some x := by simpa using hi
      rw [List.set_cons_succ, List.flatMap_cons, List.flatMap_cons, ih hi', List.set_append_right _ _ (by rw [E.len, Nat.add_mul]; omega), E.len]
      congr 2
      rw [Nat.add_mul, Nat.one_mul]; omega

theorem Enc.flat_one (E : Enc α) (xs : List α) : ∀ u ∈ xs.flatMap E.en, u.oneCell' = true := by
  intro u hu
  obtain ⟨x, _, h⟩ := List.mem_flatMap.1 hu
  exact E.one x u h

/-- The slice v reads xs; its cells lie below block lim. -/
def RdS (E : Enc α) (lim : Nat) (w : World) (v : Value) (xs : List α) : Prop :=
  (∀ x ∈ xs, E.ok x) ∧ ∃ a cap, v = .slice a xs.length cap ∧ xs.length ≤ cap ∧ cap ≤ maxLen ∧
    ((a = none ∧ cap = 0) ∨ ∃ p, a = some p ∧ (∀ (i : Nat) (x : α), xs[i]? = some x → ∀ (j : Nat) (u : Value), (E.en x)[j]? = some u → w.cell? (p.add (i * E.sz + j)) = some u) ∧ (p.block < lim ∨ xs.length = 0))

/-- v is nil or the head of a row of the call's own (blocks from B on) whose elements are xs. -/
def OwnS (E : Enc α) (e : TypeId) (B : Nat) (w : World) (v : Value) (xs : List α) : Prop :=
  (∀ x ∈ xs, E.ok x) ∧ B ≤ w.heap.size ∧ w.ownsRow B e E.sz v xs.length (xs.flatMap E.en)

section
variable {l l' : Nat} {w w' : World} {v : Value} {xs : List α}

theorem RdS.mono (h : RdS E l w v xs) (hl : l ≤ l') : RdS E l' w v xs := by
  obtain ⟨hw, a, cap, hv, h1, h2, h3⟩ := h
  refine ⟨hw, a, cap, hv, h1, h2, ?_⟩
  rcases h3 with h3 | ⟨x, h4, h5, h6⟩
  · exact .inl h3
  · exact .inr ⟨x, h4, h5, by omega⟩

theorem RdS.behind (h : RdS E l w v xs) (hb : Below l w w') : RdS E l w' v xs := by
  obtain ⟨hw, a, cap, hv, h1, h2, h3⟩ := h
  refine ⟨hw, a, cap, hv, h1, h2, ?_⟩
  rcases h3 with h3 | ⟨p, h4, h5, h6⟩
  · exact .inl h3
  · refine .inr ⟨p, h4, fun i x hi j u hu => ?_, h6⟩
    rw [← h5 i x hi j u hu]
    have := (List.getElem?_eq_some_iff.1 hi).1
    exact hb.cell (p := p.add (i * E.sz + j)) (by rw [addr_add_block]; omega)

theorem RdS.drew (h : RdS E l w v xs) : RdS E l w.drew v xs := h.behind (Below.refl _ _).drew

theorem RdS.okAt (h : RdS E l w v xs) {i : Nat} {x : α} (hi : xs[i]? = some x) : E.ok x := h.1 x (List.mem_of_getElem? hi)

/-- The slice's value, and what its elements read in every later world. -/
theorem RdS.open (h : RdS E l w v xs) : ∃ a cap, v = .slice a xs.length cap ∧ xs.length ≤ cap ∧ cap ≤ maxLen ∧
    (0 < xs.length → ∃ b o, a = some ⟨b, o, none⟩ ∧ b < l ∧ ∀ w', Below l w w' → ∀ (i : Nat) (x : α), xs[i]? = some x → ∀ (j : Nat) (u : Value), (E.en x)[j]? = some u → w'.cell? ⟨b, o + (i * E.sz + j), none⟩ = some u) := by
  obtain ⟨hw, a, cap, hv, h1, h2, h3⟩ := h
  refine ⟨a, cap, hv, h1, h2, fun hp => ?_⟩
  rcases h3 with h3 | ⟨p, rfl, h5, h6⟩
  · omega
  · obtain ⟨b, o, s⟩ := p
    have hbl : b < l := by
      rcases h6 with h6 | h6
      · exact h6
      · omega
    have h0 := h5 0 _ (List.getElem?_eq_getElem hp)
    cases s with
    | none =>
      refine ⟨b, o, rfl, hbl, fun w' hb i x hi j u hu => ?_⟩
      have e1 : (⟨b, o, none⟩ : Addr).add (i * E.sz + j) = ⟨b, o + (i * E.sz + j), none⟩ := by unfold Addr.add; split <;> simp_all
      rw [← h5 i x hi j u hu, e1]
      exact hb.cell (p := ⟨b, o + (i * E.sz + j), none⟩) hbl
    | some s =>
      exfalso
      have hj : 0 < (E.en xs[0]).length := by rw [E.len]; exact E.pos
      have h1 := h0 0 _ (List.getElem?_eq_getElem hj)
      simp only [World.cell?, Addr.add] at h1
      split at h1 <;> (try split at h1) <;> simp_all

theorem RdS.len (h : RdS E l w v xs) : xs.length ≤ maxLen := by
  obtain ⟨a, cap, hv, h1, h2, h3⟩ := h.open
  omega
theorem RdS.len_eq {a : Option Addr} {len cap : Nat} (h : RdS E l w (.slice a len cap) xs) : len = xs.length := by
  obtain ⟨a', cap', hv, _⟩ := h.open
  injection hv
theorem RdS.nil (E : Enc α) (l : Nat) (w : World) : RdS E l w (.slice none 0 0) [] := ⟨by simp, none, 0, rfl, by simp, by unfold maxLen; omega, .inl ⟨rfl, rfl⟩⟩
end

section
variable {e : TypeId} {B : Nat} {w w' : World} {v u : Value} {xs ys : List α}

theorem OwnS.lt (h : OwnS E e B w v xs) : ∀ r, v.ownBlock = some r → B ≤ r ∧ r < w.heap.size := h.2.2.lt

theorem OwnS.open (h : OwnS E e B w v xs) : ∃ a cap, v = .slice a xs.length cap ∧ (0 < xs.length → ∃ g, a = some ⟨g, 0, none⟩) := by
  obtain ⟨hw, hB, h1, h2⟩ := h
  rcases h2 with ⟨rfl, h3⟩ | ⟨g, cap, cur, rfl, h4⟩
  · exact ⟨none, 0, by rw [h3], fun h => by omega⟩
  · exact ⟨_, cap, rfl, fun _ => ⟨g, rfl⟩⟩

theorem OwnS.rd (h : OwnS E e B w v xs) : RdS E w.heap.size w v xs := by
  obtain ⟨hw, hB, ho⟩ := h
  have ho' := ho
  rcases ho.2 with ⟨rfl, h0⟩ | ⟨g, cap, cur, rfl, hb, hg, hn, hc, hs, ht⟩
  · have : xs = [] := List.eq_nil_of_length_eq_zero h0
    subst this
    exact RdS.nil E _ w
  · refine ⟨hw, _, cap, rfl, hn, hc, .inr ⟨_, rfl, fun i x hi j u hu => ?_, .inl (Array.getElem?_eq_some_iff.1 hg).1⟩⟩
    have hi' := (List.getElem?_eq_some_iff.1 hi).1
    have hj : j < E.sz := by have := (List.getElem?_eq_some_iff.1 hu).1; rwa [E.len] at this
    have e1 : (⟨g, 0, none⟩ : Addr).add (i * E.sz + j) = ⟨g, i * E.sz + j, none⟩ := by unfold Addr.add; split <;> simp_all
    rw [e1, World.ownsRow.cellAt ho' _ (by have := Nat.mul_le_mul_right E.sz (show i + 1 ≤ xs.length by omega); rw [Nat.add_mul, Nat.one_mul] at this; omega), E.flat_get hi hj]
    exact hu

theorem OwnS.kept {row : Option Nat} (h : OwnS E e B w v xs) (hg : w.grownBy w' row) (hne : v.ownBlock = none ∨ v.ownBlock ≠ row) : OwnS E e B w' v xs :=
  ⟨h.1, Nat.le_trans h.2.1 hg.size, h.2.2.kept hg hne⟩
theorem OwnS.next (h : OwnS E e B w v xs) (hb : Below w.heap.size w w') : OwnS E e B w' v xs :=
  h.kept (grown_of_below hb) (by cases hv : v.ownBlock <;> simp)
theorem OwnS.alloc (h : OwnS E e B w v xs) (o : Obj) : OwnS E e B (w.alloc o) v xs :=
  h.kept (World.grownBy_alloc w o none) (by cases hv : v.ownBlock <;> simp)
theorem OwnS.drew (h : OwnS E e B w v xs) : OwnS E e B w.drew v xs := h.next (Below.refl _ _).drew
theorem OwnS.beside (h : OwnS E e B w v xs) (ha : Apart v u) (hg : w.grownBy w' u.ownBlock) : OwnS E e B w' v xs := by
  refine h.kept hg ?_
  cases hv : v.ownBlock with
  | none => exact .inl rfl
  | some r =>
    right
    intro he
    exact ha r hv he.symm
theorem OwnS.below {C : Nat} (h : OwnS E e B w v xs) (hC : C ≤ B) (hg : w.grownBy w' v.ownBlock) : Below C w w' :=
  (Below.refl C w).grown hg (Nat.le_trans hC h.2.1) (fun r hr => by have := (h.lt r hr).1; omega)
theorem ownsRowS_of_block {w w' : World} {B n z : Nat} {e : TypeId} {v : Value} {xs : List Value} (h : w.ownsRow B e z v n xs) (hb : ∀ r, v.ownBlock = some r → w'.heap[r]? = w.heap[r]?) : w'.ownsRow B e z v n xs := by
  obtain ⟨h1, h2⟩ := h
  refine ⟨h1, ?_⟩
  rcases h2 with h2 | ⟨g, cap, cur, rfl, h3, h4, h5⟩
  · exact .inl h2
  · exact .inr ⟨g, cap, cur, rfl, h3, (hb g rfl).trans h4, h5⟩
theorem OwnS.keptF {F : Nat → Prop} (h : OwnS E e B w v xs) (hk : KeptF F w w') (hn : ∀ r, v.ownBlock = some r → ¬ F r) : OwnS E e B w' v xs :=
  ⟨h.1, Nat.le_trans h.2.1 hk.size, ownsRowS_of_block h.2.2 fun r hr => hk.block r (h.2.2.lt r hr).2 (hn r hr)⟩
theorem OwnS.mono {B' : Nat} (h : OwnS E e B w v xs) (hB : B' ≤ B) : OwnS E e B' w v xs := by
  obtain ⟨hw, h1, h2, h3⟩ := h
  refine ⟨hw, by omega, h2, ?_⟩
  rcases h3 with h3 | ⟨g, cap, cur, h4, h5, h6⟩
  · exact .inl h3
  · exact .inr ⟨g, cap, cur, h4, by omega, h6⟩
theorem OwnS.nil (E : Enc α) (e : TypeId) (hB : B ≤ w.heap.size) : OwnS E e B w (.slice none 0 0) [] := ⟨by simp, hB, World.ownsRow_nil _ _ _ _⟩
/-- An empty literal. -/
theorem OwnS.lit (E : Enc α) (e : TypeId) (hB : B ≤ w.heap.size) : OwnS E e B (w.alloc (.cells #[] e)) (.slice (some ⟨w.heap.size, 0, none⟩) 0 0) [] :=
  ⟨by simp, by simp; omega, World.ownsRow_made w #[] 0 hB (Nat.zero_le _) (by simp)⟩
/-- A literal of these elements. -/
theorem OwnS.lits (E : Enc α) (e : TypeId) (hB : B ≤ w.heap.size) {cs : Array Value} {n : Nat} (hx : ∀ x ∈ xs, E.ok x) (hcs : cs.toList = xs.flatMap E.en) (hn : n = xs.length) (hm : n ≤ maxLen) : OwnS E e B (w.alloc (.cells cs e)) (.slice (some ⟨w.heap.size, 0, none⟩) n n) xs := by
  subst hn
  refine ⟨hx, by simp; omega, ?_⟩
  have := World.ownsRow_lit (base := B) (e := e) (size := E.sz) w cs xs.length hB hm (by rw [← Array.length_toList, hcs, E.flat_len])
  rwa [hcs] at this
/-- Behind make: n times the zero. -/
theorem OwnS.made {n : Nat} {x : α} {zc : Array Value} (hx : E.ok x) (hz : E.en x = zc.toList) (hB : B ≤ w.heap.size) (h : w.ownsRow B e E.sz v n (madeCells zc (n * E.sz)).toList) : OwnS E e B w v (List.replicate n x) := by
  refine ⟨fun y hy => by rw [List.eq_of_mem_replicate hy]; exact hx, hB, ?_⟩
  rw [List.length_replicate]
  have hs : zc.size = E.sz := by rw [← Array.length_toList, ← hz, E.len]
  have : (madeCells zc (n * E.sz)).toList = (List.replicate n x).flatMap E.en := by
    apply List.ext_getElem?
    intro i
    by_cases hi : i < n * E.sz
    · have hq : i / E.sz < n := Nat.div_lt_of_lt_mul (by rwa [Nat.mul_comm])
      have hr := Nat.mod_lt i E.pos
      have h1 := E.flat_get (xs := List.replicate n x) (i := i / E.sz) (j := i % E.sz) (x := x) (by simp [hq]) hr
      rw [Nat.div_add_mod'] at h1
      rw [h1, hz]
      simp [madeCells, hi, hs]
      rw [Array.getElem?_eq_getElem (by omega), getElem!_pos zc _ (by omega)]
    · rw [List.getElem?_eq_none (by rw [Array.length_toList, size_madeCells]; omega), List.getElem?_eq_none (by rw [E.flat_len, List.length_replicate]; omega)]
  rwa [this] at h

theorem OwnS.len_eq {g cap n : Nat} (h : OwnS E e B w (.slice (some ⟨g, 0, none⟩) n cap) xs) : n = xs.length := by
  obtain ⟨a, c, hv, _⟩ := h.open
  injection hv
theorem OwnS.cellAt {g cap n i j : Nat} {x : α} {y : Value} (h : OwnS E e B w (.slice (some ⟨g, 0, none⟩) n cap) xs) (hi : xs[i]? = some x) (hj : (E.en x)[j]? = some y) : w.cell? ⟨g, i * E.sz + j, none⟩ = some y := by
  have hn := h.len_eq
  subst hn
  have hi' := (List.getElem?_eq_some_iff.1 hi).1
  have hj' : j < E.sz := by have := (List.getElem?_eq_some_iff.1 hj).1; rwa [E.len] at this
  rw [h.2.2.cellAt _ (by have := Nat.mul_le_mul_right E.sz (show i + 1 ≤ xs.length by omega); rw [Nat.add_mul, Nat.one_mul] at this; omega), E.flat_get hi hj', hj]
theorem OwnS.free {g cap n : Nat} (h : OwnS E e B w (.slice (some ⟨g, 0, none⟩) n cap) xs) (j : Nat) : w.frozen? ⟨g, j, none⟩ = false := by
  have hn := h.len_eq
  subst hn
  exact h.2.2.frozenAt j

/-- A store into one field of an element. -/
theorem OwnS.set1 {g cap n i j : Nat} {x y : α} {y' : Value} (h : OwnS E e B w (.slice (some ⟨g, 0, none⟩) n cap) xs) (hi : xs[i]? = some x) (hj : j < E.sz) (hy : E.en y = (E.en x).set j y') (hok : E.ok y) :
    OwnS E e B (w.setCell ⟨g, i * E.sz + j, none⟩ y') (.slice (some ⟨g, 0, none⟩) n cap) (xs.set i y) ∧ w.grownBy (w.setCell ⟨g, i * E.sz + j, none⟩ y') (some g) := by
  have hn := h.len_eq
  subst hn
  obtain ⟨hw, hB, ho⟩ := h
  obtain ⟨h1, h2⟩ := ho.stored (i * E.sz + j) y'
  rw [← E.flat_set hi hj hy] at h1
  refine ⟨⟨fun z hz => ?_, Nat.le_trans hB h2.size, by rw [List.length_set]; exact h1⟩, h2⟩
  rcases List.mem_or_eq_of_mem_set hz with h | rfl
  · exact hw z h
  · exact hok
end

/-- append to a row of the call's own of what is read. -/
theorem run_append_rds {P : Program} (w : World) (t ty e : TypeId) (i : TypeInfo) (z : Value) (bytes : Nat) (ht : P.underlying t = some (.slice e)) (hi : P.info? e = some i) (hz : i.zero = some z)
    (hsize : i.size = E.sz) (hby : i.bytes = bytes) (hzs : z.cells.size = E.sz) (hb1 : 1 ≤ bytes) {B lim : Nat} {v u : Value} {xs ys : List α} (hown : OwnS E e B w v xs) (hu : RdS E lim w u ys)
    (hle : (xs.length + ys.length) * bytes ≤ 140737488355328) :
    ∃ v' w', (Builtin.append_ #[t, t] ty #[v, u]).run P w = .ok v' w' ∧ OwnS E e B w' v' (xs ++ ys) ∧ w.grownBy w' v.ownBlock := by
  obtain ⟨uw, ua, ucap, rfl, u1, u2, u3⟩ := hu
  obtain ⟨vw, vB, vo⟩ := hown
  have hm : xs.length + ys.length ≤ maxLen := by
    have : (xs.length + ys.length) * 1 ≤ (xs.length + ys.length) * bytes := Nat.mul_le_mul_left _ hb1
    unfold maxLen; omega
  have hok : ∀ x ∈ xs ++ ys, E.ok x := fun x hx => by
    rcases List.mem_append.1 hx with h | h
    · exact vw x h
    · exact uw x h
  rcases u3 with ⟨rfl, rfl⟩ | ⟨p, rfl, hc, hbl⟩
  · have hy : ys = [] := List.eq_nil_of_length_eq_zero (by omega)
    subst hy
    have hrun := run_append_owned_none (P := P) (w := w) B t ty e i E.sz ht hi v xs.length _ vo
    refine ⟨v, w, by simpa using hrun, ⟨hok, vB, by simpa using vo⟩, World.grownBy.refl _ _⟩
  · obtain ⟨v', w', r1, r2, r3, _⟩ := run_append_own (P := P) w B t ty e i z E.sz bytes ht hi hz hsize hby hzs E.pos v xs.length _ vo p ys.length ucap (ys.flatMap E.en) (E.flat_len ys) (fun j n hn => by
      have hj : j < ys.length * E.sz := by have := (List.getElem?_eq_some_iff.1 hn).1; rwa [E.flat_len] at this
      have hq : j / E.sz < ys.length := Nat.div_lt_of_lt_mul (by rwa [Nat.mul_comm])
      have hr := Nat.mod_lt j E.pos
      have h1 := E.flat_get (xs := ys) (i := j / E.sz) (j := j % E.sz) (List.getElem?_eq_getElem hq) hr
      rw [Nat.div_add_mod', hn] at h1
      have h2 := hc (j / E.sz) _ (List.getElem?_eq_getElem hq) (j % E.sz) n h1.symm
      rwa [Nat.div_add_mod'] at h2) (E.flat_one ys) hm hle vB
    refine ⟨v', w', r1, ⟨hok, Nat.le_trans vB r3.size, ?_⟩, r3⟩
    rw [List.length_append, List.flatMap_append]
    exact r2

theorem append_rds {P : Program} (w : World) {ops : Array Oper} {rest : List Oper} {o : Oper} {a : Act} {Q : Exit → Act → World → Prop} (hg : o.guard = none) (s x : Operand) (t : TypeId)
    (hop : o.op = .call { callee := .builtin .append, args := #[s, x], argTypes := #[t, t] }) (e : TypeId) (i : TypeInfo) (z : Value) (bytes : Nat) (ht : P.underlying t = some (.slice e)) (hi : P.info? e = some i) (hz : i.zero = some z)
    (hsize : i.size = E.sz) (hby : i.bytes = bytes) (hzs : z.cells.size = E.sz) (hb1 : 1 ≤ bytes) {B lim : Nat} {v u : Value} {xs ys : List α} (hs : a.eval s = v) (hown : OwnS E e B w v xs) (hx : a.eval x = u) (hu : RdS E lim w u ys)
    (hle : (xs.length + ys.length) * bytes ≤ 140737488355328)
    (h : ∀ v' w', OwnS E e B w' v' (xs ++ ys) → w.grownBy w' v.ownBlock → wpList P ops Q rest (a.put o.dst v') w') : wpList P ops Q (o :: rest) a w := by
  obtain ⟨v', w', hr, h1, h2⟩ := run_append_rds (P := P) w t o.type e i z bytes ht hi hz hsize hby hzs hb1 hown hu hle
  refine wpList_plain hg fun K hK => ?_
  unfold Oper.wp
  simp only [execOp, hop, resolve, invoke, builtin, Sem.run_bind, Sem.run_pure, Result.andThen_ok, List.map_toArray, List.map_cons, List.map_nil, hs, hx]
  rw [hr]
  exact hK _ _ (h v' w' h1 h2)

/-- At a step of a region that draws its order. -/
theorem step_append_rdS {P : Program} (w : World) {ops : Array Oper} {o : Oper} {a : Act} {K : Act → World → Prop} {Q : Exit → Act → World → Prop} {F : Prop} (hgd : o.guard = none) (s x : Operand) (t : TypeId)
    (hop : o.op = .call { callee := .builtin .append, args := #[s, x], argTypes := #[t, t] }) (e : TypeId) (i : TypeInfo) (z : Value) (bytes : Nat) (ht : P.underlying t = some (.slice e)) (hi : P.info? e = some i) (hz : i.zero = some z)
    (hsize : i.size = E.sz) (hby : i.bytes = bytes) (hzs : z.cells.size = E.sz) (hb1 : 1 ≤ bytes) {B lim : Nat} {v u : Value} {xs ys : List α} (hs : a.eval s = v) (hown : OwnS E e B w v xs) (hx : a.eval x = u) (hu : RdS E lim w u ys)
    (hle : (xs.length + ys.length) * bytes ≤ 140737488355328)
    (h : ∀ v' w', OwnS E e B w' v' (xs ++ ys) → w.grownBy w' v.ownBlock → K (a.put o.dst v') w') :
    if Region.wanted o (yielded ops a.tmps) = true then Oper.wp P o a w K Q else F := by
  have hw : Region.wanted o (yielded ops a.tmps) = true := by simp [Region.wanted, hgd]
  rw [if_pos hw]
  obtain ⟨v', w', hr, h1, h2⟩ := run_append_rds (P := P) w t o.type e i z bytes ht hi hz hsize hby hzs hb1 hown hu hle
  unfold Oper.wp
  simp only [execOp, hop, resolve, invoke, builtin, Sem.run_bind, Sem.run_pure, Result.andThen_ok, List.map_toArray, List.map_cons, List.map_nil, hs, hx]
  rw [hr]
  exact h v' w' h1 h2
end

end Go.Proofs.Ytngdcnocjgibkaa
