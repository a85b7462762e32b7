/- Slices of slices of integers: as they are read, and those that a call made itself. No program. Lists of lists: how much they hold, and their marks. No program. Lists of lists of numbers: their marks. No program. Rows of a call's own whose block may have more cells than the slice has room. No program. Rows that lie in intervals of blocks. No program. Rows of the call's own whose elements are slices that may be others'. No program. -/
import Derived.Test.YtlbijjifeaimjaaBa1
import Derived.Maps.AppendAt
import Derived.Test.YtlbijjifeaimjaaBa3

/-! Deep -/
namespace Go.Proofs.Ytlbijjifeaimjaa
open Go Go.RowKit
set_option linter.unusedVariables false

/-- The slice v reads the values us; its cells lie below block lim. -/
def RdV (lim : Nat) (w : World) (v : Value) (us : List Value) : Prop :=
  ∃ a cap, v = .slice a us.length cap ∧ us.length ≤ cap ∧ cap ≤ maxLen ∧
    ((a = none ∧ cap = 0) ∨ ∃ x, a = some x ∧ (∀ (i : Nat) (u : Value), us[i]? = some u → w.cell? (x.add i) = some u) ∧ (x.block < lim ∨ us.length = 0))

/-- The slice v reads the rows zss; all cells lie below block lim. -/
def Rd2 (lim : Nat) (k : IntKind) (w : World) (v : Value) (zss : List (List Int)) : Prop :=
  ∃ us, us.length = zss.length ∧ RdV lim w v us ∧ ∀ (i : Nat) (u : Value) (zs : List Int), us[i]? = some u → zss[i]? = some zs → Rd lim k w u zs

theorem RdV.mono {l l' : Nat} {w : World} {v : Value} {us : List Value} (h : RdV l w v us) (hl : l ≤ l') : RdV l' w v us := by
  obtain ⟨a, cap, hv, h1, h2, h3⟩ := h
  refine ⟨a, cap, hv, h1, h2, ?_⟩
  rcases h3 with h3 | ⟨x, h4, h5, h6⟩
  · exact .inl h3
  · exact .inr ⟨x, h4, h5, by omega⟩

theorem RdV.behind {l : Nat} {w w' : World} {v : Value} {us : List Value} (h : RdV l w v us) (hb : Below l w w') : RdV l w' v us := by
  obtain ⟨a, cap, hv, h1, h2, h3⟩ := h
  refine ⟨a, cap, hv, h1, h2, ?_⟩
  rcases h3 with h3 | ⟨x, h4, h5, h6⟩
  · exact .inl h3
  · refine .inr ⟨x, h4, fun i u hi => ?_, h6⟩
    have hlt := (List.getElem?_eq_some_iff.1 hi).1
    rw [← h5 i u hi]
    exact hb.cell (p := x.add i) (by rw [addr_add_block]; omega)

theorem vals_at {w : World} {x : Addr} {us : List Value} (h : ∀ (i : Nat) (u : Value), us[i]? = some u → w.cell? (x.add i) = some u) (hp : 0 < us.length) : ∃ b o, x = ⟨b, o, none⟩ ∧ ∀ (i : Nat) (u : Value), us[i]? = some u → w.cell? ⟨b, o + i, none⟩ = some u := by
  obtain ⟨b, o, s⟩ := x
  have h0 := h 0 _ (List.getElem?_eq_getElem hp)
  cases s with
  | none =>
    refine ⟨b, o, rfl, fun i u hi => ?_⟩
    have e : (⟨b, o, none⟩ : Addr).add i = ⟨b, o + i, none⟩ := by unfold Addr.add; split <;> simp_all
    rw [← e]; exact h i u hi
  | some s =>
    exfalso
    simp only [World.cell?, Addr.add] at h0
    split at h0 <;> simp at h0

/-- With at least one element: the address and its cells. -/
theorem RdV.at {l : Nat} {w : World} {v : Value} {us : List Value} (h : RdV l w v us) (hp : 0 < us.length) :
    ∃ b o cap, v = .slice (some ⟨b, o, none⟩) us.length cap ∧ us.length ≤ cap ∧ cap ≤ maxLen ∧ (∀ (i : Nat) (u : Value), us[i]? = some u → w.cell? ⟨b, o + i, none⟩ = some u) ∧ b < l := by
  obtain ⟨a, cap, hv, h1, h2, h3⟩ := h
  rcases h3 with h3 | ⟨x, rfl, h5, h6⟩
  · omega
  · obtain ⟨xb, xo, rfl, hc⟩ := vals_at h5 hp
    refine ⟨xb, xo, cap, hv, h1, h2, hc, ?_⟩
    rcases h6 with h | h
    · exact h
    · omega

section
variable {l l' : Nat} {k : IntKind} {w w' : World} {v : Value} {zss : List (List Int)}

theorem Rd2.mono (h : Rd2 l k w v zss) (hl : l ≤ l') : Rd2 l' k w v zss := by
  obtain ⟨us, e, h1, h2⟩ := h
  exact ⟨us, e, h1.mono hl, fun i u zs hu hz => (h2 i u zs hu hz).mono hl⟩
theorem Rd2.behind (h : Rd2 l k w v zss) (hb : Below l w w') : Rd2 l k w' v zss := by
  obtain ⟨us, e, h1, h2⟩ := h
  exact ⟨us, e, h1.behind hb, fun i u zs hu hz => (h2 i u zs hu hz).behind hb⟩
theorem Rd2.drew (h : Rd2 l k w v zss) : Rd2 l k w.drew v zss := h.behind (Below.refl _ _).drew

/-- The slice's value, and what its elements read in every later world. -/
theorem Rd2.open (h : Rd2 l k w v zss) : ∃ a cap, v = .slice a zss.length cap ∧ zss.length ≤ cap ∧ cap ≤ maxLen ∧
    (0 < zss.length → ∃ b o, a = some ⟨b, o, none⟩ ∧ b < l ∧ ∀ w', Below l w w' → ∀ (i : Nat) (zs : List Int), zss[i]? = some zs → ∃ u, w'.cell? ⟨b, o + i, none⟩ = some u ∧ Rd l k w' u zs) := by
  obtain ⟨us, e, h1, h2⟩ := h
  obtain ⟨a, cap, hv, h3, h4, h5⟩ := id h1
  rw [e] at hv h3
  refine ⟨a, cap, hv, h3, h4, fun hp => ?_⟩
  obtain ⟨b, o, cap', hv', _, _, hc, hb⟩ := h1.at (by omega)
  rw [hv] at hv'
  injection hv' with e1 e2 e3
  refine ⟨b, o, e1, hb, fun w' hb' i zs hi => ?_⟩
  have hi' : i < us.length := by have := (List.getElem?_eq_some_iff.1 hi).1; omega
  refine ⟨us[i], ?_, (h2 i _ zs (List.getElem?_eq_getElem hi') hi).behind hb'⟩
  rw [← hc i _ (List.getElem?_eq_getElem hi')]
  exact hb'.cell (p := ⟨b, o + i, none⟩) hb

theorem Rd2.len (h : Rd2 l k w v zss) : zss.length ≤ maxLen := by
  obtain ⟨a, cap, hv, h1, h2, h3⟩ := h.open
  omega
theorem Rd2.len_eq {a : Option Addr} {len cap : Nat} (h : Rd2 l k w (.slice a len cap) zss) : len = zss.length := by
  obtain ⟨a', cap', hv, _⟩ := h.open
  injection hv
end

/-! ### What a walk leaves -/

/-- All but the blocks of F is as it was. -/
structure KeptF (F : Nat → Prop) (w w' : World) : Prop where
  os : w'.os = w.os
  tape : w'.tape = w.tape
  output : w'.output = w.output
  size : w.heap.size ≤ w'.heap.size
  block : ∀ b, b < w.heap.size → ¬ F b → w'.heap[b]? = w.heap[b]?

section
variable {F G : Nat → Prop} {w w' w'' : World}
theorem KeptF.refl (F : Nat → Prop) (w : World) : KeptF F w w := ⟨rfl, rfl, rfl, Nat.le_refl _, fun _ _ _ => rfl⟩
theorem KeptF.trans (h : KeptF F w w') (k : KeptF F w' w'') : KeptF F w w'' :=
  ⟨k.os.trans h.os, k.tape.trans h.tape, k.output.trans h.output, Nat.le_trans h.size k.size, fun b hb hn => (k.block b (Nat.lt_of_lt_of_le hb h.size) hn).trans (h.block b hb hn)⟩
theorem KeptF.mono (h : KeptF F w w') (hFG : ∀ b, F b → G b) : KeptF G w w' := ⟨h.os, h.tape, h.output, h.size, fun b hb hn => h.block b hb fun hF => hn (hFG b hF)⟩
theorem KeptF.of_below (hb : Below w.heap.size w w') : KeptF F w w' := ⟨hb.os, hb.tape, hb.output, hb.size, fun b h _ => hb.block b h⟩
theorem KeptF.of_grown {r : Option Nat} (h : w.grownBy w' r) (hr : ∀ b, r = some b → F b) : KeptF F w w' := ⟨h.os, h.tape, h.output, h.size, fun b hb hn => h.block b hb fun e => hn (hr b e.symm)⟩
theorem KeptF.below {B : Nat} (h : KeptF F w w') (hF : ∀ b, F b → B ≤ b) (hB : B ≤ w.heap.size) : Below B w w' := by
  refine (Below.refl B w).trans ⟨h.os, h.tape, h.output, h.size, fun b hb => h.block b (by omega) fun hn => ?_⟩
  have := hF b hn
  omega
end

theorem ownsRow_of_block {w w' : World} {B n : Nat} {e : TypeId} {v : Value} {xs : List Value} (h : w.ownsRow B e 1 v n xs) (hb : ∀ r, v.ownBlock = some r → w'.heap[r]? = w.heap[r]?) : w'.ownsRow B e 1 v n xs := by
  obtain ⟨h1, h2⟩ := h
  refine ⟨h1, ?_⟩
  rcases h2 with h2 | ⟨g, cap, cur, rfl, h3, h4, h5⟩
  · exact .inl h2
  · exact .inr ⟨g, cap, cur, rfl, h3, (hb g rfl).trans h4, h5⟩

section
variable {e : TypeId} {k : IntKind} {B : Nat} {F G : Nat → Prop} {w w' : World} {v u : Value} {zs : List Int}
theorem Own.keptF (h : Own e k B w v zs) (hk : KeptF F w w') (hn : ∀ r, v.ownBlock = some r → ¬ F r) : Own e k B w' v zs :=
  ⟨h.1, Nat.le_trans h.2.1 hk.size, ownsRow_of_block h.2.2 fun r hr => hk.block r (h.2.2.lt r hr).2 (hn r hr)⟩
end

/-- A row of the call's own that lies among the blocks of F. -/
def In (F : Nat → Prop) (v : Value) : Prop := ∀ r, v.ownBlock = some r → F r

/-- The blocks from lo on, below hi. -/
def ival (lo hi : Nat) : Nat → Prop := fun b => lo ≤ b ∧ b < hi

/-- v is nil or the head of a row of the call's own; its elements are rows of the call's own that read zss; no two of all these rows share a block; all lie among the blocks of F. -/
def Own2 (t e : TypeId) (k : IntKind) (F : Nat → Prop) (w : World) (v : Value) (zss : List (List Int)) : Prop :=
  ∃ us : List Value, us.length = zss.length ∧ w.ownsRow 0 t 1 v us.length us ∧ In F v ∧
    (∀ (i : Nat) (u : Value) (zs : List Int), us[i]? = some u → zss[i]? = some zs → Own e k 0 w u zs ∧ In F u ∧ Apart u v) ∧
    ∀ (i j : Nat) (u u' : Value), i < j → us[i]? = some u → us[j]? = some u' → Apart u u'

theorem In.mono {F G : Nat → Prop} {v : Value} (h : In F v) (hFG : ∀ b, F b → G b) : In G v := fun r hr => hFG r (h r hr)
theorem In.nil (F : Nat → Prop) : In F (.slice none 0 0) := fun r hr => by cases hr
theorem Apart.nil (v : Value) : Apart v (.slice none 0 0) := fun r _ he => by cases he
theorem Apart.of_in {F G : Nat → Prop} {u v : Value} (hu : In F u) (hv : In G v) (hd : ∀ b, F b → ¬ G b) : Apart u v := fun r hr he => hd r (hu r hr) (hv r he)

section
variable {t e : TypeId} {k : IntKind} {F G : Nat → Prop} {w w' : World} {v u : Value} {zss : List (List Int)}

theorem Own2.mono (h : Own2 t e k F w v zss) (hFG : ∀ b, F b → G b) : Own2 t e k G w v zss := by
  obtain ⟨us, e1, h1, h2, h3, h4⟩ := h
  exact ⟨us, e1, h1, h2.mono hFG, fun i u zs hu hz => ⟨(h3 i u zs hu hz).1, (h3 i u zs hu hz).2.1.mono hFG, (h3 i u zs hu hz).2.2⟩, h4⟩

theorem Own2.keptF (h : Own2 t e k F w v zss) (hk : KeptF G w w') (hd : ∀ b, F b → ¬ G b) : Own2 t e k F w' v zss := by
  obtain ⟨us, e1, h1, h2, h3, h4⟩ := h
  refine ⟨us, e1, ownsRow_of_block h1 fun r hr => hk.block r (h1.lt r hr).2 (hd r (h2 r hr)), h2, fun i u zs hu hz => ?_, h4⟩
  obtain ⟨a, b, c⟩ := h3 i u zs hu hz
  exact ⟨a.keptF hk fun r hr => hd r (b r hr), b, c⟩

/-- Behind a call that leaves all there was. -/
theorem Own2.next (h : Own2 t e k F w v zss) (hb : Below w.heap.size w w') : Own2 t e k F w' v zss :=
  h.keptF (G := fun _ => False) (KeptF.of_below hb) (fun _ _ h => h)

theorem Own2.alloc (h : Own2 t e k F w v zss) (o : Obj) : Own2 t e k F (w.alloc o) v zss := h.next ((Below.refl _ _).alloc (Nat.le_refl _) _)
theorem Own2.drew (h : Own2 t e k F w v zss) : Own2 t e k F w.drew v zss := h.next (Below.refl _ _).drew

theorem Own2.nil (t e : TypeId) (k : IntKind) (F : Nat → Prop) (w : World) : Own2 t e k F w (.slice none 0 0) [] :=
  ⟨[], rfl, World.ownsRow_nil _ _ _ _, In.nil F, fun i u zs hu => by simp at hu, fun i j u u' _ hu => by simp at hu⟩

/-- An empty literal. -/
theorem Own2.lit (t e : TypeId) (k : IntKind) (hF : F w.heap.size) : Own2 t e k F (w.alloc (.cells #[] t)) (.slice (some ⟨w.heap.size, 0, none⟩) 0 0) [] :=
  ⟨[], rfl, World.ownsRow_made w #[] 0 (Nat.zero_le _) (Nat.zero_le _) rfl, fun r hr => by cases hr; exact hF, fun i u zs hu => by simp at hu, fun i j u u' _ hu => by simp at hu⟩

/-- Behind make: every element is nil. -/
theorem Own2.made {n : Nat} {g cap : Nat} (h : w.ownsRow 0 t 1 (.slice (some ⟨g, 0, none⟩) n cap) n (List.replicate n (.slice none 0 0))) (hF : F g) : Own2 t e k F w (.slice (some ⟨g, 0, none⟩) n cap) (List.replicate n []) := by
  refine ⟨List.replicate n (.slice none 0 0), by simp, by simpa using h, fun r hr => by cases hr; exact hF, fun i u zs hu hz => ?_, fun i j u u' _ hu hu' => ?_⟩
  · have eu : u = .slice none 0 0 := List.eq_of_mem_replicate (List.mem_of_getElem? hu)
    have ez : zs = [] := List.eq_of_mem_replicate (List.mem_of_getElem? hz)
    subst eu; subst ez
    exact ⟨Own.nil e k (Nat.zero_le _), In.nil F, (Apart.nil _).symm⟩
  · have eu : u' = .slice none 0 0 := List.eq_of_mem_replicate (List.mem_of_getElem? hu')
    subst eu
    exact Apart.nil _

theorem Own2.open (h : Own2 t e k F w v zss) : ∃ a cap, v = .slice a zss.length cap ∧ zss.length ≤ cap ∧ cap ≤ maxLen ∧ (0 < zss.length → ∃ g, a = some ⟨g, 0, none⟩ ∧ F g) := by
  obtain ⟨us, e1, ⟨_, h1⟩, h2, _, _⟩ := h
  rw [e1] at h1
  rcases h1 with ⟨rfl, h0⟩ | ⟨g, cap, cur, rfl, h5, h6, h7, h8, h9⟩
  · exact ⟨none, 0, by rw [h0], by omega, by unfold maxLen; omega, fun h => by omega⟩
  · exact ⟨_, cap, rfl, h7, h8, fun _ => ⟨g, rfl, h2 g rfl⟩⟩

theorem Own2.rd2 (h : Own2 t e k F w v zss) : Rd2 w.heap.size k w v zss := by
  obtain ⟨us, e1, h1, h2, h3, h4⟩ := h
  refine ⟨us, e1, ?_, fun i u zs hu hz => (h3 i u zs hu hz).1.rd⟩
  have h1' := h1
  rcases h1.2 with ⟨rfl, h0⟩ | ⟨g, cap, cur, rfl, h5, h6, h7, h8, h9⟩
  · exact ⟨none, 0, by rw [h0], by omega, by unfold maxLen; omega, .inl ⟨rfl, rfl⟩⟩
  · refine ⟨_, cap, rfl, h7, h8, .inr ⟨_, rfl, fun i u hu => ?_, .inl (Array.getElem?_eq_some_iff.1 h6).1⟩⟩
    have hi := (List.getElem?_eq_some_iff.1 hu).1
    have e2 : (⟨g, 0, none⟩ : Addr).add i = ⟨g, i, none⟩ := by unfold Addr.add; split <;> simp_all
    rw [e2, World.ownsRow.cellAt h1' i (by omega)]
    exact hu

/-- One of its rows: its value, and what a change of this row alone leaves. -/
theorem Own2.at {g cap n i : Nat} {zs : List Int} (h : Own2 t e k F w (.slice (some ⟨g, 0, none⟩) n cap) zss) (hi : zss[i]? = some zs) :
    ∃ u, w.cell? ⟨g, i, none⟩ = some u ∧ Own e k 0 w u zs ∧ In F u ∧ ∀ w' zs', w.grownBy w' u.ownBlock → Own e k 0 w' u zs' → Own2 t e k F w' (.slice (some ⟨g, 0, none⟩) n cap) (zss.set i zs') := by
  obtain ⟨us, e1, h1, h2, h3, h4⟩ := h
  have hi' : i < us.length := by have := (List.getElem?_eq_some_iff.1 hi).1; omega
  have hu := List.getElem?_eq_getElem hi'
  obtain ⟨o1, o2, o3⟩ := h3 i _ zs hu hi
  have hlen : us.length = n := by
    rcases h1.2 with ⟨h, _⟩ | ⟨g', cap', cur, h, _⟩
    · injection h with q1 q2 q3; cases q1
    · injection h with q1 q2 q3; exact q2.symm
  refine ⟨us[i], ?_, o1, o2, fun w' zs' hg ho => ?_⟩
  · have h1' := h1
    rw [hlen] at h1'
    rw [World.ownsRow.cellAt h1' i (by omega)]
    exact hu
  · refine ⟨us, by rw [List.length_set]; exact e1, ?_, h2, fun j u z hu' hz => ?_, h4⟩
    · refine ownsRow_of_block h1 fun r hr => hg.block r (h1.lt r hr).2 fun e => ?_
      exact o3 r e.symm hr
    · by_cases hij : i = j
      · subst hij
        rw [List.getElem?_set_self (by omega)] at hz
        injection hz with hz
        subst hz
        rw [hu] at hu'
        injection hu' with hu'
        subst hu'
        exact ⟨ho, o2, o3⟩
      · rw [List.getElem?_set_ne hij] at hz
        obtain ⟨p1, p2, p3⟩ := h3 j u z hu' hz
        refine ⟨⟨p1.1, Nat.zero_le _, ownsRow_of_block p1.2.2 fun r hr => hg.block r (p1.2.2.lt r hr).2 fun e => ?_⟩, p2, p3⟩
        rcases Nat.lt_or_gt_of_ne hij with hlt | hgt
        · exact h4 i j _ _ hlt hu hu' r e.symm hr
        · exact h4 j i _ _ hgt hu' hu r hr e.symm

/-- A store of a row that lies apart from all into an element. -/
theorem Own2.put {g cap n j : Nat} {zs : List Int} (h : Own2 t e k F w (.slice (some ⟨g, 0, none⟩) n cap) zss) (hu : Own e k 0 w u zs) (hF : ∀ r, u.ownBlock = some r → ¬ F r) :
    Own2 t e k (fun b => F b ∨ u.ownBlock = some b) (w.setCell ⟨g, j, none⟩ u) (.slice (some ⟨g, 0, none⟩) n cap) (zss.set j zs) ∧ w.grownBy (w.setCell ⟨g, j, none⟩ u) (some g) := by
  obtain ⟨us, e1, h1, h2, h3, h4⟩ := h
  have hlen : us.length = n := by
    rcases h1.2 with ⟨h, _⟩ | ⟨g', cap', cur, h, _⟩
    · injection h with q1 q2 q3; cases q1
    · injection h with q1 q2 q3; exact q2.symm
  rw [hlen] at h1
  obtain ⟨s1, s2⟩ := h1.stored j u
  have hgF : F g := h2 g rfl
  have huv : Apart u (.slice (some ⟨g, 0, none⟩) n cap) := fun r hr he => by cases he; exact hF _ hr hgF
  have keepO : ∀ (u' : Value) (z : List Int), Own e k 0 w u' z → Apart u' (.slice (some ⟨g, 0, none⟩) n cap) → Own e k 0 (w.setCell ⟨g, j, none⟩ u) u' z := fun u' z ho ha =>
    ⟨ho.1, Nat.zero_le _, ownsRow_of_block ho.2.2 fun r hr => s2.block r (ho.2.2.lt r hr).2 fun e => ha r hr e.symm⟩
  refine ⟨⟨us.set j u, by rw [List.length_set, List.length_set]; exact e1, by rw [List.length_set, hlen]; exact s1, h2.mono fun b hb => .inl hb, fun i u' z hu' hz => ?_, fun i i' u' u'' hlt hu' hu'' => ?_⟩, s2⟩
  · by_cases hij : j = i
    · subst hij
      have hj : j < us.length := by have := (List.getElem?_eq_some_iff.1 hu').1; simpa using this
      rw [List.getElem?_set_self hj] at hu'
      rw [List.getElem?_set_self (by omega)] at hz
      injection hu' with hu'; injection hz with hz
      subst hu'; subst hz
      exact ⟨keepO _ _ hu huv, fun r hr => .inr hr, huv⟩
    · rw [List.getElem?_set_ne hij] at hu' hz
      obtain ⟨p1, p2, p3⟩ := h3 i u' z hu' hz
      exact ⟨keepO _ _ p1 p3, p2.mono fun b hb => .inl hb, p3⟩
  · have inF : ∀ (a : Nat) (y : Value), us[a]? = some y → In F y := fun a y ha => by
      have hla := (List.getElem?_eq_some_iff.1 ha).1
      exact (h3 a y _ ha (List.getElem?_eq_getElem (by omega))).2.1
    by_cases hij : j = i
    · subst hij
      have hj : j < us.length := by have := (List.getElem?_eq_some_iff.1 hu').1; simpa using this
      rw [List.getElem?_set_self hj] at hu'
      injection hu' with hu'; subst hu'
      rw [List.getElem?_set_ne (by omega)] at hu''
      exact fun r hr he => hF r hr (inF _ _ hu'' r he)
    · rw [List.getElem?_set_ne hij] at hu'
      by_cases hij' : j = i'
      · subst hij'
        have hj : j < us.length := by have := (List.getElem?_eq_some_iff.1 hu'').1; simpa using this
        rw [List.getElem?_set_self hj] at hu''
        injection hu'' with hu''; subst hu''
        exact fun r hr he => hF r he (inF _ _ hu' r hr)
      · rw [List.getElem?_set_ne hij'] at hu''
        exact h4 i i' u' u'' hlt hu' hu''

theorem Own2.in_ (h : Own2 t e k F w v zss) : ∀ b, v.ownBlock = some b → F b := by
  obtain ⟨us, e1, h1, h2, _⟩ := h
  exact h2
theorem Own2.free {g cap n : Nat} (h : Own2 t e k F w (.slice (some ⟨g, 0, none⟩) n cap) zss) (hn : n = zss.length) (j : Nat) : w.frozen? ⟨g, j, none⟩ = false := by
  obtain ⟨us, e1, h1, _⟩ := h
  rw [e1, ← hn] at h1
  exact h1.frozenAt j
theorem Own2.cellAt {g cap n : Nat} (h : Own2 t e k F w (.slice (some ⟨g, 0, none⟩) n cap) zss) {j : Nat} (hj : j < zss.length) : ∃ u, w.cell? ⟨g, j, none⟩ = some u := by
  obtain ⟨u, hu, _⟩ := h.at (List.getElem?_eq_getElem hj)
  exact ⟨u, hu⟩

/-- Behind an append of one row that lies apart from all. -/
theorem Own2.snoc {v' : Value} {zs : List Int} (h : Own2 t e k F w v zss) (hu : Own e k 0 w u zs) (hF : ∀ r, u.ownBlock = some r → ¬ F r) (hlt : ∀ b, F b → b < w.heap.size)
    (h1 : ∀ us : List Value, w.ownsRow 0 t 1 v us.length us → us.length = zss.length → w'.ownsRow 0 t 1 v' (us.length + 1) (us ++ [u])) (h2 : w.grownBy w' v.ownBlock) (h3 : v'.ownBlock = v.ownBlock ∨ v'.ownBlock = some w.heap.size) :
    Own2 t e k (fun b => F b ∨ u.ownBlock = some b ∨ v'.ownBlock = some b) w' v' (zss ++ [zs]) := by
  obtain ⟨us, e1, o1, o2, o3, o4⟩ := h
  have p1 := h1 us o1 e1
  have inF : ∀ (a : Nat) (y : Value), us[a]? = some y → In F y := fun a y ha => by
    have hla := (List.getElem?_eq_some_iff.1 ha).1
    exact (o3 a y _ ha (List.getElem?_eq_getElem (by omega))).2.1
  have huv : Apart u v := fun r hr he => hF r hr (o2 r he)
  have keepO : ∀ (u' : Value) (z : List Int), Own e k 0 w u' z → Apart u' v → Own e k 0 w' u' z ∧ Apart u' v' := fun u' z ho ha => by
    refine ⟨⟨ho.1, Nat.zero_le _, ownsRow_of_block ho.2.2 fun r hr => h2.block r (ho.2.2.lt r hr).2 fun e => ha r hr e.symm⟩, fun r hr he => ?_⟩
    rcases h3 with h3 | h3
    · exact ha r hr (h3 ▸ he)
    · rw [h3] at he
      injection he with he
      have := (ho.2.2.lt r hr).2
      omega
  refine ⟨us ++ [u], by simp [e1], by simpa using p1, fun r hr => .inr (.inr hr), fun i u' z hu' hz => ?_, fun i j u' u'' hij hu' hu'' => ?_⟩
  · by_cases hi : i < us.length
    · rw [List.getElem?_append_left hi] at hu'
      rw [List.getElem?_append_left (by omega)] at hz
      obtain ⟨q1, q2, q3⟩ := o3 i u' z hu' hz
      exact ⟨(keepO _ _ q1 q3).1, q2.mono fun b hb => .inl hb, (keepO _ _ q1 q3).2⟩
    · have hi' : i = us.length := by have := (List.getElem?_eq_some_iff.1 hu').1; simp at this; omega
      subst hi'
      rw [List.getElem?_append_right (Nat.le_refl _)] at hu'
      rw [e1, List.getElem?_append_right (Nat.le_refl _)] at hz
      simp at hu' hz
      subst hu'; subst hz
      exact ⟨(keepO _ _ hu huv).1, fun r hr => .inr (.inl hr), (keepO _ _ hu huv).2⟩
  · have hj := (List.getElem?_eq_some_iff.1 hu'').1
    simp at hj
    rw [List.getElem?_append_left (by omega)] at hu'
    by_cases hj' : j < us.length
    · rw [List.getElem?_append_left hj'] at hu''
      exact o4 i j u' u'' hij hu' hu''
    · have : j = us.length := by omega
      subst this
      rw [List.getElem?_append_right (Nat.le_refl _)] at hu''
      simp at hu''
      subst hu''
      exact fun r hr he => hF r he (inF _ _ hu' r hr)
end

/-- append of one row of the call's own to a slice of rows of the call's own: its run. -/
theorem run_append_row {P : Program} (w : World) (tt ty t e : TypeId) (i : TypeInfo) (bytes : Nat) (ht : P.underlying tt = some (.slice t)) (hi : P.info? t = some i) (hz : i.zero = some (.slice none 0 0))
    (hsize : i.size = 1) (hby : i.bytes = bytes) (hb1 : 1 ≤ bytes) {k : IntKind} {F : Nat → Prop} {v u : Value} {ad : Addr} {c : Nat} {zss : List (List Int)} {zs : List Int} (hown : Own2 t e k F w v zss) (hlt : ∀ b, F b → b < w.heap.size)
    (hc : w.cell? (ad.add 0) = some u) (hu : Own e k 0 w u zs) (hF : ∀ r, u.ownBlock = some r → ¬ F r) (hle : (zss.length + 1) * bytes ≤ 140737488355328) :
    ∃ v' w', (Builtin.append_ #[tt, tt] ty #[v, .slice (some ad) 1 c]).run P w = .ok v' w' ∧ Own2 t e k (fun b => F b ∨ u.ownBlock = some b ∨ v'.ownBlock = some b) w' v' (zss ++ [zs]) ∧ w.grownBy w' v.ownBlock ∧
      (v'.ownBlock = v.ownBlock ∨ v'.ownBlock = some w.heap.size) ∧ (∀ r, v'.ownBlock = some r → r < w'.heap.size) ∧ ∃ g cap, v' = .slice (some ⟨g, 0, none⟩) (zss.length + 1) cap := by
  have hm : zss.length + 1 ≤ maxLen := by
    have : (zss.length + 1) * 1 ≤ (zss.length + 1) * bytes := Nat.mul_le_mul_left _ hb1
    unfold maxLen; omega
  have h0 := hown
  obtain ⟨us, e1, h1, h2, h3, h4⟩ := hown
  have ho : u.oneCell' = true := by
    rcases hu.2.2.2 with ⟨rfl, _⟩ | ⟨g, cap, cur, rfl, _⟩ <;> rfl
  obtain ⟨v', w', hr, p1, p2, p4, p3⟩ := run_append_own_at (P := P) w 0 tt ty t i (.slice none 0 0) 1 bytes ht hi hz hsize hby rfl (by decide) v us.length us h1 ad 1 c [u] rfl (fun j y hj => by
      have : j = 0 := by have := (List.getElem?_eq_some_iff.1 hj).1; simpa using this
      subst this
      simp at hj
      subst hj
      exact hc) (fun y hy => by simp at hy; subst hy; exact ho) (by omega) (by rw [e1]; exact hle) (Nat.zero_le _)
  refine ⟨v', w', hr, h0.snoc hu hF hlt (fun us' q1 q2 => ?_) p2 p3, p2, p3, fun r hr => (p1.lt r hr).2, ?_⟩
  · have : us' = us := by
      rcases q1.2 with ⟨rfl, q3⟩ | ⟨g, cap, cur, rfl, _, q3, _, _, _, q4⟩
      · have hz' : us'.length = 0 := q3
        have a1 : us' = [] := List.eq_nil_of_length_eq_zero hz'
        have a2 : us = [] := List.eq_nil_of_length_eq_zero (by omega)
        rw [a1, a2]
      · rcases h1.2 with ⟨r1, _⟩ | ⟨g', cap', cur', r1, _, r3, _, _, _, r4⟩
        · cases r1
        · injection r1 with s1 s2 s3
          injection s1 with s1
          injection s1 with s1
          subst s1
          rw [q3] at r3
          injection r3 with r3
          injection r3 with r3
          subst r3
          rw [← q4, ← r4, s2]
    rw [this]
    exact p1
  · rcases p1.2 with ⟨_, q⟩ | ⟨g, cap, cur, q, _⟩
    · omega
    · exact ⟨g, cap, by rw [q, e1]⟩

/-- append of one row of the call's own to a slice of rows of the call's own. -/
theorem append_row {P : Program} (w : World) {ops : Array Oper} {rest : List Oper} {o : Oper} {a : Act} {Q : Exit → Act → World → Prop} (hg : o.guard = none) (s x : Operand) (tt : TypeId)
    (hop : o.op = .call { callee := .builtin .append, args := #[s, x], argTypes := #[tt, tt] }) (t e : TypeId) (i : TypeInfo) (bytes : Nat) (ht : P.underlying tt = some (.slice t)) (hi : P.info? t = some i) (hz : i.zero = some (.slice none 0 0))
    (hsize : i.size = 1) (hby : i.bytes = bytes) (hb1 : 1 ≤ bytes) {k : IntKind} {B E : Nat} {v u : Value} {ad : Addr} {c : Nat} {zss : List (List Int)} {zs : List Int} (hs : a.eval s = v) (hown : Own2 t e k (ival B E) w v zss) (hBE : B ≤ E) (hE : E ≤ w.heap.size)
    (hx : a.eval x = .slice (some ad) 1 c) (hc : w.cell? (ad.add 0) = some u) (hu : Own e k E w u zs) (hle : (zss.length + 1) * bytes ≤ 140737488355328)
    (h : ∀ v' w', Own2 t e k (ival B w'.heap.size) w' v' (zss ++ [zs]) → w.grownBy w' v.ownBlock → wpList P ops Q rest (a.put o.dst v') w') : wpList P ops Q (o :: rest) a w := by
  have hF : ∀ r, u.ownBlock = some r → ¬ ival B E r := fun r hr hi => by
    have := (hu.2.2.lt r hr).1
    unfold ival at hi; omega
  have hlt : ∀ b, ival B E b → b < w.heap.size := fun b hb => by unfold ival at hb; omega
  obtain ⟨v', w', hr, p1, p2, p3, p4, _⟩ := run_append_row (P := P) w tt o.type t e i bytes ht hi hz hsize hby hb1 hown hlt hc (hu.mono (Nat.zero_le _)) hF hle
  refine wpList_plain hg fun K hK => ?_
  unfold Oper.wp
  simp only [execOp, hop, resolve, invoke, builtin, Sem.run_bind, Sem.run_pure, Result.andThen_ok, List.map_toArray, List.map_cons, List.map_nil, hs, hx]
  rw [hr]
  refine hK _ _ (h v' w' (p1.mono fun b hb => ?_) p2)
  have hsz := p2.size
  unfold ival
  rcases hb with hb | hb | hb
  · unfold ival at hb; omega
  · have := hu.2.2.lt b hb; omega
  · have hl := p4 b hb
    rcases p3 with p3 | p3
    · have := hown.in_ b (p3 ▸ hb); unfold ival at this; omega
    · rw [p3] at hb; injection hb with hb; omega

end Go.Proofs.Ytlbijjifeaimjaa


/-! DeepN -/
namespace Go.Proofs.Ytlbijjifeaimjaa
open Go Go.RowKit
set_option linter.unusedVariables false

/-- The elements of all the rows. -/
def fl (zss : List (List Int)) : Nat := (zss.map List.length).sum
/-- What the exact laws count: the rows and their elements. -/
def tot (zss : List (List Int)) : Nat := zss.length + fl zss

theorem fl_nil : fl [] = 0 := rfl
theorem fl_cons (x : List Int) (r : List (List Int)) : fl (x :: r) = x.length + fl r := by simp [fl]
theorem fl_append (l r : List (List Int)) : fl (l ++ r) = fl l + fl r := by simp [fl, List.sum_append]
theorem fl_eq_join (l : List (List Int)) : fl l = l.flatten.length := by rw [List.length_flatten]; rfl

theorem split_at {α : Type} {zss : List α} {j : Nat} {zs : α} (h : zss[j]? = some zs) : ∃ l r, zss = l ++ zs :: r ∧ l.length = j := by
  obtain ⟨hj, he⟩ := List.getElem?_eq_some_iff.1 h
  refine ⟨zss.take j, zss.drop (j + 1), ?_, by simp; omega⟩
  rw [← he, List.getElem_cons_drop, List.take_append_drop]

theorem take_mid {α : Type} (l r : List α) (z : α) : List.take (l.length + 1) (l ++ z :: r) = l ++ [z] := by
  rw [List.take_append, List.take_of_length_le (by omega)]; simp
theorem drop_mid {α : Type} (l r : List α) (z : α) : List.drop (l.length + 1) (l ++ z :: r) = r := by
  rw [List.drop_append, List.drop_of_length_le (by omega)]; simp
theorem fl_take {zss : List (List Int)} {j : Nat} {zs : List Int} (h : zss[j]? = some zs) : fl (zss.take (j + 1)) = fl (zss.take j) + zs.length := by
  obtain ⟨l, r, rfl, rfl⟩ := split_at h
  rw [List.take_left' rfl, take_mid]
  simp [fl_append, fl_cons, fl_nil]
theorem fl_take_le (zss : List (List Int)) (j : Nat) : fl (zss.take j) ≤ fl zss := by
  conv => rhs; rw [← List.take_append_drop j zss, fl_append]
  omega
theorem fl_at {zss : List (List Int)} {j : Nat} {zs : List Int} (h : zss[j]? = some zs) : fl (zss.take j) + zs.length ≤ fl zss := by
  rw [← fl_take h]; exact fl_take_le _ _
theorem fl_full (zss : List (List Int)) : fl (zss.take zss.length) = fl zss := by rw [List.take_length]
theorem tot_at {zss : List (List Int)} {j : Nat} {zs : List Int} (h : zss[j]? = some zs) : zs.length ≤ tot zss := by
  have := fl_at h; unfold tot; omega

/-- The marks from k0 on, row behind row. -/
def marks2Byte (k0 : Int) : List (List Int) → List (List Int)
  | [] => []
  | x :: r => marksByte k0 x.length :: marks2Byte (k0 + x.length) r

theorem marks2Byte_append (k0 : Int) (l r : List (List Int)) : marks2Byte k0 (l ++ r) = marks2Byte k0 l ++ marks2Byte (k0 + fl l) r := by
  induction l generalizing k0 with
  | nil => simp [marks2Byte, fl_nil]
  | cons x l ih => simp [marks2Byte, ih, fl_cons, Int.add_assoc]
theorem marks2Byte_length (k0 : Int) (l : List (List Int)) : (marks2Byte k0 l).length = l.length := by
  induction l generalizing k0 with
  | nil => rfl
  | cons x l ih => simp [marks2Byte, ih]
theorem marks2Byte_fl (k0 : Int) (l : List (List Int)) : fl (marks2Byte k0 l) = fl l := by
  induction l generalizing k0 with
  | nil => rfl
  | cons x l ih => simp [marks2Byte, fl_cons, ih, marksByte_length]
theorem marks2Byte_get {k0 : Int} {zss : List (List Int)} {j : Nat} {zs : List Int} (h : zss[j]? = some zs) : (marks2Byte k0 zss)[j]? = some (marksByte (k0 + fl (zss.take j)) zs.length) := by
  obtain ⟨l, r, rfl, rfl⟩ := split_at h
  rw [marks2Byte_append, List.getElem?_append_right (by rw [marks2Byte_length]; exact Nat.le_refl _), marks2Byte_length, List.take_left' rfl]
  simp [marks2Byte]
theorem marks2Byte_set {k0 : Int} {zss : List (List Int)} {j : Nat} {zs : List Int} (h : zss[j]? = some zs) :
    (marks2Byte k0 (zss.take j) ++ zss.drop j).set j (marksByte (k0 + fl (zss.take j)) zs.length) = marks2Byte k0 (zss.take (j + 1)) ++ zss.drop (j + 1) := by
  obtain ⟨l, r, rfl, rfl⟩ := split_at h
  rw [List.take_left' rfl, List.drop_left' rfl, List.set_append_right _ _ (by rw [marks2Byte_length]; exact Nat.le_refl _), marks2Byte_length, Nat.sub_self, List.set_cons_zero]
  have e1 : List.take (l.length + 1) (l ++ zs :: r) = l ++ [zs] := take_mid l r zs
  have e2 : List.drop (l.length + 1) (l ++ zs :: r) = r := drop_mid l r zs
  rw [e1, e2, marks2Byte_append]
  simp [marks2Byte]
theorem mid_get {α : Type} {xs ys : List α} {j : Nat} {z : α} (hx : xs.length = j) (h : ys[j]? = some z) : (xs ++ ys.drop j)[j]? = some z := by
  rw [List.getElem?_append_right (by omega), hx, Nat.sub_self, List.getElem?_drop, Nat.add_zero]; exact h
theorem fill_set {zss : List (List Int)} {j : Nat} {zs : List Int} (h : zss[j]? = some zs) :
    (zss.take j ++ List.replicate (zss.length - j) []).set j zs = zss.take (j + 1) ++ List.replicate (zss.length - (j + 1)) [] := by
  obtain ⟨l, r, rfl, rfl⟩ := split_at h
  have e0 : (l ++ zs :: r).length - l.length = r.length + 1 := by simp
  have e3 : (l ++ zs :: r).length - (l.length + 1) = r.length := by simp; omega
  have e1 : List.take (l.length + 1) (l ++ zs :: r) = l ++ [zs] := take_mid l r zs
  rw [e0, e3, e1, List.take_left' rfl, List.set_append_right _ _ (Nat.le_refl _), Nat.sub_self, List.replicate_succ, List.set_cons_zero]
  simp

end Go.Proofs.Ytlbijjifeaimjaa


/-! DeepIntN -/
namespace Go.Proofs.Ytlbijjifeaimjaa
open Go Go.RowKit
set_option linter.unusedVariables false

/-- The marks from k0 on, row behind row. -/
def marks2Int (k0 : Int) : List (List Int) → List (List Int)
  | [] => []
  | x :: r => marksInt k0 x.length :: marks2Int (k0 + x.length) r

theorem marks2Int_append (k0 : Int) (l r : List (List Int)) : marks2Int k0 (l ++ r) = marks2Int k0 l ++ marks2Int (k0 + fl l) r := by
  induction l generalizing k0 with
  | nil => simp [marks2Int, fl_nil]
  | cons x l ih => simp [marks2Int, ih, fl_cons, Int.add_assoc]
theorem marks2Int_length (k0 : Int) (l : List (List Int)) : (marks2Int k0 l).length = l.length := by
  induction l generalizing k0 with
  | nil => rfl
  | cons x l ih => simp [marks2Int, ih]
theorem marks2Int_fl (k0 : Int) (l : List (List Int)) : fl (marks2Int k0 l) = fl l := by
  induction l generalizing k0 with
  | nil => rfl
  | cons x l ih => simp [marks2Int, fl_cons, ih, marksInt_length]
theorem marks2Int_get {k0 : Int} {zss : List (List Int)} {j : Nat} {zs : List Int} (h : zss[j]? = some zs) : (marks2Int k0 zss)[j]? = some (marksInt (k0 + fl (zss.take j)) zs.length) := by
  obtain ⟨l, r, rfl, rfl⟩ := split_at h
  rw [marks2Int_append, List.getElem?_append_right (by rw [marks2Int_length]; exact Nat.le_refl _), marks2Int_length, List.take_left' rfl]
  simp [marks2Int]
theorem marks2Int_set {k0 : Int} {zss : List (List Int)} {j : Nat} {zs : List Int} (h : zss[j]? = some zs) :
    (marks2Int k0 (zss.take j) ++ zss.drop j).set j (marksInt (k0 + fl (zss.take j)) zs.length) = marks2Int k0 (zss.take (j + 1)) ++ zss.drop (j + 1) := by
  obtain ⟨l, r, rfl, rfl⟩ := split_at h
  rw [List.take_left' rfl, List.drop_left' rfl, List.set_append_right _ _ (by rw [marks2Int_length]; exact Nat.le_refl _), marks2Int_length, Nat.sub_self, List.set_cons_zero]
  have e1 : List.take (l.length + 1) (l ++ zs :: r) = l ++ [zs] := take_mid l r zs
  have e2 : List.drop (l.length + 1) (l ++ zs :: r) = r := drop_mid l r zs
  rw [e1, e2, marks2Int_append]
  simp [marks2Int]

end Go.Proofs.Ytlbijjifeaimjaa


/-! OwnC -/
namespace Go.Proofs.Ytlbijjifeaimjaa
open Go Go.RowKit
set_option linter.unusedVariables false

/-- v is nil or the head of a block of the call's own (blocks from B on) whose first cells are zs. -/
def OwnC (e : TypeId) (k : IntKind) (B : Nat) (w : World) (v : Value) (zs : List Int) : Prop :=
  (∀ z ∈ zs, (Lit.int k z).wf = true) ∧ B ≤ w.heap.size ∧
  ((v = .slice none 0 0 ∧ zs = []) ∨
   ∃ g cap cur, v = .slice (some ⟨g, 0, none⟩) zs.length cap ∧ B ≤ g ∧ w.heap[g]? = some (.cells cur e (0, 0)) ∧ zs.length ≤ cap ∧ cap ≤ maxLen ∧ zs.length ≤ cur.size ∧ ∀ i, i < zs.length → cur[i]? = some (.int k (zs.getD i 0)))

section
variable {e : TypeId} {k : IntKind} {B : Nat} {w w' : World} {v u : Value} {zs ys : List Int}

theorem Own.c (h : Own e k B w v zs) : OwnC e k B w v zs := by
  have h0 := h
  obtain ⟨hw, hB, h1, h2⟩ := h
  refine ⟨hw, hB, ?_⟩
  rcases h2 with ⟨rfl, h3⟩ | ⟨g, cap, cur, rfl, h4, h5, h6, h7, h8, h9⟩
  · exact .inl ⟨rfl, List.eq_nil_of_length_eq_zero h3⟩
  · refine .inr ⟨g, cap, cur, rfl, h4, h5, h6, h7, by omega, fun i hi => ?_⟩
    have hc := h0.cellAt rfl hi
    rwa [blk_cell h5] at hc

theorem OwnC.lt (h : OwnC e k B w v zs) : ∀ r, v.ownBlock = some r → B ≤ r ∧ r < w.heap.size := by
  intro r hr
  obtain ⟨hw, hB, ⟨rfl, _⟩ | ⟨g, cap, cur, rfl, h4, h5, _⟩⟩ := h
  · cases hr
  · cases hr
    exact ⟨h4, (Array.getElem?_eq_some_iff.1 h5).1⟩

theorem OwnC.rd (h : OwnC e k B w v zs) : Rd w.heap.size k w v zs := by
  obtain ⟨hw, hB, ⟨rfl, rfl⟩ | ⟨g, cap, cur, rfl, h4, h5, h6, h7, h8, h9⟩⟩ := h
  · exact ⟨hw, none, 0, rfl, by simp, by unfold maxLen; omega, .inl ⟨rfl, rfl⟩⟩
  · refine ⟨hw, _, cap, rfl, h6, h7, .inr ⟨_, rfl, fun i hi => ?_, .inl (Array.getElem?_eq_some_iff.1 h5).1⟩⟩
    have e1 : (⟨g, 0, none⟩ : Addr).add i = ⟨g, i, none⟩ := by unfold Addr.add; split <;> simp_all
    rw [e1, blk_cell h5]
    exact h9 i hi

theorem OwnC.kept {row : Option Nat} (h : OwnC e k B w v zs) (hg : w.grownBy w' row) (hne : v.ownBlock = none ∨ v.ownBlock ≠ row) : OwnC e k B w' v zs := by
  obtain ⟨hw, hB, h⟩ := h
  refine ⟨hw, Nat.le_trans hB hg.size, ?_⟩
  rcases h with h | ⟨g, cap, cur, rfl, h4, h5, h6⟩
  · exact .inl h
  · refine .inr ⟨g, cap, cur, rfl, h4, ?_, h6⟩
    rw [hg.block g (Array.getElem?_eq_some_iff.1 h5).1 (by simpa [Value.ownBlock] using hne)]
    exact h5

theorem OwnC.next (h : OwnC e k B w v zs) (hb : Below w.heap.size w w') : OwnC e k B w' v zs :=
  h.kept (grown_of_below hb) (by cases hv : v.ownBlock <;> simp)
theorem OwnC.alloc (h : OwnC e k B w v zs) (o : Obj) : OwnC e k B (w.alloc o) v zs :=
  h.kept (World.grownBy_alloc w o none) (by cases hv : v.ownBlock <;> simp)
theorem OwnC.beside (h : OwnC e k B w v zs) (ha : Apart v u) (hg : w.grownBy w' u.ownBlock) : OwnC e k B w' v zs := by
  refine h.kept hg ?_
  cases hv : v.ownBlock with
  | none => exact .inl rfl
  | some r =>
    right
    intro he
    exact ha r hv he.symm
theorem OwnC.below {C : Nat} (h : OwnC e k B w v zs) (hC : C ≤ B) (hg : w.grownBy w' v.ownBlock) : Below C w w' :=
  (Below.refl C w).grown hg (Nat.le_trans hC h.2.1) (fun r hr => by have := (h.lt r hr).1; omega)
theorem OwnC.mono {B' : Nat} (h : OwnC e k B w v zs) (hB : B' ≤ B) : OwnC e k B' w v zs := by
  obtain ⟨hw, h1, h2⟩ := h
  refine ⟨hw, by omega, ?_⟩
  rcases h2 with h3 | ⟨g, cap, cur, h4, h5, h6⟩
  · exact .inl h3
  · exact .inr ⟨g, cap, cur, h4, by omega, h6⟩
/-- What was there before a row was made shares no block with it. -/
theorem apartC {e' : TypeId} {k' : IntKind} (h : ∀ r, v.ownBlock = some r → B ≤ r ∧ r < w.heap.size) (hu : ∀ r, u.ownBlock = some r → w.heap.size ≤ r ∧ r < w'.heap.size) : Apart v u := fun r hr he => by
  have h1 := h r hr
  have h2 := hu r he
  omega
theorem OwnC.apart {e' : TypeId} {k' : IntKind} (h : OwnC e k B w v zs) (hu : Own e' k' w.heap.size w' u ys) : Apart v u := fun r hr he => by
  have h1 := h.lt r hr
  have h2 := hu.lt r he
  omega
theorem Own.apartC {e' : TypeId} {k' : IntKind} (h : Own e k B w v zs) (hu : OwnC e' k' w.heap.size w' u ys) : Apart v u := fun r hr he => by
  have h1 := h.lt r hr
  have h2 := hu.lt r he
  omega

theorem OwnC.open (h : OwnC e k B w v zs) : ∃ a cap, v = .slice a zs.length cap ∧ (0 < zs.length → ∃ g, a = some ⟨g, 0, none⟩) := by
  obtain ⟨hw, hB, ⟨rfl, rfl⟩ | ⟨g, cap, cur, rfl, h4, h5, h6⟩⟩ := h
  · exact ⟨none, 0, rfl, fun h => by simp at h⟩
  · exact ⟨_, cap, rfl, fun _ => ⟨g, rfl⟩⟩
end

theorem OwnC.cellAt {e : TypeId} {k : IntKind} {B : Nat} {w : World} {g cap n : Nat} {zs : List Int} (h : OwnC e k B w (.slice (some ⟨g, 0, none⟩) n cap) zs) {j : Nat} (hj : j < zs.length) : w.cell? ⟨g, j, none⟩ = some (.int k (zs.getD j 0)) := by
  obtain ⟨hw, hB, ⟨h, _⟩ | ⟨g', cap', cur, h, h4, h5, h6, h7, h8, h9⟩⟩ := h
  · cases h
  · injection h with e1 e2 e3
    injection e1 with e1
    injection e1 with e1
    subst e1
    rw [blk_cell h5]
    exact h9 j hj
theorem OwnC.free {e : TypeId} {k : IntKind} {B : Nat} {w : World} {g cap n : Nat} {zs : List Int} (h : OwnC e k B w (.slice (some ⟨g, 0, none⟩) n cap) zs) (j : Nat) : w.frozen? ⟨g, j, none⟩ = false := by
  obtain ⟨hw, hB, ⟨h, _⟩ | ⟨g', cap', cur, h, h4, h5, h6, h7, h8, h9⟩⟩ := h
  · cases h
  · injection h with e1 e2 e3
    injection e1 with e1
    injection e1 with e1
    subst e1
    exact blk_free h5 j

/-- A store into a row of the call's own. -/
theorem OwnC.set {e : TypeId} {k : IntKind} {B : Nat} {w : World} {g cap n : Nat} {zs : List Int} {x : Int} (h : OwnC e k B w (.slice (some ⟨g, 0, none⟩) n cap) zs) (hx : (Lit.int k x).wf = true) {j : Nat} (hj : j < zs.length) :
    OwnC e k B (w.setCell ⟨g, j, none⟩ (.int k x)) (.slice (some ⟨g, 0, none⟩) n cap) (zs.set j x) ∧ w.grownBy (w.setCell ⟨g, j, none⟩ (.int k x)) (some g) := by
  obtain ⟨hw, hB, ⟨h, _⟩ | ⟨g', cap', cur, h, h4, h5, h6, h7, h8, h9⟩⟩ := h
  · cases h
  · injection h with e1 e2 e3
    injection e1 with e1
    injection e1 with e1
    subst e1; subst e2; subst e3
    refine ⟨⟨fun z hz => ?_, by simpa [World.setCell] using hB, .inr ⟨g, cap, cur.setIfInBounds j (.int k x), by rw [List.length_set], h4, blk_set h5 j _, by rw [List.length_set]; exact h6, h7, by rw [List.length_set, Array.size_setIfInBounds]; exact h8, fun i hi => ?_⟩⟩, grown_set _ _ _ _⟩
    · rcases List.mem_or_eq_of_mem_set hz with h | rfl
      · exact hw z h
      · exact hx
    · rw [List.length_set] at hi
      by_cases hij : j = i
      · subst hij
        rw [Array.getElem?_setIfInBounds_self_of_lt (by omega)]
        simp [List.getD_eq_getElem?_getD, hi]
      · rw [Array.getElem?_setIfInBounds_ne hij, h9 i hi]
        simp [List.getD_eq_getElem?_getD, List.getElem?_set_ne hij]

/-- A store into a row whose elements are being written from its head on. -/
theorem OwnC.put {e : TypeId} {k : IntKind} {B : Nat} {w : World} {g cap n : Nat} {f q : Nat → Int} {j : Nat} (h : OwnC e k B w (.slice (some ⟨g, 0, none⟩) n cap) (upt f q j n)) (hj : j < n) (hf : (Lit.int k (f j)).wf = true) :
    OwnC e k B (w.setCell ⟨g, j, none⟩ (.int k (f j))) (.slice (some ⟨g, 0, none⟩) n cap) (upt f q (j + 1) n) ∧ w.grownBy (w.setCell ⟨g, j, none⟩ (.int k (f j))) (some g) := by
  have := h.set hf (j := j) (by rw [upt_length]; exact hj)
  rwa [upt_set] at this

end Go.Proofs.Ytlbijjifeaimjaa


/-! Ival -/
namespace Go.Proofs.Ytlbijjifeaimjaa
open Go Go.RowKit

theorem apart_ival {u v : Value} {l h l' h' : Nat} (hu : ∀ r, u.ownBlock = some r → l ≤ r ∧ r < h) (hv : ∀ r, v.ownBlock = some r → l' ≤ r ∧ r < h') (hd : h ≤ l' ∨ h' ≤ l) : Apart u v := fun r hr he => by
  have := hu r hr
  have := hv r he
  omega
theorem ival_of {v : Value} {l h : Nat} (hv : ∀ r, v.ownBlock = some r → l ≤ r ∧ r < h) : ∀ b, v.ownBlock = some b → ival l h b := hv
theorem ival_disj {l h l' h' : Nat} (hd : h ≤ l' ∨ h' ≤ l) : ∀ b, ival l h b → ¬ ival l' h' b := fun b hb hb' => by
  unfold ival at hb hb'
  omega
theorem not_ival {v : Value} {l h l' h' : Nat} (hv : ∀ r, v.ownBlock = some r → l ≤ r ∧ r < h) (hd : h ≤ l' ∨ h' ≤ l) : ∀ r, v.ownBlock = some r → ¬ ival l' h' r := fun r hr hb => by
  have := hv r hr
  unfold ival at hb
  omega
theorem OwnC.keptF {e : TypeId} {k : IntKind} {B : Nat} {F : Nat → Prop} {w w' : World} {v : Value} {zs : List Int} (h : OwnC e k B w v zs) (hk : KeptF F w w') (hn : ∀ r, v.ownBlock = some r → ¬ F r) : OwnC e k B w' v zs := by
  have hl := h.lt
  obtain ⟨hw, hB, h⟩ := h
  refine ⟨hw, Nat.le_trans hB hk.size, ?_⟩
  rcases h with h | ⟨g, cap, cur, rfl, h4, h5, h6⟩
  · exact .inl h
  · exact .inr ⟨g, cap, cur, rfl, h4, (hk.block g (hl g rfl).2 (hn g rfl)).trans h5, h6⟩
theorem fl_tot (zss : List (List Int)) : fl zss ≤ tot zss := by unfold tot; omega

end Go.Proofs.Ytlbijjifeaimjaa


/-! OwnV -/
namespace Go.Proofs.Ytlbijjifeaimjaa
open Go Go.RowKit
set_option linter.unusedVariables false

/-- v is nil or the head of a row of the call's own (blocks from B on) whose elements are the values us. -/
def OwnV (t : TypeId) (B : Nat) (w : World) (v : Value) (us : List Value) : Prop :=
  (∀ u ∈ us, u.oneCell' = true) ∧ B ≤ w.heap.size ∧ w.ownsRow B t 1 v us.length us

theorem OwnV.alloc {t : TypeId} {B : Nat} {w : World} {v : Value} {us : List Value} (h : OwnV t B w v us) (o : Obj) : OwnV t B (w.alloc o) v us :=
  ⟨h.1, by have := h.2.1; simp; omega, h.2.2.alloc o⟩
theorem OwnV.lit {B : Nat} {w : World} (t : TypeId) (hB : B ≤ w.heap.size) : OwnV t B (w.alloc (.cells #[] t)) (.slice (some ⟨w.heap.size, 0, none⟩) 0 0) [] :=
  ⟨by simp, by simp; omega, World.ownsRow_made w #[] 0 hB (Nat.zero_le _) rfl⟩
theorem OwnV.below {t : TypeId} {B C : Nat} {w w' : World} {v : Value} {us : List Value} (h : OwnV t B w v us) (hC : C ≤ B) (hg : w.grownBy w' v.ownBlock) : Below C w w' :=
  (Below.refl C w).grown hg (Nat.le_trans hC h.2.1) (fun r hr => by have := (h.2.2.lt r hr).1; omega)

theorem OwnV.rdv {t : TypeId} {B : Nat} {w : World} {v : Value} {us : List Value} (h : OwnV t B w v us) : RdV w.heap.size w v us := by
  obtain ⟨_, hB, h1⟩ := h
  have h1' := h1
  rcases h1.2 with ⟨rfl, h0⟩ | ⟨g, cap, cur, rfl, h5, h6, h7, h8, h9⟩
  · exact ⟨none, 0, by rw [h0], by omega, by unfold maxLen; omega, .inl ⟨rfl, rfl⟩⟩
  · refine ⟨_, cap, rfl, h7, h8, .inr ⟨_, rfl, fun i u hu => ?_, .inl (Array.getElem?_eq_some_iff.1 h6).1⟩⟩
    have hi := (List.getElem?_eq_some_iff.1 hu).1
    have e2 : (⟨g, 0, none⟩ : Addr).add i = ⟨g, i, none⟩ := by unfold Addr.add; split <;> simp_all
    rw [e2, World.ownsRow.cellAt h1' i (by omega)]
    exact hu

theorem rd_one {k : IntKind} {w : World} {lim : Nat} {u : Value} {zs : List Int} (h : Rd lim k w u zs) : u.oneCell' = true := by
  obtain ⟨_, a, cap, rfl, _⟩ := h
  rfl

/-- append of what is read to such a row. -/
theorem append_vals {P : Program} (w : World) {ops : Array Oper} {rest : List Oper} {o : Oper} {a : Act} {Q : Exit → Act → World → Prop} (hg : o.guard = none) (s x : Operand) (tt : TypeId)
    (hop : o.op = .call { callee := .builtin .append, args := #[s, x], argTypes := #[tt, tt] }) (t : TypeId) (i : TypeInfo) (bytes : Nat) (ht : P.underlying tt = some (.slice t)) (hi : P.info? t = some i) (hz : i.zero = some (.slice none 0 0))
    (hsize : i.size = 1) (hby : i.bytes = bytes) (hb1 : 1 ≤ bytes) {B lim : Nat} {v u : Value} {us ys : List Value} (hs : a.eval s = v) (hown : OwnV t B w v us) (hx : a.eval x = u) (hu : RdV lim w u ys) (hone : ∀ y ∈ ys, y.oneCell' = true)
    (hle : (us.length + ys.length) * bytes ≤ 140737488355328)
    (h : ∀ v' w', OwnV t B w' v' (us ++ ys) → w.grownBy w' v.ownBlock → wpList P ops Q rest (a.put o.dst v') w') : wpList P ops Q (o :: rest) a w := by
  obtain ⟨p, cap, rfl, u1, u2, u3⟩ := hu
  obtain ⟨vw, vB, vo⟩ := hown
  have hm : us.length + ys.length ≤ maxLen := by
    have : (us.length + ys.length) * 1 ≤ (us.length + ys.length) * bytes := Nat.mul_le_mul_left _ hb1
    unfold maxLen; omega
  have one : ∀ y ∈ us ++ ys, y.oneCell' = true := fun y hy => by
    rcases List.mem_append.1 hy with h | h
    · exact vw y h
    · exact hone y h
  rcases u3 with ⟨rfl, rfl⟩ | ⟨y, rfl, hc, hbl⟩
  · have hy : ys = [] := List.eq_nil_of_length_eq_zero (by omega)
    subst hy
    refine wpList_append_own_none hg s x tt hop B t i 1 ht hi v us.length _ hs vo hx ?_
    exact h v w (by rw [List.append_nil]; exact ⟨vw, vB, vo⟩) (World.grownBy.refl _ _)
  · refine wpList_append_own w hg s x tt hop B t i _ 1 bytes ht hi hz hsize hby rfl (by decide) v us.length us hs vo y ys.length cap ys hx (by simp) hc hone hm hle vB ?_
    intro v' w' h1 h2 _
    exact h v' w' ⟨one, Nat.le_trans vB h2.size, by rw [List.length_append]; exact h1⟩ h2

/-- A literal of one element. -/
theorem RdV.one (w : World) (u : Value) (t : TypeId) : RdV (w.heap.size + 1) (w.alloc (.cells #[u] t)) (.slice (some ⟨w.heap.size, 0, none⟩) 1 1) [u] :=
  ⟨_, 1, rfl, Nat.le_refl _, by unfold maxLen; omega, .inr ⟨_, rfl, fun i y hy => cell_one_new w u t i y hy, .inl (Nat.lt_succ_self _)⟩⟩

/-- What is read is one cell each. -/
theorem U3o {lim : Nat} {k : IntKind} {w : World} {us : List Value} {zss : List (List Int)} (hl : us.length = zss.length) (h : ∀ (i : Nat) (u : Value) (zs : List Int), us[i]? = some u → zss[i]? = some zs → Rd lim k w u zs) : ∀ y ∈ us, y.oneCell' = true := fun y hy => by
  obtain ⟨i, hi, rfl⟩ := List.mem_iff_getElem.1 hy
  exact rd_one (h i _ _ (List.getElem?_eq_getElem hi) (List.getElem?_eq_getElem (by omega)))

/-- A row of such values with one more, read. -/
theorem OwnV.rd2_snoc {t : TypeId} {B lim : Nat} {k : IntKind} {w0 w : World} {v u : Value} {us : List Value} {zss : List (List Int)} {zs : List Int} (h : OwnV t B w v (us ++ [u])) (hl : us.length = zss.length)
    (h1 : ∀ (i : Nat) (u : Value) (zs : List Int), us[i]? = some u → zss[i]? = some zs → Rd lim k w0 u zs) (h2 : Rd lim k w0 u zs) (hb : Below lim w0 w) (hlim : lim ≤ w.heap.size) : Rd2 w.heap.size k w v (zss ++ [zs]) := by
  refine ⟨us ++ [u], by simp [hl], h.rdv, fun i y z hy hz => ?_⟩
  by_cases hi : i < us.length
  · rw [List.getElem?_append_left hi] at hy
    rw [List.getElem?_append_left (by omega)] at hz
    exact ((h1 i y z hy hz).behind hb).mono hlim
  · have hi' : i = us.length := by have := (List.getElem?_eq_some_iff.1 hy).1; simp at this; omega
    subst hi'
    rw [List.getElem?_append_right (Nat.le_refl _)] at hy
    rw [hl, List.getElem?_append_right (Nat.le_refl _)] at hz
    simp at hy hz
    subst hy; subst hz
    exact (h2.behind hb).mono hlim

end Go.Proofs.Ytlbijjifeaimjaa
