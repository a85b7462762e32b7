/- Slices of slices of integers: as they are read, and those that a call made itself. No program. -/
import Derived.Test.YtnamgnhplodhoaaRd
import Derived.Test.YtnamgnhplodhoaaJ3
import Derived.Maps.AppendAt
namespace Go.Proofs.Ytnamgnhplodhoaa
open Go Go.RowKit
set_option linter.unusedVariables false

/-- The slice v reads the values us; its cells lie below block lim. -/
def RdV (lim : Nat) (w : World) (v : Value) (us : List Value) : Prop :=
  ∃ a cap, v = .slice a us.length cap ∧ us.length ≤ cap ∧ cap ≤ maxLen ∧
    ((a = none ∧ cap = 0) ∨ ∃ x, a = some x ∧ (∀ (i : Nat) (u : Value), us[i]? = some u → w.cell? (x.add i) = some u) ∧ (x.block < lim ∨ us.length = 0))

/-- The slice v reads the rows zss; all cells lie below block lim. -/
def Rd2 (lim : Nat) (k : IntKind) (w : World) (v : Value) (zss : List (List Int)) : Prop :=
  ∃ us, us.length = zss.length ∧ RdV lim w v us ∧ ∀ (i : Nat) (u : Value) (zs : List Int), us[i]? = some u → zss[i]? = some zs → Rd lim k w u zs

theorem RdV.mono {l l' : Nat} {w : World} {v : Value} {us : List Value} (h : RdV l w v us) (hl : l ≤ l') : RdV l' w v us := by
  obtain ⟨a, cap, hv, h1, h2, h3⟩ := h
  refine ⟨a, cap, hv, h1, h2, ?_⟩
  rcases h3 with h3 | ⟨x, h4, h5, h6⟩
  · exact .inl h3
  · exact .inr ⟨x, h4, h5, by omega⟩

theorem RdV.behind {l : Nat} {w w' : World} {v : Value} {us : List Value} (h : RdV l w v us) (hb : Below l w w') : RdV l w' v us := by
  obtain ⟨a, cap, hv, h1, h2, h3⟩ := h
  refine ⟨a, cap, hv, h1, h2, ?_⟩
  rcases h3 with h3 | ⟨x, h4, h5, h6⟩
  · exact .inl h3
  · refine .inr ⟨x, h4, fun i u hi => ?_, h6⟩
    have hlt := (List.getElem?_eq_some_iff.1 hi).1
    rw [← h5 i u hi]
    exact hb.cell (p := x.add i) (by rw [addr_add_block]; omega)

theorem vals_at {w : World} {x : Addr} {us : List Value} (h : ∀ (i : Nat) (u : Value), us[i]? = some u → w.cell? (x.add i) = some u) (hp : 0 < us.length) : ∃ b o, x = ⟨b, o, none⟩ ∧ ∀ (i : Nat) (u : Value), us[i]? = some u → w.cell? ⟨b, o + i, none⟩ = some u := by
  obtain ⟨b, o, s⟩ := x
  have h0 := h 0 _ (List.getElem?_eq_getElem hp)
  cases s with
  | none =>
    refine ⟨b, o, rfl, fun i u hi => ?_⟩
    have e : (⟨b, o, none⟩ : Addr).add i = ⟨b, o + i, none⟩ := by unfold Addr.add; split <;> simp_all
    rw [← e]; exact h i u hi
  | some s =>
    exfalso
    simp only [World.cell?, Addr.add] at h0
    split at h0 <;> simp at h0

/-- With at least one element: the address and its cells. -/
theorem RdV.at {l : Nat} {w : World} {v : Value} {us : List Value} (h : RdV l w v us) (hp : 0 < us.length) :
    ∃ b o cap, v = .slice (some ⟨b, o, none⟩) us.length cap ∧ us.length ≤ cap ∧ cap ≤ maxLen ∧ (∀ (i : Nat) (u : Value), us[i]? = some u → w.cell? ⟨b, o + i, none⟩ = some u) ∧ b < l := by
  obtain ⟨a, cap, hv, h1, h2, h3⟩ := h
  rcases h3 with h3 | ⟨x, rfl, h5, h6⟩
  · omega
  · obtain ⟨xb, xo, rfl, hc⟩ := vals_at h5 hp
    refine ⟨xb, xo, cap, hv, h1, h2, hc, ?_⟩
    rcases h6 with h | h
    · exact h
    · omega

section
variable {l l' : Nat} {k : IntKind} {w w' : World} {v : Value} {zss : List (List Int)}

theorem Rd2.mono (h : Rd2 l k w v zss) (hl : l ≤ l') : Rd2 l' k w v zss := by
  obtain ⟨us, e, h1, h2⟩ := h
  exact ⟨us, e, h1.mono hl, fun i u zs hu hz => (h2 i u zs hu hz).mono hl⟩
theorem Rd2.behind (h : Rd2 l k w v zss) (hb : Below l w w') : Rd2 l k w' v zss := by
  obtain ⟨us, e, h1, h2⟩ := h
  exact ⟨us, e, h1.behind hb, fun i u zs hu hz => (h2 i u zs hu hz).behind hb⟩
theorem Rd2.drew (h : Rd2 l k w v zss) : Rd2 l k w.drew v zss := h.behind (Below.refl _ _).drew

/-- The slice's value, and what its elements read in every later world. -/
theorem Rd2.open (h : Rd2 l k w v zss) : ∃ a cap, v = .slice a zss.length cap ∧ zss.length ≤ cap ∧ cap ≤ maxLen ∧
    (0 < zss.length → ∃ b o, a = some ⟨b, o, none⟩ ∧ b < l ∧ ∀ w', Below l w w' → ∀ (i : Nat) (zs : List Int), zss[i]? = some zs → ∃ u, w'.cell? ⟨b, o + i, none⟩ = some u ∧ Rd l k w' u zs) := by
  obtain ⟨us, e, h1, h2⟩ := h
  obtain ⟨a, cap, hv, h3, h4, h5⟩ := id h1
  rw [e] at hv h3
  refine ⟨a, cap, hv, h3, h4, fun hp => ?_⟩
  obtain ⟨b, o, cap', hv', _, _, hc, hb⟩ := h1.at (by omega)
  rw [hv] at hv'
  injection hv' with e1 e2 e3
  refine ⟨b, o, e1, hb, fun w' hb' i zs hi => ?_⟩
  have hi' : i < us.length := by have := (List.getElem?_eq_some_iff.1 hi).1; omega
  refine ⟨us[i], ?_, (h2 i _ zs (List.getElem?_eq_getElem hi') hi).behind hb'⟩
  rw [← hc i _ (List.getElem?_eq_getElem hi')]
  exact hb'.cell (p := ⟨b, o + i, none⟩) hb

theorem Rd2.len (h : Rd2 l k w v zss) : zss.length ≤ maxLen := by
  obtain ⟨a, cap, hv, h1, h2, h3⟩ := h.open
  omega
theorem Rd2.len_eq {a : Option Addr} {len cap : Nat} (h : Rd2 l k w (.slice a len cap) zss) : len = zss.length := by
  obtain ⟨a', cap', hv, _⟩ := h.open
  injection hv
end

/-! ### What a walk leaves -/

/-- All but the blocks of F is as it was. -/
structure KeptF (F : Nat → Prop) (w w' : World) : Prop where
  os : w'.os = w.os
  tape : w'.tape = w.tape
  output : w'.output = w.output
  size : w.heap.size ≤ w'.heap.size
  block : ∀ b, b < w.heap.size → ¬ F b → w'.heap[b]? = w.heap[b]?

section
variable {F G : Nat → Prop} {w w' w'' : World}
theorem KeptF.refl (F : Nat → Prop) (w : World) : KeptF F w w := ⟨rfl, rfl, rfl, Nat.le_refl _, fun _ _ _ => rfl⟩
theorem KeptF.trans (h : KeptF F w w') (k : KeptF F w' w'') : KeptF F w w'' :=
  ⟨k.os.trans h.os, k.tape.trans h.tape, k.output.trans h.output, Nat.le_trans h.size k.size, fun b hb hn => (k.block b (Nat.lt_of_lt_of_le hb h.size) hn).trans (h.block b hb hn)⟩
theorem KeptF.mono (h : KeptF F w w') (hFG : ∀ b, F b → G b) : KeptF G w w' := ⟨h.os, h.tape, h.output, h.size, fun b hb hn => h.block b hb fun hF => hn (hFG b hF)⟩
theorem KeptF.of_below (hb : Below w.heap.size w w') : KeptF F w w' := ⟨hb.os, hb.tape, hb.output, hb.size, fun b h _ => hb.block b h⟩
theorem KeptF.of_grown {r : Option Nat} (h : w.grownBy w' r) (hr : ∀ b, r = some b → F b) : KeptF F w w' := ⟨h.os, h.tape, h.output, h.size, fun b hb hn => h.block b hb fun e => hn (hr b e.symm)⟩
theorem KeptF.below {B : Nat} (h : KeptF F w w') (hF : ∀ b, F b → B ≤ b) (hB : B ≤ w.heap.size) : Below B w w' := by
  refine (Below.refl B w).trans ⟨h.os, h.tape, h.output, h.size, fun b hb => h.block b (by omega) fun hn => ?_⟩
  have := hF b hn
  omega
end

theorem ownsRow_of_block {w w' : World} {B n : Nat} {e : TypeId} {v : Value} {xs : List Value} (h : w.ownsRow B e 1 v n xs) (hb : ∀ r, v.ownBlock = some r → w'.heap[r]? = w.heap[r]?) : w'.ownsRow B e 1 v n xs := by
  obtain ⟨h1, h2⟩ := h
  refine ⟨h1, ?_⟩
  rcases h2 with h2 | ⟨g, cap, cur, rfl, h3, h4, h5⟩
  · exact .inl h2
  · exact .inr ⟨g, cap, cur, rfl, h3, (hb g rfl).trans h4, h5⟩

section
variable {e : TypeId} {k : IntKind} {B : Nat} {F G : Nat → Prop} {w w' : World} {v u : Value} {zs : List Int}
theorem Own.keptF (h : Own e k B w v zs) (hk : KeptF F w w') (hn : ∀ r, v.ownBlock = some r → ¬ F r) : Own e k B w' v zs :=
  ⟨h.1, Nat.le_trans h.2.1 hk.size, ownsRow_of_block h.2.2 fun r hr => hk.block r (h.2.2.lt r hr).2 (hn r hr)⟩
end

/-- A row of the call's own that lies among the blocks of F. -/
def In (F : Nat → Prop) (v : Value) : Prop := ∀ r, v.ownBlock = some r → F r

/-- The blocks from lo on, below hi. -/
def ival (lo hi : Nat) : Nat → Prop := fun b => lo ≤ b ∧ b < hi

/-- v is nil or the head of a row of the call's own; its elements are rows of the call's own that read zss; no two of all these rows share a block; all lie among the blocks of F. -/
def Own2 (t e : TypeId) (k : IntKind) (F : Nat → Prop) (w : World) (v : Value) (zss : List (List Int)) : Prop :=
  ∃ us : List Value, us.length = zss.length ∧ w.ownsRow 0 t 1 v us.length us ∧ In F v ∧
    (∀ (i : Nat) (u : Value) (zs : List Int), us[i]? = some u → zss[i]? = some zs → Own e k 0 w u zs ∧ In F u ∧ Apart u v) ∧
    ∀ (i j : Nat) (u u' : Value), i < j → us[i]? = some u → us[j]? = some u' → Apart u u'

theorem In.mono {F G : Nat → Prop} {v : Value} (h : In F v) (hFG : ∀ b, F b → G b) : In G v := fun r hr => hFG r (h r hr)
theorem In.nil (F : Nat → Prop) : In F (.slice none 0 0) := fun r hr => by cases hr
theorem Apart.nil (v : Value) : Apart v (.slice none 0 0) := fun r _ he => by cases he
theorem Apart.of_in {F G : Nat → Prop} {u v : Value} (hu : In F u) (hv : In G v) (hd : ∀ b, F b → ¬ G b) : Apart u v := fun r hr he => hd r (hu r hr) (hv r he)

section
variable {t e : TypeId} {k : IntKind} {F G : Nat → Prop} {w w' : World} {v u : Value} {zss : List (List Int)}

theorem Own2.mono (h : Own2 t e k F w v zss) (hFG : ∀ b, F b → G b) : Own2 t e k G w v zss := by
  obtain ⟨us, e1, h1, h2, h3, h4⟩ := h
  exact ⟨us, e1, h1, h2.mono hFG, fun i u zs hu hz => ⟨(h3 i u zs hu hz).1, (h3 i u zs hu hz).2.1.mono hFG, (h3 i u zs hu hz).2.2⟩, h4⟩

theorem Own2.keptF (h : Own2 t e k F w v zss) (hk : KeptF G w w') (hd : ∀ b, F b → ¬ G b) : Own2 t e k F w' v zss := by
  obtain ⟨us, e1, h1, h2, h3, h4⟩ := h
  refine ⟨us, e1, ownsRow_of_block h1 fun r hr => hk.block r (h1.lt r hr).2 (hd r (h2 r hr)), h2, fun i u zs hu hz => ?_, h4⟩
  obtain ⟨a, b, c⟩ := h3 i u zs hu hz
  exact ⟨a.keptF hk fun r hr => hd r (b r hr), b, c⟩

/-- Behind a call that leaves all there was. -/
theorem Own2.next (h : Own2 t e k F w v zss) (hb : Below w.heap.size w w') : Own2 t e k F w' v zss :=
  h.keptF (G := fun _ => False) (KeptF.of_below hb) (fun _ _ h => h)

theorem Own2.alloc (h : Own2 t e k F w v zss) (o : Obj) : Own2 t e k F (w.alloc o) v zss := h.next ((Below.refl _ _).alloc (Nat.le_refl _) _)
theorem Own2.drew (h : Own2 t e k F w v zss) : Own2 t e k F w.drew v zss := h.next (Below.refl _ _).drew

theorem Own2.nil (t e : TypeId) (k : IntKind) (F : Nat → Prop) (w : World) : Own2 t e k F w (.slice none 0 0) [] :=
  ⟨[], rfl, World.ownsRow_nil _ _ _ _, In.nil F, fun i u zs hu => by simp at hu, fun i j u u' _ hu => by simp at hu⟩

/-- An empty literal. -/
theorem Own2.lit (t e : TypeId) (k : IntKind) (hF : F w.heap.size) : Own2 t e k F (w.alloc (.cells #[] t)) (.slice (some ⟨w.heap.size, 0, none⟩) 0 0) [] :=
  ⟨[], rfl, World.ownsRow_made w #[] 0 (Nat.zero_le _) (Nat.zero_le _) rfl, fun r hr => by cases hr; exact hF, fun i u zs hu => by simp at hu, fun i j u u' _ hu => by simp at hu⟩

/-- Behind make: every element is nil. -/
theorem Own2.made {n : Nat} {g cap : Nat} (h : w.ownsRow 0 t 1 (.slice (some ⟨g, 0, none⟩) n cap) n (List.replicate n (.slice none 0 0))) (hF : F g) : Own2 t e k F w (.slice (some ⟨g, 0, none⟩) n cap) (List.replicate n []) := by
  refine ⟨List.replicate n (.slice none 0 0), by simp, by simpa using h, fun r hr => by cases hr; exact hF, fun i u zs hu hz => ?_, fun i j u u' _ hu hu' => ?_⟩
  · have eu : u = .slice none 0 0 := List.eq_of_mem_replicate (List.mem_of_getElem? hu)
    have ez : zs = [] := List.eq_of_mem_replicate (List.mem_of_getElem? hz)
    subst eu; subst ez
    exact ⟨Own.nil e k (Nat.zero_le _), In.nil F, (Apart.nil _).symm⟩
  · have eu : u' = .slice none 0 0 := List.eq_of_mem_replicate (List.mem_of_getElem? hu')
    subst eu
    exact Apart.nil _

theorem Own2.open (h : Own2 t e k F w v zss) : ∃ a cap, v = .slice a zss.length cap ∧ zss.length ≤ cap ∧ cap ≤ maxLen ∧ (0 < zss.length → ∃ g, a = some ⟨g, 0, none⟩ ∧ F g) := by
  obtain ⟨us, e1, ⟨_, h1⟩, h2, _, _⟩ := h
  rw [e1] at h1
  rcases h1 with ⟨rfl, h0⟩ | ⟨g, cap, cur, rfl, h5, h6, h7, h8, h9⟩
  · exact ⟨none, 0, by rw [h0], by omega, by unfold maxLen; omega, fun h => by omega⟩
  · exact ⟨_, cap, rfl, h7, h8, fun _ => ⟨g, rfl, h2 g rfl⟩⟩

theorem Own2.rd2 (h : Own2 t e k F w v zss) : Rd2 w.heap.size k w v zss := by
  obtain ⟨us, e1, h1, h2, h3, h4⟩ := h
  refine ⟨us, e1, ?_, fun i u zs hu hz => (h3 i u zs hu hz).1.rd⟩
  have h1' := h1
  rcases h1.2 with ⟨rfl, h0⟩ | ⟨g, cap, cur, rfl, h5, h6, h7, h8, h9⟩
  · exact ⟨none, 0, by rw [h0], by omega, by unfold maxLen; omega, .inl ⟨rfl, rfl⟩⟩
  · refine ⟨_, cap, rfl, h7, h8, .inr ⟨_, rfl, fun i u hu => ?_, .inl (Array.getElem?_eq_some_iff.1 h6).1⟩⟩
    have hi := (List.getElem?_eq_some_iff.1 hu).1
    have e2 : (⟨g, 0, none⟩ : Addr).add i = ⟨g, i, none⟩ := by unfold Addr.add; split <;> simp_all
    rw [e2, World.ownsRow.cellAt h1' i (by omega)]
    exact hu

/-- One of its rows: its value, and what a change of this row alone leaves. -/
theorem Own2.at {g cap n i : Nat} {zs : List Int} (h : Own2 t e k F w (.slice (some ⟨g, 0, none⟩) n cap) zss) (hi : zss[i]? = some zs) :
    ∃ u, w.cell? ⟨g, i, none⟩ = some u ∧ Own e k 0 w u zs ∧ In F u ∧ ∀ w' zs', w.grownBy w' u.ownBlock → Own e k 0 w' u zs' → Own2 t e k F w' (.slice (some ⟨g, 0, none⟩) n cap) (zss.set i zs') := by
  obtain ⟨us, e1, h1, h2, h3, h4⟩ := h
  have hi' : i < us.length := by have := (List.getElem?_eq_some_iff.1 hi).1; omega
  have hu := List.getElem?_eq_getElem hi'
  obtain ⟨o1, o2, o3⟩ := h3 i _ zs hu hi
  have hlen : us.length = n := by
    rcases h1.2 with ⟨h, _⟩ | ⟨g', cap', cur, h, _⟩
    · injection h with q1 q2 q3; cases q1
    · injection h with q1 q2 q3; exact q2.symm
  refine ⟨us[i], ?_, o1, o2, fun w' zs' hg ho => ?_⟩
  · have h1' := h1
    rw [hlen] at h1'
    rw [World.ownsRow.cellAt h1' i (by omega)]
    exact hu
  · refine ⟨us, by rw [List.length_set]; exact e1, ?_, h2, fun j u z hu' hz => ?_, h4⟩
    · refine ownsRow_of_block h1 fun r hr => hg.block r (h1.lt r hr).2 fun e => ?_
      exact o3 r e.symm hr
    · by_cases hij : i = j
      · subst hij
        rw [List.getElem?_set_self (by omega)] at hz
        injection hz with hz
        subst hz
        rw [hu] at hu'
        injection hu' with hu'
        subst hu'
        exact ⟨ho, o2, o3⟩
      · rw [List.getElem?_set_ne hij] at hz
        obtain ⟨p1, p2, p3⟩ := h3 j u z hu' hz
        refine ⟨⟨p1.1, Nat.zero_le _, ownsRow_of_block p1.2.2 fun r hr => hg.block r (p1.2.2.lt r hr).2 fun e => ?_⟩, p2, p3⟩
        rcases Nat.lt_or_gt_of_ne hij with hlt | hgt
        · exact h4 i j _ _ hlt hu hu' r e.symm hr
        · exact h4 j i _ _ hgt hu' hu r hr e.symm

/-- A store of a row that lies apart from all into an element. -/
theorem Own2.put {g cap n j : Nat} {zs : List Int} (h : Own2 t e k F w (.slice (some ⟨g, 0, none⟩) n cap) zss) (hu : Own e k 0 w u zs) (hF : ∀ r, u.ownBlock = some r → ¬ F r) :
    Own2 t e k (fun b => F b ∨ u.ownBlock = some b) (w.setCell ⟨g, j, none⟩ u) (.slice (some ⟨g, 0, none⟩) n cap) (zss.set j zs) ∧ w.grownBy (w.setCell ⟨g, j, none⟩ u) (some g) := by
  obtain ⟨us, e1, h1, h2, h3, h4⟩ := h
  have hlen : us.length = n := by
    rcases h1.2 with ⟨h, _⟩ | ⟨g', cap', cur, h, _⟩
    · injection h with q1 q2 q3; cases q1
    · injection h with q1 q2 q3; exact q2.symm
  rw [hlen] at h1
  obtain ⟨s1, s2⟩ := h1.stored j u
  have hgF : F g := h2 g rfl
  have huv : Apart u (.slice (some ⟨g, 0, none⟩) n cap) := fun r hr he => by cases he; exact hF _ hr hgF
  have keepO : ∀ (u' : Value) (z : List Int), Own e k 0 w u' z → Apart u' (.slice (some ⟨g, 0, none⟩) n cap) → Own e k 0 (w.setCell ⟨g, j, none⟩ u) u' z := fun u' z ho ha =>
    ⟨ho.1, Nat.zero_le _, ownsRow_of_block ho.2.2 fun r hr => s2.block r (ho.2.2.lt r hr).2 fun e => ha r hr e.symm⟩
  refine ⟨⟨us.set j u, by rw [List.length_set, List.length_set]; exact e1, by rw [List.length_set, hlen]; exact s1, h2.mono fun b hb => .inl hb, fun i u' z hu' hz => ?_, fun i i' u' u'' hlt hu' hu'' => ?_⟩, s2⟩
  · by_cases hij : j = i
    · subst hij
      have hj : j < us.length := by have := (List.getElem?_eq_some_iff.1 hu').1; simpa using this
      rw [List.getElem?_set_self hj] at hu'
      rw [List.getElem?_set_self (by omega)] at hz
      injection hu' with hu'; injection hz with hz
      subst hu'; subst hz
      exact ⟨keepO _ _ hu huv, fun r hr => .inr hr, huv⟩
    · rw [List.getElem?_set_ne hij] at hu' hz
      obtain ⟨p1, p2, p3⟩ := h3 i u' z hu' hz
      exact ⟨keepO _ _ p1 p3, p2.mono fun b hb => .inl hb, p3⟩
  · have inF : ∀ (a : Nat) (y : Value), us[a]? = some y → In F y := fun a y ha => by
      have hla := (List.getElem?_eq_some_iff.1 ha).1
      exact (h3 a y _ ha (List.getElem?_eq_getElem (by omega))).2.1
    by_cases hij : j = i
    · subst hij
      have hj : j < us.length := by have := (List.getElem?_eq_some_iff.1 hu').1; simpa using this
      rw [List.getElem?_set_self hj] at hu'
      injection hu' with hu'; subst hu'
      rw [List.getElem?_set_ne (by omega)] at hu''
      exact fun r hr he => hF r hr (inF _ _ hu'' r he)
    · rw [List.getElem?_set_ne hij] at hu'
      by_cases hij' : j = i'
      · subst hij'
        have hj : j < us.length := by have := (List.getElem?_eq_some_iff.1 hu'').1; simpa using this
        rw [List.getElem?_set_self hj] at hu''
        injection hu'' with hu''; subst hu''
        exact fun r hr he => hF r he (inF _ _ hu' r hr)
      · rw [List.getElem?_set_ne hij'] at hu''
        exact h4 i i' u' u'' hlt hu' hu''

theorem Own2.in_ (h : Own2 t e k F w v zss) : ∀ b, v.ownBlock = some b → F b := by
  obtain ⟨us, e1, h1, h2, _⟩ := h
  exact h2
theorem Own2.free {g cap n : Nat} (h : Own2 t e k F w (.slice (some ⟨g, 0, none⟩) n cap) zss) (hn : n = zss.length) (j : Nat) : w.frozen? ⟨g, j, none⟩ = false := by
  obtain ⟨us, e1, h1, _⟩ := h
  rw [e1, ← hn] at h1
  exact h1.frozenAt j
theorem Own2.cellAt {g cap n : Nat} (h : Own2 t e k F w (.slice (some ⟨g, 0, none⟩) n cap) zss) {j : Nat} (hj : j < zss.length) : ∃ u, w.cell? ⟨g, j, none⟩ = some u := by
  obtain ⟨u, hu, _⟩ := h.at (List.getElem?_eq_getElem hj)
  exact ⟨u, hu⟩

/-- Behind an append of one row that lies apart from all. -/
theorem Own2.snoc {v' : Value} {zs : List Int} (h : Own2 t e k F w v zss) (hu : Own e k 0 w u zs) (hF : ∀ r, u.ownBlock = some r → ¬ F r) (hlt : ∀ b, F b → b < w.heap.size)
    (h1 : ∀ us : List Value, w.ownsRow 0 t 1 v us.length us → us.length = zss.length → w'.ownsRow 0 t 1 v' (us.length + 1) (us ++ [u])) (h2 : w.grownBy w' v.ownBlock) (h3 : v'.ownBlock = v.ownBlock ∨ v'.ownBlock = some w.heap.size) :
    Own2 t e k (fun b => F b ∨ u.ownBlock = some b ∨ v'.ownBlock = some b) w' v' (zss ++ [zs]) := by
  obtain ⟨us, e1, o1, o2, o3, o4⟩ := h
  have p1 := h1 us o1 e1
  have inF : ∀ (a : Nat) (y : Value), us[a]? = some y → In F y := fun a y ha => by
    have hla := (List.getElem?_eq_some_iff.1 ha).1
    exact (o3 a y _ ha (List.getElem?_eq_getElem (by omega))).2.1
  have huv : Apart u v := fun r hr he => hF r hr (o2 r he)
  have keepO : ∀ (u' : Value) (z : List Int), Own e k 0 w u' z → Apart u' v → Own e k 0 w' u' z ∧ Apart u' v' := fun u' z ho ha => by
    refine ⟨⟨ho.1, Nat.zero_le _, ownsRow_of_block ho.2.2 fun r hr => h2.block r (ho.2.2.lt r hr).2 fun e => ha r hr e.symm⟩, fun r hr he => ?_⟩
    rcases h3 with h3 | h3
    · exact ha r hr (h3 ▸ he)
    · rw [h3] at he
      injection he with he
      have := (ho.2.2.lt r hr).2
      omega
  refine ⟨us ++ [u], by simp [e1], by simpa using p1, fun r hr => .inr (.inr hr), fun i u' z hu' hz => ?_, fun i j u' u'' hij hu' hu'' => ?_⟩
  · by_cases hi : i < us.length
    · rw [List.getElem?_append_left hi] at hu'
      rw [List.getElem?_append_left (by omega)] at hz
      obtain ⟨q1, q2, q3⟩ := o3 i u' z hu' hz
      exact ⟨(keepO _ _ q1 q3).1, q2.mono fun b hb => .inl hb, (keepO _ _ q1 q3).2⟩
    · have hi' : i = us.length := by have := (List.getElem?_eq_some_iff.1 hu').1; simp at this; omega
      subst hi'
      rw [List.getElem?_append_right (Nat.le_refl _)] at hu'
      rw [e1, List.getElem?_append_right (Nat.le_refl _)] at hz
      simp at hu' hz
      subst hu'; subst hz
      exact ⟨(keepO _ _ hu huv).1, fun r hr => .inr (.inl hr), (keepO _ _ hu huv).2⟩
  · have hj := (List.getElem?_eq_some_iff.1 hu'').1
    simp at hj
    rw [List.getElem?_append_left (by omega)] at hu'
    by_cases hj' : j < us.length
    · rw [List.getElem?_append_left hj'] at hu''
      exact o4 i j u' u'' hij hu' hu''
    · have : j = us.length := by omega
      subst this
      rw [List.getElem?_append_right (Nat.le_refl _)] at hu''
      simp at hu''
      subst hu''
      exact fun r hr he => hF r he (inF _ _ hu' r hr)
end

/-- append of one row of the call's own to a slice of rows of the call's own: its run. -/
theorem run_append_row {P : Program} (w : World) (tt ty t e : TypeId) (i : TypeInfo) (bytes : Nat) (ht : P.underlying tt = some (.slice t)) (hi : P.info? t = some i) (hz : i.zero = some (.slice none 0 0))
    (hsize : i.size = 1) (hby : i.bytes = bytes) (hb1 : 1 ≤ bytes) {k : IntKind} {F : Nat → Prop} {v u : Value} {ad : Addr} {c : Nat} {zss : List (List Int)} {zs : List Int} (hown : Own2 t e k F w v zss) (hlt : ∀ b, F b → b < w.heap.size)
    (hc : w.cell? (ad.add 0) = some u) (hu : Own e k 0 w u zs) (hF : ∀ r, u.ownBlock = some r → ¬ F r) (hle : (zss.length + 1) * bytes ≤ 140737488355328) :
    ∃ v' w', (Builtin.append_ #[tt, tt] ty #[v, .slice (some ad) 1 c]).run P w = .ok v' w' ∧ Own2 t e k (fun b => F b ∨ u.ownBlock = some b ∨ v'.ownBlock = some b) w' v' (zss ++ [zs]) ∧ w.grownBy w' v.ownBlock ∧
      (v'.ownBlock = v.ownBlock ∨ v'.ownBlock = some w.heap.size) ∧ (∀ r, v'.ownBlock = some r → r < w'.heap.size) ∧ ∃ g cap, v' = .slice (some ⟨g, 0, none⟩) (zss.length + 1) cap := by
  have hm : zss.length + 1 ≤ maxLen := by
    have : (zss.length + 1) * 1 ≤ (zss.length + 1) * bytes := Nat.mul_le_mul_left _ hb1
    unfold maxLen; omega
  have h0 := hown
  obtain ⟨us, e1, h1, h2, h3, h4⟩ := hown
  have ho : u.oneCell' = true := by
    rcases hu.2.2.2 with ⟨rfl, _⟩ | ⟨g, cap, cur, rfl, _⟩ <;> rfl
  obtain ⟨v', w', hr, p1, p2, p4, p3⟩ := run_append_own_at (P := P) w 0 tt ty t i (.slice none 0 0) 1 bytes ht hi hz hsize hby rfl (by decide) v us.length us h1 ad 1 c [u] rfl (fun j y hj => by
      have : j = 0 := by have := (List.getElem?_eq_some_iff.1 hj).1; simpa using this
      subst this
      simp at hj
      subst hj
      exact hc) (fun y hy => by simp at hy; subst hy; exact ho) (by omega) (by rw [e1]; exact hle) (Nat.zero_le _)
  refine ⟨v', w', hr, h0.snoc hu hF hlt (fun us' q1 q2 => ?_) p2 p3, p2, p3, fun r hr => (p1.lt r hr).2, ?_⟩
  · have : us' = us := by
      rcases q1.2 with ⟨rfl, q3⟩ | ⟨g, cap, cur, rfl, _, q3, _, _, _, q4⟩
      · have hz' : us'.length = 0 := q3
        have a1 : us' = [] := List.eq_nil_of_length_eq_zero hz'
        have a2 : us = [] := List.eq_nil_of_length_eq_zero (by omega)
        rw [a1, a2]
      · rcases h1.2 with ⟨r1, _⟩ | ⟨g', cap', cur', r1, _, r3, _, _, _, r4⟩
        · cases r1
        · injection r1 with s1 s2 s3
          injection s1 with s1
          injection s1 with s1
          subst s1
          rw [q3] at r3
          injection r3 with r3
          injection r3 with r3
          subst r3
          rw [← q4, ← r4, s2]
    rw [this]
    exact p1
  · rcases p1.2 with ⟨_, q⟩ | ⟨g, cap, cur, q, _⟩
    · omega
    · exact ⟨g, cap, by rw [q, e1]⟩

/-- append of one row of the call's own to a slice of rows of the call's own. -/
theorem append_row {P : Program} (w : World) {ops : Array Oper} {rest : List Oper} {o : Oper} {a : Act} {Q : Exit → Act → World → Prop} (hg : o.guard = none) (s x : Operand) (tt : TypeId)
    (hop : o.op = .call { callee := .builtin .append, args := #[s, x], argTypes := #[tt, tt] }) (t e : TypeId) (i : TypeInfo) (bytes : Nat) (ht : P.underlying tt = some (.slice t)) (hi : P.info? t = some i) (hz : i.zero = some (.slice none 0 0))
    (hsize : i.size = 1) (hby : i.bytes = bytes) (hb1 : 1 ≤ bytes) {k : IntKind} {B E : Nat} {v u : Value} {ad : Addr} {c : Nat} {zss : List (List Int)} {zs : List Int} (hs : a.eval s = v) (hown : Own2 t e k (ival B E) w v zss) (hBE : B ≤ E) (hE : E ≤ w.heap.size)
    (hx : a.eval x = .slice (some ad) 1 c) (hc : w.cell? (ad.add 0) = some u) (hu : Own e k E w u zs) (hle : (zss.length + 1) * bytes ≤ 140737488355328)
    (h : ∀ v' w', Own2 t e k (ival B w'.heap.size) w' v' (zss ++ [zs]) → w.grownBy w' v.ownBlock → wpList P ops Q rest (a.put o.dst v') w') : wpList P ops Q (o :: rest) a w := by
  have hF : ∀ r, u.ownBlock = some r → ¬ ival B E r := fun r hr hi => by
    have := (hu.2.2.lt r hr).1
    unfold ival at hi; omega
  have hlt : ∀ b, ival B E b → b < w.heap.size := fun b hb => by unfold ival at hb; omega
  obtain ⟨v', w', hr, p1, p2, p3, p4, _⟩ := run_append_row (P := P) w tt o.type t e i bytes ht hi hz hsize hby hb1 hown hlt hc (hu.mono (Nat.zero_le _)) hF hle
  refine wpList_plain hg fun K hK => ?_
  unfold Oper.wp
  simp only [execOp, hop, resolve, invoke, builtin, Sem.run_bind, Sem.run_pure, Result.andThen_ok, List.map_toArray, List.map_cons, List.map_nil, hs, hx]
  rw [hr]
  refine hK _ _ (h v' w' (p1.mono fun b hb => ?_) p2)
  have hsz := p2.size
  unfold ival
  rcases hb with hb | hb | hb
  · unfold ival at hb; omega
  · have := hu.2.2.lt b hb; omega
  · have hl := p4 b hb
    rcases p3 with p3 | p3
    · have := hown.in_ b (p3 ▸ hb); unfold ival at this; omega
    · rw [p3] at hb; injection hb with hb; omega

end Go.Proofs.Ytnamgnhplodhoaa
