/- A region that draws its order and whose last store hits a cell that it reads: what it reads may be taken first all the same. No program. -/
import Derived.OrdersHeld
import Derived.Deep.RegionHeld
namespace Go.Proofs.Ytlbijjifeaimjaa
open Go
set_option linter.unusedVariables false

section
variable {P : Program} {ops : Array Oper} {Q : Exit → Act → World → Prop} {md : Region.Mode} {S : World → Prop} {st : Nat}

/-- The order is whatever; behind every operation the cells stand, unless the store st has been carried out. -/
def Till (P : Program) (md : Region.Mode) (ops : Array Oper) (Q : Exit → Act → World → Prop) (S : World → Prop) (st : Nat) : Nat → Array Bool → Act → World → Prop
  | 0, l, a, w => wpAny P md ops Q 0 l a w
  | n + 1, l, a, w => wpAny P md ops Q (n + 1) l a w ∧ ∀ i ∈ Region.ready md ops l, wpOp P ops Q i (fun a' w' => ((l.setIfInBounds i true).getD st false = true ∨ S w') ∧ Till P md ops Q S st n (l.setIfInBounds i true) a' w') a w

theorem Till.any : ∀ {n : Nat} {l : Array Bool} {a : Act} {w : World}, Till P md ops Q S st n l a w → wpAny P md ops Q n l a w
  | 0, _, _, _, h => h
  | _ + 1, _, _, _, h => h.1

/-- Whichever may come up. -/
theorem Till.all {rs : List Nat} {n : Nat} {l : Array Bool} {a : Act} {w : World} (hr : Region.ready md ops l = rs) (hne : rs ≠ [])
    (h : ∀ i ∈ rs, wpOp P ops Q i (fun a' w' => ((l.setIfInBounds i true).getD st false = true ∨ S w') ∧ Till P md ops Q S st n (l.setIfInBounds i true) a' w') a w) : Till P md ops Q S st (n + 1) l a w :=
  ⟨wpAny_all hr hne fun i hi => wpOp_mono (fun _ _ h' => h'.2.any) (h i hi), by rw [hr]; exact h⟩

theorem Till.one {i : Nat} {o : Oper} {n : Nat} {l : Array Bool} {a : Act} {w : World} (hr : Region.ready md ops l = [i]) (ho : ops[i]? = some o)
    (h : ∀ K' : Act → World → Prop, Shut (∀ a w, ((l.setIfInBounds i true).getD st false = true ∨ S w) → Till P md ops Q S st n (l.setIfInBounds i true) a w → K' a w) → if Region.wanted o (yielded ops a.tmps) = true then Oper.wp P o a w K' Q else K' (a.put o.dst undef) w) :
    Till P md ops Q S st (n + 1) l a w :=
  Till.all hr (by simp) fun j hj => by
    obtain rfl : j = i := by simpa using hj
    exact wpOp_step ho (fun K' hK => h K' (fun a w hS hW => hK a w ⟨hS, hW⟩))

theorem Till.two {i j : Nat} {o o' : Oper} {n : Nat} {l : Array Bool} {a : Act} {w : World} (hr : Region.ready md ops l = [i, j]) (ho : ops[i]? = some o) (ho' : ops[j]? = some o')
    (h : ∀ K' : Act → World → Prop, Shut (∀ a w, ((l.setIfInBounds i true).getD st false = true ∨ S w) → Till P md ops Q S st n (l.setIfInBounds i true) a w → K' a w) → if Region.wanted o (yielded ops a.tmps) = true then Oper.wp P o a w K' Q else K' (a.put o.dst undef) w)
    (h' : ∀ K' : Act → World → Prop, Shut (∀ a w, ((l.setIfInBounds j true).getD st false = true ∨ S w) → Till P md ops Q S st n (l.setIfInBounds j true) a w → K' a w) → if Region.wanted o' (yielded ops a.tmps) = true then Oper.wp P o' a w K' Q else K' (a.put o'.dst undef) w) :
    Till P md ops Q S st (n + 1) l a w :=
  Till.all hr (by simp) fun k hk => by
    rcases (show k = i ∨ k = j by simpa using hk) with rfl | rfl
    · exact wpOp_step ho (fun K' hK => h K' (fun a w hS hW => hK a w ⟨hS, hW⟩))
    · exact wpOp_step ho' (fun K' hK => h' K' (fun a w hS hW => hK a w ⟨hS, hW⟩))

theorem Till.done {l : Array Bool} {a : Act} {w : World} (hr : Region.ready md ops l = []) (h : Q .normal a w) : ∀ n, Till P md ops Q S st n l a w
  | 0 => wpAny_done hr h 0
  | n + 1 => ⟨wpAny_done hr h (n + 1), by rw [hr]; simp⟩

/-- Every operation of D but i waits for one of D. -/
def waits (md : Region.Mode) (ops : Array Oper) (D : List Nat) (i : Nat) : Bool :=
  D.all fun j => j == i || match ops[j]? with
    | some o => o.after.any fun e => Region.binds md e && D.contains e.on
    | none => false

theorem not_ready {D : List Nat} {i j : Nat} {l : Array Bool} (hD : waits md ops D i = true) (hl : ∀ k ∈ D, l.getD k false = false) (hj : j ∈ Region.ready md ops l) (hne : j ≠ i) : j ∉ D := fun hjD => by
  obtain ⟨_, o, ho, hall⟩ := mem_ready.1 hj
  have h1 := List.all_eq_true.1 hD j hjD
  simp only [Bool.or_eq_true, beq_iff_eq, hne, false_or, ho] at h1
  obtain ⟨e, he, hb⟩ := Array.any_eq_true'.1 h1
  simp only [Bool.and_eq_true, List.contains_iff_mem] at hb
  have h2 := hl _ hb.2
  rw [hall e he hb.1] at h2
  cases h2

theorem Till.first {i : Nat} {oi : Oper} {v : Value} {D : List Nat} (hi : ops[i]? = some oi) (hsel : ∀ (j : Nat) (o : Oper) cs b, ops[j]? = some o → o.op ≠ .select cs b)
    (hQ : ∀ c a w, Q (.panic c) (a.put oi.dst v) w → Q (.panic c) a w) (hD : waits md ops D i = true) (hst : st ∈ D) (hsi : i ≠ st) :
    ∀ (n : Nat) (l : Array Bool) (a : Act) (w : World), (∀ k ∈ D, l.getD k false = false) →
      (∀ j oj, ops[j]? = some oj → j ≠ i → l.getD j true = false → (∀ e ∈ oj.after, Region.binds md e = true → e.on ≠ i) → oi.apart ops oj = true) →
      i ∈ Region.ready md ops l → YieldsIf P ops S oi v a → S w →
      Till P md ops Q S st n (l.setIfInBounds i true) (a.put oi.dst v) w → Till P md ops Q S st (n + 1) l a w := by
  intro n
  induction n with
  | zero =>
    intro l a w hl _ hr hy hS H
    refine Till.all rfl (fun h => by rw [h] at hr; cases hr) fun j hj => ?_
    by_cases hji : j = i
    · subst hji; exact hy.wpOp hi hS ⟨.inr hS, H⟩
    · have h1 := ready_mono hj hji
      rw [show Region.ready md ops (l.setIfInBounds i true) = [] from H.1] at h1
      cases h1
  | succ n ih =>
    intro l a w hl hfree hr hy hS H
    refine Till.all rfl (fun h => by rw [h] at hr; cases hr) fun j hj => ?_
    by_cases hji : j = i
    · subst hji; exact hy.wpOp hi hS ⟨.inr hS, H⟩
    · have hjD := not_ready hD hl hj hji
      have hl' : ∀ k ∈ D, (l.setIfInBounds j true).getD k false = false := fun k hk => by
        rw [getD_set_ne false (show j ≠ k from fun e => hjD (by rw [e]; exact hk))]; exact hl k hk
      have h1 := H.2 j (ready_mono hj hji)
      obtain ⟨hjun, oj, hoj, hall⟩ := mem_ready.1 hj
      have hnot : ∀ e ∈ oj.after, Region.binds md e = true → e.on ≠ i := fun e he hb heq => by
        have h2 := hall e he hb
        have h0 := (mem_ready.1 hr).1
        rw [heq] at h2
        rcases Nat.lt_or_ge i l.size with h' | h'
        · simp [h'] at h0 h2; rw [h0] at h2; cases h2
        · simp [Array.getElem?_eq_none h'] at h2
      have h2 := wpOp_putIf hoj (hfree j oj hoj hji hjun hnot) (fun cs b => hsel i oi cs b hi) (fun cs b => hsel j oj cs b hoj) hQ hy h1
      refine wpOp_mono (fun a' w' h3 => ?_) h2
      obtain ⟨hy', hS', hT'⟩ := h3
      rw [getD_set_ne false (show j ≠ st from fun e => hjD (by rw [e]; exact hst)), getD_set_ne false hsi, hl st hst] at hS'
      have hS2 : S w' := by
        rcases hS' with h | h
        · cases h
        · exact h
      refine ⟨.inr hS2, ih (l.setIfInBounds j true) a' w' hl' (fun k ok hk hki hun hno => ?_) (ready_mono hr (Ne.symm hji)) hy' hS2 ?_⟩
      · refine hfree k ok hk hki ?_ hno
        by_cases hjk : j = k
        · subst hjk; exact hjun
        · rw [getD_set_ne true hjk] at hun; exact hun
      · rw [Array.setIfInBounds_comm _ _ hji]
        exact hT'

/-- Number i first. D: i, the store, and what lies between. -/
theorem Till.take {i : Nat} {oi : Oper} {v : Value} {n : Nat} {l : Array Bool} {a : Act} {w : World} (D : List Nat) (hi : ops[i]? = some oi)
    (hs : Region.noSelect ops = true) (hD : (waits md ops D i && D.contains st && !(i == st) && D.all (fun k => !l.getD k false)) = true) (hf : Region.free md ops l i = true) (hr : (Region.ready md ops l).contains i = true)
    (hQ : ∀ c a w, Q (.panic c) (a.put oi.dst v) w → Q (.panic c) a w) (hy : YieldsIf P ops S oi v a) (hS : S w)
    (h : Till P md ops Q S st n (l.setIfInBounds i true) (a.put oi.dst v) w) : Till P md ops Q S st (n + 1) l a w := by
  simp only [Bool.and_eq_true, List.contains_iff_mem, Bool.not_eq_true', beq_eq_false_iff_ne] at hD
  obtain ⟨⟨⟨h1, h2⟩, h3⟩, h4⟩ := hD
  exact Till.first hi (Region.noSelect_spec hs) hQ h1 h2 h3 n l a w (fun k hk => by simpa using List.all_eq_true.1 h4 k hk) (Region.free_spec hi hf) (by simpa using hr) hy hS h

theorem region_till {id : Nat} {a : Act} {w : World} (S : World → Prop) (st : Nat) (hm : P.follows .mixedOrders = true) (h : Till P .any ops Q S st ops.size (Array.replicate ops.size false) a w.drew) : (Code.region id ops true).wp P Q a w :=
  wp_region_any hm h.any
end

end Go.Proofs.Ytlbijjifeaimjaa
