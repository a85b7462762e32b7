/- Slices of integers and of flat structs, as the older texts say it and as the general one does. No program. -/
import Derived.Test.YtngdcnocjgibkaaBaT
namespace Go.Proofs.Ytngdcnocjgibkaa
open Go Go.RowKit
set_option linter.unusedVariables false

section
variable {α : Type} {e : TypeId} {T : Ty α} {F : Nat → Prop} {w : World} {xs : List α} {v : Value} {l : Nat}

/-- A type whose values lie in their cells alone. -/
def FlatAs (T : Ty α) (E : Enc α) : Prop := T.sz = E.sz ∧ (∀ (l : Nat) (w : World) (cs : List Value) (x : α), T.rd l w cs x ↔ cs = E.en x ∧ E.ok x) ∧ ∀ (F : Nat → Prop) (w : World) (cs : List Value) (x : α), T.own F w cs x ↔ cs = E.en x ∧ E.ok x

theorem rds_of_sl {E : Enc α} (hT : FlatAs T E) (h : (sliceT e T).rd l w [v] xs) : RdS E l w v xs := by
  obtain ⟨e0, e1, _⟩ := hT
  obtain ⟨a, cap, hv, h1, h2, h3⟩ := h
  injection hv with hv
  subst hv
  rcases h3 with ⟨rfl, rfl⟩ | ⟨p, rfl, h5, h6⟩
  · have : xs = [] := List.eq_nil_of_length_eq_zero (by omega)
    subst this
    exact RdS.nil E l w
  · refine ⟨fun x hx => ?_, some p, cap, rfl, h1, h2, .inr ⟨p, rfl, fun i x hi j u hu => ?_, h5⟩⟩
    · obtain ⟨i, hi⟩ := List.mem_iff_getElem?.1 hx
      obtain ⟨c, q1, _⟩ := h6 i x hi
      exact ((e1 _ _ _ _).1 q1).2
    · obtain ⟨c, q1, q2⟩ := h6 i x hi
      obtain ⟨rfl, _⟩ := (e1 _ _ _ _).1 q1
      rw [← e0]
      exact q2 j u hu
theorem sl_of_rds {E : Enc α} (hT : FlatAs T E) (h : RdS E l w v xs) : (sliceT e T).rd l w [v] xs := by
  obtain ⟨e0, e1, _⟩ := hT
  obtain ⟨hw, a, cap, rfl, h1, h2, h3⟩ := h
  refine ⟨a, cap, rfl, h1, h2, ?_⟩
  rcases h3 with h3 | ⟨p, rfl, h5, h6⟩
  · exact .inl h3
  · refine .inr ⟨p, rfl, h6, fun i x hi => ⟨E.en x, (e1 _ _ _ _).2 ⟨rfl, hw x (List.mem_of_getElem? hi)⟩, fun j u hu => ?_⟩⟩
    rw [e0]
    exact h5 i x hi j u hu
theorem slo_of_ownS_in {E : Enc α} {B : Nat} (hT : FlatAs T E) (h : OwnS E e B w v xs) (hF : In F v) : (sliceT e T).own F w [v] xs := by
  obtain ⟨e0, _, e1⟩ := hT
  obtain ⟨hw, hB, ho⟩ := h
  have hfl : (xs.map E.en).flatten = xs.flatMap E.en := by rw [List.flatMap_def]
  refine ⟨v, xs.map E.en, fun _ _ => False, rfl, by simp, ?_, hF, fun i c x hc hx => ?_, fun _ _ _ _ h => h.elim⟩
  · rw [hfl, e0]
    rcases ho with ⟨p1, p2 | ⟨g, cap, cur, p2, p3, p4⟩⟩
    · exact ⟨p1, .inl p2⟩
    · exact ⟨p1, .inr ⟨g, cap, cur, p2, Nat.zero_le _, p4⟩⟩
  · rw [List.getElem?_map, hx] at hc
    injection hc with hc
    exact ⟨(e1 _ _ _ _).2 ⟨hc.symm, hw x (List.mem_of_getElem? hx)⟩, fun b hb => hb.elim⟩
theorem slo_of_ownS {E : Enc α} {B : Nat} (hT : FlatAs T E) (h : OwnS E e B w v xs) (hF : ∀ b, B ≤ b → b < w.heap.size → F b) : (sliceT e T).own F w [v] xs :=
  slo_of_ownS_in hT h fun r hr => hF r (h.lt r hr).1 (h.lt r hr).2
theorem ownS_of_slo {E : Enc α} (hT : FlatAs T E) (h : (sliceT e T).own F w [v] xs) : OwnS E e 0 w v xs ∧ In F v := by
  obtain ⟨e0, _, e1⟩ := hT
  obtain ⟨v', css, Fs, hv, h1, h2, h3, h4, h5⟩ := h
  injection hv with hv
  subst hv
  have hc : css = xs.map E.en := by
    apply List.ext_getElem?
    intro i
    by_cases hi : i < xs.length
    · have hc := List.getElem?_eq_getElem (l := css) (i := i) (by omega)
      have hx := List.getElem?_eq_getElem (l := xs) (i := i) hi
      have := ((e1 _ _ _ _).1 (h4 i _ _ hc hx).1).1
      rw [List.getElem?_map, hx, hc, this]
      rfl
    · rw [List.getElem?_eq_none (by omega), List.getElem?_eq_none (by simp; omega)]
  refine ⟨⟨fun x hx => ?_, Nat.zero_le _, ?_⟩, h3⟩
  · obtain ⟨i, hi⟩ := List.mem_iff_getElem?.1 hx
    have hlt := (List.getElem?_eq_some_iff.1 hi).1
    have hc := List.getElem?_eq_getElem (l := css) (i := i) (by omega)
    exact ((e1 _ _ _ _).1 (h4 i _ _ hc hi).1).2
  · rw [hc, e0] at h2
    rw [List.flatMap_def]
    exact h2
end

section
variable {e t : TypeId} {F : Nat → Prop} {w : World} {v : Value} {l : Nat} {k : IntKind} {f : Int → Int} {hz : (Lit.int k 0).wf = true} {zs : List Int} {zss : List (List Int)}

theorem rd_of_sl (h : (sliceT e (intT k f hz)).rd l w [v] zs) : Rd l k w v zs := by
  obtain ⟨a, cap, hv, h1, h2, h3⟩ := h
  injection hv with hv
  subst hv
  rcases h3 with ⟨rfl, rfl⟩ | ⟨p, rfl, h5, h6⟩
  · have : zs = [] := List.eq_nil_of_length_eq_zero (by omega)
    subst this
    exact ⟨by simp, none, 0, rfl, by simp, by unfold maxLen; omega, .inl ⟨rfl, rfl⟩⟩
  · refine ⟨fun x hx => ?_, some p, cap, rfl, h1, h2, .inr ⟨p, rfl, fun i hi => ?_, h5⟩⟩
    · obtain ⟨i, hi⟩ := List.mem_iff_getElem?.1 hx
      obtain ⟨c, q1, _⟩ := h6 i x hi
      exact q1.2
    · obtain ⟨c, q1, q2⟩ := h6 i _ (List.getElem?_eq_getElem hi)
      have hc : c = [.int k (zs[i]'hi)] := q1.1
      subst hc
      have := q2 0 _ rfl
      have e1 : i * (intT k f hz).sz + 0 = i := by show i * 1 + 0 = i; omega
      rw [e1] at this
      rw [this, List.getD_eq_getElem?_getD, List.getElem?_eq_getElem hi]
      rfl
theorem sl_of_rd (h : Rd l k w v zs) : (sliceT e (intT k f hz)).rd l w [v] zs := by
  obtain ⟨hw, a, cap, rfl, h1, h2, h3⟩ := h
  refine ⟨a, cap, rfl, h1, h2, ?_⟩
  rcases h3 with h3 | ⟨p, rfl, h5, h6⟩
  · exact .inl h3
  · refine .inr ⟨p, rfl, h6, fun i x hi => ⟨[.int k x], ⟨rfl, hw x (List.mem_of_getElem? hi)⟩, fun j u hu => ?_⟩⟩
    have hj : j = 0 := by have := (List.getElem?_eq_some_iff.1 hu).1; simpa using this
    subst hj
    have hu' : Value.int k x = u := by simpa using hu
    subst hu'
    have hlt := (List.getElem?_eq_some_iff.1 hi).1
    have e1 : i * (intT k f hz).sz + 0 = i := by show i * 1 + 0 = i; omega
    rw [e1, h5 i hlt, List.getD_eq_getElem?_getD, hi]
    rfl
theorem ints_flatten (k : IntKind) (zs : List Int) : (zs.map fun n => [Value.int k n]).flatten = zs.map (Value.int k) := by
  induction zs with
  | nil => rfl
  | cons z r ih => simp [ih]
theorem slo_of_own_in {B : Nat} (h : Own e k B w v zs) (hF : In F v) : (sliceT e (intT k f hz)).own F w [v] zs := by
  obtain ⟨hw, hB, ho⟩ := h
  refine ⟨v, zs.map fun n => [Value.int k n], fun _ _ => False, rfl, by simp, ?_, hF, fun i c x hc hx => ?_, fun _ _ _ _ h => h.elim⟩
  · rw [ints_flatten]
    rcases ho with ⟨p1, p2 | ⟨g, cap, cur, p2, p3, p4⟩⟩
    · exact ⟨p1, .inl p2⟩
    · exact ⟨p1, .inr ⟨g, cap, cur, p2, Nat.zero_le _, p4⟩⟩
  · rw [List.getElem?_map, hx] at hc
    injection hc with hc
    exact ⟨⟨hc.symm, hw x (List.mem_of_getElem? hx)⟩, fun b hb => hb.elim⟩
theorem slo_of_own {B : Nat} (h : Own e k B w v zs) (hF : ∀ b, B ≤ b → b < w.heap.size → F b) : (sliceT e (intT k f hz)).own F w [v] zs :=
  slo_of_own_in h fun r hr => hF r (h.2.2.lt r hr).1 (h.2.2.lt r hr).2
theorem own_of_slo (h : (sliceT e (intT k f hz)).own F w [v] zs) : Own e k 0 w v zs ∧ In F v := by
  obtain ⟨v', css, Fs, hv, h1, h2, h3, h4, h5⟩ := h
  injection hv with hv
  subst hv
  have hc : css = zs.map fun n => [Value.int k n] := by
    apply List.ext_getElem?
    intro i
    by_cases hi : i < zs.length
    · have hc := List.getElem?_eq_getElem (l := css) (i := i) (by omega)
      have hx := List.getElem?_eq_getElem (l := zs) (i := i) hi
      have : css[i]'(by omega) = [Value.int k (zs[i]'hi)] := (h4 i _ _ hc hx).1.1
      rw [List.getElem?_map, hx, hc, this]
      rfl
    · rw [List.getElem?_eq_none (by omega), List.getElem?_eq_none (by simp; omega)]
  refine ⟨⟨fun x hx => ?_, Nat.zero_le _, ?_⟩, h3⟩
  · obtain ⟨i, hi⟩ := List.mem_iff_getElem?.1 hx
    have hlt := (List.getElem?_eq_some_iff.1 hi).1
    have hc := List.getElem?_eq_getElem (l := css) (i := i) (by omega)
    exact (h4 i _ _ hc hi).1.2
  · rw [hc, ints_flatten] at h2
    exact h2

theorem mkL_i64 (k0 : Int) (zs : List Int) : mkL i64T k0 zs = marksInt k0 zs.length := by
  induction zs generalizing k0 with
  | nil => rfl
  | cons z r ih =>
    rw [mkL, ih]
    show k0 :: marksInt (k0 + (1 : Nat)) r.length = marksInt k0 (r.length + 1)
    unfold marksInt
    rw [List.range_succ_eq_map, List.map_cons, List.map_map]
    simp only [List.cons.injEq]
    refine ⟨by simp, List.map_congr_left fun i _ => ?_⟩
    simp only [Function.comp, Nat.succ_eq_add_one]
    omega
theorem mkL_u8 (k0 : Int) (zs : List Int) : mkL u8T k0 zs = marksByte k0 zs.length := by
  induction zs generalizing k0 with
  | nil => rfl
  | cons z r ih =>
    rw [mkL, ih]
    show k0 % 256 :: marksByte (k0 + (1 : Nat)) r.length = marksByte k0 (r.length + 1)
    unfold marksByte
    rw [List.range_succ_eq_map, List.map_cons, List.map_map]
    simp only [List.cons.injEq]
    refine ⟨by simp, List.map_congr_left fun i _ => ?_⟩
    simp only [Function.comp, Nat.succ_eq_add_one]
    omega
theorem cntL_int (k : IntKind) (f : Int → Int) (hz : (Lit.int k 0).wf = true) (zs : List Int) : cntL (intT k f hz) zs = zs.length := by
  induction zs with
  | nil => rfl
  | cons z r ih =>
    have : cntL (intT k f hz) (z :: r) = 1 + cntL (intT k f hz) r := rfl
    rw [this, ih, List.length_cons]; omega
theorem totL_int (k : IntKind) (f : Int → Int) (hz : (Lit.int k 0).wf = true) (zs : List Int) : totL (intT k f hz) zs = zs.length := by
  induction zs with
  | nil => rfl
  | cons z r ih =>
    have : totL (intT k f hz) (z :: r) = r.length + 1 + (0 + (r.map fun _ => 0).sum) := rfl
    have h2 : totL (intT k f hz) r = r.length + (r.map fun _ => 0).sum := rfl
    rw [h2] at ih
    rw [this, List.length_cons]; omega
end

end Go.Proofs.Ytngdcnocjgibkaa
