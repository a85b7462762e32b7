import Derived.Test.YtnamgnhplodhoaaDeepByte
import Derived.Test.YtnamgnhplodhoaaJ2
import Derived.Test.YtnamgnhplodhoaaJ5
import Derived.Test.YtnamgnhplodhoaaMade
import Derived.Test.YtnamgnhplodhoaaDeep
import Derived.Test.YtnamgnhplodhoaaCopyByte

/- Copies of rows; one row appended to rows: what each gives. No conditions but a size that a machine holds. -/
section
namespace Go.Proofs.Ytnamgnhplodhoaa
open Go Go.RowKit
set_option linter.unusedVariables false

/-- The rows' head. -/
theorem rd2_head {lim n : Nat} {k : IntKind} {w : World} {u : Value} {us : List Value} {zss : List (List Int)} (hl : us.length = zss.length) (hr : RdV lim w u (us.take n))
    (h : ∀ (i : Nat) (u : Value) (zs : List Int), us[i]? = some u → zss[i]? = some zs → Rd lim k w u zs) : Rd2 lim k w u (zss.take n) := by
  refine ⟨us.take n, by simp [hl], hr, fun i y z hy hz => ?_⟩
  rw [List.getElem?_take] at hy hz
  split at hy
  · rename_i hi
    rw [if_pos hi] at hz
    exact h i y z hy hz
  · cases hy

/-- append of one row of the call's own to a slice of rows of the call's own, whatever their blocks. -/
theorem append_rowF {P : Program} (w : World) {ops : Array Oper} {rest : List Oper} {o : Oper} {a : Act} {Q : Exit → Act → World → Prop} (hg : o.guard = none) (s x : Operand) (tt : TypeId)
    (hop : o.op = .call { callee := .builtin .append, args := #[s, x], argTypes := #[tt, tt] }) (t e : TypeId) (i : TypeInfo) (bytes : Nat) (ht : P.underlying tt = some (.slice t)) (hi : P.info? t = some i) (hz : i.zero = some (.slice none 0 0))
    (hsize : i.size = 1) (hby : i.bytes = bytes) (hb1 : 1 ≤ bytes) {k : IntKind} {F : Nat → Prop} {v u : Value} {ad : Addr} {c : Nat} {zss : List (List Int)} {zs : List Int} (hs : a.eval s = v) (hown : Own2 t e k F w v zss) (hlt : ∀ b, F b → b < w.heap.size)
    (hx : a.eval x = .slice (some ad) 1 c) (hc : w.cell? (ad.add 0) = some u) (hu : Own e k 0 w u zs) (hF : ∀ r, u.ownBlock = some r → ¬ F r) (hle : (zss.length + 1) * bytes ≤ 140737488355328)
    (h : ∀ v' w', Own2 t e k (fun b => F b ∨ u.ownBlock = some b ∨ v'.ownBlock = some b) w' v' (zss ++ [zs]) → w.grownBy w' v.ownBlock → (v'.ownBlock = v.ownBlock ∨ v'.ownBlock = some w.heap.size) → (∀ r, v'.ownBlock = some r → r < w'.heap.size) →
      wpList P ops Q rest (a.put o.dst v') w') : wpList P ops Q (o :: rest) a w := by
  obtain ⟨v', w', hr, p1, p2, p3, p4, _⟩ := run_append_row (P := P) w tt o.type t e i bytes ht hi hz hsize hby hb1 hown hlt hc hu hF hle
  refine wpList_plain hg fun K hK => ?_
  unfold Oper.wp
  simp only [execOp, hop, resolve, invoke, builtin, Sem.run_bind, Sem.run_pure, Result.andThen_ok, List.map_toArray, List.map_cons, List.map_nil, hs, hx]
  rw [hr]
  exact hK _ _ (h v' w' p1 p2 p3 p4)

theorem made_start {t e : TypeId} {k : IntKind} {B g n : Nat} {w1 : World} (ho : w1.ownsRow g t 1 (.slice (some ⟨g, 0, none⟩) n n) n (madeCells #[.slice none 0 0] n).toList) (hB : B ≤ g) :
    Own2 t e k (ival B w1.heap.size) w1 (.slice (some ⟨g, 0, none⟩) n n) (List.replicate n []) := by
  rw [toList_madeCells_one] at ho
  have hlt := (ho.lt g rfl).2
  refine Own2.made ?_ ⟨hB, hlt⟩
  obtain ⟨p1, p2⟩ := ho
  exact ⟨p1, by rcases p2 with p2 | ⟨g', cap, cur, q1, q2, q3⟩; exact .inl p2; exact .inr ⟨g', cap, cur, q1, Nat.zero_le _, q3⟩⟩

/-- A row of its own is stored into an element. -/
theorem put_ival {t e : TypeId} {k : IntKind} {B E g n j : Nat} {w : World} {u : Value} {zss : List (List Int)} {zs : List Int} (h : Own2 t e k (ival B E) w (.slice (some ⟨g, 0, none⟩) n n) zss) (hu : Own e k E w u zs) (hBE : B ≤ E) (hE : E ≤ w.heap.size) :
    Own2 t e k (ival B (w.setCell ⟨g, j, none⟩ u).heap.size) (w.setCell ⟨g, j, none⟩ u) (.slice (some ⟨g, 0, none⟩) n n) (zss.set j zs) ∧ w.grownBy (w.setCell ⟨g, j, none⟩ u) (some g) ∧ B ≤ g := by
  have hF : ∀ r, u.ownBlock = some r → ¬ ival B E r := fun r hr hi => by
    have := (hu.lt r hr).1
    unfold ival at hi; omega
  have hg : ival B E g := h.in_ g rfl
  obtain ⟨p1, p2⟩ := h.put (j := j) (hu.mono (Nat.zero_le _)) hF
  refine ⟨p1.mono fun b hb => ?_, p2, hg.1⟩
  have es : (w.setCell ⟨g, j, none⟩ u).heap.size = w.heap.size := by simp [World.setCell]
  rw [es]
  rcases hb with hb | hb
  · unfold ival at hb ⊢; omega
  · have := hu.lt b hb
    unfold ival; omega

end Go.Proofs.Ytnamgnhplodhoaa
end

/- Lists of lists: how much they hold, and their marks. No program. -/
section
namespace Go.Proofs.Ytnamgnhplodhoaa
open Go Go.RowKit
set_option linter.unusedVariables false

/-- The elements of all the rows. -/
def fl (zss : List (List Int)) : Nat := (zss.map List.length).sum
/-- What the exact laws count: the rows and their elements. -/
def tot (zss : List (List Int)) : Nat := zss.length + fl zss

theorem fl_nil : fl [] = 0 := rfl
theorem fl_cons (x : List Int) (r : List (List Int)) : fl (x :: r) = x.length + fl r := by simp [fl]
theorem fl_append (l r : List (List Int)) : fl (l ++ r) = fl l + fl r := by simp [fl, List.sum_append]
theorem fl_eq_join (l : List (List Int)) : fl l = l.flatten.length := by rw [List.length_flatten]; rfl

theorem split_at {α : Type} {zss : List α} {j : Nat} {zs : α} (h : zss[j]? = some zs) : ∃ l r, zss = l ++ zs :: r ∧ l.length = j := by
  obtain ⟨hj, he⟩ := List.getElem?_eq_some_iff.1 h
  refine ⟨zss.take j, zss.drop (j + 1), ?_, by simp; omega⟩
  rw [← he, List.getElem_cons_drop, List.take_append_drop]

theorem take_mid {α : Type} (l r : List α) (z : α) : List.take (l.length + 1) (l ++ z :: r) = l ++ [z] := by
  rw [List.take_append, List.take_of_length_le (by omega)]; simp
theorem drop_mid {α : Type} (l r : List α) (z : α) : List.drop (l.length + 1) (l ++ z :: r) = r := by
  rw [List.drop_append, List.drop_of_length_le (by omega)]; simp
theorem fl_take {zss : List (List Int)} {j : Nat} {zs : List Int} (h : zss[j]? = some zs) : fl (zss.take (j + 1)) = fl (zss.take j) + zs.length := by
  obtain ⟨l, r, rfl, rfl⟩ := split_at h
  rw [List.take_left' rfl, take_mid]
  simp [fl_append, fl_cons, fl_nil]
theorem fl_take_le (zss : List (List Int)) (j : Nat) : fl (zss.take j) ≤ fl zss := by
  conv => rhs; rw [← List.take_append_drop j zss, fl_append]
  omega
theorem fl_at {zss : List (List Int)} {j : Nat} {zs : List Int} (h : zss[j]? = some zs) : fl (zss.take j) + zs.length ≤ fl zss := by
  rw [← fl_take h]; exact fl_take_le _ _
theorem fl_full (zss : List (List Int)) : fl (zss.take zss.length) = fl zss := by rw [List.take_length]
theorem tot_at {zss : List (List Int)} {j : Nat} {zs : List Int} (h : zss[j]? = some zs) : zs.length ≤ tot zss := by
  have := fl_at h; unfold tot; omega

/-- The marks from k0 on, row behind row. -/
def marks2Byte (k0 : Int) : List (List Int) → List (List Int)
  | [] => []
  | x :: r => marksByte k0 x.length :: marks2Byte (k0 + x.length) r

theorem marks2Byte_append (k0 : Int) (l r : List (List Int)) : marks2Byte k0 (l ++ r) = marks2Byte k0 l ++ marks2Byte (k0 + fl l) r := by
  induction l generalizing k0 with
  | nil => simp [marks2Byte, fl_nil]
  | cons x l ih => simp [marks2Byte, ih, fl_cons, Int.add_assoc]
theorem marks2Byte_length (k0 : Int) (l : List (List Int)) : (marks2Byte k0 l).length = l.length := by
  induction l generalizing k0 with
  | nil => rfl
  | cons x l ih => simp [marks2Byte, ih]
theorem marks2Byte_fl (k0 : Int) (l : List (List Int)) : fl (marks2Byte k0 l) = fl l := by
  induction l generalizing k0 with
  | nil => rfl
  | cons x l ih => simp [marks2Byte, fl_cons, ih, marksByte_length]
theorem marks2Byte_get {k0 : Int} {zss : List (List Int)} {j : Nat} {zs : List Int} (h : zss[j]? = some zs) : (marks2Byte k0 zss)[j]? = some (marksByte (k0 + fl (zss.take j)) zs.length) := by
  obtain ⟨l, r, rfl, rfl⟩ := split_at h
  rw [marks2Byte_append, List.getElem?_append_right (by rw [marks2Byte_length]; exact Nat.le_refl _), marks2Byte_length, List.take_left' rfl]
  simp [marks2Byte]
theorem marks2Byte_set {k0 : Int} {zss : List (List Int)} {j : Nat} {zs : List Int} (h : zss[j]? = some zs) :
    (marks2Byte k0 (zss.take j) ++ zss.drop j).set j (marksByte (k0 + fl (zss.take j)) zs.length) = marks2Byte k0 (zss.take (j + 1)) ++ zss.drop (j + 1) := by
  obtain ⟨l, r, rfl, rfl⟩ := split_at h
  rw [List.take_left' rfl, List.drop_left' rfl, List.set_append_right _ _ (by rw [marks2Byte_length]; exact Nat.le_refl _), marks2Byte_length, Nat.sub_self, List.set_cons_zero]
  have e1 : List.take (l.length + 1) (l ++ zs :: r) = l ++ [zs] := take_mid l r zs
  have e2 : List.drop (l.length + 1) (l ++ zs :: r) = r := drop_mid l r zs
  rw [e1, e2, marks2Byte_append]
  simp [marks2Byte]
theorem mid_get {α : Type} {xs ys : List α} {j : Nat} {z : α} (hx : xs.length = j) (h : ys[j]? = some z) : (xs ++ ys.drop j)[j]? = some z := by
  rw [List.getElem?_append_right (by omega), hx, Nat.sub_self, List.getElem?_drop, Nat.add_zero]; exact h
theorem fill_set {zss : List (List Int)} {j : Nat} {zs : List Int} (h : zss[j]? = some zs) :
    (zss.take j ++ List.replicate (zss.length - j) []).set j zs = zss.take (j + 1) ++ List.replicate (zss.length - (j + 1)) [] := by
  obtain ⟨l, r, rfl, rfl⟩ := split_at h
  have e0 : (l ++ zs :: r).length - l.length = r.length + 1 := by simp
  have e3 : (l ++ zs :: r).length - (l.length + 1) = r.length := by simp; omega
  have e1 : List.take (l.length + 1) (l ++ zs :: r) = l ++ [zs] := take_mid l r zs
  rw [e0, e3, e1, List.take_left' rfl, List.set_append_right _ _ (Nat.le_refl _), Nat.sub_self, List.replicate_succ, List.set_cons_zero]
  simp

end Go.Proofs.Ytnamgnhplodhoaa
end
