import Derived.Test.YtnamgnhplodhoaaDeep
import Derived.Test.YtnamgnhplodhoaaCopyByte
import Derived.Test.YtnamgnhplodhoaaRows
import Derived.Test.YtnamgnhplodhoaaRd
import Derived.WalkKit
import Derived.Handy
import Derived.Outline
import Derived.WalkSpells
import Derived.Lib.Hide
import Derived.Laws.BytesString

/- Lists of lists: how much they hold, and their marks. No program. -/
section
namespace Go.Proofs.Ytnamgnhplodhoaa
open Go Go.RowKit
set_option linter.unusedVariables false

/-- The elements of all the rows. -/
def fl (zss : List (List Int)) : Nat := (zss.map List.length).sum
/-- What the exact laws count: the rows and their elements. -/
def tot (zss : List (List Int)) : Nat := zss.length + fl zss

theorem fl_nil : fl [] = 0 := rfl
theorem fl_cons (x : List Int) (r : List (List Int)) : fl (x :: r) = x.length + fl r := by simp [fl]
theorem fl_append (l r : List (List Int)) : fl (l ++ r) = fl l + fl r := by simp [fl, List.sum_append]
theorem fl_eq_join (l : List (List Int)) : fl l = l.flatten.length := by rw [List.length_flatten]; rfl

theorem split_at {α : Type} {zss : List α} {j : Nat} {zs : α} (h : zss[j]? = some zs) : ∃ l r, zss = l ++ zs :: r ∧ l.length = j := by
  obtain ⟨hj, he⟩ := List.getElem?_eq_some_iff.1 h
  refine ⟨zss.take j, zss.drop (j + 1), ?_, by simp; omega⟩
  rw [← he, List.getElem_cons_drop, List.take_append_drop]

theorem take_mid {α : Type} (l r : List α) (z : α) : List.take (l.length + 1) (l ++ z :: r) = l ++ [z] := by
  rw [List.take_append, List.take_of_length_le (by omega)]; simp
theorem drop_mid {α : Type} (l r : List α) (z : α) : List.drop (l.length + 1) (l ++ z :: r) = r := by
  rw [List.drop_append, List.drop_of_length_le (by omega)]; simp
theorem fl_take {zss : List (List Int)} {j : Nat} {zs : List Int} (h : zss[j]? = some zs) : fl (zss.take (j + 1)) = fl (zss.take j) + zs.length := by
  obtain ⟨l, r, rfl, rfl⟩ := split_at h
  rw [List.take_left' rfl, take_mid]
  simp [fl_append, fl_cons, fl_nil]
theorem fl_take_le (zss : List (List Int)) (j : Nat) : fl (zss.take j) ≤ fl zss := by
  conv => rhs; rw [← List.take_append_drop j zss, fl_append]
  omega
theorem fl_at {zss : List (List Int)} {j : Nat} {zs : List Int} (h : zss[j]? = some zs) : fl (zss.take j) + zs.length ≤ fl zss := by
  rw [← fl_take h]; exact fl_take_le _ _
theorem fl_full (zss : List (List Int)) : fl (zss.take zss.length) = fl zss := by rw [List.take_length]
theorem tot_at {zss : List (List Int)} {j : Nat} {zs : List Int} (h : zss[j]? = some zs) : zs.length ≤ tot zss := by
  have := fl_at h; unfold tot; omega

/-- The marks from k0 on, row behind row. -/
def marks2Byte (k0 : Int) : List (List Int) → List (List Int)
  | [] => []
  | x :: r => marksByte k0 x.length :: marks2Byte (k0 + x.length) r

theorem marks2Byte_append (k0 : Int) (l r : List (List Int)) : marks2Byte k0 (l ++ r) = marks2Byte k0 l ++ marks2Byte (k0 + fl l) r := by
  induction l generalizing k0 with
  | nil => simp [marks2Byte, fl_nil]
  | cons x l ih => simp [marks2Byte, ih, fl_cons, Int.add_assoc]
theorem marks2Byte_length (k0 : Int) (l : List (List Int)) : (marks2Byte k0 l).length = l.length := by
  induction l generalizing k0 with
  | nil => rfl
  | cons x l ih => simp [marks2Byte, ih]
theorem marks2Byte_fl (k0 : Int) (l : List (List Int)) : fl (marks2Byte k0 l) = fl l := by
  induction l generalizing k0 with
  | nil => rfl
  | cons x l ih => simp [marks2Byte, fl_cons, ih, marksByte_length]
theorem marks2Byte_get {k0 : Int} {zss : List (List Int)} {j : Nat} {zs : List Int} (h : zss[j]? = some zs) : (marks2Byte k0 zss)[j]? = some (marksByte (k0 + fl (zss.take j)) zs.length) := by
  obtain ⟨l, r, rfl, rfl⟩ := split_at h
  rw [marks2Byte_append, List.getElem?_append_right (by rw [marks2Byte_length]; exact Nat.le_refl _), marks2Byte_length, List.take_left' rfl]
  simp [marks2Byte]
theorem marks2Byte_set {k0 : Int} {zss : List (List Int)} {j : Nat} {zs : List Int} (h : zss[j]? = some zs) :
    (marks2Byte k0 (zss.take j) ++ zss.drop j).set j (marksByte (k0 + fl (zss.take j)) zs.length) = marks2Byte k0 (zss.take (j + 1)) ++ zss.drop (j + 1) := by
  obtain ⟨l, r, rfl, rfl⟩ := split_at h
  rw [List.take_left' rfl, List.drop_left' rfl, List.set_append_right _ _ (by rw [marks2Byte_length]; exact Nat.le_refl _), marks2Byte_length, Nat.sub_self, List.set_cons_zero]
  have e1 : List.take (l.length + 1) (l ++ zs :: r) = l ++ [zs] := take_mid l r zs
  have e2 : List.drop (l.length + 1) (l ++ zs :: r) = r := drop_mid l r zs
  rw [e1, e2, marks2Byte_append]
  simp [marks2Byte]
theorem mid_get {α : Type} {xs ys : List α} {j : Nat} {z : α} (hx : xs.length = j) (h : ys[j]? = some z) : (xs ++ ys.drop j)[j]? = some z := by
  rw [List.getElem?_append_right (by omega), hx, Nat.sub_self, List.getElem?_drop, Nat.add_zero]; exact h
theorem fill_set {zss : List (List Int)} {j : Nat} {zs : List Int} (h : zss[j]? = some zs) :
    (zss.take j ++ List.replicate (zss.length - j) []).set j zs = zss.take (j + 1) ++ List.replicate (zss.length - (j + 1)) [] := by
  obtain ⟨l, r, rfl, rfl⟩ := split_at h
  have e0 : (l ++ zs :: r).length - l.length = r.length + 1 := by simp
  have e3 : (l ++ zs :: r).length - (l.length + 1) = r.length := by simp; omega
  have e1 : List.take (l.length + 1) (l ++ zs :: r) = l ++ [zs] := take_mid l r zs
  rw [e0, e3, e1, List.take_left' rfl, List.set_append_right _ _ (Nat.le_refl _), Nat.sub_self, List.replicate_succ, List.set_cons_zero]
  simp

end Go.Proofs.Ytnamgnhplodhoaa
end

/- EqualBytes, the program's and the document's. No conditions. -/
section
namespace Go.Proofs.Ytnamgnhplodhoaa
open Go Go.RowKit
set_option linter.unusedVariables false

/-- no byte, as a string, whatever the address. -/
theorem conv_none {P : Program} (w : World) (src e dst : TypeId) (hs : P.underlying src = some (.slice e)) (he : P.underlying e = some (.int .u8)) (hd : P.underlying dst = some .string) (p : Option Addr) (c : Nat) :
    (convert src dst (.slice p 0 c)).run P w = .ok (.string (strOfNums [])) w := by
  rw [run_convert_bytes_string w src dst e _ 0 c hs he hd]
  cases p <;> simp [Conv.bytesToString, loadCells]
  all_goals rfl

/-- bytes, as a string. -/
theorem conv_rd {lim : Nat} {w : World} {v : Value} {zs : List Int} (h : Rd lim .u8 w v zs) : (convert 22 9 v).run Try.prog w = .ok (.string (strOfNums zs)) w := by
  by_cases hp : 0 < zs.length
  · obtain ⟨b, o, cap, rfl, h1, h2, hc, hb⟩ := h.at hp
    exact run_convert_bytes_arg (P := Try.prog) w 22 5 Try.underlying22 Try.underlying5 b o zs.length cap zs rfl hc 9 Try.underlying9
  · have hz : zs = [] := List.eq_nil_of_length_eq_zero (by omega)
    subst hz
    obtain ⟨a, cap, rfl, h1⟩ := h.empty rfl
    exact conv_none w 22 5 9 Try.underlying22 Try.underlying5 Try.underlying9 a cap

end Go.Proofs.Ytnamgnhplodhoaa
end
