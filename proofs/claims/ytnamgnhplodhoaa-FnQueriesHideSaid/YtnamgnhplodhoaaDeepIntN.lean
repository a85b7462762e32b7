/- Lists of lists of numbers: their marks. No program. -/
import Derived.Test.YtnamgnhplodhoaaJ5
import Derived.Test.YtnamgnhplodhoaaCopyInt
namespace Go.Proofs.Ytnamgnhplodhoaa
open Go Go.RowKit
set_option linter.unusedVariables false

/-- The marks from k0 on, row behind row. -/
def marks2Int (k0 : Int) : List (List Int) → List (List Int)
  | [] => []
  | x :: r => marksInt k0 x.length :: marks2Int (k0 + x.length) r

theorem marks2Int_append (k0 : Int) (l r : List (List Int)) : marks2Int k0 (l ++ r) = marks2Int k0 l ++ marks2Int (k0 + fl l) r := by
  induction l generalizing k0 with
  | nil => simp [marks2Int, fl_nil]
  | cons x l ih => simp [marks2Int, ih, fl_cons, Int.add_assoc]
theorem marks2Int_length (k0 : Int) (l : List (List Int)) : (marks2Int k0 l).length = l.length := by
  induction l generalizing k0 with
  | nil => rfl
  | cons x l ih => simp [marks2Int, ih]
theorem marks2Int_fl (k0 : Int) (l : List (List Int)) : fl (marks2Int k0 l) = fl l := by
  induction l generalizing k0 with
  | nil => rfl
  | cons x l ih => simp [marks2Int, fl_cons, ih, marksInt_length]
theorem marks2Int_get {k0 : Int} {zss : List (List Int)} {j : Nat} {zs : List Int} (h : zss[j]? = some zs) : (marks2Int k0 zss)[j]? = some (marksInt (k0 + fl (zss.take j)) zs.length) := by
  obtain ⟨l, r, rfl, rfl⟩ := split_at h
  rw [marks2Int_append, List.getElem?_append_right (by rw [marks2Int_length]; exact Nat.le_refl _), marks2Int_length, List.take_left' rfl]
  simp [marks2Int]
theorem marks2Int_set {k0 : Int} {zss : List (List Int)} {j : Nat} {zs : List Int} (h : zss[j]? = some zs) :
    (marks2Int k0 (zss.take j) ++ zss.drop j).set j (marksInt (k0 + fl (zss.take j)) zs.length) = marks2Int k0 (zss.take (j + 1)) ++ zss.drop (j + 1) := by
  obtain ⟨l, r, rfl, rfl⟩ := split_at h
  rw [List.take_left' rfl, List.drop_left' rfl, List.set_append_right _ _ (by rw [marks2Int_length]; exact Nat.le_refl _), marks2Int_length, Nat.sub_self, List.set_cons_zero]
  have e1 : List.take (l.length + 1) (l ++ zs :: r) = l ++ [zs] := take_mid l r zs
  have e2 : List.drop (l.length + 1) (l ++ zs :: r) = r := drop_mid l r zs
  rw [e1, e2, marks2Int_append]
  simp [marks2Int]

end Go.Proofs.Ytnamgnhplodhoaa
