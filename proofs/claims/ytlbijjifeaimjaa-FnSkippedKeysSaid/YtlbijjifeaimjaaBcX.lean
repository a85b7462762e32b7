/- XorBytes, the program's and the document's: what each gives. No conditions but a length that a machine holds. EqualBytes, the program's and the document's. No conditions. IsZeroBytes, XorAll, EqualLists, the program's and the document's; the document's JoinBytes: what each gives. No conditions but a size that a machine holds. -/
import Derived.Test.YtlbijjifeaimjaaRows
import Derived.Test.YtlbijjifeaimjaaBa1
import Derived.Test.YtlbijjifeaimjaaBa3
import Derived.Test.YtlbijjifeaimjaaEnc
import Derived.Test.YtlbijjifeaimjaaBa8
import Derived.Test.YtlbijjifeaimjaaBa7
import Derived.Test.YtlbijjifeaimjaaBaM
import Derived.WalkKit
import Derived.Handy
import Derived.Outline
import Derived.WalkSpells
import Derived.Deep.QuietTactic
import Derived.BigQuiet
import Derived.Lib.Hide
import Derived.Laws.BytesString
import Derived.Test.YtlbijjifeaimjaaBa5
import Derived.Lib.Bytes

/-! Xor -/
namespace Go.Proofs.Ytlbijjifeaimjaa
open Go Go.RowKit
set_option linter.unusedVariables false

/-- The smaller one. -/
def mn (a b : Int) : Int := if b < a then b else a
theorem mn_lt {a b : Int} (h : b < a) : mn a b = b := if_pos h
theorem mn_ge {a b : Int} (h : ¬ b < a) : mn a b = a := if_neg h
theorem mn_nat (a b : Nat) : mn (a : Int) (b : Int) = ((min a b : Nat) : Int) := by unfold mn; split <;> omega

theorem impl_mn (a b : Int) (w : World) (ha : (Lit.int .i64 a).wf = true) (hb : (Lit.int .i64 b).wf = true) :
    Calls Try.prog 17 #[.int .i64 a, .int .i64 b] w fun e w' => e = .returned (.int .i64 (mn a b)) ∧ Below w.heap.size w w' := by
  by_cases h1 : b < a
  · have hv := Lib.hid (mn_lt h1)
    go_enter Try.func17, Try.ntmps17
    go_wp2
    go_rounds 2
    all_goals go_ret
    all_goals exact ⟨rint hv.out.symm, (Below.refl w.heap.size w).alloc (Nat.le_refl _) _⟩
  · have hv := Lib.hid (mn_ge h1)
    go_enter Try.func17, Try.ntmps17
    go_wp2
    go_rounds 2
    all_goals go_ret
    all_goals exact ⟨rint hv.out.symm, (Below.refl w.heap.size w).alloc (Nat.le_refl _) _⟩

end Go.Proofs.Ytlbijjifeaimjaa


/-! EqB -/
namespace Go.Proofs.Ytlbijjifeaimjaa
open Go Go.RowKit
set_option linter.unusedVariables false

/-- no byte, as a string, whatever the address. -/
theorem conv_none {P : Program} (w : World) (src e dst : TypeId) (hs : P.underlying src = some (.slice e)) (he : P.underlying e = some (.int .u8)) (hd : P.underlying dst = some .string) (p : Option Addr) (c : Nat) :
    (convert src dst (.slice p 0 c)).run P w = .ok (.string (strOfNums [])) w := by
  rw [run_convert_bytes_string w src dst e _ 0 c hs he hd]
  cases p <;> simp [Conv.bytesToString, loadCells]
  all_goals rfl

/-- bytes, as a string. -/
theorem conv_rd {lim : Nat} {w : World} {v : Value} {zs : List Int} (h : Rd lim .u8 w v zs) : (convert 22 9 v).run Try.prog w = .ok (.string (strOfNums zs)) w := by
  by_cases hp : 0 < zs.length
  · obtain ⟨b, o, cap, rfl, h1, h2, hc, hb⟩ := h.at hp
    exact run_convert_bytes_arg (P := Try.prog) w 22 5 Try.underlying22 Try.underlying5 b o zs.length cap zs rfl hc 9 Try.underlying9
  · have hz : zs = [] := List.eq_nil_of_length_eq_zero (by omega)
    subst hz
    obtain ⟨a, cap, rfl, h1⟩ := h.empty rfl
    exact conv_none w 22 5 9 Try.underlying22 Try.underlying5 Try.underlying9 a cap

end Go.Proofs.Ytlbijjifeaimjaa


/-! Xor2 -/
namespace Go.Proofs.Ytlbijjifeaimjaa
open Go Go.RowKit
set_option linter.unusedVariables false

/-- Whether all bytes are 0. -/
def isz (xs : List Int) : Bool := decide (∀ i, i < xs.length → xs.getD i 0 = 0)

theorem xorAll_take {zss : List (List Int)} {j : Nat} {zs : List Int} (h : zss[j]? = some zs) : xorl (xorAll (zss.take j)) zs = xorAll (zss.take (j + 1)) := by
  obtain ⟨l, r, rfl, rfl⟩ := split_at h
  rw [List.take_left' rfl, take_mid, xorAll_snoc]
theorem xorAll_len (l : List (List Int)) : (xorAll l).length ≤ fl l := by
  suffices h : ∀ (l : List (List Int)) (acc : List Int), (l.foldl xorl acc).length ≤ acc.length + fl l by
    have := h l []; simpa [xorAll] using this
  intro l
  induction l with
  | nil => intro acc; simp [fl_nil]
  | cons x l ih =>
    intro acc
    have := ih (xorl acc x)
    have h2 := xorl_len_le acc x
    rw [fl_cons]
    simp only [List.foldl_cons]
    omega
theorem flat_take {zss : List (List Int)} {j : Nat} {zs : List Int} (h : zss[j]? = some zs) : (zss.take j).flatten ++ zs = (zss.take (j + 1)).flatten := by
  obtain ⟨l, r, rfl, rfl⟩ := split_at h
  rw [List.take_left' rfl, take_mid]
  simp

/-- Whether two byte strings are the same, as both functions compare them. -/
def eqb (xs ys : List Int) : Bool := (strOfNums xs).toList == (strOfNums ys).toList
theorem eqb_self (xs : List Int) : eqb xs xs = true := by unfold eqb; simp
/-- Whether two lists are the same. -/
def el (xss yss : List (List Int)) : Bool := decide (xss.length = yss.length ∧ ∀ i, i < xss.length → eqb (xss.getD i []) (yss.getD i []) = true)
theorem el_self (xss : List (List Int)) : el xss xss = true := decide_eq_true ⟨rfl, fun _ _ => eqb_self _⟩
theorem u8_inj {x y : Int} (hx : 0 ≤ x ∧ x ≤ 255) (hy : 0 ≤ y ∧ y ≤ 255) (h : UInt8.ofNat x.toNat = UInt8.ofNat y.toNat) : x = y := by
  have := congrArg UInt8.toNat h
  simp at this
  omega
theorem eqb_iff {xs ys : List Int} (hx : U8s xs) (hy : U8s ys) : eqb xs ys = decide (xs = ys) := by
  unfold eqb
  rw [Lib.strOfNums_toList, Lib.strOfNums_toList]
  rw [Bool.eq_iff_iff, decide_eq_true_iff, beq_iff_eq]
  constructor
  · intro h
    have hl : xs.length = ys.length := by rw [← Lib.bytesOf_length xs, h, Lib.bytesOf_length]
    refine list_eq hl fun i hi => u8_inj (hx.get i) (hy.get i) ?_
    have := congrArg (fun l => l[i]?) h
    unfold Lib.bytesOf at this
    simp only [List.getElem?_map, List.getElem?_eq_getElem hi, List.getElem?_eq_getElem (show i < ys.length by omega)] at this
    simpa [List.getD_eq_getElem?_getD, List.getElem?_eq_getElem hi, List.getElem?_eq_getElem (show i < ys.length by omega)] using this
  · rintro rfl; rfl
theorem getD_of {xss : List (List Int)} {i : Nat} {xs : List Int} (h : xss[i]? = some xs) : xss.getD i [] = xs := by rw [List.getD_eq_getElem?_getD, h]; rfl

end Go.Proofs.Ytlbijjifeaimjaa
