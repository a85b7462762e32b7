/- EqualBytes, the program's and the document's. No conditions. -/
import Derived.Test.YtgobhaemcmmbgaaDoorRows
import Derived.Test.YtgobhaemcmmbgaaDoorBa1
import Derived.WalkKit
import Derived.Handy
import Derived.Outline
import Derived.WalkSpells
import Derived.Lib.Hide
import Derived.Laws.BytesString
namespace Go.Proofs.YtgobhaemcmmbgaaDoor
open Go Go.RowKit
set_option linter.unusedVariables false

/-- no byte, as a string, whatever the address. -/
theorem conv_none {P : Program} (w : World) (src e dst : TypeId) (hs : P.underlying src = some (.slice e)) (he : P.underlying e = some (.int .u8)) (hd : P.underlying dst = some .string) (p : Option Addr) (c : Nat) :
    (convert src dst (.slice p 0 c)).run P w = .ok (.string (strOfNums [])) w := by
  rw [run_convert_bytes_string w src dst e _ 0 c hs he hd]
  cases p <;> simp [Conv.bytesToString, loadCells]
  all_goals rfl

/-- bytes, as a string. -/
theorem conv_rd {lim : Nat} {w : World} {v : Value} {zs : List Int} (h : Rd lim .u8 w v zs) : (convert 22 9 v).run Tryd.prog w = .ok (.string (strOfNums zs)) w := by
  by_cases hp : 0 < zs.length
  · obtain ⟨b, o, cap, rfl, h1, h2, hc, hb⟩ := h.at hp
    exact run_convert_bytes_arg (P := Tryd.prog) w 22 5 Tryd.underlying22 Tryd.underlying5 b o zs.length cap zs rfl hc 9 Tryd.underlying9
  · have hz : zs = [] := List.eq_nil_of_length_eq_zero (by omega)
    subst hz
    obtain ⟨a, cap, rfl, h1⟩ := h.empty rfl
    exact conv_none w 22 5 9 Tryd.underlying22 Tryd.underlying5 Tryd.underlying9 a cap

/-- bytes.Equal. -/
theorem bytes_eb {l1 l2 : Nat} {w : World} {u v : Value} {xs ys : List Int} (hu : Rd l1 .u8 w u xs) (hv : Rd l2 .u8 w v ys) :
    Calls Tryd.prog 73 #[u, v] w fun e w' => e = .returned (.bool ((strOfNums xs).toList == (strOfNums ys).toList)) ∧ w' = w := by
  have c1 := conv_rd hu
  have c2 := conv_rd hv
  clear hu hv
  go_enter Tryd.func73, Tryd.ntmps73
  go_wp2
  go_ret
  exact ⟨rfl, rfl⟩
/-- impl.EqualBytes. -/
theorem impl_eb {l1 l2 : Nat} {w : World} {u v : Value} {xs ys : List Int} (hu : Rd l1 .u8 w u xs) (hv : Rd l2 .u8 w v ys) :
    Calls Tryd.prog 64 #[u, v] w fun e w' => e = .returned (.bool ((strOfNums xs).toList == (strOfNums ys).toList)) ∧ w' = w := by
  have Hu := Lib.hid hu
  have Hv := Lib.hid hv
  clear hu hv
  go_enter Tryd.func64, Tryd.ntmps64
  go_wp2_with fail
  refine (bytes_eb Hu.out Hv.out).mono ?_
  rintro e w1 ⟨rfl, hw1⟩
  subst hw1
  go_wp2_with fail
  go_ret
  exact ⟨rfl, rfl⟩

end Go.Proofs.YtgobhaemcmmbgaaDoor
