/- EqualBytes, the program's and the document's. No conditions. -/
import Derived.Test.YtkmfcboejojgmaaDoorRows
import Derived.Test.YtkmfcboejojgmaaDoorBa1
import Derived.WalkKit
import Derived.Handy
import Derived.Outline
import Derived.WalkSpells
import Derived.Lib.Hide
import Derived.Laws.BytesString
namespace Go.Proofs.YtkmfcboejojgmaaDoor
open Go Go.RowKit
set_option linter.unusedVariables false

/-- no byte, as a string, whatever the address. -/
theorem conv_none {P : Program} (w : World) (src e dst : TypeId) (hs : P.underlying src = some (.slice e)) (he : P.underlying e = some (.int .u8)) (hd : P.underlying dst = some .string) (p : Option Addr) (c : Nat) :
    (convert src dst (.slice p 0 c)).run P w = .ok (.string (strOfNums [])) w := by
  rw [run_convert_bytes_string w src dst e _ 0 c hs he hd]
  cases p <;> simp [Conv.bytesToString, loadCells]
  all_goals rfl

/-- bytes, as a string. -/
theorem conv_rd {lim : Nat} {w : World} {v : Value} {zs : List Int} (h : Rd lim .u8 w v zs) : (convert 22 9 v).run Tryd.prog w = .ok (.string (strOfNums zs)) w := by
  by_cases hp : 0 < zs.length
  · obtain ⟨b, o, cap, rfl, h1, h2, hc, hb⟩ := h.at hp
    exact run_convert_bytes_arg (P := Tryd.prog) w 22 5 Tryd.underlying22 Tryd.underlying5 b o zs.length cap zs rfl hc 9 Tryd.underlying9
  · have hz : zs = [] := List.eq_nil_of_length_eq_zero (by omega)
    subst hz
    obtain ⟨a, cap, rfl, h1⟩ := h.empty rfl
    exact conv_none w 22 5 9 Tryd.underlying22 Tryd.underlying5 Tryd.underlying9 a cap

end Go.Proofs.YtkmfcboejojgmaaDoor
