/- EqualBytes, the program's and the document's. No conditions. -/
import Derived.Test.YtdlbpeippmibcaaRows
import Derived.Test.YtdlbpeippmibcaaBa1
import Derived.WalkKit
import Derived.Handy
import Derived.Outline
import Derived.WalkSpells
import Derived.Lib.Hide
import Derived.Laws.BytesString
namespace Go.Proofs.Ytdlbpeippmibcaa
open Go Go.RowKit
set_option linter.unusedVariables false

/-- no byte, as a string, whatever the address. -/
theorem conv_none {P : Program} (w : World) (src e dst : TypeId) (hs : P.underlying src = some (.slice e)) (he : P.underlying e = some (.int .u8)) (hd : P.underlying dst = some .string) (p : Option Addr) (c : Nat) :
    (convert src dst (.slice p 0 c)).run P w = .ok (.string (strOfNums [])) w := by
  rw [run_convert_bytes_string w src dst e _ 0 c hs he hd]
  cases p <;> simp [Conv.bytesToString, loadCells]
  all_goals rfl

/-- bytes, as a string. -/
theorem conv_rd {lim : Nat} {w : World} {v : Value} {zs : List Int} (h : Rd lim .u8 w v zs) : (convert 22 9 v).run Try.prog w = .ok (.string (strOfNums zs)) w := by
  by_cases hp : 0 < zs.length
  · obtain ⟨b, o, cap, rfl, h1, h2, hc, hb⟩ := h.at hp
    exact run_convert_bytes_arg (P := Try.prog) w 22 5 Try.underlying22 Try.underlying5 b o zs.length cap zs rfl hc 9 Try.underlying9
  · have hz : zs = [] := List.eq_nil_of_length_eq_zero (by omega)
    subst hz
    obtain ⟨a, cap, rfl, h1⟩ := h.empty rfl
    exact conv_none w 22 5 9 Try.underlying22 Try.underlying5 Try.underlying9 a cap

end Go.Proofs.Ytdlbpeippmibcaa
