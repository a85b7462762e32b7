/- []byte(s): what the new row reads. No conditions but a length that a machine holds. IsValidKey, BytesToInts and DeriveFromString, the program's and the document's: what each gives. No conditions but a length that a machine holds. -/
import Derived.Test.YtdccljmffmlkbaaRows
import Derived.Test.YtdccljmffmlkbaaBa1
import Derived.Laws.IdiomStrings
import Derived.Test.YtdccljmffmlkbaaBa9
import Derived.Test.YtdccljmffmlkbaaBaM

/-! StrB -/
namespace Go.Proofs.Ytdccljmffmlkbaa
open Go Go.RowKit
set_option linter.unusedVariables false

/-- The bytes of a string as numbers. -/
def nums (s : ByteArray) : List Int := s.data.toList.map fun b => (b.toNat : Int)
theorem nums_length (s : ByteArray) : (nums s).length = s.size := by unfold nums; rw [List.length_map, Array.length_toList]; rfl
theorem nums_mem (s : ByteArray) : ∀ z ∈ nums s, (Lit.int .u8 z).wf = true := by
  intro z hz
  unfold nums at hz
  obtain ⟨b, _, rfl⟩ := List.mem_map.1 hz
  exact wf_u8_of (by omega) (by have := b.toNat_lt; omega)
theorem nums_get (s : ByteArray) (i : Nat) (h : i < s.size) : (s.data.map (fun b => Value.int .u8 b.toNat))[i]? = some (.int .u8 ((nums s).getD i 0)) := by
  have h' : i < s.data.size := h
  unfold nums
  rw [Array.getElem?_map, Array.getElem?_eq_getElem h']
  simp [List.getD_eq_getElem?_getD, List.getElem?_map, Array.getElem?_toList, Array.getElem?_eq_getElem h']

end Go.Proofs.Ytdccljmffmlkbaa


/-! Cry3 -/
namespace Go.Proofs.Ytdccljmffmlkbaa
open Go Go.RowKit
set_option linter.unusedVariables false

/-- The length, then the bytes. -/
def bti (zs : List Int) : List Int := (zs.length : Int) :: zs
theorem bti_len (zs : List Int) : (bti zs).length = zs.length + 1 := rfl

theorem u8_i64 {z : Int} (h : (Lit.int .u8 z).wf = true) : (Lit.int .i64 z).wf = true := by
  have := wf_u8 h
  exact wf_i64_of (by omega) (by omega)

/-- What is derived. -/
def dv (k : Int) (s : ByteArray) : Int := mx (kh k (bti (nums s))) 1
theorem dv_turn (k : Int) (s : ByteArray) : mx 1 (kh k (bti (nums s))) = dv k s := by
  unfold dv mx
  have := kh_bound k (bti (nums s))
  split <;> split <;> omega
theorem dv_bound (k : Int) (s : ByteArray) : 1 ≤ dv k s ∧ dv k s ≤ 2147483646 := by
  unfold dv mx
  have := kh_bound k (bti (nums s))
  split <;> omega

end Go.Proofs.Ytdccljmffmlkbaa
