/- []byte(s): what the new row reads. No conditions but a length that a machine holds. IsValidKey, BytesToInts and DeriveFromString, the program's and the document's: what each gives. No conditions but a length that a machine holds. -/
import Derived.Test.YtlbijjifeaimjaaRows
import Derived.Test.YtlbijjifeaimjaaBa1
import Derived.Laws.IdiomStrings
import Derived.Test.YtlbijjifeaimjaaBa9
import Derived.Test.YtlbijjifeaimjaaBaM

/-! StrB -/
namespace Go.Proofs.Ytlbijjifeaimjaa
open Go Go.RowKit
set_option linter.unusedVariables false

/-- The bytes of a string as numbers. -/
def nums (s : ByteArray) : List Int := s.data.toList.map fun b => (b.toNat : Int)
theorem nums_length (s : ByteArray) : (nums s).length = s.size := by unfold nums; rw [List.length_map, Array.length_toList]; rfl
theorem nums_mem (s : ByteArray) : ∀ z ∈ nums s, (Lit.int .u8 z).wf = true := by
  intro z hz
  unfold nums at hz
  obtain ⟨b, _, rfl⟩ := List.mem_map.1 hz
  exact wf_u8_of (by omega) (by have := b.toNat_lt; omega)
theorem nums_get (s : ByteArray) (i : Nat) (h : i < s.size) : (s.data.map (fun b => Value.int .u8 b.toNat))[i]? = some (.int .u8 ((nums s).getD i 0)) := by
  have h' : i < s.data.size := h
  unfold nums
  rw [Array.getElem?_map, Array.getElem?_eq_getElem h']
  simp [List.getD_eq_getElem?_getD, List.getElem?_map, Array.getElem?_toList, Array.getElem?_eq_getElem h']

theorem bytes_of (w : World) (s : ByteArray) (hs : s.size ≤ maxLen) :
    ∃ W cap, (convert 9 22 (.string s)).run Try.prog w = .ok (.slice (some ⟨w.heap.size, 0, none⟩) s.size cap) W ∧
      Rd (w.heap.size + 1) .u8 W (.slice (some ⟨w.heap.size, 0, none⟩) s.size cap) (nums s) ∧ Below w.heap.size w W ∧ W.heap.size = w.heap.size + 1 := by
  have hrun := run_bytes_of_string (P := Try.prog) w 9 22 5 s Try.underlying9 Try.underlying22 Try.underlying5
  have hge := grownCap_ge w s.size 0 5
  have hcm := grownCap_le_maxLen w s.size 0 5 hs
  obtain ⟨c, hc⟩ : ∃ c, c = grownCap w s.size 0 5 := ⟨_, rfl⟩
  rw [← hc] at hrun hge hcm
  refine ⟨_, c, hrun, ⟨nums_mem s, _, c, by rw [nums_length], by rw [nums_length]; exact hge, hcm, .inr ⟨_, rfl, fun i hi => ?_, .inl (Nat.lt_succ_self _)⟩⟩, ?_, ?_⟩
  · rw [nums_length] at hi
    have e1 : (⟨w.heap.size, 0, none⟩ : Addr).add i = ⟨w.heap.size, i, none⟩ := by unfold Addr.add; split <;> simp_all
    rw [e1]
    have hb := blk_cell (heap_alloc_new w.drew (.cells (bytesRow s c) 5 ((bytesRow s c).size, (bytesRow s c).size + 1))) i
    refine Eq.trans hb ?_
    show (bytesRow s c)[i]? = _
    unfold bytesRow
    have h' : i < (s.data.map (fun b => Value.int .u8 b.toNat)).size := by simpa using hi
    rw [Array.getElem?_append_left h']
    exact nums_get s i hi
  · exact ((Below.refl w.heap.size w).grown (w' := w.drew) (row := none) ⟨rfl, rfl, rfl, Nat.le_refl _, fun _ _ _ => rfl⟩ (Nat.le_refl _) (fun k hk => by cases hk)).alloc (Nat.le_refl _) _
  · exact World.size_alloc _ _

end Go.Proofs.Ytlbijjifeaimjaa


/-! Cry3 -/
namespace Go.Proofs.Ytlbijjifeaimjaa
open Go Go.RowKit
set_option linter.unusedVariables false

theorem impl_vk {x : Int} {w : World} (hx : (Lit.int .i64 x).wf = true) : Calls Try.prog 24 #[.int .i64 x] w fun e w' => e = .returned (.bool (inR x 1 2147483646)) ∧ w' = w := by
  go_enter Try.func24, Try.ntmps24
  go_wp2_with fail
  refine (impl_in _ _ _ _ hx).mono ?_
  rintro e w1 ⟨rfl, rfl⟩
  go_wp2_with fail
  go_ret
  exact ⟨rfl, rfl⟩
theorem spec_vk {x : Int} {w : World} (hx : (Lit.int .i64 x).wf = true) : Calls Try.prog 11 #[.int .i64 x] w fun e w' => e = .returned (.bool (inR x 1 2147483646)) ∧ w' = w := by
  go_enter Try.func11, Try.ntmps11
  go_wp2_with fail
  refine (spec_in _ _ _ _ hx).mono ?_
  rintro e w1 ⟨rfl, rfl⟩
  go_wp2_with fail
  go_ret
  exact ⟨rfl, rfl⟩

/-- The length, then the bytes. -/
def bti (zs : List Int) : List Int := (zs.length : Int) :: zs
theorem bti_len (zs : List Int) : (bti zs).length = zs.length + 1 := rfl

theorem u8_i64 {z : Int} (h : (Lit.int .u8 z).wf = true) : (Lit.int .i64 z).wf = true := by
  have := wf_u8 h
  exact wf_i64_of (by omega) (by omega)

/-- What is derived. -/
def dv (k : Int) (s : ByteArray) : Int := mx (kh k (bti (nums s))) 1
theorem dv_turn (k : Int) (s : ByteArray) : mx 1 (kh k (bti (nums s))) = dv k s := by
  unfold dv mx
  have := kh_bound k (bti (nums s))
  split <;> split <;> omega
theorem dv_bound (k : Int) (s : ByteArray) : 1 ≤ dv k s ∧ dv k s ≤ 2147483646 := by
  unfold dv mx
  have := kh_bound k (bti (nums s))
  split <;> omega

end Go.Proofs.Ytlbijjifeaimjaa
