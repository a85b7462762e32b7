import Derived.Test.YtdeahjinnnhfkaaRows
import Derived.Test.YtdeahjinnnhfkaaRd
import Derived.Test.YtdeahjinnnhfkaaUpt
import Derived.Test.YtdeahjinnnhfkaaCopyByte
import Derived.WalkKit
import Derived.Handy
import Derived.Outline
import Derived.WalkSpells
import Derived.Deep.QuietTactic
import Derived.BigQuiet
import Derived.Lib.Hide
import Derived.Test.YtdeahjinnnhfkaaJ5
import Derived.Laws.IdiomStrings
import Derived.Test.YtdeahjinnnhfkaaJ3

/- The helpers of the exact laws on slices of i64: a copy, whether two are equal, marks. No conditions but a length that a machine holds. -/
section
namespace Go.Proofs.Ytdeahjinnnhfkaa
open Go Go.RowKit
set_option linter.unusedVariables false

theorem infoi64 : (Try.prog.info? 3).map (fun i => (i.zero, i.size, i.bytes)) = some (some (.int .i64 0), 1, 8) := by kernel_rfl

/-- The marks from k0 on. -/
def marksInt (k0 : Int) (n : Nat) : List Int := (List.range n).map fun (i : Nat) => k0 + i

theorem marksInt_length (k0 : Int) (n : Nat) : (marksInt k0 n).length = n := by simp [marksInt]
theorem marksInt_get (k0 : Int) (n j : Nat) (hj : j < n) : (marksInt k0 n).getD j 0 = k0 + j := by
  simp [marksInt, List.getD_eq_getElem?_getD, hj]

end Go.Proofs.Ytdeahjinnnhfkaa
end

/- The hash and the keyed hash, the program's and the document's: what each gives. No conditions but a length that a machine holds. -/
section
namespace Go.Proofs.Ytdeahjinnnhfkaa
open Go Go.RowKit
set_option linter.unusedVariables false

/-- One value is folded in. -/
def hstep (a v : Int) : Int := (a * 1000003 + v % 2147483647 + 13) % 2147483647
/-- Values are folded in from a on. -/
def hfold (a : Int) (zs : List Int) : Int := zs.foldl hstep a
/-- The hash. -/
def hsh (zs : List Int) : Int := hfold 11 zs
/-- The keyed hash. -/
def kh (k : Int) (zs : List Int) : Int := hfold 11 (k :: (zs ++ [k]))
theorem hstep_bound (a v : Int) : 0 ≤ hstep a v ∧ hstep a v ≤ 2147483646 := by unfold hstep; omega
theorem hfold_bound {a : Int} (zs : List Int) (h0 : 0 ≤ a) (h1 : a ≤ 2147483646) : 0 ≤ hfold a zs ∧ hfold a zs ≤ 2147483646 := by
  induction zs generalizing a with
  | nil => exact ⟨h0, h1⟩
  | cons z zs ih => exact ih (hstep_bound a z).1 (hstep_bound a z).2
theorem hsh_bound (zs : List Int) : 0 ≤ hsh zs ∧ hsh zs ≤ 2147483646 := hfold_bound zs (by omega) (by omega)
theorem kh_bound (k : Int) (zs : List Int) : 0 ≤ kh k zs ∧ kh k zs ≤ 2147483646 := hfold_bound _ (by omega) (by omega)
theorem hfold_append (a : Int) (xs ys : List Int) : hfold a (xs ++ ys) = hfold (hfold a xs) ys := by unfold hfold; rw [List.foldl_append]
theorem drop_getD {zs : List Int} {j : Nat} (h : j < zs.length) : zs.drop j = zs.getD j 0 :: zs.drop (j + 1) := by
  rw [List.drop_eq_getElem_cons h]
  simp [List.getD_eq_getElem?_getD, List.getElem?_eq_getElem h]
theorem mod_mod (v : Int) : modV v 2147483647 = v % 2147483647 := by unfold modV; rw [if_pos (by omega)]

set_option maxHeartbeats 1000000 in
/-- impl.absorb. -/
theorem absorb_any {lim : Nat} {w : World} {v : Value} {zs : List Int} {a : Int} (h : Rd lim .i64 w v zs) (a0 : 0 ≤ a) (a1 : a ≤ 2147483646) :
    Calls Try.prog 88 #[.int .i64 a, v] w fun e w' => e = .returned (.int .i64 (hfold a zs)) ∧ w' = w := by
  obtain ⟨p, cap, rfl, h1, h2, hc⟩ := h.open
  have Hc := Lib.hid hc
  have H := Lib.hid h
  have hl := h.len
  unfold maxLen at h2 hl
  clear h hc
  go_enter Try.func88, Try.ntmps88
  go_wp2_with fail
  go_loopw [0, 9] (fun x i wr => ∃ (j : Nat) (u : Int), x = .int .i64 u ∧ i = .int .i64 j ∧ j ≤ zs.length ∧ 0 ≤ u ∧ u ≤ 2147483646 ∧ hfold u (zs.drop j) = hfold a zs ∧ wr = w) (fun _ i _ => zs.length - (intOf i).toNat)
  case atStart => exact ⟨0, a, rfl, rfl, Nat.zero_le _, a0, a1, rfl, rfl⟩
  case round =>
    obtain ⟨j, u, rfl, rfl, hj, u0, u1, hd, rfl⟩ := hrel
    by_cases hlt : j < zs.length
    · have e1 : decide ((j : Int) < (zs.length : Int)) = true := by simp; omega
      obtain ⟨b, o, rfl, hb, hcell⟩ := Hc.out (by omega)
      have c1 := hcell _ (Below.refl _ _) j hlt
      have hz := wf_i64 (H.out.wf hlt)
      rw [drop_getD hlt] at hd
      obtain ⟨z, hz'⟩ : ∃ z, z = zs.getD j 0 := ⟨_, rfl⟩
      rw [← hz'] at c1 hz hd
      have hs := hstep_bound u z
      have hD : Hid (hfold (hstep u z) (zs.drop (j + 1)) = hfold a zs) := Lib.hid hd
      have hS : Hid ((u * 1000003 + z % 2147483647 + 13) % 2147483647 = hstep u z) := Lib.hid rfl
      clear hcell hz' hd
      go_wp2_with fail
      refine (impl_mod z 2147483647 _ hz.1 hz.2).mono ?_
      rintro e w1 ⟨rfl, hw1⟩
      subst hw1
      rw [mod_mod]
      have m0 : 0 ≤ z % 2147483647 := by omega
      have m1 : z % 2147483647 ≤ 2147483646 := by omega
      obtain ⟨m, hm⟩ : ∃ m, m = z % 2147483647 := ⟨_, rfl⟩
      rw [← hm] at m0 m1 hS ⊢
      clear hm
      go_wp2
      go_roundw
      case rel => exact ⟨j + 1, hstep u z, by rw [← hS.out], by simp, hlt, hs.1, hs.2, hD.out, by simp⟩
      case measure => simp [intOf]; omega
    · have e1 : decide ((j : Int) < (zs.length : Int)) = false := by simp; omega
      have ej : j = zs.length := by omega
      rw [ej, List.drop_length] at hd
      have hD : Hid (u = hfold a zs) := Lib.hid hd
      clear hd
      go_wp2
      go_ret
      exact ⟨rint hD.out, rfl⟩

set_option maxHeartbeats 1000000 in
/-- spec.Hash. -/
theorem spec_hsh {lim : Nat} {w : World} {v : Value} {zs : List Int} (h : Rd lim .i64 w v zs) :
    Calls Try.prog 73 #[v] w fun e w' => e = .returned (.int .i64 (hsh zs)) ∧ w' = w := by
  obtain ⟨p, cap, rfl, h1, h2, hc⟩ := h.open
  have Hc := Lib.hid hc
  have H := Lib.hid h
  have hl := h.len
  unfold maxLen at h2 hl
  clear h hc
  go_enter Try.func73, Try.ntmps73
  go_wp2_with fail
  go_loopw [3, 4] (fun x i wr => ∃ (j : Nat) (u : Int), x = .int .i64 u ∧ i = .int .i64 j ∧ j ≤ zs.length ∧ 0 ≤ u ∧ u ≤ 2147483646 ∧ hfold u (zs.drop j) = hsh zs ∧ wr = w) (fun _ i _ => zs.length - (intOf i).toNat)
  case atStart => exact ⟨0, 11, rfl, rfl, Nat.zero_le _, by omega, by omega, rfl, rfl⟩
  case round =>
    obtain ⟨j, u, rfl, rfl, hj, u0, u1, hd, rfl⟩ := hrel
    by_cases hlt : j < zs.length
    · have e1 : decide ((j : Int) < (zs.length : Int)) = true := by simp; omega
      obtain ⟨b, o, rfl, hb, hcell⟩ := Hc.out (by omega)
      have c1 := hcell _ (Below.refl _ _) j hlt
      have hz := wf_i64 (H.out.wf hlt)
      rw [drop_getD hlt] at hd
      obtain ⟨z, hz'⟩ : ∃ z, z = zs.getD j 0 := ⟨_, rfl⟩
      rw [← hz'] at c1 hz hd
      have hs := hstep_bound u z
      have hD : Hid (hfold (hstep u z) (zs.drop (j + 1)) = hsh zs) := Lib.hid hd
      have hS : Hid ((u * 1000003 + z % 2147483647 + 13) % 2147483647 = hstep u z) := Lib.hid rfl
      clear hcell hz' hd
      go_wp2_with fail
      refine (spec_mod z 2147483647 _ hz.1 hz.2).mono ?_
      rintro e w1 ⟨rfl, hw1⟩
      subst hw1
      rw [mod_mod]
      have m0 : 0 ≤ z % 2147483647 := by omega
      have m1 : z % 2147483647 ≤ 2147483646 := by omega
      obtain ⟨m, hm⟩ : ∃ m, m = z % 2147483647 := ⟨_, rfl⟩
      rw [← hm] at m0 m1 hS ⊢
      clear hm
      go_wp2
      go_roundw
      case rel => exact ⟨j + 1, hstep u z, by rw [← hS.out], by simp, hlt, hs.1, hs.2, hD.out, by simp⟩
      case measure => simp [intOf]; omega
    · have e1 : decide ((j : Int) < (zs.length : Int)) = false := by simp; omega
      have ej : j = zs.length := by omega
      rw [ej, List.drop_length] at hd
      have hD : Hid (u = hsh zs) := Lib.hid hd
      clear hd
      go_wp2
      go_ret
      exact ⟨rint hD.out, rfl⟩

/-- impl.Hash. -/
theorem impl_hsh {lim : Nat} {w : World} {v : Value} {zs : List Int} (h : Rd lim .i64 w v zs) :
    Calls Try.prog 75 #[v] w fun e w' => e = .returned (.int .i64 (hsh zs)) ∧ w' = w := by
  have H := Lib.hid h
  clear h
  go_enter Try.func75, Try.ntmps75
  go_wp2_with fail
  refine (absorb_any H.out (by omega) (by omega)).mono ?_
  rintro e w1 ⟨rfl, hw1⟩
  subst hw1
  go_wp2_with fail
  go_ret
  exact ⟨rfl, rfl⟩

end Go.Proofs.Ytdeahjinnnhfkaa
end

/- The keyed hash, the program's and the document's: what each gives. No conditions but a length that a machine holds. -/
section
namespace Go.Proofs.Ytdeahjinnnhfkaa
open Go Go.RowKit
set_option linter.unusedVariables false

end Go.Proofs.Ytdeahjinnnhfkaa
end

/- Max, the program's and the document's. No conditions. -/
section
namespace Go.Proofs.Ytdeahjinnnhfkaa
open Go Go.RowKit
set_option linter.unusedVariables false

/-- The greater one. -/
def mx (a b : Int) : Int := if a < b then b else a
theorem mx_lt {a b : Int} (h : a < b) : mx a b = b := if_pos h
theorem mx_ge {a b : Int} (h : ¬ a < b) : mx a b = a := if_neg h

end Go.Proofs.Ytdeahjinnnhfkaa
end

/- []byte(s): what the new row reads. No conditions but a length that a machine holds. -/
section
namespace Go.Proofs.Ytdeahjinnnhfkaa
open Go Go.RowKit
set_option linter.unusedVariables false

/-- The bytes of a string as numbers. -/
def nums (s : ByteArray) : List Int := s.data.toList.map fun b => (b.toNat : Int)
theorem nums_length (s : ByteArray) : (nums s).length = s.size := by unfold nums; rw [List.length_map, Array.length_toList]; rfl
theorem nums_mem (s : ByteArray) : ∀ z ∈ nums s, (Lit.int .u8 z).wf = true := by
  intro z hz
  unfold nums at hz
  obtain ⟨b, _, rfl⟩ := List.mem_map.1 hz
  exact wf_u8_of (by omega) (by have := b.toNat_lt; omega)
theorem nums_get (s : ByteArray) (i : Nat) (h : i < s.size) : (s.data.map (fun b => Value.int .u8 b.toNat))[i]? = some (.int .u8 ((nums s).getD i 0)) := by
  have h' : i < s.data.size := h
  unfold nums
  rw [Array.getElem?_map, Array.getElem?_eq_getElem h']
  simp [List.getD_eq_getElem?_getD, List.getElem?_map, Array.getElem?_toList, Array.getElem?_eq_getElem h']

theorem bytes_of (w : World) (s : ByteArray) (hs : s.size ≤ maxLen) :
    ∃ W cap, (convert 9 22 (.string s)).run Try.prog w = .ok (.slice (some ⟨w.heap.size, 0, none⟩) s.size cap) W ∧
      Rd (w.heap.size + 1) .u8 W (.slice (some ⟨w.heap.size, 0, none⟩) s.size cap) (nums s) ∧ Below w.heap.size w W ∧ W.heap.size = w.heap.size + 1 := by
  have hrun := run_bytes_of_string (P := Try.prog) w 9 22 5 s Try.underlying9 Try.underlying22 Try.underlying5
  have hge := grownCap_ge w s.size 0 5
  have hcm := grownCap_le_maxLen w s.size 0 5 hs
  obtain ⟨c, hc⟩ : ∃ c, c = grownCap w s.size 0 5 := ⟨_, rfl⟩
  rw [← hc] at hrun hge hcm
  refine ⟨_, c, hrun, ⟨nums_mem s, _, c, by rw [nums_length], by rw [nums_length]; exact hge, hcm, .inr ⟨_, rfl, fun i hi => ?_, .inl (Nat.lt_succ_self _)⟩⟩, ?_, ?_⟩
  · rw [nums_length] at hi
    have e1 : (⟨w.heap.size, 0, none⟩ : Addr).add i = ⟨w.heap.size, i, none⟩ := by unfold Addr.add; split <;> simp_all
    rw [e1]
    have hb := blk_cell (heap_alloc_new w.drew (.cells (bytesRow s c) 5 ((bytesRow s c).size, (bytesRow s c).size + 1))) i
    refine Eq.trans hb ?_
    show (bytesRow s c)[i]? = _
    unfold bytesRow
    have h' : i < (s.data.map (fun b => Value.int .u8 b.toNat)).size := by simpa using hi
    rw [Array.getElem?_append_left h']
    exact nums_get s i hi
  · exact ((Below.refl w.heap.size w).grown (w' := w.drew) (row := none) ⟨rfl, rfl, rfl, Nat.le_refl _, fun _ _ _ => rfl⟩ (Nat.le_refl _) (fun k hk => by cases hk)).alloc (Nat.le_refl _) _
  · exact World.size_alloc _ _

end Go.Proofs.Ytdeahjinnnhfkaa
end
