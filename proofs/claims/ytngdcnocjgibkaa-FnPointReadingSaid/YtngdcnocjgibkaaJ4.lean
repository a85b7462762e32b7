import Derived.Test.YtngdcnocjgibkaaRows
import Derived.Test.YtngdcnocjgibkaaBa1
import Derived.Laws.IdiomStrings
import Derived.Test.YtngdcnocjgibkaaBa9
import Derived.Test.YtngdcnocjgibkaaBaM
import Derived.Test.YtngdcnocjgibkaaBa5
import Derived.Test.YtngdcnocjgibkaaEnc
import Derived.Test.YtngdcnocjgibkaaBa7
import Derived.Test.YtngdcnocjgibkaaJ2

/- []byte(s): what the new row reads. No conditions but a length that a machine holds. -/
section
namespace Go.Proofs.Ytngdcnocjgibkaa
open Go Go.RowKit
set_option linter.unusedVariables false

/-- The bytes of a string as numbers. -/
def nums (s : ByteArray) : List Int := s.data.toList.map fun b => (b.toNat : Int)
theorem nums_length (s : ByteArray) : (nums s).length = s.size := by unfold nums; rw [List.length_map, Array.length_toList]; rfl
theorem nums_mem (s : ByteArray) : ∀ z ∈ nums s, (Lit.int .u8 z).wf = true := by
  intro z hz
  unfold nums at hz
  obtain ⟨b, _, rfl⟩ := List.mem_map.1 hz
  exact wf_u8_of (by omega) (by have := b.toNat_lt; omega)
theorem nums_get (s : ByteArray) (i : Nat) (h : i < s.size) : (s.data.map (fun b => Value.int .u8 b.toNat))[i]? = some (.int .u8 ((nums s).getD i 0)) := by
  have h' : i < s.data.size := h
  unfold nums
  rw [Array.getElem?_map, Array.getElem?_eq_getElem h']
  simp [List.getD_eq_getElem?_getD, List.getElem?_map, Array.getElem?_toList, Array.getElem?_eq_getElem h']

theorem bytes_of (w : World) (s : ByteArray) (hs : s.size ≤ maxLen) :
    ∃ W cap, (convert 9 22 (.string s)).run Try.prog w = .ok (.slice (some ⟨w.heap.size, 0, none⟩) s.size cap) W ∧
      Rd (w.heap.size + 1) .u8 W (.slice (some ⟨w.heap.size, 0, none⟩) s.size cap) (nums s) ∧ Below w.heap.size w W ∧ W.heap.size = w.heap.size + 1 := by
  have hrun := run_bytes_of_string (P := Try.prog) w 9 22 5 s Try.underlying9 Try.underlying22 Try.underlying5
  have hge := grownCap_ge w s.size 0 5
  have hcm := grownCap_le_maxLen w s.size 0 5 hs
  obtain ⟨c, hc⟩ : ∃ c, c = grownCap w s.size 0 5 := ⟨_, rfl⟩
  rw [← hc] at hrun hge hcm
  refine ⟨_, c, hrun, ⟨nums_mem s, _, c, by rw [nums_length], by rw [nums_length]; exact hge, hcm, .inr ⟨_, rfl, fun i hi => ?_, .inl (Nat.lt_succ_self _)⟩⟩, ?_, ?_⟩
  · rw [nums_length] at hi
    have e1 : (⟨w.heap.size, 0, none⟩ : Addr).add i = ⟨w.heap.size, i, none⟩ := by unfold Addr.add; split <;> simp_all
    rw [e1]
    have hb := blk_cell (heap_alloc_new w.drew (.cells (bytesRow s c) 5 ((bytesRow s c).size, (bytesRow s c).size + 1))) i
    refine Eq.trans hb ?_
    show (bytesRow s c)[i]? = _
    unfold bytesRow
    have h' : i < (s.data.map (fun b => Value.int .u8 b.toNat)).size := by simpa using hi
    rw [Array.getElem?_append_left h']
    exact nums_get s i hi
  · exact ((Below.refl w.heap.size w).grown (w' := w.drew) (row := none) ⟨rfl, rfl, rfl, Nat.le_refl _, fun _ _ _ => rfl⟩ (Nat.le_refl _) (fun k hk => by cases hk)).alloc (Nat.le_refl _) _
  · exact World.size_alloc _ _

end Go.Proofs.Ytngdcnocjgibkaa
end

/- IsValidKey, BytesToInts and DeriveFromString, the program's and the document's: what each gives. No conditions but a length that a machine holds. -/
section
namespace Go.Proofs.Ytngdcnocjgibkaa
open Go Go.RowKit
set_option linter.unusedVariables false

/-- The length, then the bytes. -/
def bti (zs : List Int) : List Int := (zs.length : Int) :: zs
theorem bti_len (zs : List Int) : (bti zs).length = zs.length + 1 := rfl

theorem u8_i64 {z : Int} (h : (Lit.int .u8 z).wf = true) : (Lit.int .i64 z).wf = true := by
  have := wf_u8 h
  exact wf_i64_of (by omega) (by omega)

/-- What is derived. -/
def dv (k : Int) (s : ByteArray) : Int := mx (kh k (bti (nums s))) 1
theorem dv_turn (k : Int) (s : ByteArray) : mx 1 (kh k (bti (nums s))) = dv k s := by
  unfold dv mx
  have := kh_bound k (bti (nums s))
  split <;> split <;> omega
theorem dv_bound (k : Int) (s : ByteArray) : 1 ≤ dv k s ∧ dv k s ≤ 2147483646 := by
  unfold dv mx
  have := kh_bound k (bti (nums s))
  split <;> omega

end Go.Proofs.Ytngdcnocjgibkaa
end

/- Databases as lists of rows. No program. -/
section
namespace Go.Proofs.Ytngdcnocjgibkaa
open Go Go.RowKit
set_option linter.unusedVariables false

/-- Whether there is such a row. -/
def hasR (zss : List (List Int)) (i : Int) : Bool := inR i 0 ((zss.length : Int) - 1)
/-- Whether all rows are cells. -/
def vrows (zss : List (List Int)) : Bool := zss.all fun r => r.length == 24
/-- Whether it is a database. -/
def vd (zss : List (List Int)) : Bool := decide (zss.length ≤ 64) && vrows zss
def newR (n : Int) : List (List Int) := if 0 ≤ n ∧ n ≤ 64 then List.replicate n.toNat (List.replicate 24 0) else []
def rdR (zss : List (List Int)) (i : Int) : List Int := if hasR zss i = true then zss.getD i.toNat [] else []
def repK (zss : List (List Int)) (i : Int) (c : List Int) : Bool := hasR zss i && decide (c.length = 24)
def rep (zss : List (List Int)) (i : Int) (c : List Int) : List (List Int) := if repK zss i c = true then zss.set i.toNat c else zss
def xrK (zss : List (List Int)) (i : Int) (c : List Int) : Bool := hasR zss i && decide ((zss.getD i.toNat []).length = 24) && decide (c.length = 24)
def xr (zss : List (List Int)) (i : Int) (c : List Int) : List (List Int) := if xrK zss i c = true then zss.set i.toNat (xorl (zss.getD i.toNat []) c) else zss
def xdK (a b : List (List Int)) : Bool := vd a && vd b && decide (a.length = b.length)
def xdL (a b : List (List Int)) : List (List Int) := (List.range a.length).map fun i => xorl (a.getD i []) (b.getD i [])
def xd (a b : List (List Int)) : List (List Int) := if xdK a b = true then xdL a b else a
/-- What the digest is the hash of. -/
def digL (zss : List (List Int)) : List Int := (zss.length : Int) :: (zss.map bti).flatten
def dig (zss : List (List Int)) : Int := hsh (digL zss)

theorem hasR_iff {zss : List (List Int)} {i : Int} : hasR zss i = true ↔ ∃ k : Nat, i = (k : Int) ∧ k < zss.length := by
  unfold hasR inR
  simp only [Bool.and_eq_true, decide_eq_true_eq]
  constructor
  · intro ⟨h1, h2⟩
    exact ⟨i.toNat, by omega, by omega⟩
  · rintro ⟨k, rfl, h⟩
    omega
theorem hasR_yes {zss : List (List Int)} {k : Nat} (h : k < zss.length) : hasR zss (k : Int) = true := hasR_iff.2 ⟨k, rfl, h⟩
theorem inR_hasR (zss : List (List Int)) (i : Int) : inR i 0 ((zss.length : Int) - 1) = hasR zss i := rfl
theorem rdR_yes {zss : List (List Int)} {k : Nat} (h : k < zss.length) : rdR zss (k : Int) = zss.getD k [] := by unfold rdR; rw [if_pos (hasR_yes h)]; rfl
theorem rdR_no {zss : List (List Int)} {i : Int} (h : hasR zss i = false) : rdR zss i = [] := by unfold rdR; rw [if_neg (by rw [h]; exact Bool.false_ne_true)]
theorem vrows_iff {zss : List (List Int)} : vrows zss = true ↔ ∀ i, i < zss.length → (zss.getD i []).length = 24 := by
  unfold vrows
  rw [List.all_eq_true]
  constructor
  · intro h i hi
    have := h _ (List.getElem_mem hi)
    rw [List.getD_eq_getElem?_getD, List.getElem?_eq_getElem hi]
    simpa using this
  · intro h x hx
    obtain ⟨i, hi, rfl⟩ := List.mem_iff_getElem.1 hx
    have := h i hi
    rw [List.getD_eq_getElem?_getD, List.getElem?_eq_getElem hi] at this
    simpa using this
theorem vrows_no {zss : List (List Int)} {i : Nat} (hi : i < zss.length) (h : (zss.getD i []).length ≠ 24) : vrows zss = false := by
  cases hv : vrows zss
  · rfl
  · exact absurd (vrows_iff.1 hv i hi) h
theorem xdL_len (a b : List (List Int)) : (xdL a b).length = a.length := by simp [xdL]
theorem xdL_get {a b : List (List Int)} {i : Nat} (hi : i < a.length) : (xdL a b)[i]? = some (xorl (a.getD i []) (b.getD i [])) := by simp [xdL, hi]
theorem xdL_snoc {a b : List (List Int)} {j : Nat} (hj : j < a.length) : (xdL a b).take j ++ [xorl (a.getD j []) (b.getD j [])] = (xdL a b).take (j + 1) := by
  rw [List.take_add_one, xdL_get hj]; rfl
theorem newR_no {n : Int} (h : ¬ (0 ≤ n ∧ n ≤ 64)) : newR n = [] := if_neg h
theorem newR_yes {n : Nat} (h : n ≤ 64) : newR (n : Int) = List.replicate n (List.replicate 24 0) := by unfold newR; rw [if_pos (by omega)]; rfl
theorem fl_replicate (n : Nat) (r : List Int) : fl (List.replicate n r) = n * r.length := by unfold fl; simp
theorem newR_fl (n : Int) : fl (newR n) ≤ 1536 := by
  unfold newR
  split
  · rw [fl_replicate, List.length_replicate]; omega
  · simp [fl]
theorem digL_take {zss : List (List Int)} {j : Nat} {zs : List Int} (h : zss[j]? = some zs) : ((zss.take j).map bti).flatten ++ bti zs = ((zss.take (j + 1)).map bti).flatten := by
  rw [List.take_add_one, h]; simp
theorem digL_len (zss : List (List Int)) : ((zss.map bti).flatten).length = tot zss := by
  unfold tot
  induction zss with
  | nil => simp [fl]
  | cons x r ih =>
    simp only [List.map_cons, List.flatten_cons, List.length_append, List.length_cons, bti_len, ih, fl_cons]
    omega
theorem fl_set (zss : List (List Int)) (i : Nat) (c : List Int) : fl (zss.set i c) ≤ fl zss + c.length := by
  induction zss generalizing i with
  | nil => simp [fl]
  | cons x r ih =>
    cases i with
    | zero => simp [fl_cons]; omega
    | succ i => have := ih i; simp [fl_cons]; omega
theorem fl_getD (zss : List (List Int)) (i : Nat) : (zss.getD i []).length ≤ fl zss := by
  rcases h : zss[i]? with _ | zs
  · rw [List.getD_eq_getElem?_getD, h]; simp
  · rw [getD_of h]; have := fl_at h; omega
theorem rep_fl (zss : List (List Int)) (i : Int) (c : List Int) : fl (rep zss i c) ≤ fl zss + c.length := by
  unfold rep
  split
  · exact fl_set _ _ _
  · omega
theorem rdR_len (zss : List (List Int)) (i : Int) : (rdR zss i).length ≤ fl zss := by
  unfold rdR
  split
  · exact fl_getD _ _
  · simp
theorem xr_fl (zss : List (List Int)) (i : Int) (c : List Int) : fl (xr zss i c) ≤ 2 * fl zss + c.length := by
  unfold xr
  split
  · have h1 := fl_set zss i.toNat (xorl (zss.getD i.toNat []) c)
    have h2 := xorl_len_le (zss.getD i.toNat []) c
    have h3 := fl_getD zss i.toNat
    omega
  · omega
theorem fl_map_le (l : List Nat) (f g h : Nat → List Int) (hf : ∀ i, (f i).length ≤ (g i).length + (h i).length) : fl (l.map f) ≤ fl (l.map g) + fl (l.map h) := by
  induction l with
  | nil => simp [fl]
  | cons x r ih => have := hf x; simp only [List.map_cons, fl_cons]; omega
theorem map_getD (zss : List (List Int)) : (List.range zss.length).map (fun i => zss.getD i []) = zss := by
  refine List.ext_getElem (by simp) fun i h1 h2 => ?_
  simp [List.getD_eq_getElem?_getD, h2]
theorem map_getD_le (n : Nat) (zss : List (List Int)) : fl ((List.range n).map (fun i => zss.getD i [])) ≤ fl zss := by
  induction n generalizing zss with
  | zero => simp [fl]
  | succ n ih =>
    rw [List.range_succ_eq_map, List.map_cons, fl_cons, List.map_map]
    cases zss with
    | nil => have := ih []; simpa [Function.comp_def, fl] using this
    | cons x r => have := ih r; simp only [Function.comp_def, List.getD_cons_succ, List.getD_cons_zero, fl_cons] at *; omega
theorem xd_fl (a b : List (List Int)) : fl (xd a b) ≤ fl a + fl b := by
  unfold xd
  split
  · have h1 := fl_map_le (List.range a.length) (fun i => xorl (a.getD i []) (b.getD i [])) (fun i => a.getD i []) (fun i => b.getD i []) (fun i => xorl_len_le _ _)
    have h2 := map_getD_le a.length a
    have h3 := map_getD_le a.length b
    unfold xdL
    omega
  · omega
theorem hsh_digL (zss : List (List Int)) : hsh (digL zss) = dig zss := rfl
theorem dig_bound (zss : List (List Int)) : 0 ≤ dig zss ∧ dig zss ≤ 2147483646 := hsh_bound _

end Go.Proofs.Ytngdcnocjgibkaa
end
