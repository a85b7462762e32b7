/- FormatToken of the program and of the document. Conditions: the library's table of powers of ten as its text lays it. -/
import Derived.Test.YtdccljmffmlkbaaDoorRows
import Derived.Test.YtdccljmffmlkbaaDoorFmt
import Derived.Test.YtdccljmffmlkbaaDoorBa1
import Derived.Test.YtdccljmffmlkbaaDoorShelf
import Derived.Test.YtdccljmffmlkbaaDoorHp16
import Derived.Test.YtdccljmffmlkbaaDoorQuietC
import Derived.Test.YtdccljmffmlkbaaDoorCl1
import Derived.WalkKit
import Derived.Below
import Derived.LaidMore
import Derived.Stop.LaidErr
import Derived.Lib.LaidTab
import Derived.Lib.AppendIntMem
import Derived.Lib.ItoaLen
import Derived.BigQuiet
import Derived.MakeChecks
namespace Go.Proofs.YtdccljmffmlkbaaDoor
open Go Go.RowKit Go.Lib Go.Sort
set_option linter.unusedVariables false

theorem below_grow (w : World) (k : Nat) (os : Array Obj) : Below w.heap.size w (grow (w.drewN k) os) :=
  ⟨rfl, rfl, rfl, by simp [grow, World.drewN], fun j hj => by
    show (w.heap ++ os)[j]? = w.heap[j]?
    rw [Array.getElem?_append_left hj]⟩

/-- impl.FormatInt: the numeral, behind whatever blocks the call's own have been laid since w. -/
theorem ifmt_any (n : Int) (w : World) (h0 : -9223372036854775808 ≤ n) (h1 : n ≤ 9223372036854775807) (htab : TabIs Tryd.prog w "internal/strconv.uint64pow10" .u64 pow10Tab) :
    Calls Tryd.prog 75 #[.int .i64 n] w fun e w' => e = .returned (.string ⟨(itoa n).toArray⟩) ∧ Below w.heap.size w w' := by
  go_enter Tryd.func75, Tryd.ntmps75
  go_wp2_with fail
  refine (Tryd.strconv_Itoa n h0 h1 _ htab).mono ?_
  rintro e w' ⟨rfl, k, os, rfl⟩
  go_wp2_with fail
  go_ret
  exact ⟨rfl, below_grow _ _ _⟩

theorem g10 : Tryd.prog.globalNamed "internal/strconv.uint64pow10" = some 2 := by kernel_rfl

/-- The table behind whatever the call has laid. -/
theorem tab_behind {w w' : World} (h : TabIs Tryd.prog w "internal/strconv.uint64pow10" .u64 pow10Tab) (hb : Below w.heap.size w w') : TabIs Tryd.prog w' "internal/strconv.uint64pow10" .u64 pow10Tab :=
  tabBelow_of_tabIs h w' hb


/-- What the row's list gives: the table of powers. -/
theorem tab_fnTokens {W : World} (h : laidMetH Tryd.prog Rows.fnTokensRow.laid W) : TabIs Tryd.prog W "internal/strconv.uint64pow10" .u64 pow10Tab := by
  rw [MakeChecks.laidMetH_plain _ _ _ (by kernel_rfl)] at h
  have h1 := h.tail.tail
  exact tabIs_of_head g10 (by kernel_rfl) Tryd.underlying163 Tryd.underlying157 (by kernel_rfl) (by kernel_rfl) h1

/-- A numeral as a string. -/
def itoS (n : Int) : ByteArray := ⟨(itoa n).toArray⟩
theorem itoS_len {n : Int} (h : (Lit.int .i64 n).wf = true) : (itoS n).size ≤ 21 := by
  have h1 := wf_i64 h
  exact itoa_length_le n h1.1 h1.2
/-- FormatToken. -/
def fmtT (n v : Int) : ByteArray := itoS n ++ ⟨#[58]⟩ ++ itoS v
theorem i64_in {n : Int} (h : (Lit.int .i64 n).wf = true) : -9223372036854775808 ≤ n ∧ n ≤ 9223372036854775807 := wf_i64 h
theorem ifmt_s {w : World} {n : Int} (h : (Lit.int .i64 n).wf = true) (ht : TabIs Tryd.prog w "internal/strconv.uint64pow10" .u64 pow10Tab) :
    Calls Tryd.prog 75 #[.int .i64 n] w fun e w' => e = .returned (.string (itoS n)) ∧ Below w.heap.size w w' := ifmt_any n w (i64_in h).1 (i64_in h).2 ht
theorem sfmt_s {w : World} {n : Int} (h : (Lit.int .i64 n).wf = true) :
    Calls Tryd.prog 76 #[.int .i64 n] w fun e w' => e = .returned (.string (itoS n)) ∧ Below w.heap.size w w' := fmt_any n w (i64_in h).1 (i64_in h).2

/-- The worlds in which a token's box stands. -/
def TkfW (w : World) (n v : Int) (w' : World) : Prop := Below w.heap.size w w' ∧ w'.heap[w.heap.size]? = some (.cells #[.int .i64 n, .int .i64 v] 51)
theorem TkfW.next {w : World} {n v : Int} {w1 w2 : World} (h : TkfW w n v w1) (hb : Below w1.heap.size w1 w2) : TkfW w n v w2 := ⟨h.1.trans (hb.mono h.1.size), (hb.block _ (lt_of_block h.2)).trans h.2⟩
theorem tkfW_start (w : World) (n v : Int) : TkfW w n v (w.alloc (.cells #[.int .i64 n, .int .i64 v] 51)).drew :=
  ⟨((Below.refl w.heap.size w).alloc (Nat.le_refl _) _).drew, heap_alloc_new w _⟩

set_option maxRecDepth 20000 in
set_option maxHeartbeats 4000000 in
/-- spec.FormatToken. -/
theorem spec_ft {w : World} {n v : Int} (hn : (Lit.int .i64 n).wf = true) (hv : (Lit.int .i64 v).wf = true) :
    Calls Tryd.prog 37 #[.agg #[.int .i64 n, .int .i64 v]] w fun e w' => e = .returned (.string (fmtT n v)) ∧ Below w.heap.size w w' := by
  have HN := Lib.hid hn
  have HV := Lib.hid hv
  obtain ⟨A, hA⟩ : ∃ A, A = itoS n := ⟨_, rfl⟩
  obtain ⟨C, hC⟩ : ∃ C, C = itoS v := ⟨_, rfl⟩
  have HA := Lib.hid hA
  have HC := Lib.hid hC
  have HE : Hid (fmtT n v = A ++ ⟨#[58]⟩ ++ C) := Lib.hid (by rw [hA, hC]; rfl)
  have hAl : A.size ≤ 21 := by rw [hA]; exact itoS_len hn
  have hCl : C.size ≤ 21 := by rw [hC]; exact itoS_len hv
  have a1 : ¬ 9223372036854775807 < A.size + 1 := by omega
  have a2 : ¬ 9223372036854775807 < A.size + 1 + C.size := by omega
  clear hn hv hA hC hAl hCl
  go_enter Tryd.func37, Tryd.ntmps37
  go_wp2_with fail
  refine region_quiet_c (C := TkfW w n v) (by kernel_rfl) (by kernel_rfl) (tkfW_start w n v) ?_
  repeat (first
    | go_big_quiet_skip
    | (apply quiet_on
       · kernel_rfl
       · intro wq hq
         obtain ⟨c0, c1, -⟩ := pcs hq.2
         go_simp
         first
           | done
           | (go_at_call_of 76 n
              refine (sfmt_s HN.out).mono ?_
              rintro e' w7 ⟨he, hb⟩
              rw [← HA.out] at he
              exact ⟨he, hq.next hb⟩)
           | (go_at_call_of 76 v
              refine (sfmt_s HV.out).mono ?_
              rintro e' w7 ⟨he, hb⟩
              rw [← HC.out] at he
              exact ⟨he, hq.next hb⟩)
           | rfl
           | exact ⟨rfl, hq⟩
       simp only [Act.put, List.setIfInBounds_toArray, List.set_cons_zero, List.set_cons_succ]))
  refine wpQuiet_nil ?_
  intro w7 hq
  have HW := Lib.hid hq
  clear hq
  have HE' := HE.out
  generalize A ++ ⟨#[58]⟩ ++ C = S at HE' ⊢
  have HE2 := Lib.hid HE'
  clear HE HE'
  go_wp2_with fail
  go_ret
  exact ⟨by rw [HE2.out]; rfl, HW.out.1⟩

set_option maxRecDepth 20000 in
set_option maxHeartbeats 4000000 in
/-- impl.FormatToken. -/
theorem impl_ft {w : World} {n v : Int} (hn : (Lit.int .i64 n).wf = true) (hv : (Lit.int .i64 v).wf = true) (ht : TabIs Tryd.prog w "internal/strconv.uint64pow10" .u64 pow10Tab) :
    Calls Tryd.prog 36 #[.agg #[.int .i64 n, .int .i64 v]] w fun e w' => e = .returned (.string (fmtT n v)) ∧ Below w.heap.size w w' := by
  have HN := Lib.hid hn
  have HV := Lib.hid hv
  have HT := Lib.hid ht
  obtain ⟨A, hA⟩ : ∃ A, A = itoS n := ⟨_, rfl⟩
  obtain ⟨C, hC⟩ : ∃ C, C = itoS v := ⟨_, rfl⟩
  have HA := Lib.hid hA
  have HC := Lib.hid hC
  have HE : Hid (fmtT n v = A ++ ⟨#[58]⟩ ++ C) := Lib.hid (by rw [hA, hC]; rfl)
  have hAl : A.size ≤ 21 := by rw [hA]; exact itoS_len hn
  have hCl : C.size ≤ 21 := by rw [hC]; exact itoS_len hv
  have a1 : ¬ 9223372036854775807 < A.size + 1 := by omega
  have a2 : ¬ 9223372036854775807 < A.size + 1 + C.size := by omega
  clear hn hv hA hC hAl hCl ht
  go_enter Tryd.func36, Tryd.ntmps36
  go_wp2_with fail
  refine region_quiet_c (C := TkfW w n v) (by kernel_rfl) (by kernel_rfl) (tkfW_start w n v) ?_
  repeat (first
    | go_big_quiet_skip
    | (apply quiet_on
       · kernel_rfl
       · intro wq hq
         obtain ⟨c0, c1, -⟩ := pcs hq.2
         go_simp
         first
           | done
           | (go_at_call_of 75 n
              refine (ifmt_s HN.out (tab_behind HT.out hq.1)).mono ?_
              rintro e' w7 ⟨he, hb⟩
              rw [← HA.out] at he
              exact ⟨he, hq.next hb⟩)
           | (go_at_call_of 75 v
              refine (ifmt_s HV.out (tab_behind HT.out hq.1)).mono ?_
              rintro e' w7 ⟨he, hb⟩
              rw [← HC.out] at he
              exact ⟨he, hq.next hb⟩)
           | rfl
           | exact ⟨rfl, hq⟩
       simp only [Act.put, List.setIfInBounds_toArray, List.set_cons_zero, List.set_cons_succ]))
  refine wpQuiet_nil ?_
  intro w7 hq
  have HW := Lib.hid hq
  clear hq
  have HE' := HE.out
  generalize A ++ ⟨#[58]⟩ ++ C = S at HE' ⊢
  have HE2 := Lib.hid HE'
  clear HE HE'
  go_wp2_with fail
  go_ret
  exact ⟨by rw [HE2.out]; rfl, HW.out.1⟩

theorem spec_ft_t {w : World} {l : Nat} {c : List Value} {x : VToken} (h : tyToken.rd l w c x) (hl : l ≤ w.heap.size) : Calls Tryd.prog 37 #[.agg c.toArray] w fun e w' => e = .returned (.string (fmtT x.1 x.2)) ∧ Below w.heap.size w w' := by
  obtain ⟨rfl, h0, h1⟩ := rd_Token h
  exact spec_ft h0 h1
theorem impl_ft_t {w : World} {l : Nat} {c : List Value} {x : VToken} (h : tyToken.rd l w c x) (hl : l ≤ w.heap.size) (ht : TabIs Tryd.prog w "internal/strconv.uint64pow10" .u64 pow10Tab) : Calls Tryd.prog 36 #[.agg c.toArray] w fun e w' => e = .returned (.string (fmtT x.1 x.2)) ∧ Below w.heap.size w w' := by
  obtain ⟨rfl, h0, h1⟩ := rd_Token h
  exact impl_ft h0 h1 ht
theorem vb_tokf (x : VToken) : tyToken.vcnt x ≤ 1099511627776 := by
  have e1 : tyToken.vcnt x = 0 := rfl
  omega
end Go.Proofs.YtdccljmffmlkbaaDoor
