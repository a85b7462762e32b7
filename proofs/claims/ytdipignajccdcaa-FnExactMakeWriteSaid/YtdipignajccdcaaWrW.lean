/- The contracts of chapter 11 in the words of BaT. No conditions but a size that a machine holds. -/
import Derived.Test.YtdipignajccdcaaWrA
import Derived.Test.YtdipignajccdcaaWrB
import Derived.Test.YtdipignajccdcaaWr7
namespace Go.Proofs.Ytdipignajccdcaa
open Go Go.RowKit
set_option linter.unusedVariables false
attribute [local irreducible] kh

section
variable {l l2 : Nat} {w : World} {e e2 : TypeId} {u v : Value} {xs : List VDatabase} {c ss : List Int} {r x : Int}

theorem spec_mkw_t (hu : (sliceT e u8T).rd l w [u] c) (hl : l ≤ w.heap.size) (hv : (sliceT e2 i64T).rd l2 w [v] ss) (hl2 : l2 ≤ w.heap.size) (hr : (Lit.int .i64 r).wf = true) (hx : (Lit.int .i64 x).wf = true) (hs : ss.length ≤ 1099511627776) :
    Calls Try.prog 11 #[.int .i64 r, .int .i64 x, u, v] w fun e w' => ∃ (v' : Value) (F : Nat → Prop), e = .returned v' ∧ (sliceT 39 tyDatabase).own F w' [v'] (mkw r x c ss) ∧ (∀ b, F b → w.heap.size ≤ b ∧ b < w'.heap.size) ∧ Below w.heap.size w w' :=
  (spec_mkw (rd_of_sl hu) (rd_of_sl hv) hl hl2 hr hx hs).mono fun e w' ⟨v', he, ho, hb⟩ => ⟨v', _, he, ho, fun b h => h, hb⟩
theorem impl_mkw_t (hu : (sliceT e u8T).rd l w [u] c) (hl : l ≤ w.heap.size) (hv : (sliceT e2 i64T).rd l2 w [v] ss) (hl2 : l2 ≤ w.heap.size) (hr : (Lit.int .i64 r).wf = true) (hx : (Lit.int .i64 x).wf = true) :
    Calls Try.prog 14 #[.int .i64 r, .int .i64 x, u, v] w fun e w' => ∃ (v' : Value) (F : Nat → Prop), e = .returned v' ∧ (sliceT 39 tyDatabase).own F w' [v'] (mkw r x c ss) ∧ (∀ b, F b → w.heap.size ≤ b ∧ b < w'.heap.size) ∧ Below w.heap.size w w' :=
  (impl_mkw (rd_of_sl hu) (rd_of_sl hv) hl hl2 hr hx).mono fun e w' ⟨v', he, ho, hb⟩ => ⟨v', _, he, ho, fun b h => h, hb⟩
theorem spec_jw_t (hv : (sliceT e tyDatabase).rd l w [v] xs) (hl : l ≤ w.heap.size) (hm : totL tyDatabase xs ≤ 1099511627776) :
    Calls Try.prog 30 #[v] w fun e w' => ∃ (c : List Value) (F : Nat → Prop), e = .returned (.tuple #[.agg c.toArray, .bool (jwK xs)]) ∧ tyDatabase.own F w' c (jw xs) ∧ (∀ b, F b → w.heap.size ≤ b ∧ b < w'.heap.size) ∧ Below w.heap.size w w' :=
  (spec_jw hv hl hm).mono fun e w' ⟨v', he, ho, hb⟩ => ⟨[v'], _, he, slo2_of_own2 ho, fun b h => h, hb⟩
theorem impl_jw_t (hv : (sliceT e tyDatabase).rd l w [v] xs) (hl : l ≤ w.heap.size) (hm : totL tyDatabase xs ≤ 1099511627776) :
    Calls Try.prog 32 #[v] w fun e w' => ∃ (c : List Value) (F : Nat → Prop), e = .returned (.tuple #[.agg c.toArray, .bool (jwK xs)]) ∧ tyDatabase.own F w' c (jw xs) ∧ (∀ b, F b → w.heap.size ≤ b ∧ b < w'.heap.size) ∧ Below w.heap.size w w' :=
  (impl_jw hv hl hm).mono fun e w' ⟨v', he, ho, hb⟩ => ⟨[v'], _, he, slo2_of_own2 ho, fun b h => h, hb⟩
theorem spec_exw_t (hv : (sliceT e tyDatabase).rd l w [v] xs) (hl : l ≤ w.heap.size) (hu : (sliceT e2 u8T).rd l2 w [u] c) (hl2 : l2 ≤ w.heap.size) (hr : (Lit.int .i64 r).wf = true) (hx : (Lit.int .i64 x).wf = true) (hm : totL tyDatabase xs ≤ 1099511627776) :
    Calls Try.prog 35 #[v, .int .i64 r, .int .i64 x, u] w fun e w' => ∃ (cs : List Value) (F : Nat → Prop), e = .returned (.tuple #[.agg cs.toArray, .bool (exwK xs r x c)]) ∧ tyDatabase.own F w' cs (exw xs r x c) ∧ (∀ b, F b → w.heap.size ≤ b ∧ b < w'.heap.size) ∧ Below w.heap.size w w' :=
  (spec_exw hv (rd_of_sl hu) hl hl2 hr hx hm).mono fun e w' ⟨v', he, ho, hb⟩ => ⟨[v'], _, he, slo2_of_own2 ho, fun b h => h, hb⟩
theorem impl_exw_t (hv : (sliceT e tyDatabase).rd l w [v] xs) (hl : l ≤ w.heap.size) (hu : (sliceT e2 u8T).rd l2 w [u] c) (hl2 : l2 ≤ w.heap.size) (hr : (Lit.int .i64 r).wf = true) (hx : (Lit.int .i64 x).wf = true) (hm : totL tyDatabase xs ≤ 1099511627776) :
    Calls Try.prog 36 #[v, .int .i64 r, .int .i64 x, u] w fun e w' => ∃ (cs : List Value) (F : Nat → Prop), e = .returned (.tuple #[.agg cs.toArray, .bool (exwK xs r x c)]) ∧ tyDatabase.own F w' cs (exw xs r x c) ∧ (∀ b, F b → w.heap.size ≤ b ∧ b < w'.heap.size) ∧ Below w.heap.size w w' :=
  (impl_exw hv (rd_of_sl hu) hl hl2 hr hx hm).mono fun e w' ⟨v', he, ho, hb⟩ => ⟨[v'], _, he, slo2_of_own2 ho, fun b h => h, hb⟩
theorem spec_crw_t {cs : List Value} {z : VDatabase} (hv : tyDatabase.rd l w cs z) (hl : l ≤ w.heap.size) :
    Calls Try.prog 33 #[.agg cs.toArray] w fun e w' => e = .returned (.int .i64 ((crw z : Nat) : Int)) ∧ Below w.heap.size w w' := by
  obtain ⟨a, c, rfl, h⟩ := rd_Database hv
  exact spec_crw (rd2_of_sl2 h) hl
theorem impl_crw_t {cs : List Value} {z : VDatabase} (hv : tyDatabase.rd l w cs z) (hl : l ≤ w.heap.size) :
    Calls Try.prog 34 #[.agg cs.toArray] w fun e w' => e = .returned (.int .i64 ((crw z : Nat) : Int)) ∧ Below w.heap.size w w' := by
  obtain ⟨a, c, rfl, h⟩ := rd_Database hv
  exact impl_crw (rd2_of_sl2 h) hl
theorem spec_cw_t {a b : List Int} (hu : (sliceT e u8T).rd l w [u] a) (hl : l ≤ w.heap.size) (hv : (sliceT e2 u8T).rd l2 w [v] b) (hl2 : l2 ≤ w.heap.size) (hn : a.length + b.length ≤ 140737488355328) :
    Calls Try.prog 37 #[u, v] w fun e w' => ∃ (v' : Value) (F : Nat → Prop), e = .returned v' ∧ (sliceT 5 u8T).own F w' [v'] (xorl a b) ∧ (∀ b, F b → w.heap.size ≤ b ∧ b < w'.heap.size) ∧ Below w.heap.size w w' :=
  (spec_cw (rd_of_sl hu) (rd_of_sl hv) hl hl2 hn).mono fun e w' ⟨v', he, ho, hb⟩ => ⟨v', ival w.heap.size w'.heap.size, he, slo_of_own ho (fun b h1 h2 => ⟨h1, h2⟩), fun b h => h, hb⟩
theorem impl_cw_t {a b : List Int} (hu : (sliceT e u8T).rd l w [u] a) (hl : l ≤ w.heap.size) (hv : (sliceT e2 u8T).rd l2 w [v] b) (hl2 : l2 ≤ w.heap.size) (hn : a.length + b.length ≤ 140737488355328) :
    Calls Try.prog 38 #[u, v] w fun e w' => ∃ (v' : Value) (F : Nat → Prop), e = .returned v' ∧ (sliceT 5 u8T).own F w' [v'] (xorl a b) ∧ (∀ b, F b → w.heap.size ≤ b ∧ b < w'.heap.size) ∧ Below w.heap.size w w' :=
  (impl_cw (rd_of_sl hu) (rd_of_sl hv) hl hl2 hn).mono fun e w' ⟨v', he, ho, hb⟩ => ⟨v', ival w.heap.size w'.heap.size, he, slo_of_own ho (fun b h1 h2 => ⟨h1, h2⟩), fun b h => h, hb⟩
end

/-! How many marks. -/
theorem cnt_db (x : VDatabase) : tyDatabase.cnt x = fl x := cntL2 _ _ _ _ x
theorem cnt_dbs (xs : List VDatabase) : cntL tyDatabase xs ≤ totL tyDatabase xs := by
  induction xs with
  | nil => exact Nat.zero_le _
  | cons x r ih =>
    have h1 : tyDatabase.tot x = tot x := totL2 _ _ _ _ x
    have h2 := cnt_db x
    unfold cntL totL at ih ⊢
    simp only [List.map_cons, List.sum_cons, List.length_cons] at ih ⊢
    unfold tot at h1
    omega
theorem vb_dbs {e : TypeId} {xs : List VDatabase} (h : (sliceT e tyDatabase).tot xs ≤ 1048576) : (sliceT e tyDatabase).vcnt xs ≤ 1099511627776 := by
  have h1 : totL tyDatabase xs ≤ 1048576 := h
  have h2 := cnt_dbs xs
  show cntL tyDatabase xs ≤ _
  omega
theorem vb_db {x : VDatabase} (h : tot x ≤ 1099511627776) : tyDatabase.vcnt x ≤ 1099511627776 := by
  have h1 : tyDatabase.vcnt x = fl x := cntL2 _ _ _ _ x
  unfold tot at h
  omega
theorem vb_dbt {x : VDatabase} (h : tyDatabase.tot x ≤ 1048576) : tyDatabase.vcnt x ≤ 1099511627776 := by
  have h1 : tyDatabase.tot x = tot x := totL2 _ _ _ _ x
  exact vb_db (by omega)
theorem vb_ints {e : TypeId} {k : IntKind} {f : Int → Int} {hz : (Lit.int k 0).wf = true} {xs : List Int} (h : xs.length ≤ 1048576) : (sliceT e (intT k f hz)).vcnt xs ≤ 1099511627776 := by
  show cntL (intT k f hz) xs ≤ _
  rw [cntL_int]; omega
theorem mkw_tot {r x : Int} {c ss : List Int} : totL tyDatabase (mkw r x c ss) ≤ 10000 := by
  unfold mkw
  split
  · rename_i h
    unfold mkwK at h
    rw [Bool.and_eq_true] at h
    have hr := (rowOk_iff.1 h.1).1
    have hs : ss.length ≤ 3 := by
      have := h.2
      unfold inR at this
      simp only [Bool.and_eq_true, decide_eq_true_eq] at this
      omega
    have h1 := totL_sdbs (r := r) (by omega) ss
    have h2 : tot (adF (whole r x c) (sdbs r ss)) ≤ 1600 := adF_tot_le (adK_sdbs h.1 ss) (Nat.le_refl _) (vd_fl (whole_vd h.1))
    have h3 : tyDatabase.tot (adF (whole r x c) (sdbs r ss)) = tot (adF (whole r x c) (sdbs r ss)) := totL2 _ _ _ _ _
    unfold totL at h1 ⊢
    simp only [List.map_append, List.sum_append, List.length_append, List.map_cons, List.map_nil, List.sum_cons, List.sum_nil, List.length_cons, List.length_nil]
    omega
  · exact Nat.zero_le _
theorem vb_mkw {r x : Int} {c ss : List Int} : (sliceT 39 tyDatabase).vcnt (mkw r x c ss) ≤ 1099511627776 := by
  have h1 := mkw_tot (r := r) (x := x) (c := c) (ss := ss)
  have h2 := cnt_dbs (mkw r x c ss)
  show cntL tyDatabase _ ≤ _
  omega
theorem jw_tot (l : List VDatabase) : tot (jw l) ≤ 1600 := by
  unfold jw
  split
  · rename_i h
    unfold jwK at h
    rw [Bool.and_eq_true] at h
    refine adF_tot h.2 (fun hd => ?_)
    have h1 := h.1
    unfold inR at h1
    simp only [Bool.and_eq_true, decide_eq_true_eq] at h1
    have h2 := congrArg List.length hd
    rw [List.length_drop] at h2
    simp at h2
    omega
  · exact Nat.zero_le _
theorem exw_tot (l : List VDatabase) (r x : Int) (c : List Int) : tot (exw l r x c) ≤ 1600 := by
  unfold exw
  split
  · rename_i h
    unfold exwK at h
    rw [Bool.and_eq_true, Bool.and_eq_true] at h
    exact adF_tot_le h.2 (Nat.le_refl _) (vd_fl (whole_vd h.1.1))
  · exact Nat.zero_le _
theorem vb_jw (l : List VDatabase) : tyDatabase.vcnt (jw l) ≤ 1099511627776 := vb_db (Nat.le_trans (jw_tot l) (by decide))
theorem vb_exw (l : List VDatabase) (r x : Int) (c : List Int) : tyDatabase.vcnt (exw l r x c) ≤ 1099511627776 := vb_db (Nat.le_trans (exw_tot l r x c) (by decide))
theorem vb_xorl {e : TypeId} {a b : List Int} (ha : a.length ≤ 1048576) (hb : b.length ≤ 1048576) : (sliceT e u8T).vcnt (xorl a b) ≤ 1099511627776 := by
  show cntL (intT _ _ _) _ ≤ _
  rw [cntL_int]
  have := xorl_len_le a b
  omega
end Go.Proofs.Ytdipignajccdcaa
