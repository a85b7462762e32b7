/- Spent lists: a row of the call's own, sorted; the list of a map's keys in order (listSpent). No conditions but numbers and lengths that a machine holds. -/
import Derived.Test.YtdlbpeippmibcaaSp3
import Derived.Test.YtdlbpeippmibcaaShelf
namespace Go.Proofs.Ytdlbpeippmibcaa
open Go Go.RowKit Go.Maps Go.Sort
set_option linter.unusedVariables false
set_option maxRecDepth 20000
attribute [local irreducible] kh kid pwm tcm pw chl

/-- slices.Sort at a row of the call's own. -/
theorem sort_any {B : Nat} {w : World} {v : Value} {zs : List Int} (h : Own 3 .i64 B w v zs) (hl : zs.length < 4611686018427387904) :
    Calls Try.prog 80 #[v] w fun e w' => e = .returned (.tuple #[]) ∧ Own 3 .i64 B w' v (zs.mergeSort (fun x y => decide (x ≤ y))) ∧ w.grownBy w' v.ownBlock := by
  rcases Nat.eq_zero_or_pos zs.length with h0 | h0
  · obtain rfl : zs = [] := List.eq_nil_of_length_eq_zero h0
    have h' := h
    obtain ⟨a, cap, rfl, _⟩ := h.open
    refine (Try.slices_Sort_int_none a cap w).mono ?_
    rintro e w' ⟨he, rfl⟩
    exact ⟨he, by simpa using h', World.grownBy.refl _ _⟩
  · obtain ⟨g, cap, rfl, hH, hg, hB, hk⟩ := sort_own h h0
    refine (Try.slices_Sort_int g 0 cap zs w hH hg hl).mono ?_
    rintro e w' ⟨he, n, os, rfl⟩
    obtain ⟨k1, k2⟩ := hk n os (zs.mergeSort (fun x y => decide (x ≤ y))) (sort_len zs) (fun t ht => (List.mergeSort_perm zs _).mem_iff.1 ht)
    exact ⟨he, k1, k2⟩

/-- A step of a range over a set. -/
theorem wpList_next_set {P : Program} (w : World) {ops : Array Oper} {rest : List Oper} {o : Oper} {a : Act} {Q : Exit → Act → World → Prop} (hg : o.guard = none) (it : Operand) (hop : o.op = Op.next it false) (k e : TypeId) (K : Keyed P k) (hk : P.underlying k = some (.int .i64)) (he : P.underlying e = some .bool)
    (b r n : Nat) (D : DataW Unit) (hA : AllT D) (left : Lit → Bool) (cnt : Nat) (hit : a.eval it = .pointer (some ⟨r, 0, none⟩)) (h : w.ranges P k (plainElem P e) b r n D left cnt)
    (hDone : cnt = 0 → (∀ kl, left kl = false) → wpList P ops Q rest (a.put o.dst (.tuple #[.bool false])) w)
    (hMore : ∀ (x : Int) (w' : World) (cnt' : Nat), (Lit.int .i64 x).wf = true → left (.int .i64 x) = true → (∀ zd, D.atKey (.int .i64 x) zd = .lit (.bool true)) → w'.ranges P k (plainElem P e) b r n D (fun z => left z && !z.sameKey (.int .i64 x)) cnt' → cnt' < cnt →
      w.grownBy w' (some r) → (Instr.entry (.pointer (some ⟨r, 0, none⟩))).run P w' = .ok (.tuple #[.int .i64 x, .bool true]) w' → wpList P ops Q rest (a.put o.dst (.tuple #[.bool true, .int .i64 x, .bool true])) w') :
    wpList P ops Q (o :: rest) a w :=
  wpList_next_ranges w hg it hop k K (plainElem P e) (Value.int .i64) Value.bool (fun key kl hkey => by obtain ⟨x, rfl, _⟩ := Maps.keyOf_int_inv hk hkey; exact ⟨x, rfl⟩) (fun v y hv => by obtain ⟨c, rfl, _⟩ := plainElem_bool_inv he hv; exact ⟨c, rfl⟩)
    b r n D left cnt hit h hDone (fun x c kl y w' cnt' hkey hlk hv hat hrg hlt hgr hsz hen => by
      obtain ⟨x', ex, rfl, hwx⟩ := Maps.keyOf_int_inv hk hkey
      cases ex
      obtain ⟨c', ec, rfl⟩ := plainElem_bool_inv he hv
      cases ec
      have h1 := hA _ (has_true_of_atKey hat) .nil
      rw [hat .nil] at h1
      have hc : c = true := by injection h1 with h1; injection h1
      subst hc
      exact hMore x w' cnt' hwx hlk hat hrg hlt hgr hen)

set_option maxRecDepth 100000 in
set_option maxHeartbeats 4000000 in
/-- impl.listSpent -/
theorem impl_lsp {w : World} {e : Int} {b n : Nat} {D : DataW Unit} {L : List Int} (hown : w.ownsMap Try.prog 3 (plainElem (H := Unit) Try.prog 4) b n D) (hM : MapIs D L) (hA : AllT D) (hL : okSl L = true) (hn : L.length ≤ 1099511627776) :
    Calls Try.prog 52 #[.int .i64 e, .map (some b)] w fun x w' => ∃ v', x = .returned (.agg #[.int .i64 e, v']) ∧ Own 3 .i64 w.heap.size w' v' L ∧ Below w.heap.size w w' := by
  obtain ⟨i0, hi, hz0, hz1, hz2⟩ := info_parts infoi64
  have Hhi := Lib.hid hi
  have hK := heap_alloc_new w (.cells #[.int .i64 0, .slice none 0 0] 26)
  have hb0 := (Below.refl w.heap.size w).alloc (Nat.le_refl _) (.cells #[.int .i64 0, .slice none 0 0] 26)
  have hm0 := hown.alloc (.cells #[.int .i64 0, .slice none 0 0] 26)
  obtain ⟨W0, hW0⟩ : ∃ W, W = w.alloc (.cells #[.int .i64 0, .slice none 0 0] 26) := ⟨_, rfl⟩
  rw [← hW0] at hK hb0 hm0
  have HW0 := Lib.hid hW0
  have HK := Lib.hid hK
  have HB0 := Lib.hid hb0
  have HLt := Lib.hid (lt_of_block hK)
  have hbl := Nat.lt_of_lt_of_le hown.lt hb0.size
  have HBl := Lib.hid hbl
  obtain ⟨m, hm⟩ : ∃ m, m = Maps.size D := ⟨_, rfl⟩
  have hmb : m ≤ 1099511627776 := by rw [hm, hM.2.2]; exact hn
  have HMs := Lib.hid hm
  have HM0 := Lib.hid hm0
  have HMi := Lib.hid hM
  have HAl := Lib.hid hA
  have HLo := Lib.hid hL
  have HLn := Lib.hid hn
  clear hW0 hK hb0 hm0 hbl hown hm hM hA hL hi hn
  go_enter Try.func52, Try.ntmps52
  go_wp2_with (first
    | (at_len; rw [← HW0.out]; refine wpList_len_own _ rfl _ 66 rfl 3 4 Try.underlying66 _ b n _ rfl HM0.out ?_; rw [← HMs.out])
    | (at_make; refine wpList_make_own _ rfl _ _ 24 rfl W0.heap.size 3 i0 (.int .i64 0) 1 Try.underlying24 Hhi.out hz0 hz1 .i64 .i64 _ m rfl rfl rfl (by rw [hz2]; omega) (by unfold maxLen; omega) (Nat.le_refl _) ?_))
  intro w1 hrow1 hg1
  have hm1 := HM0.out.kept hg1 (by simp)
  have HM1 := Lib.hid hm1
  have HO1 : Hid (Own 3 .i64 W0.heap.size w1 (.slice (some ⟨W0.heap.size, 0, none⟩) 0 m) []) := Lib.hid ⟨by simp, hg1.size, hrow1⟩
  have HB1 := Lib.hid ((Below.refl W0.heap.size W0).grown hg1 (Nat.le_refl _) (fun k hk => by cases hk))
  clear hrow1 hg1 hm1
  go_wp2_with (first
    | (at_range; refine wpList_range_own _ rfl _ 66 rfl 3 4 lawInt Try.underlying66 _ b n _ rfl HM1.out ?_; intro w0 hrg0 hg0 hs0))
  have HR0 := Lib.hid hrg0
  have HO2 := Lib.hid (HO1.out.kept hg0 (Or.inr (by simp [Value.ownBlock])))
  have HB2 := Lib.hid (HB1.out.grown hg0 HB1.out.size (fun k hk => by cases hk))
  obtain ⟨r, hr⟩ : ∃ r, r = w1.heap.size := ⟨_, rfl⟩
  rw [← hr] at HR0 ⊢
  have HRg : Hid (W0.heap.size ≤ r) := Lib.hid (by rw [hr]; exact HB1.out.size)
  clear hrg0 hg0 hs0 HO1 HB1 HM1 hr
  go_frame
  go_loopw [5] (fun v wr => ∃ (left : Lit → Bool) (cnt : Nat) (ss : List Int), wr.ranges Try.prog 3 (plainElem (H := Unit) Try.prog 4) b r n D left cnt ∧ Own 3 .i64 W0.heap.size wr v ss ∧ CollI D left ss ∧ Below W0.heap.size W0 wr) (fun _ wr => wr.rangeLeft b r)
  case atStart => exact ⟨_, _, [], HR0.out, HO2.out, CollI.start D, HB2.out⟩
  case round =>
    obtain ⟨left, cnt, ss, hrg, hO, hC, hB⟩ := hrel
    have HR := Lib.hid hrg
    have HO := Lib.hid hO
    have HCo := Lib.hid hC
    have HB := Lib.hid hB
    clear hrg hO hC hB HO2 HB2 HR0
    go_wp2_with (first
      | (at_next; refine wpList_next_set _ rfl _ rfl 3 4 lawInt Try.underlying3 Try.underlying4 b r n _ HAl.out _ _ rfl HR.out ?_ ?_))
    · intro hc0 hl0
      have HEq : Hid (ss.mergeSort (fun x y => decide (x ≤ y)) = L) := Lib.hid (sorted_is HCo.out.1 (fun x => by rw [HCo.out.full hl0, HMi.out.2.1, memS_iff]) (okSl_iff.1 HLo.out).2)
      have HSl : Hid (ss.length ≤ L.length) := Lib.hid (nodup_len HCo.out.1 (fun x hx => by rw [← memS_iff, ← HMi.out.2.1, ← HCo.out.full hl0]; exact hx))
      clear hc0 hl0
      obtain ⟨a, c, rfl, _⟩ := HO.out.open
      go_wp2_with fail
      refine (sort_any HO.out (by have := HSl.out; have := HLn.out; omega)).mono ?_
      rw [HEq.out]
      rintro e' w3 ⟨rfl, hO, hg⟩
      have hB := HB.out.trans (HO.out.below (Nat.le_refl _) hg)
      have hk := (hB.block _ HLt.out).trans HK.out
      obtain ⟨q0, q1, f0, f1⟩ := scs hk
      obtain ⟨k9, g9⟩ := sst hk (.int .i64 e) (.slice a ss.length c)
      obtain ⟨r0, r1, _⟩ := scs k9
      have hB9 := (HB0.out.trans (hB.mono HB0.out.size)).grown g9 (HB0.out.trans (hB.mono HB0.out.size)).size (fun k hk => by injection hk with hk; omega)
      have hO9 := hO.kept g9 (Or.inr (fun hh => by have := (hO.lt _ hh).1; have := HLt.out; omega))
      have HB9 := Lib.hid hB9
      have HO9 := Lib.hid (hO9.mono HB0.out.size)
      clear k9 g9 hk hB9 hO9 hB hg hO
      go_wp2_with fail
      exact bodyPost_ret (v := .agg #[.int .i64 e, .slice a ss.length c]) (by simp [results, Try.results52, go_sem, r0, r1]) rfl ⟨_, rfl, HO9.out, HB9.out⟩
    · intro x w2 cnt2 hwx hlk hat hrg2 hlt hg2 hen
      have HC2 := Lib.hid (HCo.out.step hlk hat)
      have HSl : Hid ((ss ++ [x]).length ≤ L.length) := Lib.hid (HC2.out.len (fun y hy => by rw [← memS_iff, ← HMi.out.2.1]; exact hy))
      have hne := row_ne_iter HO.out.2.2 HR.out
      have HB2 := Lib.hid (HB.out.grown hg2 HB.out.size (fun k hk => by injection hk with hk; have := HRg.out; omega))
      have HO2 := Lib.hid (HO.out.kept hg2 (Or.inr hne.symm))
      have HR2 := Lib.hid hrg2
      have HLt2 := Lib.hid hlt
      have HX := Lib.hid hwx
      clear hlk hat hrg2 hlt hg2 hne hwx
      have R1 := Lib.hid (Rd.one 3 .i64 w2 x HX.out)
      have O1 := Lib.hid (HO2.out.alloc (.cells #[.int .i64 x] 3))
      have B1 := Lib.hid (HB2.out.alloc HB2.out.size (.cells #[.int .i64 x] 3))
      have R3 := Lib.hid (HR2.out.alloc (.cells #[.int .i64 x] 3))
      go_wp2_with (first | (at_builtin; refine append_rd _ rfl _ _ 24 rfl 3 i0 (.int .i64 0) 8 Try.underlying24 Hhi.out hz0 hz1 hz2 rfl (by omega) rfl O1.out rfl R1.out (by have := HSl.out; have := HLn.out; simp only [List.length_append, List.length_singleton] at *; omega) ?_))
      intro v3 w3 hO hg
      have HB3 := Lib.hid (B1.out.trans (O1.out.below (Nat.le_refl _) hg))
      have hR := R3.out.kept hg (row_ne_low O1.out.2.2 HBl.out) (row_ne_iter O1.out.2.2 R3.out)
      have HR3 := Lib.hid hR
      have HO3 := Lib.hid hO
      clear hO hg hR
      go_wp2_with fail
      go_roundw
      case rel => exact ⟨_, cnt2, ss ++ [x], HR3.out, HO3.out, HC2.out, HB3.out⟩
      case measure => rw [HR3.out.left_eq, HR.out.left_eq]; exact HLt2.out

end Go.Proofs.Ytdlbpeippmibcaa
