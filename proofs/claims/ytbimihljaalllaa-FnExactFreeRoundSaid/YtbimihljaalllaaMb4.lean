/- Mailboxes: CountCollisions of the program (a set of the rows) and of the document. No conditions but a length that a machine holds. -/
import Derived.Test.YtbimihljaalllaaMbN
import Derived.Test.YtbimihljaalllaaBa6
import Derived.Maps.Own
import Derived.Maps.OwnSet
import Derived.BigQuiet
namespace Go.Proofs.Ytbimihljaalllaa
open Go Go.RowKit Go.Maps
set_option linter.unusedVariables false
attribute [local irreducible] kh kid

/-- The first k rows as keys of a map; the map that holds them. -/
def mkeys (zs : List Int) (k : Nat) : List Lit := (zs.take k).map (Lit.int .i64)
def mset (zs : List Int) (k : Nat) : DataW Unit := setOf (.lit (.bool true)) (mkeys zs k)
theorem mkeys_lit (zs : List Int) (k : Nat) : ∀ x ∈ mkeys zs k, WideAt.IsKeyLit x := by
  intro x hx
  obtain ⟨z, _, rfl⟩ := List.mem_map.1 hx
  trivial
theorem mset_zero (zs : List Int) : mset zs 0 = .map [] := by simp [mset, mkeys, setOf]
theorem mset_succ {zs : List Int} {k : Nat} (hk : k < zs.length) : mset zs (k + 1) = (mset zs k).put (.int .i64 (zs.getD k 0)) (.lit (.bool true)) := by
  have : mkeys zs (k + 1) = mkeys zs k ++ [.int .i64 (zs.getD k 0)] := by
    unfold mkeys
    rw [List.take_add_one, List.map_append, List.getD_eq_getElem?_getD, List.getElem?_eq_getElem hk]
    rfl
  unfold mset
  rw [this, setOf_snoc]
theorem mset_has (zs : List Int) (k : Nat) (z : Int) : Maps.has (mset zs k) (.int .i64 z) = (zs.take k).contains z := by
  unfold mset
  rw [has_setOf _ _ _ (mkeys_lit zs k)]
  unfold mkeys
  rw [List.any_map, Bool.eq_iff_iff, List.any_eq_true, List.contains_iff_mem]
  constructor
  · rintro ⟨x, hx, he⟩
    have he' : (Lit.int .i64 x).sameKey (.int .i64 z) = true := he
    have := WideAt.sameKey_eq he'
    injection this with _ e
    exact e ▸ hx
  · intro h
    exact ⟨z, h, WideAt.sameKey_self (a := .int .i64 z) trivial⟩
/-- How many different ones there are: what does not occur earlier. -/
theorem mset_size (zs : List Int) : ∀ k, k ≤ zs.length → Maps.size (mset zs k) + cfn zs k = k
  | 0, _ => by rw [mset_zero]; rfl
  | k + 1, hk => by
    have ih := mset_size zs k (by omega)
    have ht : Tidy (mset zs k) := tidy_setOf _ _ (mkeys_lit zs k)
    have e : cfn zs (k + 1) = (if (zs.take k).contains (zs.getD k 0) = true then cfn zs k + 1 else cfn zs k) := rfl
    rw [mset_succ (by omega), size_put ht, mset_has, e]
    split <;> omega

theorem lawInt : Keyed Try.prog 3 := int_keyed Try.underlying3

theorem mset_le (zs : List Int) : Maps.size (mset zs zs.length) ≤ zs.length := by
  have := mset_size zs zs.length (Nat.le_refl _)
  omega
theorem imake (w : World) (n : Int) : (Instr.makeMap 73 (some (.int .i64 n))).run Try.prog w = .ok (.map (some w.heap.size)) (w.alloc (.map #[] 0)) := by
  simp [Instr.makeMap, run_underlying Try.underlying73, Result.andThen, asInt]
  rfl

set_option maxRecDepth 100000 in
set_option maxHeartbeats 2000000 in
/-- impl.differentNumbers. -/
theorem impl_dn {lim : Nat} {w : World} {v : Value} {zs : List Int} (h : Rd lim .i64 w v zs) (hlim : lim ≤ w.heap.size) :
    Calls Try.prog 67 #[v] w fun e w' => ∃ b, e = .returned (.map (some b)) ∧ w.heap.size ≤ b ∧ w'.ownsMap Try.prog 3 (plainElem (H := Unit) Try.prog 4) b zs.length (mset zs zs.length) ∧ Below w.heap.size w w' := by
  obtain ⟨p, cap, rfl, h1, h2, hc⟩ := h.open
  have Hc := Lib.hid hc
  have H := Lib.hid h
  have hmm := fun w' n => imake w' n
  have HM0 : Hid ((w.alloc (.map #[] 0)).ownsMap Try.prog 3 (plainElem (H := Unit) Try.prog 4) w.heap.size 0 (mset zs 0)) := Lib.hid (by rw [mset_zero]; exact World.ownsMap_made _ _ _ _)
  have HB0 := Lib.hid ((Below.refl w.heap.size w).alloc (Nat.le_refl _) (.map #[] 0))
  have hlen : zs.length ≤ 9223372036854775807 := by unfold maxLen at h2; omega
  have HLm : Hid (zs.length ≤ maxLen) := Lib.hid h.len
  clear h hc
  unfold maxLen at h2
  go_enter Try.func67, Try.ntmps67
  go_wp2_with fail
  go_loopw [11] (fun i wr => ∃ j : Nat, i = .int .i64 j ∧ j ≤ zs.length ∧ wr.ownsMap Try.prog 3 (plainElem (H := Unit) Try.prog 4) w.heap.size j (mset zs j) ∧ Below w.heap.size w wr) (fun i _ => zs.length - (intOf i).toNat)
  case atStart => exact ⟨0, rfl, Nat.zero_le _, HM0.out, HB0.out⟩
  case round =>
    obtain ⟨j, rfl, hj, hO, hB⟩ := hrel
    have HO := Lib.hid hO
    have HB := Lib.hid hB
    clear hO hB HM0 HB0
    by_cases hlt : j < zs.length
    · have e1 : decide ((j : Int) < (zs.length : Int)) = true := by simp; omega
      obtain ⟨b, o, rfl, hb, hcell⟩ := Hc.out (by omega)
      have c1 := hcell _ (HB.out.mono hlim) j hlt
      have hw := H.out.wf hlt
      obtain ⟨z, hz⟩ : ∃ z, z = zs.getD j 0 := ⟨_, rfl⟩
      rw [← hz] at c1 hw
      have HK : Hid (keyOf Try.prog 3 (.int .i64 z) = some (.int .i64 z)) := Lib.hid (keyOf_int_mk Try.underlying3 hw)
      have HS : Hid (mset zs (j + 1) = (mset zs j).put (.int .i64 z) (.lit (.bool true))) := Lib.hid (by rw [mset_succ hlt, hz])
      clear hcell hz hw
      go_wp2_with (first
        | (at_mapUpdate; refine wpList_mapUpdate_own _ rfl _ _ _ 73 rfl 3 4 lawInt Try.underlying73 (plainElem (H := Unit) Try.prog 4) w.heap.size j _ rfl HO.out (by have := HLm.out; omega) _ _ _ rfl rfl HK.out _ [] (plainElem_bool Try.underlying4 true) ?_; intro w1 hown1 hgrow1))
      rw [← HS.out] at hown1
      have H1 := Lib.hid hown1
      have H2 := Lib.hid (HB.out.grown hgrow1 HB.out.size (fun k hk => by injection hk with hk; omega))
      clear hown1 hgrow1
      go_wp2_with fail
      go_roundw
      case rel => exact ⟨j + 1, by simp, hlt, H1.out, H2.out⟩
      case measure => simp [intOf]; omega
    · have e1 : decide ((j : Int) < (zs.length : Int)) = false := by simp; omega
      obtain rfl : j = zs.length := by omega
      go_wp2_with fail
      go_ret
      exact ⟨_, rfl, Nat.le_refl _, HO.out, HB.out⟩

set_option maxRecDepth 100000 in
set_option maxHeartbeats 2000000 in
/-- impl.CountCollisions. -/
theorem impl_col {lim : Nat} {w : World} {v : Value} {zs : List Int} (h : Rd lim .i64 w v zs) (hlim : lim ≤ w.heap.size) :
    Calls Try.prog 54 #[v] w fun e w' => e = .returned (.int .i64 (col zs)) ∧ Below w.heap.size w w' := by
  have hlen : zs.length ≤ 9223372036854775807 := by have := h.len; unfold maxLen at this; omega
  have hz := mset_size zs zs.length (Nat.le_refl _)
  obtain ⟨m, hm⟩ : ∃ m, m = Maps.size (mset zs zs.length) := ⟨_, rfl⟩
  have HM := Lib.hid hm
  obtain ⟨c, hcc⟩ : ∃ c, c = col zs := ⟨_, rfl⟩
  have HCc := Lib.hid hcc
  have hmc : m + c = zs.length := by rw [hm, hcc]; exact hz
  have hsub : (zs.length : Int) - (m : Int) = (c : Int) := by omega
  have H := Lib.hid h
  obtain ⟨p, cap, rfl, h1, h2, hc⟩ := h.open
  clear hz hm hcc h h1 h2 hc
  rw [← HCc.out]
  go_enter Try.func54, Try.ntmps54
  go_wp2_with fail
  refine (impl_dn H.out hlim).mono ?_
  rintro e w1 ⟨b, rfl, hb, hO, hB⟩
  have HO := Lib.hid hO
  have HB := Lib.hid hB
  clear hO hB
  go_wp2_with (first
    | (at_len; refine wpList_len_own _ rfl _ 73 rfl 3 4 Try.underlying73 _ b zs.length _ rfl HO.out ?_; rw [← HM.out]))
  go_ret
  exact ⟨by first | rfl | (simp; omega), HB.out⟩

set_option maxRecDepth 20000 in
set_option maxHeartbeats 2000000 in
/-- spec.CountCollisions. -/
theorem spec_col {lim : Nat} {w : World} {v : Value} {zs : List Int} (h : Rd lim .i64 w v zs) (hlim : lim ≤ w.heap.size) :
    Calls Try.prog 51 #[v] w fun e w' => e = .returned (.int .i64 (col zs)) ∧ Below w.heap.size w w' := by
  obtain ⟨p, cap, rfl, h1, h2, hc⟩ := h.open
  have Hc := Lib.hid hc
  have H := Lib.hid h
  have hlen : zs.length ≤ 9223372036854775807 := by unfold maxLen at h2; omega
  clear h hc
  unfold maxLen at h2
  go_enter Try.func51, Try.ntmps51
  go_wp2_with fail
  go_loopw [3, 4] (fun n i wr => ∃ j : Nat, i = .int .i64 j ∧ j ≤ zs.length ∧ n = .int .i64 (cfn zs j) ∧ Below w.heap.size w wr) (fun _ i _ => zs.length - (intOf i).toNat)
  case atStart => exact ⟨0, rfl, Nat.zero_le _, rfl, Below.refl _ _⟩
  case round =>
    obtain ⟨j, rfl, hj, rfl, hB⟩ := hrel
    have HB := Lib.hid hB
    obtain ⟨c, hcc⟩ : ∃ c, c = cfn zs j := ⟨_, rfl⟩
    have hcj : c ≤ j := by rw [hcc]; exact cfn_le _ _
    rw [← hcc]
    have HC := Lib.hid hcc
    clear hB hcc
    by_cases hlt : j < zs.length
    · have e1 : decide ((j : Int) < (zs.length : Int)) = true := by simp; omega
      have hji : (j : Int) < (zs.length : Int) := by omega
      obtain ⟨b, o, rfl, hb, hcell⟩ := Hc.out (by omega)
      have HCell := Lib.hid hcell
      obtain ⟨z, hz⟩ : ∃ z, z = zs.getD j 0 := ⟨_, rfl⟩
      have HZ := Lib.hid hz
      clear hcell hz
      go_wp2_with fail
      go_loopw [3, 5] (fun n k wr => ∃ t : Nat, k = .int .i64 t ∧ n = .int .i64 (c : Int) ∧ t ≤ j ∧ (∀ q, q < t → zs.getD q 0 ≠ z) ∧ Below w.heap.size w wr) (fun _ k _ => j - (intOf k).toNat)
      case atStart => exact ⟨0, rfl, rfl, Nat.zero_le _, fun q hq => by omega, HB.out⟩
      case round =>
        obtain ⟨t, rfl, rfl, ht, hno, hB⟩ := hrel
        replace HB := Lib.hid hB
        have HNo := Lib.hid hno
        clear hB hno
        by_cases htj : t < j
        · have e2 : decide ((t : Int) < (j : Int)) = true := by simp; omega
          have hti : (t : Int) < (zs.length : Int) := by omega
          have c1 := HCell.out _ (HB.out.mono hlim) t (by omega)
          have c2 := HCell.out _ (HB.out.mono hlim) j hlt
          rw [← HZ.out] at c2
          obtain ⟨y, hy⟩ : ∃ y, y = zs.getD t 0 := ⟨_, rfl⟩
          rw [← hy] at c1
          have HY := Lib.hid hy
          clear hy
          by_cases hyz : y = z
          · have e3 : (y == z) = true := beq_iff_eq.2 hyz
            have HE : Hid (cfn zs (j + 1) = c + 1) := Lib.hid (by rw [HC.out]; exact cfn_hit htj hlt (by rw [← HY.out, ← HZ.out]; exact hyz))
            clear hyz
            go_wp2_with fail
            go_quiet (fail)
            go_wp2_with fail
            go_roundw
            case rel => exact ⟨j + 1, by simp, hlt, by rw [HE.out]; simp, HB.out.trans (below_drewN ⟨_, rfl⟩)⟩
            case measure => simp [intOf]; omega
          · have e3 : (y == z) = false := beq_eq_false_iff_ne.2 hyz
            have HN : Hid (y ≠ z) := Lib.hid hyz
            clear hyz
            go_wp2_with fail
            go_quiet (fail)
            go_wp2_with fail
            go_roundw
            case rel =>
              refine ⟨t + 1, by simp, rfl, by omega, fun q hq => ?_, HB.out.trans (below_drewN ⟨_, rfl⟩)⟩
              by_cases hqt : q = t
              · rw [hqt, ← HY.out]; exact HN.out
              · exact HNo.out q (by omega)
            case measure => simp [intOf]; omega
        · have e2 : decide ((t : Int) < (j : Int)) = false := by simp; omega
          have HE : Hid (cfn zs (j + 1) = c) := Lib.hid (by rw [HC.out]; exact cfn_miss hlt (fun k hk => by rw [← HZ.out]; exact HNo.out k (by omega)))
          go_wp2_with fail
          go_roundw
          case rel => exact ⟨j + 1, by simp, hlt, by rw [HE.out], HB.out⟩
          case measure => simp [intOf]; omega
    · have e1 : decide ((j : Int) < (zs.length : Int)) = false := by simp; omega
      have HE : Hid (c = col zs) := Lib.hid (by rw [HC.out, show j = zs.length by omega]; rfl)
      go_wp2_with fail
      go_ret
      exact ⟨by rw [HE.out]; rfl, HB.out⟩

end Go.Proofs.Ytbimihljaalllaa
