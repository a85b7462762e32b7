import Derived.Test.YtngdcnocjgibkaaPkP
import Derived.Test.YtngdcnocjgibkaaQuP
import Derived.Test.YtngdcnocjgibkaaTreN
import Derived.Test.YtngdcnocjgibkaaBaM
import Derived.WalkKit
import Derived.Handy
import Derived.Outline
import Derived.WalkSpells
import Derived.Lib.Hide

/- What the property of reading with point keys needs: the answers of two servers join to the row. No program. -/
section
namespace Go.Proofs.Ytngdcnocjgibkaa
open Go Go.RowKit
set_option linter.unusedVariables false
attribute [local irreducible] kh

section
variable {d : List (List Int)}
theorem pk_vrows (hr : ∀ z ∈ d, z.length = 24) : vrows d = true := List.all_eq_true.2 fun z hz => by rw [hr z hz]; rfl
theorem pk_ans_len (hr : ∀ z ∈ d, z.length = 24) {v : List Int} (hk : ansK d v = true) : (ans d v).length = 24 := by
  rw [ans_yes hk, xorl_len, List.length_replicate]
  by_cases he : chosen d v = []
  · unfold sx
    rw [he, xorAll_nil]
    simp
  · unfold sx
    rw [xorAll_len_same (chosen_mem hr) he]
    simp
/-- Two servers' answers. -/
theorem pk_read (hr : ∀ z ∈ d, z.length = 24) (hd : ∀ z ∈ d, U8s z) {n I : Nat} (hn : d.length = n) (h64 : n ≤ 64) (hI : I < n) {X Y : List Int} (hX : isel X (n : Int) = true) (hY : isel Y (n : Int) = true) (hx : xors X Y = (List.replicate n 0).set I 1) :
    caK [ans d X, ans d Y] = true ∧ ca [ans d X, ans d Y] = d.getD I [] := by
  have hv : vd d = true := by unfold vd; rw [pk_vrows hr, decide_eq_true (by omega)]; rfl
  have kX : ansK d X = true := by unfold ansK; rw [hv, hn, hX]; rfl
  have kY : ansK d Y = true := by unfold ansK; rw [hv, hn, hY]; rfl
  have hall : ∀ z ∈ [ans d X, ans d Y], z.length = 24 := fun z hz => by
    rcases List.mem_cons.1 hz with rfl | hz
    · exact pk_ans_len hr kX
    · rw [List.mem_singleton.1 hz]; exact pk_ans_len hr kY
  have hk : caK [ans d X, ans d Y] = true := by
    unfold caK
    rw [pk_vrows hall]
    rfl
  have hId : I < d.length := by omega
  have h24 : (d.getD I []).length = 24 := by
    rw [List.getD_eq_getElem?_getD, List.getElem?_eq_getElem hId]
    exact hr _ (List.getElem_mem hId)
  refine ⟨hk, ?_⟩
  rw [ca_yes hk]
  refine list_eq (by rw [xorAll_len_same hall (by simp), h24]) fun i hi => ?_
  have e1 : (xorAll [ans d X, ans d Y]).getD i 0 = bx (bx 0 ((ans d X).getD i 0)) ((ans d Y).getD i 0) := by
    unfold xorAll
    rw [xorAll_bxf]
    rfl
  have bX := isel_iff.1 hX
  have bY := isel_iff.1 hY
  have hs := sx_xor hd bX.1 bY.1 (by omega) i
  have ho := sx_one hd hn h64 hI
  have hu : unitV (n : Int) (I : Int) = (List.replicate n (0 : Int)).set I 1 := by
    unfold unitV
    rw [if_pos (by omega)]
    rfl
  rw [hu, ← hx] at ho
  rw [ho] at hs
  have hc := bx_cancel ((sx_u8 hd X).get i).1 (by rw [← ho]; exact ((sx_u8 hd _).get i).1) ((sx_u8 hd Y).get i).1 hs
  rw [e1, ans_getD hd hv (by rw [hn]; exact hX) i, ans_getD hd hv (by rw [hn]; exact hY) i, zero_bx ((sx_u8 hd X).get i).1, hc]
theorem pk_fl (hr : ∀ z ∈ d, z.length = 24) : fl d = d.length * 24 := by
  induction d with
  | nil => rfl
  | cons z l ih =>
    have h1 := hr z (List.mem_cons_self ..)
    have h2 := ih fun y hy => hr y (List.mem_cons_of_mem _ hy)
    unfold fl at h2 ⊢
    rw [List.map_cons, List.sum_cons, h1, h2, List.length_cons]
    omega
theorem pk_tot (hr : ∀ z ∈ d, z.length = 24) {n : Nat} (hn : d.length = n) (h64 : n ≤ 64) : tot d ≤ 1099511627776 := by
  have h1 := pk_fl hr
  unfold tot
  omega
theorem pk_two (hr : ∀ z ∈ d, z.length = 24) {n : Nat} (hn : d.length = n) (h64 : n ≤ 64) {X Y : List Int} (hX : isel X (n : Int) = true) (hY : isel Y (n : Int) = true) : ∀ z ∈ [ans d X, ans d Y], z.length = 24 := fun z hz => by
  have hv : vd d = true := by unfold vd; rw [pk_vrows hr, decide_eq_true (by omega)]; rfl
  rcases List.mem_cons.1 hz with rfl | hz
  · exact pk_ans_len hr (by unfold ansK; rw [hv, hn, hX]; rfl)
  · rw [List.mem_singleton.1 hz]; exact pk_ans_len hr (by unfold ansK; rw [hv, hn, hY]; rfl)
theorem pk_set (hr : ∀ z ∈ d, z.length = 24) (i : Nat) {z : List Int} (hz : z.length = 24) : ∀ y ∈ d.set i z, y.length = 24 := fun y hy => by
  rcases List.mem_or_eq_of_mem_set hy with h | h
  · exact hr y h
  · rw [h]; exact hz
end

theorem pk_u8 {lim : Nat} {w : World} {v : Value} {d : List (List Int)} (h : Rd2 lim .u8 w v d) : ∀ z ∈ d, U8s z := fun z hz => by
  obtain ⟨us, hus, _, hr⟩ := h
  obtain ⟨i, hi, rfl⟩ := List.mem_iff_getElem.1 hz
  exact (hr i us[i] _ (List.getElem?_eq_getElem (by omega)) (List.getElem?_eq_getElem hi)).u8s
/-- A literal of two rows. -/
theorem rd2_two {w : World} {u v : Value} {xs ys : List Int} {k : IntKind} {l1 l2 : Nat} (hu : Rd l1 k w u xs) (hv : Rd l2 k w v ys) (h1 : l1 ≤ w.heap.size) (h2 : l2 ≤ w.heap.size) (t : TypeId) :
    Rd2 (w.heap.size + 1) k (w.alloc (.cells #[u, v] t)) (.slice (some ⟨w.heap.size, 0, none⟩) 2 2) [xs, ys] := by
  have b1 := (Below.refl w.heap.size w).alloc (Nat.le_refl _) (.cells #[u, v] t)
  refine ⟨[u, v], rfl, ⟨_, 2, rfl, Nat.le_refl _, by unfold maxLen; omega, .inr ⟨_, rfl, fun i y hy => ?_, .inl (Nat.lt_succ_self _)⟩⟩, fun i x zs hx hz => ?_⟩
  · have e1 : (⟨w.heap.size, 0, none⟩ : Addr).add i = ⟨w.heap.size, i, none⟩ := by unfold Addr.add; split <;> simp_all
    rw [e1, blk_cell (heap_alloc_new w (.cells #[u, v] t)) i, ← hy]
    simp
  · rcases i with _ | _ | i
    · injection hx with hx
      injection hz with hz
      subst hx
      subst hz
      exact (hu.behind (b1.mono h1)).mono (by omega)
    · injection hx with hx
      injection hz with hz
      subst hx
      subst hz
      exact (hv.behind (b1.mono h2)).mono (by omega)
    · simp at hx

end Go.Proofs.Ytngdcnocjgibkaa
end

/- Trees of seeds: ChildSeed, ControlBit, isLeaf, sideAt, the program's and the document's. No conditions but numbers that a machine holds. -/
section
namespace Go.Proofs.Ytngdcnocjgibkaa
open Go Go.RowKit
set_option linter.unusedVariables false

theorem i64_and1 (n : Int) : bits .and .i64 n 1 = n % 2 := i64_mask 1 1 (by decide) (by decide) n

set_option maxHeartbeats 1000000 in
/-- impl.ChildSeed. -/
theorem impl_cs {w : World} {s c : Int} (hs : (Lit.int .i64 s).wf = true) (hc : (Lit.int .i64 c).wf = true) :
    Calls Try.prog 73 #[.int .i64 s, .int .i64 c] w fun e w' => e = .returned (.int .i64 (kid s c)) ∧ Below w.heap.size w w' := by
  have HR := Lib.hid (Rd.two 3 .i64 w 47 c (by decide) hc)
  have HS := Lib.hid hs
  have hb := kh_bound s [47, c]
  have hm : 0 ≤ kh s [47, c] * kh s [47, c] ∧ kh s [47, c] * kh s [47, c] ≤ 2147483646 * 2147483646 := ⟨Int.mul_nonneg hb.1 hb.1, Int.mul_le_mul hb.2 hb.2 hb.1 (by decide)⟩
  have he : kid s c = (kh s [47, c] * kh s [47, c] + 5) % 2147483647 := kid_eq s c
  obtain ⟨h, hh⟩ : ∃ h, h = kh s [47, c] := ⟨_, rfl⟩
  rw [← hh] at hb hm he
  have HH := Lib.hid hh
  have HE := Lib.hid he
  have HB := Lib.hid ((Below.refl w.heap.size w).alloc (Nat.le_refl _) (.cells #[.int .i64 47, .int .i64 c] 3))
  clear hh he hs hc
  go_enter Try.func73, Try.ntmps73
  go_wp2_with fail
  refine (impl_kh HR.out (by simp) HS.out).mono ?_
  rintro e w1 ⟨he, hw⟩
  rw [← HH.out] at he
  subst he
  have HB2 := Lib.hid (HB.out.trans (hw.mono (by simp)))
  clear hw
  go_wp2
  go_ret
  exact ⟨rint (by rw [HE.out]), HB2.out⟩

set_option maxHeartbeats 1000000 in
/-- spec.ChildSeed. -/
theorem spec_cs {w : World} {s c : Int} (hs : (Lit.int .i64 s).wf = true) (hc : (Lit.int .i64 c).wf = true) :
    Calls Try.prog 71 #[.int .i64 s, .int .i64 c] w fun e w' => e = .returned (.int .i64 (kid s c)) ∧ Below w.heap.size w w' := by
  have HR := Lib.hid (Rd.two 3 .i64 w 47 c (by decide) hc)
  have HS := Lib.hid hs
  have hb := kh_bound s [47, c]
  have hm : 0 ≤ kh s [47, c] * kh s [47, c] ∧ kh s [47, c] * kh s [47, c] ≤ 2147483646 * 2147483646 := ⟨Int.mul_nonneg hb.1 hb.1, Int.mul_le_mul hb.2 hb.2 hb.1 (by decide)⟩
  have he : kid s c = (kh s [47, c] * kh s [47, c] + 5) % 2147483647 := kid_eq s c
  obtain ⟨h, hh⟩ : ∃ h, h = kh s [47, c] := ⟨_, rfl⟩
  rw [← hh] at hb hm he
  have HH := Lib.hid hh
  have HE := Lib.hid he
  have HB := Lib.hid ((Below.refl w.heap.size w).alloc (Nat.le_refl _) (.cells #[.int .i64 47, .int .i64 c] 3))
  clear hh he hs hc
  go_enter Try.func71, Try.ntmps71
  go_wp2_with fail
  refine (spec_kh HR.out (by simp) HS.out (by simp)).mono ?_
  rintro e w1 ⟨he, hw⟩
  rw [← HH.out] at he
  subst he
  have HB2 := Lib.hid (HB.out.trans (hw.mono (by simp)))
  clear hw
  go_wp2
  go_ret
  exact ⟨rint (by rw [HE.out]), HB2.out⟩

set_option maxHeartbeats 1000000 in
/-- impl.ControlBit. -/
theorem impl_cb {w : World} {s c : Int} (hs : (Lit.int .i64 s).wf = true) (hc : (Lit.int .i64 c).wf = true) :
    Calls Try.prog 74 #[.int .i64 s, .int .i64 c] w fun e w' => e = .returned (.int .i64 (ctl s c)) ∧ Below w.heap.size w w' := by
  have HR := Lib.hid (Rd.two 3 .i64 w 53 c (by decide) hc)
  have HS := Lib.hid hs
  have hb := kh_bound s [53, c]
  have hm : 0 ≤ kh s [53, c] * kh s [53, c] ∧ kh s [53, c] * kh s [53, c] ≤ 2147483646 * 2147483646 := ⟨Int.mul_nonneg hb.1 hb.1, Int.mul_le_mul hb.2 hb.2 hb.1 (by decide)⟩
  have he : ctl s c = kh s [53, c] * kh s [53, c] % 2147483647 / 128 % 2 := ctl_eq s c
  obtain ⟨h, hh⟩ : ∃ h, h = kh s [53, c] := ⟨_, rfl⟩
  rw [← hh] at hb hm he
  have HH := Lib.hid hh
  have HE := Lib.hid he
  have HB := Lib.hid ((Below.refl w.heap.size w).alloc (Nat.le_refl _) (.cells #[.int .i64 53, .int .i64 c] 3))
  clear hh he hs hc
  go_enter Try.func74, Try.ntmps74
  go_wp2_with fail
  refine (impl_kh HR.out (by simp) HS.out).mono ?_
  rintro e w1 ⟨he, hw⟩
  rw [← HH.out] at he
  subst he
  have HB2 := Lib.hid (HB.out.trans (hw.mono (by simp)))
  clear hw
  go_wp2
  rw [i64_and1]
  go_wp2
  go_ret
  exact ⟨rint (by rw [HE.out]), HB2.out⟩

set_option maxHeartbeats 1000000 in
/-- spec.ControlBit. -/
theorem spec_cb {w : World} {s c : Int} (hs : (Lit.int .i64 s).wf = true) (hc : (Lit.int .i64 c).wf = true) :
    Calls Try.prog 72 #[.int .i64 s, .int .i64 c] w fun e w' => e = .returned (.int .i64 (ctl s c)) ∧ Below w.heap.size w w' := by
  have HR := Lib.hid (Rd.two 3 .i64 w 53 c (by decide) hc)
  have HS := Lib.hid hs
  have hb := kh_bound s [53, c]
  have hm : 0 ≤ kh s [53, c] * kh s [53, c] ∧ kh s [53, c] * kh s [53, c] ≤ 2147483646 * 2147483646 := ⟨Int.mul_nonneg hb.1 hb.1, Int.mul_le_mul hb.2 hb.2 hb.1 (by decide)⟩
  have he : ctl s c = kh s [53, c] * kh s [53, c] % 2147483647 / 128 % 2 := ctl_eq s c
  obtain ⟨h, hh⟩ : ∃ h, h = kh s [53, c] := ⟨_, rfl⟩
  rw [← hh] at hb hm he
  have HH := Lib.hid hh
  have HE := Lib.hid he
  have HB := Lib.hid ((Below.refl w.heap.size w).alloc (Nat.le_refl _) (.cells #[.int .i64 53, .int .i64 c] 3))
  clear hh he hs hc
  go_enter Try.func72, Try.ntmps72
  go_wp2_with fail
  refine (spec_kh HR.out (by simp) HS.out (by simp)).mono ?_
  rintro e w1 ⟨he, hw⟩
  rw [← HH.out] at he
  subst he
  have HB2 := Lib.hid (HB.out.trans (hw.mono (by simp)))
  clear hw
  go_wp2
  rw [i64_and1]
  go_wp2
  go_ret
  exact ⟨rint (by rw [HE.out]), HB2.out⟩

set_option maxHeartbeats 1000000 in
/-- impl.isLeaf. -/
theorem impl_leaf (w : World) {d i : Int} (hd : (Lit.int .i64 d).wf = true) (hi : (Lit.int .i64 i).wf = true) :
    Calls Try.prog 50 #[.int .i64 d, .int .i64 i] w fun e w' => e = .returned (.bool (leafOk d i)) ∧ w' = w := by
  have HD := Lib.hid hd
  have HI := Lib.hid hi
  clear hd hi
  by_cases h1 : 0 ≤ d ∧ d ≤ 6
  · have Hr : Hid (inR d 0 6 = true) := Lib.hid (inR_yes h1)
    obtain ⟨D, rfl⟩ : ∃ D : Nat, d = (D : Int) := ⟨d.toNat, by omega⟩
    have HE : Hid (inR i 0 (2 ^ D - 1) = leafOk (D : Int) i) := Lib.hid (by unfold leafOk; rw [Hr.out, Bool.true_and, Int.toNat_natCast])
    have h6 : D ≤ 6 := by omega
    have hp := pow_le6 h6
    have hp1 : 1 ≤ (2 : Int) ^ D ∧ (2 : Int) ^ D ≤ 64 := by
      rw [show (2 : Int) ^ D = ((2 ^ D : Nat) : Int) by simp]
      omega
    obtain ⟨hp2, hp3⟩ := hp1
    clear hp
    clear h1
    go_enter Try.func50, Try.ntmps50
    go_wp2_with fail
    refine (impl_in _ _ _ _ HD.out).mono ?_
    rw [Hr.out]
    rintro e w1 ⟨rfl, hw1⟩
    subst hw1
    go_wp2_with fail
    refine (impl_in _ _ _ _ HI.out).mono ?_
    rw [HE.out]
    rintro e w2 ⟨rfl, hw2⟩
    subst hw2
    go_wp2_with fail
    go_ret
    exact ⟨rfl, rfl⟩
  · have Hr : Hid (inR d 0 6 = false) := Lib.hid (inR_no h1)
    have HE : Hid (false = leafOk d i) := Lib.hid (by unfold leafOk; rw [Hr.out, Bool.false_and])
    clear h1
    go_enter Try.func50, Try.ntmps50
    go_wp2_with fail
    refine (impl_in _ _ _ _ HD.out).mono ?_
    rw [Hr.out]
    rintro e w1 ⟨rfl, hw1⟩
    subst hw1
    go_wp2_with fail
    go_ret
    exact ⟨by rw [← HE.out]; rfl, rfl⟩

set_option maxHeartbeats 1000000 in
/-- impl.sideAt. -/
theorem impl_side (w : World) (I L : Nat) (hI : I ≤ 63) (hL : L ≤ 6) :
    Calls Try.prog 52 #[.int .i64 (I : Int), .int .i64 (L : Int)] w fun e w' => e = .returned (.int .i64 (bt I L)) ∧ w' = w := by
  go_enter Try.func52, Try.ntmps52
  go_wp2_with fail
  rw [i64_and1]
  go_wp2
  go_ret
  exact ⟨rint (by rw [bt_of_mod]; simp), rfl⟩

end Go.Proofs.Ytngdcnocjgibkaa
end
