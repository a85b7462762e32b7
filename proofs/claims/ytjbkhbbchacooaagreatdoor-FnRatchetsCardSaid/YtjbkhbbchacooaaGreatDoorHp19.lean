/- The laws' helpers on SkippedKey, []SkippedKey, Ratchet: size, copy, equality, marks. No conditions but a size that a machine holds. -/
import Derived.Test.YtjbkhbbchacooaaGreatDoorBaX
import Derived.Test.YtjbkhbbchacooaaGreatDoorHeldL
import Derived.Deep.RegionHeld3
import Derived.Deep.DeepCutAuto
namespace Go.Proofs.YtjbkhbbchacooaaGreatDoor
open Go Go.RowKit
set_option linter.unusedVariables false

abbrev VSkippedKey := Int × Int
def tySkippedKey : Ty VSkippedKey := iC i64T

theorem rd_SkippedKey {l : Nat} {w : World} {cs : List Value} {x : VSkippedKey} (h : tySkippedKey.rd l w cs x) : cs = [.int .i64 x.1, .int .i64 x.2] ∧ (Lit.int .i64 x.1).wf = true ∧ (Lit.int .i64 x.2).wf = true := by
  obtain ⟨r0, rfl, h0, h⟩ := rd_int h
  obtain ⟨rfl, h1⟩ := h
  exact ⟨rfl, h0, h1⟩
theorem own_SkippedKey {F : Nat → Prop} {w : World} {cs : List Value} {x : VSkippedKey} (h : tySkippedKey.own F w cs x) : cs = [.int .i64 x.1, .int .i64 x.2] ∧ (Lit.int .i64 x.1).wf = true ∧ (Lit.int .i64 x.2).wf = true := by
  obtain ⟨r0, rfl, h0, h⟩ := own_int h
  obtain ⟨rfl, h1⟩ := h
  exact ⟨rfl, h0, h1⟩
theorem rd_mkSkippedKey {l : Nat} {w : World} {x : VSkippedKey}  (h0 : (Lit.int .i64 x.1).wf = true) (h1 : (Lit.int .i64 x.2).wf = true) : tySkippedKey.rd l w [.int .i64 x.1, .int .i64 x.2] x :=
  int_rd h0 (⟨rfl, h1⟩)
theorem own_mkSkippedKey {F : Nat → Prop} {w : World} {x : VSkippedKey}  (h0 : (Lit.int .i64 x.1).wf = true) (h1 : (Lit.int .i64 x.2).wf = true)   : tySkippedKey.own F w [.int .i64 x.1, .int .i64 x.2] x := by
  exact int_own h0 (⟨rfl, h1⟩)

set_option maxRecDepth 20000 in
set_option maxHeartbeats 2000000 in
/-- laws.toSkippedKey -/
theorem toSkippedKey_any {l : Nat} {w : World} {cs : List Value} {x : VSkippedKey} (h : tySkippedKey.rd l w cs x) (hl : l ≤ w.heap.size) (hn : tySkippedKey.tot x ≤ 1073741824) :
    Calls Tryz.prog 71 #[.agg cs.toArray] w fun e w' => ∃ ds, e = .returned (.agg ds.toArray) ∧ tySkippedKey.own (ival w.heap.size w'.heap.size) w' ds x ∧ Below w.heap.size w w' := by
  obtain ⟨rfl, h0, h1⟩ := rd_SkippedKey h
  have H0 := Lib.hid h0
  have H1 := Lib.hid h1
  clear h h0 h1
  go_enter Tryz.func71, Tryz.ntmps71
  go_wp2_with fail
  exact bodyPost_ret (v := .agg #[.int .i64 x.1, .int .i64 x.2]) (by simp [results, Tryz.results71, go_sem]) rfl ⟨_, rfl, own_mkSkippedKey H0.out H1.out, (((Below.refl _ _).alloc (Nat.le_refl _) _).alloc (by simp) _).alloc (by simp; omega) _⟩

set_option maxRecDepth 20000 in
set_option maxHeartbeats 2000000 in
/-- laws.eqSkippedKey at the same values. -/
theorem eqSkippedKey_same {l1 l2 : Nat} {w : World} {c d : List Value} {x : VSkippedKey} (hu : tySkippedKey.rd l1 w c x) (hv : tySkippedKey.rd l2 w d x) (hl1 : l1 ≤ w.heap.size) (hl2 : l2 ≤ w.heap.size) :
    Calls Tryz.prog 72 #[.agg c.toArray, .agg d.toArray] w fun e w' => e = .returned (.bool true) ∧ Below w.heap.size w w' := by
  obtain ⟨rfl, h0, h1⟩ := rd_SkippedKey hu
  obtain ⟨rfl, k0, k1⟩ := rd_SkippedKey hv
  clear hu hv h0 k0 h1 k1
  go_enter Tryz.func72, Tryz.ntmps72
  go_wp2_with fail
  go_ret
  exact ⟨rfl, ((Below.refl _ _).alloc (Nat.le_refl _) _).alloc (by simp) _⟩

set_option maxRecDepth 20000 in
set_option maxHeartbeats 2000000 in
/-- laws.szSkippedKeyS -/
theorem szSkippedKeyS_any {l : Nat} {w : World} {e0 : TypeId} {v : Value} {xs : List VSkippedKey} {left : Int} (h : (sliceT e0 tySkippedKey).rd l w [v] xs) (h0 : 0 ≤ left) (h1 : left ≤ 1048576) (hl : l ≤ w.heap.size) :
    Calls Tryz.prog 40 #[v, .int .i64 left] w fun e w' => e = .returned (.int .i64 (if ((sliceT e0 tySkippedKey).tot xs : Int) ≤ left then left - (sliceT e0 tySkippedKey).tot xs else -1)) ∧ Below w.heap.size w w' := by
  have hlen := sl_len h
  have ht : (sliceT e0 tySkippedKey).tot xs = xs.length := totL_flat (fun _ => rfl) xs
  obtain ⟨q, hq0⟩ : ∃ q : Int, q = (if ((sliceT e0 tySkippedKey).tot xs : Int) ≤ left then left - (sliceT e0 tySkippedKey).tot xs else -1) := ⟨_, rfl⟩
  rw [← hq0]
  rw [ht] at hq0
  have Hq := Lib.hid hq0
  obtain ⟨a, cap, hv, hc1, hc2, _⟩ := sl_open h
  injection hv with hv
  subst hv
  unfold maxLen at hlen hc2
  clear h hq0 ht
  by_cases hn : (xs.length : Int) ≤ left
  · have e1 : decide (left - (xs.length : Int) < 0) = false := by simp; omega
    have HE := Lib.hid (show q = left - xs.length by rw [Hq.out, if_pos hn])
    go_enter Tryz.func40, Tryz.ntmps40
    go_wp2_with fail
    go_ret
    exact ⟨by rw [HE.out]; rfl, Below.refl _ _⟩
  · have e1 : decide (left - (xs.length : Int) < 0) = true := by simp; omega
    have HE := Lib.hid (show q = -1 by rw [Hq.out, if_neg hn])
    go_enter Tryz.func40, Tryz.ntmps40
    go_wp2_with fail
    go_ret
    exact ⟨by rw [HE.out]; rfl, Below.refl _ _⟩

set_option maxRecDepth 20000 in
set_option maxHeartbeats 2000000 in
/-- laws.eqSkippedKeyS at the same elements. -/
theorem eqSkippedKeyS_same {l1 l2 : Nat} {w : World} {e1 e2 : TypeId} {u v : Value} {xs : List VSkippedKey} (hu : (sliceT e1 tySkippedKey).rd l1 w [u] xs) (hv : (sliceT e2 tySkippedKey).rd l2 w [v] xs) (hl1 : l1 ≤ w.heap.size) (hl2 : l2 ≤ w.heap.size) :
    Calls Tryz.prog 45 #[u, v] w fun e w' => e = .returned (.bool true) ∧ Below w.heap.size w w' := by
  obtain ⟨a, cap, hv1, h1, h2, hc⟩ := sl_open hu
  injection hv1 with hv1
  subst hv1
  obtain ⟨a', cap', hv1, h1', h2', hc'⟩ := sl_open hv
  injection hv1 with hv1
  subst hv1
  have Hc := Lib.hid hc
  have Hc' := Lib.hid hc'
  unfold maxLen at h2 h2'
  clear hu hv hc hc'
  have e0 : ((xs.length : Int) != (xs.length : Int)) = false := by simp
  go_enter Tryz.func45, Tryz.ntmps45
  go_wp2_with fail
  go_loopw [5] (fun i wr => ∃ j : Nat, i = .int .i64 j ∧ j ≤ xs.length ∧ Below w.heap.size w wr) (fun i _ => xs.length - (intOf i).toNat)
  case atStart => exact ⟨0, rfl, Nat.zero_le _, Below.refl _ _⟩
  case round =>
    obtain ⟨j, rfl, hj, hB⟩ := hrel
    have HB := Lib.hid hB
    clear hB
    by_cases hlt : j < xs.length
    · have e1 : decide ((j : Int) < (xs.length : Int)) = true := by simp; omega
      obtain ⟨b, o, rfl, hbl, hcell⟩ := Hc.out (by omega)
      obtain ⟨b', o', rfl, hbl', hcell'⟩ := Hc'.out (by omega)
      obtain ⟨x, hx⟩ : ∃ x, xs[j]? = some x := ⟨_, List.getElem?_eq_getElem hlt⟩
      obtain ⟨c, hr, hcl⟩ := hcell wr (HB.out.mono hl1) j x hx
      obtain ⟨c', hr', hcl'⟩ := hcell' wr (HB.out.mono hl2) j x hx
      have Hr := Lib.hid hr
      have Hr' := Lib.hid hr'
      obtain rfl := (rd_SkippedKey hr).1
      obtain rfl := (rd_SkippedKey hr').1
      have hbw : b < wr.heap.size := by have := HB.out.size; omega
      have hbw' : b' < wr.heap.size := by have := HB.out.size; omega
      have HC : Hid (∀ w', Below wr.heap.size wr w' → w'.cell? ⟨b, o + j * 2, none⟩ = some (.int .i64 x.1) ∧ w'.cell? ⟨b, o + j * 2 + 1, none⟩ = some (.int .i64 x.2) ∧ w'.cell? ⟨b', o' + j * 2, none⟩ = some (.int .i64 x.1) ∧ w'.cell? ⟨b', o' + j * 2 + 1, none⟩ = some (.int .i64 x.2)) := Lib.hid (fun w' hb =>
        ⟨(hb.cell (p := ⟨b, o + j * 2, none⟩) hbw).trans (hcl 0 _ rfl), (hb.cell (p := ⟨b, o + j * 2 + 1, none⟩) hbw).trans (hcl 1 _ rfl), (hb.cell (p := ⟨b', o' + j * 2, none⟩) hbw').trans (hcl' 0 _ rfl), (hb.cell (p := ⟨b', o' + j * 2 + 1, none⟩) hbw').trans (hcl' 1 _ rfl)⟩)
      have d0 := HC.out wr.drew (Below.refl _ _).drew
      clear hcell hcell' hr hr' hcl hcl' hx
      go_wp2_with fail
      have S1 := Lib.hid (Nat.le_trans hl1 HB.out.size)
      have S2 := Lib.hid (Nat.le_trans hl2 HB.out.size)
      go_region_held3 (fun w' => w'.cell? ⟨b, o + j * 2, none⟩ = some (.int .i64 x.1) ∧ w'.cell? ⟨b, o + j * 2 + 1, none⟩ = some (.int .i64 x.2) ∧ w'.cell? ⟨b', o' + j * 2, none⟩ = some (.int .i64 x.1) ∧ w'.cell? ⟨b', o' + j * 2 + 1, none⟩ = some (.int .i64 x.2)) (first | assumption | go_keep) ((first
        | (go_at_call 72
           go_loud (refine (eqSkippedKey_same (tySkippedKey.drew Hr.out) (tySkippedKey.drew Hr'.out) S1.out S2.out).mono ?_
                    rintro e w2 ⟨he, hb⟩
                    subst he
                    have d1 := HC.out w2 ((Below.refl _ _).drew.trans (hb.mono (Nat.le_refl _)))
                    have HB2 : Hid (Below wr.heap.size wr.drew w2) := Lib.hid hb))))
      go_wp2_with fail
      go_roundw
      case rel => exact ⟨j + 1, by simp, hlt, HB.out.trans (((Below.refl _ _).drew.trans HB2.out).mono HB.out.size)⟩
      case measure => simp [intOf]; omega
    · have e1 : decide ((j : Int) < (xs.length : Int)) = false := by simp; omega
      go_wp2_with fail
      go_ret
      exact ⟨rfl, HB.out⟩

set_option maxRecDepth 20000 in
set_option maxHeartbeats 2000000 in
/-- laws.markSkippedKeyS: every element is set to its marks. -/
theorem markSkippedKeyS_any {e0 : TypeId} {F : Nat → Prop} {w : World} {v : Value} {xs : List VSkippedKey} {k0 : Int} (h : (sliceT e0 tySkippedKey).own F w [v] xs) (h0 : 0 ≤ k0) (hk : k0 + (sliceT e0 tySkippedKey).vcnt xs ≤ 9223372036854775807) :
    Calls Tryz.prog 46 #[v, .int .i64 k0] w fun e' w' => e' = .returned (.int .i64 (k0 + (sliceT e0 tySkippedKey).vcnt xs)) ∧ (sliceT e0 tySkippedKey).own F w' [v] ((sliceT e0 tySkippedKey).vmrk k0 xs) ∧ KeptF F w w' := by
  replace hk : k0 + cntL tySkippedKey xs ≤ 9223372036854775807 := hk
  change Calls _ _ _ _ fun e' w' => e' = .returned (.int .i64 (k0 + cntL tySkippedKey xs)) ∧ (sliceT e0 tySkippedKey).own F w' [v] (mkL tySkippedKey k0 xs) ∧ KeptF F w w'
  obtain ⟨a, cap, hv, _, hm, ha⟩ := slo_open h
  injection hv with hv
  subst hv
  have hlen : xs.length ≤ 9223372036854775807 := by unfold maxLen at hm; omega
  have HU : (sliceT e0 tySkippedKey).own F w [.slice a xs.length cap] (mkL tySkippedKey k0 (xs.take 0) ++ xs.drop 0) := by rw [List.take_zero, List.drop_zero]; exact h
  have HO := Lib.hid HU
  have Ha := Lib.hid ha
  clear h HU ha hm
  go_enter Tryz.func46, Tryz.ntmps46
  go_wp2_with fail
  go_loopw [1, 5] (fun k i wr => ∃ j : Nat, i = .int .i64 j ∧ k = .int .i64 (k0 + cntL tySkippedKey (xs.take j)) ∧ j ≤ xs.length ∧ (sliceT e0 tySkippedKey).own F wr [.slice a xs.length cap] (mkL tySkippedKey k0 (xs.take j) ++ xs.drop j) ∧ KeptF F w wr) (fun _ i _ => xs.length - (intOf i).toNat)
  case atStart => exact ⟨0, rfl, by simp [cntL], Nat.zero_le _, HO.out, KeptF.refl _ _⟩
  case round =>
    obtain ⟨j, rfl, rfl, hj, hO, hG⟩ := hrel
    have HO := Lib.hid hO
    have HG := Lib.hid hG
    clear hO hG
    by_cases hlt : j < xs.length
    · have e1 : decide ((j : Int) < (xs.length : Int)) = true := by simp; omega
      obtain ⟨g, rfl, hg⟩ := Ha.out (by omega)
      obtain ⟨x, hx⟩ : ∃ x, xs[j]? = some x := ⟨_, List.getElem?_eq_getElem hlt⟩
      obtain ⟨Fi, c, hf, ho, hn⟩ := Foc.take HO.out (mid_get (by rw [mkL_len]; simp; omega) hx)
      have t1 := cntL_take (T := tySkippedKey) hx
      have t3 : cntL tySkippedKey (xs.take (j + 1)) ≤ cntL tySkippedKey xs := cntL_take_le _ _ _
      have t4 : tySkippedKey.cnt x = 2 := rfl
      rw [t4] at t1
      have Hx := Lib.hid hx
      have Hf := Lib.hid hf
      have Ho := Lib.hid ho
      obtain ⟨f0, hf0⟩ : ∃ f0, f0 = cntL tySkippedKey (xs.take j) := ⟨_, rfl⟩
      have Hf0 := Lib.hid hf0
      rw [← hf0] at t1 ⊢
      have T1 := Lib.hid t1
      have hkb : k0 + (f0 : Int) + 2 ≤ 9223372036854775807 := by omega
      obtain rfl := (own_SkippedKey ho).1
      have c0 : wr.cell? ⟨g, j * 2, none⟩ = _ := hf.cell (j := 0) rfl
      have c1 : wr.cell? ⟨g, j * 2 + 1, none⟩ = _ := hf.cell (j := 1) rfl
      have z0 : wr.frozen? ⟨g, j * 2, none⟩ = false := hf.free _
      have z1 : wr.frozen? ⟨g, j * 2 + 1, none⟩ = false := hf.free _
      clear hx hf ho hf0 HO t1 t3 t4 hg hk hn
      go_wp2_with fail
      go_roundw
      case rel =>
        have b0 : 0 ≤ k0 + (f0 : Int) := by omega
        obtain ⟨p0, q0⟩ := Hf.out.store (j := 0) (by decide) (.int .i64 (k0 + f0))
        obtain ⟨p1, q1⟩ := p0.store (j := 1) (by decide) (.int .i64 (k0 + f0 + 1))
        have pc := p1.close (x := tySkippedKey.mrk (k0 + f0) x) ⟨_, rfl, wf_i64_of (n := k0 + f0) (by omega) (by omega), ⟨rfl, wf_i64_of (n := k0 + f0 + 1) (by omega) (by omega)⟩⟩
        rw [Hf0.out, mkL_set Hx.out] at pc
        have hn : (mkL tySkippedKey k0 (List.take j xs) ++ List.drop j xs).length = xs.length := by rw [List.length_append, mkL_len, List.length_take, List.length_drop]; omega
        rw [hn, ← Hf0.out] at pc
        exact ⟨j + 1, by simp, by rw [T1.out]; congr 1; push_cast; omega, hlt, pc, HG.out.trans ((q0.trans q1).mono fun b hb => hb ▸ Hf.out.fg)⟩
      case measure => simp [intOf]; omega
    · have e1 : decide ((j : Int) < (xs.length : Int)) = false := by simp; omega
      have ej : j = xs.length := by omega
      have hO := HO.out
      rw [ej, List.take_length, List.drop_length, List.append_nil] at hO
      have HO' := Lib.hid hO
      have He := Lib.hid (show cntL tySkippedKey (xs.take j) = cntL tySkippedKey xs by rw [ej, List.take_length])
      clear hO HO ej
      go_wp2
      go_ret
      exact ⟨by rw [He.out]; rfl, HO'.out, HG.out⟩

set_option maxRecDepth 20000 in
set_option maxHeartbeats 2000000 in
/-- laws.heldSkippedKeyS: the marks still stand. -/
theorem heldSkippedKeyS_any {l : Nat} {e0 : TypeId} {w : World} {v : Value} {xs : List VSkippedKey} {k0 : Int} (h : (sliceT e0 tySkippedKey).rd l w [v] ((sliceT e0 tySkippedKey).vmrk k0 xs)) (hl : l ≤ w.heap.size) (h0 : 0 ≤ k0) (hk : k0 + (sliceT e0 tySkippedKey).vcnt xs ≤ 9223372036854775807) :
    Calls Tryz.prog 47 #[v, .int .i64 k0] w fun e' w' => e' = .returned (.int .i64 (k0 + (sliceT e0 tySkippedKey).vcnt xs)) ∧ Below w.heap.size w w' := by
  replace hk : k0 + cntL tySkippedKey xs ≤ 9223372036854775807 := hk
  replace h : (sliceT e0 tySkippedKey).rd l w [v] (mkL tySkippedKey k0 xs) := h
  change Calls _ _ _ _ fun e' w' => e' = .returned (.int .i64 (k0 + cntL tySkippedKey xs)) ∧ Below w.heap.size w w'
  obtain ⟨a, cap, hv, _, hm, hc⟩ := sl_open h
  injection hv with hv
  subst hv
  rw [mkL_len] at hc ⊢
  have hlen : xs.length ≤ 9223372036854775807 := by have := sl_len h; rw [mkL_len] at this; unfold maxLen at this; omega
  have Hc := Lib.hid hc
  clear h hc hm
  go_enter Tryz.func47, Tryz.ntmps47
  go_wp2_with fail
  go_loopw [1, 5] (fun k i wr => ∃ j : Nat, i = .int .i64 j ∧ k = .int .i64 (k0 + cntL tySkippedKey (xs.take j)) ∧ j ≤ xs.length ∧ Below w.heap.size w wr) (fun _ i _ => xs.length - (intOf i).toNat)
  case atStart => exact ⟨0, rfl, by simp [cntL], Nat.zero_le _, Below.refl _ _⟩
  case round =>
    obtain ⟨j, rfl, rfl, hj, hB⟩ := hrel
    have HB := Lib.hid hB
    clear hB
    by_cases hlt : j < xs.length
    · have e1 : decide ((j : Int) < (xs.length : Int)) = true := by simp; omega
      obtain ⟨b, o, rfl, hbl, hcell⟩ := Hc.out (by omega)
      obtain ⟨x, hx⟩ : ∃ x, xs[j]? = some x := ⟨_, List.getElem?_eq_getElem hlt⟩
      obtain ⟨c, hr, hcl⟩ := hcell wr (HB.out.mono hl) j _ (mkL_get hx)
      have t1 := cntL_take (T := tySkippedKey) hx
      have t3 : cntL tySkippedKey (xs.take (j + 1)) ≤ cntL tySkippedKey xs := cntL_take_le _ _ _
      have t4 : tySkippedKey.cnt x = 2 := rfl
      rw [t4] at t1
      obtain ⟨f0, hf0⟩ : ∃ f0, f0 = cntL tySkippedKey (xs.take j) := ⟨_, rfl⟩
      rw [← hf0] at t1 hr ⊢
      have T1 := Lib.hid t1
      have hkb : k0 + (f0 : Int) + 2 ≤ 9223372036854775807 := by omega
      obtain rfl := (rd_SkippedKey hr).1
      have c0 : wr.cell? ⟨b, o + j * 2, none⟩ = some (.int .i64 (k0 + f0)) := hcl 0 _ rfl
      have c1 : wr.cell? ⟨b, o + j * 2 + 1, none⟩ = some (.int .i64 (k0 + f0 + 1)) := hcl 1 _ rfl
      clear hx hr hcl hcell hf0 t1 t3 t4 hk
      go_wp2_with fail
      go_roundw
      case rel => exact ⟨j + 1, by simp, by rw [T1.out]; congr 1; push_cast; omega, hlt, HB.out⟩
      case measure => simp [intOf]; omega
    · have e1 : decide ((j : Int) < (xs.length : Int)) = false := by simp; omega
      have He := Lib.hid (show cntL tySkippedKey (xs.take j) = cntL tySkippedKey xs by rw [show j = xs.length by omega, List.take_length])
      go_wp2
      go_ret
      exact ⟨by rw [He.out]; rfl, HB.out⟩

theorem infoSkippedKey : (Tryz.prog.info? 61).map (fun i => (i.zero, i.size, i.bytes)) = some (some (.agg #[.int .i64 0, .int .i64 0]), 2, 16) := by kernel_rfl

set_option maxRecDepth 20000 in
set_option maxHeartbeats 2000000 in
/-- laws.toSkippedKeyS: a row of its own with the same elements. -/
theorem toSkippedKeyS_any {l : Nat} {e0 : TypeId} {w : World} {v : Value} {xs : List VSkippedKey} (h : (sliceT e0 tySkippedKey).rd l w [v] xs) (hl : l ≤ w.heap.size) (hn : (sliceT e0 tySkippedKey).tot xs ≤ 1073741824) :
    Calls Tryz.prog 44 #[v] w fun e w' => ∃ v', e = .returned v' ∧ (sliceT 61 tySkippedKey).own (ival w.heap.size w'.heap.size) w' [v'] xs ∧ Below w.heap.size w w' := by
  replace hn : totL tySkippedKey xs ≤ 1073741824 := hn
  obtain ⟨i0, hi, hz0, hz1, hz2⟩ := info_parts infoSkippedKey
  have hn1 : xs.length ≤ 1073741824 := by rw [totL_eq] at hn; omega
  have start : ∀ w1, w1.ownsRow w.heap.size 61 2 (.slice (some ⟨w.heap.size, 0, none⟩) xs.length xs.length) xs.length (madeCells #[.int .i64 0, .int .i64 0] (xs.length * 2)).toList → w.grownBy w1 none →
      (sliceT 61 tySkippedKey).own (ival w.heap.size w1.heap.size) w1 [.slice (some ⟨w.heap.size, 0, none⟩) xs.length xs.length] (xs.take 0 ++ List.replicate (xs.length - 0) tySkippedKey.zero) := by
    intro w1 ho hg
    rw [List.take_zero, List.nil_append, Nat.sub_zero]
    have hlt := (ho.lt w.heap.size rfl).2
    exact slo_made (T := tySkippedKey) (zc := #[.int .i64 0, .int .i64 0]) rfl ho (fun b hb => by injection hb with hb; subst hb; exact ⟨Nat.le_refl _, hlt⟩)
  obtain ⟨a, cap, hv, h1, h2, hc⟩ := sl_open h
  injection hv with hv
  subst hv
  have Hc := Lib.hid hc
  have Hhi := Lib.hid hi
  have Hst := Lib.hid start
  have Hn := Lib.hid hn
  unfold maxLen at h2
  clear h hc hi start hn
  go_enter Tryz.func44, Tryz.ntmps44
  go_wp2_with (first | (at_make; refine wpList_make_full _ rfl _ _ 24 rfl w.heap.size 61 i0 (.agg #[.int .i64 0, .int .i64 0]) 2 Tryz.underlying24 Hhi.out hz0 hz1 .i64 .i64 _ _ xs.length rfl rfl rfl rfl (by rw [hz2]; omega) (by unfold maxLen; omega) (Nat.le_refl _) ?_))
  intro w1 hown hg
  have HO := Lib.hid (Hst.out w1 hown hg)
  have Hb := Lib.hid ((Below.refl w.heap.size w).grown hg (Nat.le_refl _) (fun k hk => by cases hk))
  clear hown hg
  go_wp2_with fail
  go_loopw [4] (fun i wr => ∃ j : Nat, i = .int .i64 j ∧ j ≤ xs.length ∧ (sliceT 61 tySkippedKey).own (ival w.heap.size wr.heap.size) wr [.slice (some ⟨w.heap.size, 0, none⟩) xs.length xs.length] (xs.take j ++ List.replicate (xs.length - j) tySkippedKey.zero) ∧ Below w.heap.size w wr) (fun i _ => xs.length - (intOf i).toNat)
  case atStart => exact ⟨0, rfl, Nat.zero_le _, HO.out, Hb.out⟩
  case round =>
    obtain ⟨j, rfl, hj, hO, hB⟩ := hrel
    have HO := Lib.hid hO
    have HB := Lib.hid hB
    clear hO hB
    by_cases hlt : j < xs.length
    · have e1 : decide ((j : Int) < (xs.length : Int)) = true := by simp; omega
      obtain ⟨b, o, rfl, hbl, hcell⟩ := Hc.out (by omega)
      obtain ⟨x, hx⟩ : ∃ x, xs[j]? = some x := ⟨_, List.getElem?_eq_getElem hlt⟩
      obtain ⟨c, hr, hcl⟩ := hcell wr (HB.out.mono hl) j x hx
      have Hr := Lib.hid hr
      have Hx := Lib.hid hx
      have HTx : Hid (tySkippedKey.tot x ≤ 1073741824) := Lib.hid (by have := etot_take (T := tySkippedKey) hx; have := etot_le tySkippedKey xs (j + 1); have := Hn.out; rw [totL_eq] at this; omega)
      obtain rfl := (rd_SkippedKey hr).1
      have c0 : wr.cell? ⟨b, o + j * 2, none⟩ = _ := hcl 0 _ rfl
      have c1 : wr.cell? ⟨b, o + j * 2 + 1, none⟩ = _ := hcl 1 _ rfl
      clear hcell hcl hr hx
      go_wp2_with fail
      refine (toSkippedKey_any Hr.out (Nat.le_trans hl HB.out.size) HTx.out).mono ?_
      rintro e w2 ⟨ds, rfl, hO2, hb⟩
      have HO2 := Lib.hid hO2
      have HO3 := Lib.hid ((sliceT 61 tySkippedKey).onext HO.out hb)
      have HB2 := Lib.hid hb
      obtain ⟨Fi, c, hf, ho, hq⟩ := Foc.take HO3.out (fillT_get hlt)
      have Hf := Lib.hid hf
      obtain rfl := (own_SkippedKey hO2).1
      obtain rfl := (own_SkippedKey ho).1
      clear c0 c1
      have d0 : w2.cell? ⟨w.heap.size, j * 2, none⟩ = _ := hf.cell (j := 0) rfl
      have z0 : w2.frozen? ⟨w.heap.size, j * 2, none⟩ = false := hf.free _
      have d1 : w2.cell? ⟨w.heap.size, j * 2 + 1, none⟩ = _ := hf.cell (j := 1) rfl
      have z1 : w2.frozen? ⟨w.heap.size, j * 2 + 1, none⟩ = false := hf.free _
      clear hO2 hb hf ho hq
      go_wp2
      go_roundw
      case rel =>
        obtain ⟨p0, q0⟩ := Hf.out.store (j := 0) (by decide) (.int .i64 x.1)
        obtain ⟨p1, q1⟩ := p0.store (j := 1) (by decide) (.int .i64 x.2)
        have q := (q0.trans q1)
        have hs2 := HB.out.size
        have hs3 := HB2.out.size
        have hg := Hf.out.fg
        unfold ival at hg
        have pc := p1.fill (tySkippedKey.okept HO2.out q (fun b hb e => by unfold ival at hb; omega)) (fun b hb hF => by unfold ival at hb hF; omega)
        have hn : (List.take j xs ++ List.replicate (xs.length - j) tySkippedKey.zero).length = xs.length := by simp; omega
        rw [hn] at pc
        have hset : (List.take j xs ++ List.replicate (xs.length - j) tySkippedKey.zero).set j x = List.take (j + 1) xs ++ List.replicate (xs.length - (j + 1)) tySkippedKey.zero := fillT_set Hx.out
        have pc' : (sliceT 61 tySkippedKey).own _ _ _ (List.take (j + 1) xs ++ List.replicate (xs.length - (j + 1)) tySkippedKey.zero) := hset ▸ pc
        refine ⟨j + 1, by simp, hlt, (sliceT 61 tySkippedKey).omono pc' fun b hb => ?_, (HB.out.trans (HB2.out.mono hs2)).trans (q.below (fun b hb => by omega) (by omega))⟩
        simp only [ival, sizeSet] at hb ⊢
        rcases hb with hb | hb <;> omega
      case measure => simp [intOf]; omega
    · have e1 : decide ((j : Int) < (xs.length : Int)) = false := by simp; omega
      have ej : j = xs.length := by omega
      have hO := HO.out
      rw [ej, List.take_length, Nat.sub_self, List.replicate_zero, List.append_nil] at hO
      have HO' := Lib.hid hO
      clear hO HO
      go_wp2
      go_ret
      exact ⟨_, rfl, HO'.out, HB.out⟩

abbrev VRatchet := Int × Int × (List VSkippedKey)
def tyRatchet : Ty VRatchet := iC (iC (sliceT 61 tySkippedKey))

theorem rd_Ratchet {l : Nat} {w : World} {cs : List Value} {x : VRatchet} (h : tyRatchet.rd l w cs x) : ∃ (a2 : Option Addr) (c2 : Nat), cs = [.int .i64 x.1, .int .i64 x.2.1, .slice a2 x.2.2.length c2] ∧ (Lit.int .i64 x.1).wf = true ∧ (Lit.int .i64 x.2.1).wf = true ∧ (sliceT 61 tySkippedKey).rd l w [.slice a2 x.2.2.length c2] x.2.2 := by
  obtain ⟨r0, rfl, h0, h⟩ := rd_int h
  obtain ⟨r1, rfl, h1, h⟩ := rd_int h
  obtain ⟨a2, c2, rfl, _⟩ := sl_open h
  have h2 := h
  exact ⟨a2, c2, rfl, h0, h1, h2⟩
theorem own_Ratchet {F : Nat → Prop} {w : World} {cs : List Value} {x : VRatchet} (h : tyRatchet.own F w cs x) : ∃ (a2 : Option Addr) (c2 : Nat) (F2 : Nat → Prop), cs = [.int .i64 x.1, .int .i64 x.2.1, .slice a2 x.2.2.length c2] ∧ (Lit.int .i64 x.1).wf = true ∧ (Lit.int .i64 x.2.1).wf = true ∧ (sliceT 61 tySkippedKey).own F2 w [.slice a2 x.2.2.length c2] x.2.2 ∧ (∀ b, F2 b → F b) := by
  obtain ⟨r0, rfl, h0, h⟩ := own_int h
  obtain ⟨r1, rfl, h1, h⟩ := own_int h
  obtain ⟨a2, c2, rfl, _⟩ := slo_open h
  have h2 := h
  exact ⟨a2, c2, F, rfl, h0, h1, h2, fun b hb => hb⟩
theorem rd_mkRatchet {l : Nat} {w : World} {x : VRatchet} {a2 : Option Addr} {c2 : Nat} (h0 : (Lit.int .i64 x.1).wf = true) (h1 : (Lit.int .i64 x.2.1).wf = true) (h2 : (sliceT 61 tySkippedKey).rd l w [.slice a2 x.2.2.length c2] x.2.2) : tyRatchet.rd l w [.int .i64 x.1, .int .i64 x.2.1, .slice a2 x.2.2.length c2] x :=
  int_rd h0 (int_rd h1 (h2))
theorem own_mkRatchet {F : Nat → Prop} {w : World} {x : VRatchet} {a2 : Option Addr} {c2 : Nat} {F2 : Nat → Prop} (h0 : (Lit.int .i64 x.1).wf = true) (h1 : (Lit.int .i64 x.2.1).wf = true) (h2 : (sliceT 61 tySkippedKey).own F2 w [.slice a2 x.2.2.length c2] x.2.2) (s2 : ∀ b, F2 b → F b)  : tyRatchet.own F w [.int .i64 x.1, .int .i64 x.2.1, .slice a2 x.2.2.length c2] x := by
  exact tyRatchet.omono (F := _) (int_own h0 (int_own h1 (h2))) (fun b hb => s2 b hb)

set_option maxRecDepth 20000 in
set_option maxHeartbeats 2000000 in
/-- laws.toRatchet -/
theorem toRatchet_any {l : Nat} {w : World} {cs : List Value} {x : VRatchet} (h : tyRatchet.rd l w cs x) (hl : l ≤ w.heap.size) (hn : tyRatchet.tot x ≤ 1073741824) :
    Calls Tryz.prog 19 #[.agg cs.toArray] w fun e w' => ∃ ds, e = .returned (.agg ds.toArray) ∧ tyRatchet.own (ival w.heap.size w'.heap.size) w' ds x ∧ Below w.heap.size w w' := by
  obtain ⟨a2, c2, rfl, h0, h1, h2⟩ := rd_Ratchet h
  have H0 := Lib.hid h0
  have H1 := Lib.hid h1
  have H2 := Lib.hid h2
  have N2 : Hid ((sliceT 61 tySkippedKey).tot x.2.2 ≤ 1073741824) := Lib.hid hn
  have HB := Lib.hid ((((Below.refl w.heap.size w).alloc (Nat.le_refl _) (.cells #[.int .i64 x.1, .int .i64 x.2.1, .slice a2 x.2.2.length c2] 44)).alloc (by simp) (.cells #[.int .i64 0, .int .i64 0, .slice none 0 0] 26)).alloc (by simp; omega) (.cells #[.int .i64 x.1, .int .i64 x.2.1, .slice none 0 0] 26))
  have K := blocks3T w (.cells #[.int .i64 x.1, .int .i64 x.2.1, .slice a2 x.2.2.length c2] 44) (.cells #[.int .i64 0, .int .i64 0, .slice none 0 0] 26) (.cells #[.int .i64 x.1, .int .i64 x.2.1, .slice none 0 0] 26)
  have KA := Lib.hid K.1
  have KR := Lib.hid K.2.1
  have KO := Lib.hid K.2.2
  obtain ⟨W0, hW0⟩ : ∃ W, W = ((w.alloc (.cells #[.int .i64 x.1, .int .i64 x.2.1, .slice a2 x.2.2.length c2] 44)).alloc (.cells #[.int .i64 0, .int .i64 0, .slice none 0 0] 26)).alloc (.cells #[.int .i64 x.1, .int .i64 x.2.1, .slice none 0 0] 26) := ⟨_, rfl⟩
  rw [← hW0] at HB KA KR KO
  have HW0 := Lib.hid hW0
  have HS := Lib.hid (show w.heap.size ≤ W0.heap.size from HB.out.size)
  have HS3 : Hid (w.heap.size + 1 + 1 < W0.heap.size) := Lib.hid (lt_of_block KO.out)
  clear h hn K hW0 h0 h1 h2
  go_enter Tryz.func19, Tryz.ntmps19
  go_wp2_with fail
  rw [← HW0.out]
  refine (toSkippedKeyS_any ((sliceT 61 tySkippedKey).behind H2.out (HB.out.mono hl)) (Nat.le_trans hl HB.out.size) N2.out).mono ?_
  rintro e w1 ⟨v2, rfl, ho, hb⟩
  obtain ⟨b2, m2, hv, _⟩ := slo_open ho
  injection hv with hv
  subst hv
  replace KA := Lib.hid ((hb.block _ (lt_of_block KA.out)).trans KA.out)
  replace KR := Lib.hid ((hb.block _ (lt_of_block KR.out)).trans KR.out)
  replace KO := Lib.hid ((hb.block _ (lt_of_block KO.out)).trans KO.out)
  have O2 := Lib.hid ho
  have S2 : Hid (w1.heap.size ≤ w1.heap.size) := Lib.hid (Nat.le_refl _)
  replace HB := Lib.hid (HB.out.trans (hb.mono HB.out.size))
  clear hb ho
  have cA0 := blk_cell KA.out 0
  have cO0 := blk_cell KO.out 0
  have fO0 := blk_free KO.out 0
  have cR0 := blk_cell KR.out 0
  have fR0 := blk_free KR.out 0
  have cA1 := blk_cell KA.out 1
  have cO1 := blk_cell KO.out 1
  have fO1 := blk_free KO.out 1
  have cR1 := blk_cell KR.out 1
  have fR1 := blk_free KR.out 1
  have cA2 := blk_cell KA.out 2
  have cO2 := blk_cell KO.out 2
  have fO2 := blk_free KO.out 2
  have cR2 := blk_cell KR.out 2
  have fR2 := blk_free KR.out 2
  simp only [show ∀ x0 x1 x2 : Value, (#[x0, x1, x2] : Array Value)[0]? = some x0 from fun _ _ _ => rfl, show ∀ x0 x1 x2 : Value, (#[x0, x1, x2] : Array Value)[1]? = some x1 from fun _ _ _ => rfl, show ∀ x0 x1 x2 : Value, (#[x0, x1, x2] : Array Value)[2]? = some x2 from fun _ _ _ => rfl] at cA0 cO0 cR0 cA1 cO1 cR1 cA2 cO2 cR2
  go_wp2_with fail
  clear cA0 cO0 fO0 cR0 fR0 cA1 cO1 fO1 cR1 fR1 cA2 cO2 fO2 cR2 fR2
  have kk := KeptF.refl (fun b => b = w.heap.size + 1 ∨ b = w.heap.size + 1 + 1) w1
  have hg := grown_set w1 (w.heap.size + 1 + 1) 2 (.slice b2 x.2.2.length m2)
  have t1 := blk_set KO.out 2 (.slice b2 x.2.2.length m2)
  have tA := (hg.block (w.heap.size) (lt_of_block KA.out) (by intro e; injection e with e; omega)).trans KA.out
  replace KA := Lib.hid tA
  have tR := (hg.block (w.heap.size + 1) (lt_of_block KR.out) (by intro e; injection e with e; omega)).trans KR.out
  replace KR := Lib.hid tR
  replace KO := Lib.hid t1
  replace kk := kk.trans (KeptF.of_grown hg (fun b hb => by injection hb with hb; omega))
  clear hg t1 tA tR
  have hg := grown_set (w1.setCell ⟨w.heap.size + 1 + 1, 2, none⟩ (.slice b2 x.2.2.length m2)) (w.heap.size + 1) 0 (.int .i64 x.1)
  have t1 := blk_set KR.out 0 (.int .i64 x.1)
  have tA := (hg.block (w.heap.size) (lt_of_block KA.out) (by intro e; injection e with e; omega)).trans KA.out
  replace KA := Lib.hid tA
  have tO := (hg.block (w.heap.size + 1 + 1) (lt_of_block KO.out) (by intro e; injection e with e; omega)).trans KO.out
  replace KO := Lib.hid tO
  replace KR := Lib.hid t1
  replace kk := kk.trans (KeptF.of_grown hg (fun b hb => by injection hb with hb; omega))
  clear hg t1 tA tO
  have hg := grown_set ((w1.setCell ⟨w.heap.size + 1 + 1, 2, none⟩ (.slice b2 x.2.2.length m2)).setCell ⟨w.heap.size + 1, 0, none⟩ (.int .i64 x.1)) (w.heap.size + 1) 1 (.int .i64 x.2.1)
  have t1 := blk_set KR.out 1 (.int .i64 x.2.1)
  have tA := (hg.block (w.heap.size) (lt_of_block KA.out) (by intro e; injection e with e; omega)).trans KA.out
  replace KA := Lib.hid tA
  have tO := (hg.block (w.heap.size + 1 + 1) (lt_of_block KO.out) (by intro e; injection e with e; omega)).trans KO.out
  replace KO := Lib.hid tO
  replace KR := Lib.hid t1
  replace kk := kk.trans (KeptF.of_grown hg (fun b hb => by injection hb with hb; omega))
  clear hg t1 tA tO
  have hg := grown_set (((w1.setCell ⟨w.heap.size + 1 + 1, 2, none⟩ (.slice b2 x.2.2.length m2)).setCell ⟨w.heap.size + 1, 0, none⟩ (.int .i64 x.1)).setCell ⟨w.heap.size + 1, 1, none⟩ (.int .i64 x.2.1)) (w.heap.size + 1) 2 (.slice b2 x.2.2.length m2)
  have t1 := blk_set KR.out 2 (.slice b2 x.2.2.length m2)
  have tA := (hg.block (w.heap.size) (lt_of_block KA.out) (by intro e; injection e with e; omega)).trans KA.out
  replace KA := Lib.hid tA
  have tO := (hg.block (w.heap.size + 1 + 1) (lt_of_block KO.out) (by intro e; injection e with e; omega)).trans KO.out
  replace KO := Lib.hid tO
  replace KR := Lib.hid t1
  replace kk := kk.trans (KeptF.of_grown hg (fun b hb => by injection hb with hb; omega))
  clear hg t1 tA tO
  obtain ⟨V0, hV0⟩ : ∃ W, W = ((((w1.setCell ⟨w.heap.size + 1 + 1, 2, none⟩ (.slice b2 x.2.2.length m2)).setCell ⟨w.heap.size + 1, 0, none⟩ (.int .i64 x.1)).setCell ⟨w.heap.size + 1, 1, none⟩ (.int .i64 x.2.1)).setCell ⟨w.heap.size + 1, 2, none⟩ (.slice b2 x.2.2.length m2)) := ⟨_, rfl⟩
  rw [← hV0] at KA KR KO kk ⊢
  replace O2 := Lib.hid ((sliceT 61 tySkippedKey).okept O2.out kk (fun b hb e => by have := HS3.out; unfold ival at hb; omega))
  replace S2 := Lib.hid (Nat.le_trans S2.out kk.size)
  replace HB := Lib.hid (HB.out.trans (kk.below (B := w.heap.size) (fun b hb => by omega) HB.out.size))
  clear kk hV0
  have hlo := HS.out
  have q0 : tyRatchet.own (ival w.heap.size V0.heap.size) V0 [.int .i64 x.1, .int .i64 x.2.1, .slice b2 x.2.2.length m2] x := own_mkRatchet H0.out H1.out O2.out (fun b hb => by have := S2.out; unfold ival at hb ⊢; omega) 
  have Q0 := Lib.hid q0
  have r0 := blk_cell KR.out 0
  have r1 := blk_cell KR.out 1
  have r2 := blk_cell KR.out 2
  simp [Array.setIfInBounds] at r0 r1 r2
  exact bodyPost_ret (v := .agg #[.int .i64 x.1, .int .i64 x.2.1, .slice b2 x.2.2.length m2]) (by simp [results, Tryz.results19, go_sem, r0, r1, r2]) rfl ⟨_, rfl, Q0.out, HB.out⟩

set_option maxRecDepth 20000 in
set_option maxHeartbeats 2000000 in
/-- laws.eqRatchet at the same values. -/
theorem eqRatchet_same {l1 l2 : Nat} {w : World} {c d : List Value} {x : VRatchet} (hu : tyRatchet.rd l1 w c x) (hv : tyRatchet.rd l2 w d x) (hl1 : l1 ≤ w.heap.size) (hl2 : l2 ≤ w.heap.size) :
    Calls Tryz.prog 21 #[.agg c.toArray, .agg d.toArray] w fun e w' => e = .returned (.bool true) ∧ Below w.heap.size w w' := by
  obtain ⟨a2, c2, rfl, h0, h1, h2⟩ := rd_Ratchet hu
  obtain ⟨b2, m2, rfl, k0, k1, k2⟩ := rd_Ratchet hv
  have H2 := Lib.hid h2
  have G2 := Lib.hid k2
  have HB := Lib.hid (((Below.refl w.heap.size w).alloc (Nat.le_refl _) (.cells #[.int .i64 x.1, .int .i64 x.2.1, .slice a2 x.2.2.length c2] 26)).alloc (by simp) (.cells #[.int .i64 x.1, .int .i64 x.2.1, .slice b2 x.2.2.length m2] 26))
  have K := blocks2T w (.cells #[.int .i64 x.1, .int .i64 x.2.1, .slice a2 x.2.2.length c2] 26) (.cells #[.int .i64 x.1, .int .i64 x.2.1, .slice b2 x.2.2.length m2] 26)
  have KA := Lib.hid K.1
  have KB := Lib.hid K.2
  obtain ⟨W0, hW0⟩ : ∃ W, W = (w.alloc (.cells #[.int .i64 x.1, .int .i64 x.2.1, .slice a2 x.2.2.length c2] 26)).alloc (.cells #[.int .i64 x.1, .int .i64 x.2.1, .slice b2 x.2.2.length m2] 26) := ⟨_, rfl⟩
  rw [← hW0] at HB KA KB
  have HW0 := Lib.hid hW0
  clear hu hv K hW0 h0 k0 h1 k1 h2 k2
  go_enter Tryz.func21, Tryz.ntmps21
  go_wp2_with fail
  rw [← HW0.out]
  refine (eqSkippedKeyS_same ((sliceT 61 tySkippedKey).behind H2.out (HB.out.mono hl1)) ((sliceT 61 tySkippedKey).behind G2.out (HB.out.mono hl2)) (Nat.le_trans hl1 HB.out.size) (Nat.le_trans hl2 HB.out.size)).mono ?_
  rintro e w1 ⟨rfl, hb⟩
  replace KA := Lib.hid ((hb.block _ (lt_of_block KA.out)).trans KA.out)
  replace KB := Lib.hid ((hb.block _ (lt_of_block KB.out)).trans KB.out)
  replace HB := Lib.hid (HB.out.trans (hb.mono HB.out.size))
  clear hb
  go_wp2_with fail
  go_ret
  exact ⟨rfl, HB.out⟩

set_option maxRecDepth 20000 in
set_option maxHeartbeats 2000000 in
/-- laws.szRatchet -/
theorem szRatchet_any {l : Nat} {w : World} {cs : List Value} {x : VRatchet} {left : Int} (h : tyRatchet.rd l w cs x) (h0 : 0 ≤ left) (h1 : left ≤ 1048576) (hl : l ≤ w.heap.size) :
    Calls Tryz.prog 17 #[.agg cs.toArray, .int .i64 left] w fun e w' => e = .returned (.int .i64 (if (tyRatchet.tot x : Int) ≤ left then left - tyRatchet.tot x else -1)) ∧ Below w.heap.size w w' := by
  obtain ⟨a2, c2, rfl, h0, h1, h2⟩ := rd_Ratchet h
  have HT : Hid (tyRatchet.tot x = (sliceT 61 tySkippedKey).tot x.2.2) := Lib.hid rfl
  obtain ⟨q, hq⟩ : ∃ q : Int, q = (if ((sliceT 61 tySkippedKey).tot x.2.2 : Int) ≤ left then left - (sliceT 61 tySkippedKey).tot x.2.2 else -1) := ⟨_, rfl⟩
  rw [HT.out, ← hq]
  have HQ := Lib.hid hq
  have hqb : (0 ≤ q ∧ q ≤ 1048576) ∨ q = -1 := by rw [hq]; split <;> omega
  have HB := Lib.hid ((Below.refl w.heap.size w).alloc (Nat.le_refl _) (.cells #[.int .i64 x.1, .int .i64 x.2.1, .slice a2 x.2.2.length c2] 44))
  have H := Lib.hid ((sliceT 61 tySkippedKey).behind h2 (HB.out.mono hl))
  clear h hq h0 h1 h2
  rcases hqb with hqb | hqb
  · have e1 : decide (q < 0) = false := by simp; omega
    go_enter Tryz.func17, Tryz.ntmps17
    go_wp2_with fail
    refine (szSkippedKeyS_any H.out h0 h1 (Nat.le_trans hl HB.out.size)).mono ?_
    rintro e w1 ⟨he, hb⟩
    rw [← HQ.out] at he
    subst he
    have HB2 := Lib.hid (HB.out.trans (hb.mono HB.out.size))
    clear hb
    go_wp2_with fail
    go_ret
    exact ⟨rfl, HB2.out⟩
  · subst hqb
    go_enter Tryz.func17, Tryz.ntmps17
    go_wp2_with fail
    refine (szSkippedKeyS_any H.out h0 h1 (Nat.le_trans hl HB.out.size)).mono ?_
    rintro e w1 ⟨he, hb⟩
    rw [← HQ.out] at he
    subst he
    have HB2 := Lib.hid (HB.out.trans (hb.mono HB.out.size))
    clear hb
    go_wp2_with fail
    go_ret
    exact ⟨rfl, HB2.out⟩

set_option maxRecDepth 20000 in
set_option maxHeartbeats 2000000 in
/-- laws.markRatchet -/
theorem markRatchet_any {F : Nat → Prop} {w : World} {cs : List Value} {x : VRatchet} {k0 : Int} (h : tyRatchet.own F w cs x) (hF : ∀ b, F b → b < w.heap.size) (h0 : 0 ≤ k0) (hk : k0 + tyRatchet.vcnt x ≤ 9223372036854775807) :
    Calls Tryz.prog 23 #[.agg cs.toArray, .int .i64 k0] w fun e' w' => e' = .returned (.int .i64 (k0 + tyRatchet.vcnt x)) ∧ tyRatchet.own F w' cs (tyRatchet.vmrk k0 x) ∧ KeptF F w w' := by
  obtain ⟨a2, c2, F2, rfl, h0, h1, h2, s2⟩ := own_Ratchet h
  obtain ⟨q, hq⟩ : ∃ q : Int, q = k0 + tyRatchet.vcnt x := ⟨_, rfl⟩
  rw [← hq]
  have hqe : k0 + ((sliceT 61 tySkippedKey).vcnt x.2.2 : Int) = q := by rw [hq]; rfl
  have HQ := Lib.hid hqe
  have HB := Lib.hid ((Below.refl w.heap.size w).alloc (Nat.le_refl _) (.cells #[.int .i64 x.1, .int .i64 x.2.1, .slice a2 x.2.2.length c2] 26))
  have O := Lib.hid ((sliceT 61 tySkippedKey).onext h2 HB.out)
  have H0 := Lib.hid h0
  have H1 := Lib.hid h1
  have hk2 : k0 + (sliceT 61 tySkippedKey).vcnt x.2.2 ≤ 9223372036854775807 := by rw [HQ.out, hq]; exact hk
  have HK2 := Lib.hid hk2
  have SF := Lib.hid s2
  clear h hq hqe hk hk2 s2 h0 h1 h2
  go_enter Tryz.func23, Tryz.ntmps23
  go_wp2_with fail
  refine (markSkippedKeyS_any O.out h0 HK2.out).mono ?_
  rintro e w1 ⟨he, ho, hkf⟩
  have he' := he.trans (congrArg (fun z => Ending.returned (Value.int IntKind.i64 z)) HQ.out)
  clear he
  subst he'
  have O1 := Lib.hid ho
  have KF := Lib.hid ((KeptF.of_below (F := F) HB.out).trans (hkf.mono SF.out))
  clear ho hkf
  go_wp2_with fail
  go_ret
  refine ⟨rfl, ?_, KF.out⟩
  have hln : ((sliceT 61 tySkippedKey).vmrk k0 x.2.2).length = x.2.2.length := mkL_len _ _ _
  have O2 := O1.out
  rw [← hln] at O2 ⊢
  exact own_mkRatchet (x := tyRatchet.vmrk k0 x) H0.out H1.out O2 SF.out

set_option maxRecDepth 20000 in
set_option maxHeartbeats 2000000 in
/-- laws.heldRatchet -/
theorem heldRatchet_any {l : Nat} {w : World} {cs : List Value} {x : VRatchet} {k0 : Int} (h : tyRatchet.rd l w cs (tyRatchet.vmrk k0 x)) (hl : l ≤ w.heap.size) (h0 : 0 ≤ k0) (hk : k0 + tyRatchet.vcnt x ≤ 9223372036854775807) :
    Calls Tryz.prog 25 #[.agg cs.toArray, .int .i64 k0] w fun e' w' => e' = .returned (.int .i64 (k0 + tyRatchet.vcnt x)) ∧ Below w.heap.size w w' := by
  obtain ⟨a2, c2, rfl, h0, h1, h2⟩ := rd_Ratchet h
  obtain ⟨q, hq⟩ : ∃ q : Int, q = k0 + tyRatchet.vcnt x := ⟨_, rfl⟩
  rw [← hq]
  have hqe : k0 + ((sliceT 61 tySkippedKey).vcnt x.2.2 : Int) = q := by rw [hq]; rfl
  have HQ := Lib.hid hqe
  have hk2 : k0 + (sliceT 61 tySkippedKey).vcnt x.2.2 ≤ 9223372036854775807 := by rw [HQ.out, hq]; exact hk
  have HK2 := Lib.hid hk2
  have e1 : decide (q < 0) = false := by simp; omega
  obtain ⟨n2, hn2⟩ : ∃ n, n = (tyRatchet.vmrk k0 x).2.2.length := ⟨_, rfl⟩
  rw [← hn2] at h2 h ⊢
  have hx2 : (sliceT 61 tySkippedKey).rd l w [.slice a2 n2 c2] ((sliceT 61 tySkippedKey).vmrk k0 x.2.2) := h2
  have HB := Lib.hid ((Below.refl w.heap.size w).alloc (Nat.le_refl _) (.cells #[.int .i64 (tyRatchet.vmrk k0 x).1, .int .i64 (tyRatchet.vmrk k0 x).2.1, .slice a2 n2 c2] 26))
  have H := Lib.hid ((sliceT 61 tySkippedKey).behind hx2 (HB.out.mono hl))
  clear h hq hqe hk hk2 hx2 hn2 h0 h1 h2
  go_enter Tryz.func25, Tryz.ntmps25
  go_wp2_with fail
  refine (heldSkippedKeyS_any H.out (Nat.le_trans hl HB.out.size) h0 HK2.out).mono ?_
  rintro e w1 ⟨he, hb⟩
  have he' := he.trans (congrArg (fun z => Ending.returned (Value.int IntKind.i64 z)) HQ.out)
  clear he
  subst he'
  have HB2 := Lib.hid (HB.out.trans (hb.mono HB.out.size))
  clear hb
  go_wp2_with fail
  go_ret
  exact ⟨rfl, HB2.out⟩

end Go.Proofs.YtjbkhbbchacooaaGreatDoor
