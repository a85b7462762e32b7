/- The helpers of the exact laws on slices of slices of u8: their size, a copy, whether two are equal, marks. No conditions but a size that a machine holds. The helpers of the exact laws on slices of slices of i64: their size, a copy, whether two are equal, marks. No conditions but a size that a machine holds. -/
import Derived.Test.YtckhmjdhdoomdaaRows
import Derived.Test.YtckhmjdhdoomdaaBa1
import Derived.Test.YtckhmjdhdoomdaaBa3
import Derived.Test.YtckhmjdhdoomdaaBa5
import Derived.WalkKit
import Derived.Handy
import Derived.Outline
import Derived.WalkSpells
import Derived.Deep.QuietTactic
import Derived.BigQuiet
import Derived.Lib.Hide

/-! DeepByte -/
namespace Go.Proofs.Ytckhmjdhdoomdaa
open Go Go.RowKit
set_option linter.unusedVariables false

theorem infou8s : (Try.prog.info? 22).map (fun i => (i.zero, i.size, i.bytes)) = some (some (.slice none 0 0), 1, 24) := by kernel_rfl

end Go.Proofs.Ytckhmjdhdoomdaa


/-! DeepInt -/
namespace Go.Proofs.Ytckhmjdhdoomdaa
open Go Go.RowKit
set_option linter.unusedVariables false

theorem infoi64s : (Try.prog.info? 25).map (fun i => (i.zero, i.size, i.bytes)) = some (some (.slice none 0 0), 1, 24) := by kernel_rfl

/-- laws.szIntS: what is left behind this row. -/
theorem szIntS_any {l : Nat} {w : World} {v : Value} {zs : List Int} {left : Int} (h : Rd l .i64 w v zs) (h0 : 0 ≤ left) (h1 : left ≤ 1048576) :
    Calls Try.prog 55 #[v, .int .i64 left] w fun e w' => e = .returned (.int .i64 (if (zs.length : Int) ≤ left then left - zs.length else -1)) ∧ w' = w := by
  have hlen := h.len
  obtain ⟨a, cap, rfl, _⟩ := h.open
  unfold maxLen at hlen
  clear h
  by_cases hc : (zs.length : Int) ≤ left
  · rw [if_pos hc]
    have e1 : decide (left - (zs.length : Int) < 0) = false := by simp; omega
    go_enter Try.func55, Try.ntmps55
    go_wp2
    go_ret
    exact ⟨rfl, rfl⟩
  · rw [if_neg hc]
    have e1 : decide (left - (zs.length : Int) < 0) = true := by simp; omega
    go_enter Try.func55, Try.ntmps55
    go_wp2
    go_ret
    exact ⟨rfl, rfl⟩

set_option maxHeartbeats 1000000 in
/-- laws.szIntSS: what is left behind all the rows. -/
theorem szIntSS_any {l : Nat} {w : World} {v : Value} {zss : List (List Int)} {left : Int} (h : Rd2 l .i64 w v zss) (h0 : 0 ≤ left) (h1 : left ≤ 1048576) (hl : l ≤ w.heap.size) :
    Calls Try.prog 32 #[v, .int .i64 left] w fun e w' => e = .returned (.int .i64 (if (tot zss : Int) ≤ left then left - tot zss else -1)) ∧ w' = w := by
  have hlen := h.len
  obtain ⟨q, hq0⟩ : ∃ q : Int, q = (if (tot zss : Int) ≤ left then left - tot zss else -1) := ⟨_, rfl⟩
  rw [← hq0]
  have Hq := Lib.hid hq0
  clear hq0
  obtain ⟨a, cap, rfl, hc1, hc2, hc⟩ := h.open
  have Hc := Lib.hid hc
  unfold maxLen at hlen hc2
  clear h hc
  by_cases hn : (zss.length : Int) ≤ left
  · have e1 : decide (left - (zss.length : Int) < 0) = false := by simp; omega
    go_enter Try.func32, Try.ntmps32
    go_wp2_with fail
    go_loopw [1, 5] (fun s i wr => ∃ j : Nat, i = .int .i64 j ∧ j ≤ zss.length ∧ (fl (zss.take j) : Int) ≤ left - zss.length ∧ s = .int .i64 (left - zss.length - fl (zss.take j)) ∧ wr = w) (fun _ i _ => zss.length - (intOf i).toNat)
    case atStart => exact ⟨0, rfl, Nat.zero_le _, by simp [fl_nil]; omega, by simp [fl_nil], rfl⟩
    case round =>
      obtain ⟨j, rfl, hj, hle, rfl, rfl⟩ := hrel
      by_cases hlt : j < zss.length
      · have e2 : decide ((j : Int) < (zss.length : Int)) = true := by simp; omega
        obtain ⟨b, o, rfl, hbl, hcell⟩ := Hc.out (by omega)
        obtain ⟨u, c1, hr⟩ := hcell _ (Below.refl _ _) j _ (List.getElem?_eq_getElem hlt)
        obtain ⟨zs, hzs⟩ : ∃ zs, zss[j]? = some zs := ⟨_, List.getElem?_eq_getElem hlt⟩
        have ez : zss[j] = zs := by rw [List.getElem?_eq_getElem hlt] at hzs; exact Option.some.inj hzs
        rw [ez] at hr
        have Hr := Lib.hid hr
        have t1 := fl_take hzs
        have t2 := tot_at hzs
        have t3 := fl_at hzs
        have Hz := Lib.hid hzs
        obtain ⟨f0, hf0⟩ : ∃ f0, f0 = fl (zss.take j) := ⟨_, rfl⟩
        rw [← hf0] at hle t1 t3 ⊢
        have Hf0 := Lib.hid hf0
        clear hr hcell hf0 hzs ez
        go_wp2_with fail
        refine (szIntS_any Hr.out (by omega) (by omega)).mono ?_
        rintro e w1 ⟨rfl, rfl⟩
        by_cases hq : (zs.length : Int) ≤ left - zss.length - f0
        · rw [if_pos hq]
          have e3 : decide (left - (zss.length : Int) - (f0 : Int) - (zs.length : Int) < 0) = false := by simp; omega
          go_wp2
          go_roundw
          case rel => exact ⟨j + 1, by simp, hlt, by omega, by rw [t1]; congr 1; push_cast; omega, by first | rfl | trivial⟩
          case measure => simp [intOf]; omega
        · rw [if_neg hq]
          have e4 := Lib.hid (show q = -1 by rw [Hq.out]; exact if_neg (by unfold tot; push_cast; omega))
          go_wp2
          go_ret
          exact ⟨by rw [e4.out]; rfl, rfl⟩
      · have e2 : decide ((j : Int) < (zss.length : Int)) = false := by simp; omega
        have ej := Lib.hid (show fl (zss.take j) = fl zss by rw [show j = zss.length by omega, fl_full])
        have e4 := Lib.hid (show q = left - zss.length - fl zss by have := ej.out; rw [Hq.out, if_pos (by unfold tot; push_cast; omega)]; unfold tot; push_cast; omega)
        go_wp2
        go_ret
        exact ⟨by rw [e4.out, ← ej.out]; rfl, rfl⟩
  · have e1 : decide (left - (zss.length : Int) < 0) = true := by simp; omega
    have e4 := Lib.hid (show q = -1 by rw [Hq.out]; exact if_neg (by unfold tot; push_cast; omega))
    go_enter Try.func32, Try.ntmps32
    go_wp2
    go_ret
    exact ⟨by rw [e4.out]; rfl, rfl⟩

set_option maxHeartbeats 1000000 in
/-- laws.toIntSS: rows of its own with the same elements. -/
theorem toIntSS_any {lim : Nat} {w : World} {v : Value} {zss : List (List Int)} (h : Rd2 lim .i64 w v zss) (hlim : lim ≤ w.heap.size) (hn : tot zss ≤ 1099511627776) :
    Calls Try.prog 34 #[v] w fun e w' => ∃ v', e = .returned v' ∧ Own2 25 3 .i64 (ival w.heap.size w'.heap.size) w' v' zss ∧ Below w.heap.size w w' := by
  obtain ⟨i0, hi, hz0, hz1, hz2⟩ := info_parts infoi64s
  have hn1 : zss.length ≤ 1099511627776 := by unfold tot at hn; omega
  have start : ∀ w1, w1.ownsRow w.heap.size 25 1 (.slice (some ⟨w.heap.size, 0, none⟩) zss.length zss.length) zss.length (madeCells #[.slice none 0 0] zss.length).toList → w.grownBy w1 none →
      Own2 25 3 .i64 (ival w.heap.size w1.heap.size) w1 (.slice (some ⟨w.heap.size, 0, none⟩) zss.length zss.length) (zss.take 0 ++ List.replicate (zss.length - 0) []) := by
    intro w1 ho hg
    rw [List.take_zero, List.nil_append, Nat.sub_zero]
    rw [toList_madeCells_one] at ho
    have hlt := (ho.lt w.heap.size rfl).2
    refine Own2.made ?_ ⟨Nat.le_refl _, hlt⟩
    obtain ⟨p1, p2⟩ := ho
    exact ⟨p1, by rcases p2 with p2 | ⟨g, cap, cur, q1, q2, q3⟩; exact .inl p2; exact .inr ⟨g, cap, cur, q1, Nat.zero_le _, q3⟩⟩
  obtain ⟨a, cap, rfl, h1, h2, hc⟩ := h.open
  have Hc := Lib.hid hc
  have Hhi := Lib.hid hi
  have Hst := Lib.hid start
  have Hn := Lib.hid hn
  unfold maxLen at h2
  clear h hc hi start hn
  go_enter Try.func34, Try.ntmps34
  go_wp2_with (first | (at_make; refine wpList_make_full _ rfl _ _ 26 rfl w.heap.size 25 i0 (.slice none 0 0) 1 Try.underlying26 Hhi.out hz0 hz1 .i64 .i64 _ _ zss.length rfl rfl rfl rfl (by rw [hz2]; omega) (by unfold maxLen; omega) (Nat.le_refl _) ?_))
  intro w1 hown hg
  have HO := Lib.hid (Hst.out w1 hown hg)
  have Hb := Lib.hid ((Below.refl w.heap.size w).grown hg (Nat.le_refl _) (fun k hk => by cases hk))
  clear hown hg
  go_wp2_with fail
  go_loopw [4] (fun i wr => ∃ j : Nat, i = .int .i64 j ∧ j ≤ zss.length ∧ Own2 25 3 .i64 (ival w.heap.size wr.heap.size) wr (.slice (some ⟨w.heap.size, 0, none⟩) zss.length zss.length) (zss.take j ++ List.replicate (zss.length - j) []) ∧ Below w.heap.size w wr) (fun i _ => zss.length - (intOf i).toNat)
  case atStart => exact ⟨0, rfl, Nat.zero_le _, HO.out, Hb.out⟩
  case round =>
    obtain ⟨j, rfl, hj, hO, hB⟩ := hrel
    have HO := Lib.hid hO
    have HB := Lib.hid hB
    clear hO hB
    by_cases hlt : j < zss.length
    · have e1 : decide ((j : Int) < (zss.length : Int)) = true := by simp; omega
      obtain ⟨b, o, rfl, hbl, hcell⟩ := Hc.out (by omega)
      obtain ⟨zs, hzs⟩ : ∃ zs, zss[j]? = some zs := ⟨_, List.getElem?_eq_getElem hlt⟩
      obtain ⟨u, c1, hr⟩ := hcell wr (HB.out.mono hlim) j zs hzs
      have Hr := Lib.hid hr
      have t2 := tot_at hzs
      have Hz := Lib.hid hzs
      clear hcell hr hzs
      go_wp2_with fail
      refine (toIntS_any Hr.out (by have := HB.out.size; omega) (by have := Hn.out; omega)).mono ?_
      rintro e w2 ⟨v', rfl, hO2, hb⟩
      obtain ⟨a2, cap2, rfl, _⟩ := hO2.open
      have hlen2 : j < (zss.take j ++ List.replicate (zss.length - j) ([] : List Int)).length := by simp; omega
      have HO2 := Lib.hid hO2
      have HO3 := Lib.hid (HO.out.next hb)
      have HB2 := Lib.hid hb
      obtain ⟨u2, c2⟩ := HO3.out.cellAt hlen2
      have f2 := HO3.out.free (by simp; omega) j
      clear hO2 hb hlen2
      go_wp2
      go_roundw
      case rel =>
        have hF : ∀ r, (Value.slice a2 zs.length cap2).ownBlock = some r → ¬ ival w.heap.size wr.heap.size r := fun r hr hi => by
          have := (HO2.out.lt r hr).1
          unfold ival at hi; omega
        obtain ⟨p1, p2⟩ := HO3.out.put (j := j) (HO2.out.mono (Nat.zero_le _)) hF
        rw [fill_set Hz.out] at p1
        have hs2 := HB.out.size
        have hs3 := HB2.out.size
        refine ⟨j + 1, by simp, hlt, p1.mono fun b hb => ?_, (HB.out.trans (HB2.out.mono (by omega))).grown p2 (by omega) (fun k hk => by injection hk with hk; omega)⟩
        have es : (w2.setCell ⟨w.heap.size, j, none⟩ (.slice a2 zs.length cap2)).heap.size = w2.heap.size := by simp [World.setCell]
        rw [es]
        rcases hb with hb | hb
        · unfold ival at hb ⊢; omega
        · have := HO2.out.lt b hb
          unfold ival; omega
      case measure => simp [intOf]; omega
    · have e1 : decide ((j : Int) < (zss.length : Int)) = false := by simp; omega
      have ej : j = zss.length := by omega
      have hO := HO.out
      rw [ej, List.take_length, Nat.sub_self, List.replicate_zero, List.append_nil] at hO
      have HO' := Lib.hid hO
      clear hO HO
      go_wp2
      go_ret
      exact ⟨_, rfl, HO'.out, HB.out⟩

set_option maxHeartbeats 1000000 in
/-- laws.eqIntSS at the same elements. -/
theorem eqIntSS_same_drew {l1 l2 : Nat} {w : World} {u v : Value} {zss : List (List Int)} (hu : Rd2 l1 .i64 w u zss) (hv : Rd2 l2 .i64 w v zss) (hl1 : l1 ≤ w.heap.size) (hl2 : l2 ≤ w.heap.size) :
    Calls Try.prog 26 #[u, v] w fun e w' => e = .returned (.bool true) ∧ ∃ m, w' = w.drewN m := by
  obtain ⟨a, cap, rfl, h1, h2, hc⟩ := hu.open
  obtain ⟨a', cap', rfl, h1', h2', hc'⟩ := hv.open
  have Hc := Lib.hid hc
  have Hc' := Lib.hid hc'
  unfold maxLen at h2 h2'
  clear hu hv hc hc'
  have e0 : ((zss.length : Int) != (zss.length : Int)) = false := by simp
  go_enter Try.func26, Try.ntmps26
  go_wp2_with fail
  go_loopw [5] (fun i wr => ∃ j : Nat, i = .int .i64 j ∧ j ≤ zss.length ∧ ∃ m, wr = w.drewN m) (fun i _ => zss.length - (intOf i).toNat)
  case atStart => exact ⟨0, rfl, Nat.zero_le _, 0, rfl⟩
  case round =>
    obtain ⟨j, rfl, hj, hB⟩ := hrel
    have HB := Lib.hid (below_drewN (B := w.heap.size) hB)
    have HD := Lib.hid hB
    clear hB
    by_cases hlt : j < zss.length
    · have e1 : decide ((j : Int) < (zss.length : Int)) = true := by simp; omega
      obtain ⟨b, o, rfl, hbl, hcell⟩ := Hc.out (by omega)
      obtain ⟨b', o', rfl, hbl', hcell'⟩ := Hc'.out (by omega)
      obtain ⟨zs, hzs⟩ : ∃ zs, zss[j]? = some zs := ⟨_, List.getElem?_eq_getElem hlt⟩
      obtain ⟨x, c1, hr⟩ := hcell wr (HB.out.mono hl1) j zs hzs
      obtain ⟨x', c2, hr'⟩ := hcell' wr (HB.out.mono hl2) j zs hzs
      have Hr := Lib.hid hr
      have Hr' := Lib.hid hr'
      clear hcell hcell' hzs hr hr'
      go_wp2_with fail
      have S1 := Lib.hid (Nat.le_trans hl1 HB.out.size)
      have S2 := Lib.hid (Nat.le_trans hl2 HB.out.size)
      go_quiet ((go_at_call 27
                 exact Calls.quiet_of (eqIntS_same_drew (Hr.out.drewN _) (Hr'.out.drewN _) S1.out S2.out)))
      go_wp2
      go_roundw
      case rel => exact ⟨j + 1, by simp, hlt, drewN_more HD.out _⟩
      case measure => simp [intOf]; omega
    · have e1 : decide ((j : Int) < (zss.length : Int)) = false := by simp; omega
      go_wp2
      go_ret
      exact ⟨rfl, HD.out⟩

theorem eqIntSS_same {l1 l2 : Nat} {w : World} {u v : Value} {zss : List (List Int)} (hu : Rd2 l1 .i64 w u zss) (hv : Rd2 l2 .i64 w v zss) (hl1 : l1 ≤ w.heap.size) (hl2 : l2 ≤ w.heap.size) :
    Calls Try.prog 26 #[u, v] w fun e w' => e = .returned (.bool true) ∧ Below w.heap.size w w' :=
  (eqIntSS_same_drew hu hv hl1 hl2).mono fun _ _ ⟨h, hd⟩ => ⟨h, below_drewN hd⟩

set_option maxHeartbeats 1000000 in
/-- laws.markIntSS: every element is set to its mark. -/
theorem markIntSS_any {t : TypeId} {F : Nat → Prop} {w : World} {v : Value} {zss : List (List Int)} {k0 : Int} (h : Own2 t 3 .i64 F w v zss) (h0 : 0 ≤ k0) (hk : k0 + fl zss ≤ 9223372036854775807) :
    Calls Try.prog 29 #[v, .int .i64 k0] w fun e' w' => e' = .returned (.int .i64 (k0 + fl zss)) ∧ Own2 t 3 .i64 F w' v (marks2Int k0 zss) ∧ KeptF F w w' := by
  obtain ⟨a, cap, rfl, _, hm, ha⟩ := h.open
  have hlen : zss.length ≤ 9223372036854775807 := by have := h.rd2.len; unfold maxLen at this; omega
  have HU : Own2 t 3 .i64 F w (.slice a zss.length cap) (marks2Int k0 (zss.take 0) ++ zss.drop 0) := by rw [List.take_zero, List.drop_zero]; exact h
  have HO := Lib.hid HU
  have Ha := Lib.hid ha
  clear h HU ha hm
  go_enter Try.func29, Try.ntmps29
  go_wp2_with fail
  go_loopw [1, 5] (fun k i wr => ∃ j : Nat, i = .int .i64 j ∧ k = .int .i64 (k0 + fl (zss.take j)) ∧ j ≤ zss.length ∧ Own2 t 3 .i64 F wr (.slice a zss.length cap) (marks2Int k0 (zss.take j) ++ zss.drop j) ∧ KeptF F w wr) (fun _ i _ => zss.length - (intOf i).toNat)
  case atStart => exact ⟨0, rfl, by simp [fl_nil], Nat.zero_le _, HO.out, KeptF.refl _ _⟩
  case round =>
    obtain ⟨j, rfl, rfl, hj, hO, hG⟩ := hrel
    have HO := Lib.hid hO
    have HG := Lib.hid hG
    clear hO hG
    by_cases hlt : j < zss.length
    · have e1 : decide ((j : Int) < (zss.length : Int)) = true := by simp; omega
      obtain ⟨g, rfl, hg⟩ := Ha.out (by omega)
      obtain ⟨zs, hzs⟩ : ∃ zs, zss[j]? = some zs := ⟨_, List.getElem?_eq_getElem hlt⟩
      obtain ⟨u, c1, ho, hin, hch⟩ := HO.out.at (mid_get (by rw [marks2Int_length]; simp; omega) hzs)
      have t1 := fl_take hzs
      have t3 := fl_at hzs
      have Hz := Lib.hid hzs
      have Ho := Lib.hid ho
      have Hin := Lib.hid hin
      have Hch := Lib.hid hch
      obtain ⟨f0, hf0⟩ : ∃ f0, f0 = fl (zss.take j) := ⟨_, rfl⟩
      have Hf0 := Lib.hid hf0
      rw [← hf0] at t1 t3 ⊢
      clear hzs ho hin hch hf0 HO
      go_wp2_with fail
      refine (markIntS_any (k0 := k0 + f0) Ho.out (by omega) (by omega)).mono ?_
      rintro e w2 ⟨rfl, hO2, hg2⟩
      have HO2 := Lib.hid hO2
      have Hg2 := Lib.hid hg2
      clear hO2 hg2
      go_wp2
      go_roundw
      case rel =>
        have p := Hch.out w2 _ Hg2.out HO2.out
        rw [Hf0.out, marks2Int_set Hz.out] at p
        refine ⟨j + 1, by simp, by rw [t1]; congr 1; push_cast; omega, hlt, p, HG.out.trans (KeptF.of_grown Hg2.out Hin.out)⟩
      case measure => simp [intOf]; omega
    · have e1 : decide ((j : Int) < (zss.length : Int)) = false := by simp; omega
      have ej : j = zss.length := by omega
      have hO := HO.out
      rw [ej, List.take_length, List.drop_length, List.append_nil] at hO
      have HO' := Lib.hid hO
      have He := Lib.hid (show fl (zss.take j) = fl zss by rw [ej, fl_full])
      clear hO HO ej
      go_wp2
      go_ret
      exact ⟨by rw [He.out]; rfl, HO'.out, HG.out⟩

set_option maxHeartbeats 1000000 in
/-- laws.heldIntSS: the marks still stand. -/
theorem heldIntSS_any {lim : Nat} {w : World} {v : Value} {zss : List (List Int)} {k0 : Int} (h : Rd2 lim .i64 w v (marks2Int k0 zss)) (hlim : lim ≤ w.heap.size) (h0 : 0 ≤ k0) (hk : k0 + fl zss ≤ 9223372036854775807) :
    Calls Try.prog 30 #[v, .int .i64 k0] w fun e' w' => e' = .returned (.int .i64 (k0 + fl zss)) ∧ Below w.heap.size w w' := by
  obtain ⟨a, cap, rfl, h1, h2, hc⟩ := h.open
  rw [marks2Int_length] at h1 hc ⊢
  have Hc := Lib.hid hc
  unfold maxLen at h2
  clear h hc
  go_enter Try.func30, Try.ntmps30
  go_wp2_with fail
  go_loopw [1, 5] (fun k i wr => ∃ j : Nat, i = .int .i64 j ∧ k = .int .i64 (k0 + fl (zss.take j)) ∧ j ≤ zss.length ∧ Below w.heap.size w wr) (fun _ i _ => zss.length - (intOf i).toNat)
  case atStart => exact ⟨0, rfl, by simp [fl_nil], Nat.zero_le _, Below.refl _ _⟩
  case round =>
    obtain ⟨j, rfl, rfl, hj, hB⟩ := hrel
    have HB := Lib.hid hB
    clear hB
    by_cases hlt : j < zss.length
    · have e1 : decide ((j : Int) < (zss.length : Int)) = true := by simp; omega
      obtain ⟨zs, hzs⟩ : ∃ zs, zss[j]? = some zs := ⟨_, List.getElem?_eq_getElem hlt⟩
      obtain ⟨b, o, rfl, hbl, hcell⟩ := Hc.out (by omega)
      obtain ⟨u, c1, hr⟩ := hcell wr (HB.out.mono hlim) j _ (marks2Int_get hzs)
      have t1 := fl_take hzs
      have t3 := fl_at hzs
      obtain ⟨f0, hf0⟩ : ∃ f0, f0 = fl (zss.take j) := ⟨_, rfl⟩
      rw [← hf0] at t1 t3 hr ⊢
      have Hr := Lib.hid hr
      have e2 : decide (k0 + (f0 : Int) + (zs.length : Int) < 0) = false := by simp; omega
      clear hcell hr hf0 hzs
      go_wp2_with fail
      refine (heldIntS_any (k0 := k0 + f0) Hr.out (by have := HB.out.size; omega) (by omega) (by omega)).mono ?_
      rintro e w2 ⟨rfl, hb⟩
      have HB2 := Lib.hid (HB.out.trans (hb.mono HB.out.size))
      clear hb HB
      go_wp2
      go_roundw
      case rel => exact ⟨j + 1, by simp, by rw [t1]; congr 1; push_cast; omega, hlt, HB2.out⟩
      case measure => simp [intOf]; omega
    · have e1 : decide ((j : Int) < (zss.length : Int)) = false := by simp; omega
      have He := Lib.hid (show fl (zss.take j) = fl zss by rw [show j = zss.length by omega, fl_full])
      go_wp2
      go_ret
      exact ⟨by rw [He.out]; rfl, HB.out⟩

end Go.Proofs.Ytckhmjdhdoomdaa
