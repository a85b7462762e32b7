/- ReadBytes, DecodeInts, EqualBytes, the program's and the document's: what each gives. No conditions but a length that a machine holds. -/
import Derived.Test.YtbkmnmjobndpiaaEnc2
namespace Go.Proofs.Ytbkmnmjobndpiaa
open Go Go.RowKit
set_option linter.unusedVariables false

/-- ReadBytes's answer. -/
def rb (zs : List Int) (o most : Int) : Option (List Int × Nat) := match rdv zs o with
  | some (n, s) => if (n : Int) ≤ most ∧ n ≤ zs.length - s then some ((zs.drop s).take n, s + n) else none
  | none => none
def rbV (r : Option (List Int × Nat)) : List Int := match r with | some (l, _) => l | none => []
def rbE (r : Option (List Int × Nat)) : Int := match r with | some (_, e) => (e : Int) | none => 0
def rbB (r : Option (List Int × Nat)) : Bool := match r with | some _ => true | none => false

theorem rb_len (zs : List Int) (o most : Int) : (rbV (rb zs o most)).length ≤ zs.length := by
  unfold rb
  split
  · split
    · simp [rbV]; omega
    · simp [rbV]
  · simp [rbV]

theorem add_off (b o t : Nat) : (⟨b, o, none⟩ : Addr).add t = ⟨b, o + t, none⟩ := by unfold Addr.add; split <;> simp_all

/-- A part of what is read. -/
theorem Rd.part {l : Nat} {k : IntKind} {w : World} {b o len cap : Nat} {zs : List Int} (h : Rd l k w (.slice (some ⟨b, o, none⟩) len cap) zs) (i n : Nat) (hi : i + n ≤ zs.length) (a : Option Addr) (c : Nat) (ha : 0 < n → a = some ⟨b, o + i, none⟩) (ha' : a = none → c = 0) (hc : n ≤ c) (hc' : c ≤ maxLen) :
    Rd l k w (.slice a n c) ((zs.drop i).take n) := by
  have hwf := h.1
  obtain ⟨_, a0, cap0, hv, h1, h2, h3⟩ := h
  have hlen : ((zs.drop i).take n).length = n := by simp; omega
  refine ⟨fun z hz => hwf z (List.mem_of_mem_drop (List.mem_of_mem_take hz)), a, c, by rw [hlen], by omega, hc', ?_⟩
  cases a with
  | none => exact .inl ⟨rfl, ha' rfl⟩
  | some x =>
    refine .inr ⟨x, rfl, fun t ht => ?_, ?_⟩
    · rw [hlen] at ht
      have hx := ha (by omega)
      injection hx with hx
      subst hx
      injection hv with e1 e2 e3
      subst e1
      rcases h3 with ⟨h3, _⟩ | ⟨y, h4, h5, h6⟩
      · cases h3
      · injection h4 with h4
        subst h4
        have := h5 (i + t) (by omega)
        have e : (⟨b, o, none⟩ : Addr).add (i + t) = (⟨b, o + i, none⟩ : Addr).add t := by
          rw [add_off, add_off, Nat.add_assoc]
        rw [← e, this]
        simp [List.getD_eq_getElem?_getD, List.getElem?_take, List.getElem?_drop, ht]
    · by_cases hn : n = 0
      · right; omega
      · have hx := ha (by omega)
        injection hx with hx
        subst hx
        injection hv with e1 e2 e3
        subst e1
        rcases h3 with ⟨h3, _⟩ | ⟨y, h4, h5, h6⟩
        · cases h3
        · injection h4 with h4
          subst h4
          rcases h6 with h6 | h6
          · exact .inl h6
          · omega

set_option maxHeartbeats 1000000 in
/-- impl.ReadBytes. -/
theorem impl_rb {lim : Nat} {w : World} {v : Value} {zs : List Int} {n m : Int} (h : Rd lim .u8 w v zs) (hlim : lim ≤ w.heap.size) (hw : (Lit.int .i64 n).wf = true) (hm : (Lit.int .i64 m).wf = true) (hn : zs.length ≤ 140737488355328) :
    Calls Try.prog 21 #[v, .int .i64 n, .int .i64 m] w fun e w' => ∃ v', e = .returned (.tuple #[v', .int .i64 (rbE (rb zs n m)), .bool (rbB (rb zs n m))]) ∧ Own 5 .u8 w.heap.size w' v' (rbV (rb zs n m)) ∧ Below w.heap.size w w' := by
  have H := Lib.hid h
  cases hr : rdv zs n with
  | none =>
    have e : rb zs n m = none := by unfold rb; rw [hr]
    rw [e]
    have HR := Lib.hid hr
    clear h hr e
    go_enter Try.func21, Try.ntmps21
    go_wp2_with fail
    refine (impl_ru H.out hlim hw).mono ?_
    rw [HR.out]
    rintro e w1 ⟨rfl, rfl⟩
    have e1 : rvB (none : Option (Nat × Nat)) = false := rfl
    go_wp2_with fail
    go_ret3
    exact ⟨_, rfl, Own.lit _ _ (Nat.le_refl _), (Below.refl _ _).alloc (Nat.le_refl _) _⟩
  | some r =>
    obtain ⟨k, s⟩ := r
    obtain ⟨b1, b2, b3, b4⟩ := rdv_bound hr
    obtain ⟨b, o, cap, rfl, h1, h2, hc, hb⟩ := h.at (by omega)
    have h2' : cap ≤ 9223372036854775807 := by unfold maxLen at h2; omega
    by_cases hin : (k : Int) ≤ m ∧ k ≤ zs.length - s
    · have e : rb zs n m = some ((zs.drop s).take k, s + k) := by unfold rb; rw [hr]; simp [hin]
      rw [e]
      have HR := Lib.hid hr
      have e2 : decide (m < (k : Int)) = false := by simp; omega
      have e3 : decide ((zs.length : Int) - (s : Int) < (k : Int)) = false := by simp; omega
      have hsk : s + k ≤ zs.length := by omega
      clear h hr e hc hin h2
      by_cases hk0 : k = 0
      · have HP : Hid (Rd lim .u8 w (.slice (some ⟨b, o, none⟩) 0 0) ((zs.drop s).take k)) := Lib.hid (by
          have := H.out.part s k hsk (some ⟨b, o, none⟩) 0 (fun h => by omega) (fun h => by cases h) (by omega) (Nat.zero_le _)
          rw [hk0] at this ⊢
          exact this)
        have e4 : decide (m < (0 : Int)) = false := by rw [hk0] at e2; exact e2
        have e5 : decide ((zs.length : Int) - (s : Int) < 0) = false := by rw [hk0] at e3; exact e3
        go_enter Try.func21, Try.ntmps21
        go_wp2_with fail
        refine (impl_ru H.out hlim hw).mono ?_
        rw [HR.out]
        rintro e w1 ⟨rfl, rfl⟩
        have r1 : rvN (some (k, s)) = (k : Int) := rfl
        have r2 : rvE (some (k, s)) = (s : Int) := rfl
        have r3 : rvB (some (k, s)) = true := rfl
        rw [r1, r2, r3]
        clear r1 r2 r3
        go_wp2_with fail
        refine (copyBytes_any HP.out hlim (by simp; omega)).mono ?_
        rintro e w2 ⟨v2, rfl, h3, h4⟩
        have H3 := Lib.hid h3
        have H4 := Lib.hid h4
        clear h3 h4
        go_wp2_with fail
        go_ret3
        exact ⟨_, by rw [hk0]; rfl, H3.out, H4.out⟩
      · have HP : Hid (Rd lim .u8 w (.slice (some ⟨b, o + s, none⟩) k k) ((zs.drop s).take k)) := Lib.hid (H.out.part s k hsk (some ⟨b, o + s, none⟩) k (fun h => rfl) (fun h => by cases h) (Nat.le_refl _) (by unfold maxLen; omega))
        go_enter Try.func21, Try.ntmps21
        go_wp2_with fail
        refine (impl_ru H.out hlim hw).mono ?_
        rw [HR.out]
        rintro e w1 ⟨rfl, rfl⟩
        have r1 : rvN (some (k, s)) = (k : Int) := rfl
        have r2 : rvE (some (k, s)) = (s : Int) := rfl
        have r3 : rvB (some (k, s)) = true := rfl
        rw [r1, r2, r3]
        clear r1 r2 r3
        go_wp2_with fail
        refine (copyBytes_any HP.out hlim (by simp; omega)).mono ?_
        rintro e w2 ⟨v2, rfl, h3, h4⟩
        have H3 := Lib.hid h3
        have H4 := Lib.hid h4
        clear h3 h4
        go_wp2_with fail
        go_ret3
        exact ⟨_, rfl, H3.out, H4.out⟩
    · have e : rb zs n m = none := by unfold rb; rw [hr]; simp [hin]
      rw [e]
      have HR := Lib.hid hr
      have hor : m < (k : Int) ∨ (m < (k : Int)) = False ∧ (zs.length : Int) - (s : Int) < (k : Int) := by
        by_cases h : m < (k : Int)
        · exact .inl h
        · exact .inr ⟨by simp [h], by omega⟩
      clear h hr e hc hin h2
      rcases hor with hor | ⟨hor1, hor⟩
      · have e2 : decide (m < (k : Int)) = true := by simp [hor]
        go_enter Try.func21, Try.ntmps21
        go_wp2_with fail
        refine (impl_ru H.out hlim hw).mono ?_
        rw [HR.out]
        rintro e w1 ⟨rfl, rfl⟩
        have r1 : rvN (some (k, s)) = (k : Int) := rfl
        have r2 : rvE (some (k, s)) = (s : Int) := rfl
        have r3 : rvB (some (k, s)) = true := rfl
        rw [r1, r2, r3]
        clear r1 r2 r3
        go_wp2_with fail
        go_ret3
        exact ⟨_, rfl, Own.lit _ _ (Nat.le_refl _), (Below.refl _ _).alloc (Nat.le_refl _) _⟩
      · have e2 : decide (m < (k : Int)) = false := by simp [hor1]
        have e3 : decide ((zs.length : Int) - (s : Int) < (k : Int)) = true := by simp [hor]
        go_enter Try.func21, Try.ntmps21
        go_wp2_with fail
        refine (impl_ru H.out hlim hw).mono ?_
        rw [HR.out]
        rintro e w1 ⟨rfl, rfl⟩
        have r1 : rvN (some (k, s)) = (k : Int) := rfl
        have r2 : rvE (some (k, s)) = (s : Int) := rfl
        have r3 : rvB (some (k, s)) = true := rfl
        rw [r1, r2, r3]
        clear r1 r2 r3
        go_wp2_with fail
        go_ret3
        exact ⟨_, rfl, Own.lit _ _ (Nat.le_refl _), (Below.refl _ _).alloc (Nat.le_refl _) _⟩

set_option maxHeartbeats 1000000 in
/-- spec.ReadBytes. -/
theorem spec_rb {lim : Nat} {w : World} {v : Value} {zs : List Int} {n m : Int} (h : Rd lim .u8 w v zs) (hlim : lim ≤ w.heap.size) (hw : (Lit.int .i64 n).wf = true) (hm : (Lit.int .i64 m).wf = true) (hn : zs.length ≤ 140737488355328) :
    Calls Try.prog 32 #[v, .int .i64 n, .int .i64 m] w fun e w' => ∃ v', e = .returned (.tuple #[v', .int .i64 (rbE (rb zs n m)), .bool (rbB (rb zs n m))]) ∧ Own 5 .u8 w.heap.size w' v' (rbV (rb zs n m)) ∧ Below w.heap.size w w' := by
  have H := Lib.hid h
  cases hr : rdv zs n with
  | none =>
    have e : rb zs n m = none := by unfold rb; rw [hr]
    rw [e]
    have HR := Lib.hid hr
    clear h hr e
    go_enter Try.func32, Try.ntmps32
    go_wp2_with fail
    refine (spec_ru H.out hlim hw).mono ?_
    rw [HR.out]
    rintro e w1 ⟨rfl, rfl⟩
    have e1 : rvB (none : Option (Nat × Nat)) = false := rfl
    go_wp2_with fail
    go_ret3
    exact ⟨_, rfl, Own.lit _ _ (Nat.le_refl _), (Below.refl _ _).alloc (Nat.le_refl _) _⟩
  | some r =>
    obtain ⟨k, s⟩ := r
    obtain ⟨b1, b2, b3, b4⟩ := rdv_bound hr
    obtain ⟨b, o, cap, rfl, h1, h2, hc, hb⟩ := h.at (by omega)
    have h2' : cap ≤ 9223372036854775807 := by unfold maxLen at h2; omega
    by_cases hin : (k : Int) ≤ m ∧ k ≤ zs.length - s
    · have e : rb zs n m = some ((zs.drop s).take k, s + k) := by unfold rb; rw [hr]; simp [hin]
      rw [e]
      have HR := Lib.hid hr
      have e2 : decide (m < (k : Int)) = false := by simp; omega
      have e3 : decide ((zs.length : Int) - (s : Int) < (k : Int)) = false := by simp; omega
      have hsk : s + k ≤ zs.length := by omega
      clear h hr e hc hin h2
      obtain ⟨i0, hi, hz0, hz1, hz2⟩ := info_parts infou8
      have Hhi := Lib.hid hi
      have HO : Hid (Own 5 .u8 w.heap.size (w.alloc (.cells #[] 5)) (.slice (some ⟨w.heap.size, 0, none⟩) 0 0) []) := Lib.hid (Own.lit _ _ (Nat.le_refl _))
      have HA : Hid (Rd lim .u8 (w.alloc (.cells #[] 5)) (.slice (some ⟨b, o, none⟩) zs.length cap) zs) := Lib.hid (H.out.behind (((Below.refl w.heap.size w).alloc (Nat.le_refl _) _).mono hlim))
      clear hi
      go_enter Try.func32, Try.ntmps32
      go_wp2_with fail
      refine (spec_ru H.out hlim hw).mono ?_
      rw [HR.out]
      rintro e w1 ⟨rfl, rfl⟩
      have r1 : rvN (some (k, s)) = (k : Int) := rfl
      have r2 : rvE (some (k, s)) = (s : Int) := rfl
      have r3 : rvB (some (k, s)) = true := rfl
      rw [r1, r2, r3]
      clear r1 r2 r3
      go_wp2_with (first | (at_builtin; refine append_rd _ rfl _ _ 22 rfl 5 i0 (.int .u8 0) 1 Try.underlying22 Hhi.out hz0 hz1 hz2 rfl (by omega) rfl HO.out rfl (lim := lim) (ys := (zs.drop s).take k) ?_ (by simp; omega) ?_))
      · exact HA.out.part s k hsk (some ⟨b, o, none⟩) 0 (fun h => by omega) (fun h => by cases h) (by omega) (Nat.zero_le _)
      · exact HA.out.part s k hsk (some ⟨b, o + s, none⟩) _ (fun h => rfl) (fun h => by cases h) (by omega) (by unfold maxLen; omega)
      · intro v2 w2 h3 h4
        have H3 := Lib.hid h3
        have H4 := Lib.hid ((((Below.refl w1.heap.size w1).alloc (Nat.le_refl _) _).trans (HO.out.below (Nat.le_refl _) h4)))
        clear h3 h4
        go_wp2_with fail
        go_ret3
        exact ⟨_, rfl, H3.out, H4.out⟩
      · intro v2 w2 h3 h4
        have H3 := Lib.hid h3
        have H4 := Lib.hid ((((Below.refl w1.heap.size w1).alloc (Nat.le_refl _) _).trans (HO.out.below (Nat.le_refl _) h4)))
        clear h3 h4
        go_wp2_with fail
        go_ret3
        exact ⟨_, rfl, H3.out, H4.out⟩
    · have e : rb zs n m = none := by unfold rb; rw [hr]; simp [hin]
      rw [e]
      have HR := Lib.hid hr
      have hor : m < (k : Int) ∨ (m < (k : Int)) = False ∧ (zs.length : Int) - (s : Int) < (k : Int) := by
        by_cases h : m < (k : Int)
        · exact .inl h
        · exact .inr ⟨by simp [h], by omega⟩
      clear h hr e hc hin h2
      rcases hor with hor | ⟨hor1, hor⟩
      · have e2 : decide (m < (k : Int)) = true := by simp [hor]
        go_enter Try.func32, Try.ntmps32
        go_wp2_with fail
        refine (spec_ru H.out hlim hw).mono ?_
        rw [HR.out]
        rintro e w1 ⟨rfl, rfl⟩
        have r1 : rvN (some (k, s)) = (k : Int) := rfl
        have r2 : rvE (some (k, s)) = (s : Int) := rfl
        have r3 : rvB (some (k, s)) = true := rfl
        rw [r1, r2, r3]
        clear r1 r2 r3
        go_wp2_with fail
        go_ret3
        exact ⟨_, rfl, Own.lit _ _ (Nat.le_refl _), (Below.refl _ _).alloc (Nat.le_refl _) _⟩
      · have e2 : decide (m < (k : Int)) = false := by simp [hor1]
        have e3 : decide ((zs.length : Int) - (s : Int) < (k : Int)) = true := by simp [hor]
        go_enter Try.func32, Try.ntmps32
        go_wp2_with fail
        refine (spec_ru H.out hlim hw).mono ?_
        rw [HR.out]
        rintro e w1 ⟨rfl, rfl⟩
        have r1 : rvN (some (k, s)) = (k : Int) := rfl
        have r2 : rvE (some (k, s)) = (s : Int) := rfl
        have r3 : rvB (some (k, s)) = true := rfl
        rw [r1, r2, r3]
        clear r1 r2 r3
        go_wp2_with fail
        go_ret3
        exact ⟨_, rfl, Own.lit _ _ (Nat.le_refl _), (Below.refl _ _).alloc (Nat.le_refl _) _⟩

end Go.Proofs.Ytbkmnmjobndpiaa
