/- DecodeInts and EqualBytes, the program's and the document's: what each gives. No conditions but a length that a machine holds. -/
import Derived.Test.YtbkmnmjobndpiaaEnc3
import Derived.Laws.BytesString
namespace Go.Proofs.Ytbkmnmjobndpiaa
open Go Go.RowKit
set_option linter.unusedVariables false

/-- f more varints from o on, behind those that were read. -/
def diGo (zs : List Int) : Nat → Int → List Int → Option (List Int × Int)
  | 0, o, acc => some (acc, o)
  | f + 1, o, acc => match rdv zs o with
    | some (n, e) => diGo zs f e (acc ++ [(n : Int)])
    | none => none
/-- DecodeInts's answer. -/
def di (zs : List Int) (o c : Int) : Option (List Int × Int) := if (0 ≤ c ∧ c ≤ 100) ∧ (0 ≤ o ∧ o ≤ zs.length) then diGo zs c.toNat o [] else none
def diV (r : Option (List Int × Int)) : List Int := match r with | some (l, _) => l | none => []
def diE (r : Option (List Int × Int)) : Int := match r with | some (_, e) => e | none => 0
def diB (r : Option (List Int × Int)) : Bool := match r with | some _ => true | none => false
theorem diGo_some {zs : List Int} {f : Nat} {o : Int} {acc : List Int} {n e : Nat} (h : rdv zs o = some (n, e)) : diGo zs (f + 1) o acc = diGo zs f e (acc ++ [(n : Int)]) := by rw [diGo, h]
theorem diGo_none {zs : List Int} {f : Nat} {o : Int} {acc : List Int} (h : rdv zs o = none) : diGo zs (f + 1) o acc = none := by rw [diGo, h]
theorem diGo_len (zs : List Int) : ∀ (f : Nat) (o : Int) (acc : List Int), (diV (diGo zs f o acc)).length ≤ acc.length + f
  | 0, o, acc => by simp [diGo, diV]
  | f + 1, o, acc => by
    cases h : rdv zs o with
    | none => rw [diGo_none h]; simp [diV]
    | some r =>
      obtain ⟨n, e⟩ := r
      rw [diGo_some h]
      have := diGo_len zs f e (acc ++ [(n : Int)])
      simp at this ⊢
      omega
theorem di_len (zs : List Int) (o c : Int) : (diV (di zs o c)).length ≤ 100 := by
  unfold di
  split
  · rename_i h
    have := diGo_len zs c.toNat o []
    simp at this
    omega
  · simp [diV]

/-- no byte, as a string, whatever the address. -/
theorem conv_none {P : Program} (w : World) (src e dst : TypeId) (hs : P.underlying src = some (.slice e)) (he : P.underlying e = some (.int .u8)) (hd : P.underlying dst = some .string) (p : Option Addr) (c : Nat) :
    (convert src dst (.slice p 0 c)).run P w = .ok (.string (strOfNums [])) w := by
  rw [run_convert_bytes_string w src dst e _ 0 c hs he hd]
  cases p <;> simp [Conv.bytesToString, loadCells]
  all_goals rfl

/-- bytes, as a string. -/
theorem conv_rd {lim : Nat} {w : World} {v : Value} {zs : List Int} (h : Rd lim .u8 w v zs) : (convert 22 9 v).run Try.prog w = .ok (.string (strOfNums zs)) w := by
  by_cases hp : 0 < zs.length
  · obtain ⟨b, o, cap, rfl, h1, h2, hc, hb⟩ := h.at hp
    exact run_convert_bytes_arg (P := Try.prog) w 22 5 Try.underlying22 Try.underlying5 b o zs.length cap zs rfl hc 9 Try.underlying9
  · have hz : zs = [] := List.eq_nil_of_length_eq_zero (by omega)
    subst hz
    obtain ⟨a, cap, rfl, h1⟩ := h.empty rfl
    exact conv_none w 22 5 9 Try.underlying22 Try.underlying5 Try.underlying9 a cap

/-- spec.EqualBytes. -/
theorem spec_eb {l1 l2 : Nat} {w : World} {u v : Value} {xs ys : List Int} (hu : Rd l1 .u8 w u xs) (hv : Rd l2 .u8 w v ys) :
    Calls Try.prog 39 #[u, v] w fun e w' => e = .returned (.bool ((strOfNums xs).toList == (strOfNums ys).toList)) ∧ w' = w := by
  have c1 := conv_rd hu
  have c2 := conv_rd hv
  clear hu hv
  go_enter Try.func39, Try.ntmps39
  go_wp2
  go_ret
  exact ⟨rfl, rfl⟩
/-- bytes.Equal. -/
theorem bytes_eb {l1 l2 : Nat} {w : World} {u v : Value} {xs ys : List Int} (hu : Rd l1 .u8 w u xs) (hv : Rd l2 .u8 w v ys) :
    Calls Try.prog 52 #[u, v] w fun e w' => e = .returned (.bool ((strOfNums xs).toList == (strOfNums ys).toList)) ∧ w' = w := by
  have c1 := conv_rd hu
  have c2 := conv_rd hv
  clear hu hv
  go_enter Try.func52, Try.ntmps52
  go_wp2
  go_ret
  exact ⟨rfl, rfl⟩
/-- impl.EqualBytes. -/
theorem impl_eb {l1 l2 : Nat} {w : World} {u v : Value} {xs ys : List Int} (hu : Rd l1 .u8 w u xs) (hv : Rd l2 .u8 w v ys) :
    Calls Try.prog 40 #[u, v] w fun e w' => e = .returned (.bool ((strOfNums xs).toList == (strOfNums ys).toList)) ∧ w' = w := by
  have Hu := Lib.hid hu
  have Hv := Lib.hid hv
  clear hu hv
  go_enter Try.func40, Try.ntmps40
  go_wp2_with fail
  refine (bytes_eb Hu.out Hv.out).mono ?_
  rintro e w1 ⟨rfl, hw1⟩
  subst hw1
  go_wp2_with fail
  go_ret
  exact ⟨rfl, rfl⟩

set_option maxHeartbeats 1000000 in
/-- impl.DecodeInts. -/
theorem impl_di {lim : Nat} {w : World} {v : Value} {zs : List Int} {o c : Int} (h : Rd lim .u8 w v zs) (hlim : lim ≤ w.heap.size) (hw : (Lit.int .i64 o).wf = true) (hm : (Lit.int .i64 c).wf = true) :
    Calls Try.prog 24 #[v, .int .i64 o, .int .i64 c] w fun e w' => ∃ v', e = .returned (.tuple #[v', .int .i64 (diE (di zs o c)), .bool (diB (di zs o c))]) ∧ Own 3 .i64 w.heap.size w' v' (diV (di zs o c)) ∧ Below w.heap.size w w' := by
  obtain ⟨i0, hi, hz0, hz1, hz2⟩ := info_parts infoi64
  have Hhi := Lib.hid hi
  have H := Lib.hid h
  have hl := h.len
  obtain ⟨a, cap, rfl, h1, h2, hc⟩ := h.open
  have h2' : zs.length ≤ 9223372036854775807 := by unfold maxLen at hl; omega
  have hwo := wf_i64 hw
  clear h hi hc h2 hl
  by_cases hc : 0 ≤ c ∧ c ≤ 100
  · have Hc := inR_yes hc
    by_cases ho : 0 ≤ o ∧ o ≤ zs.length
    · have Ho := inR_yes ho
      have HE : Hid (diGo zs c.toNat o [] = di zs o c) := Lib.hid (by unfold di; rw [if_pos ⟨hc, ho⟩])
      obtain ⟨n, rfl⟩ : ∃ n : Nat, c = (n : Int) := ⟨c.toNat, by omega⟩
      rw [Int.toNat_natCast] at HE
      have hn : n ≤ 100 := by omega
      clear hc ho
      go_enter Try.func24, Try.ntmps24
      go_wp2_with fail
      refine (impl_in _ _ _ _ hm).mono ?_
      rintro e w1 ⟨rfl, rfl⟩
      rw [Hc]
      go_wp2_with fail
      refine (impl_in _ _ _ _ hw).mono ?_
      rintro e w1' ⟨rfl, hw1'⟩
      subst hw1'
      rw [Ho]
      go_wp2_with fail
      go_loopw [9, 1, 26] (fun s x i wr => ∃ (j : Nat) (acc : List Int) (p : Int), i = .int .i64 j ∧ x = .int .i64 p ∧ j ≤ n ∧ acc.length = j ∧ (Lit.int .i64 p).wf = true ∧ diGo zs (n - j) p acc = diGo zs n o [] ∧ Own 3 .i64 w1'.heap.size wr s acc ∧ Below w1'.heap.size w1' wr) (fun _ _ i _ => n - (intOf i).toNat)
      case atStart => exact ⟨0, [], o, rfl, rfl, Nat.zero_le _, rfl, hw, rfl, Own.lit _ _ (Nat.le_refl _), (Below.refl _ _).alloc (Nat.le_refl _) _⟩
      case round =>
        obtain ⟨j, acc, p, rfl, rfl, hj, hlen, hwp, hd, hO, hB⟩ := hrel
        have HO := Lib.hid hO
        have HB := Lib.hid hB
        have HP := Lib.hid hwp
        have HLn := Lib.hid hlen
        have HR : Hid (Rd lim .u8 wr (.slice a zs.length cap) zs) := Lib.hid (H.out.behind (hB.mono hlim))
        have hlim' : lim ≤ wr.heap.size := Nat.le_trans hlim hB.size
        clear hO hB hwp
        by_cases hlt : j < n
        · have e1 : decide ((j : Int) < (n : Int)) = true := by simp; omega
          obtain ⟨f, hf⟩ : ∃ f, n - j = f + 1 := ⟨n - j - 1, by omega⟩
          rw [hf] at hd
          cases hr : rdv zs p with
          | none =>
            rw [diGo_none hr] at hd
            have HD : Hid (none = di zs o n) := Lib.hid (by rw [hd]; exact HE.out)
            have HRR := Lib.hid hr
            clear hd hr hlen
            go_wp2_with fail
            refine (impl_ru HR.out hlim' HP.out).mono ?_
            rw [HRR.out]
            rintro e w2 ⟨rfl, hw2⟩
            subst hw2
            have r3 : rvB (none : Option (Nat × Nat)) = false := rfl
            go_wp2_with fail
            go_ret3
            rw [← HD.out]
            exact ⟨_, rfl, Own.lit _ _ HB.out.size, HB.out.alloc HB.out.size _⟩
          | some r =>
            obtain ⟨m, e⟩ := r
            obtain ⟨b1, b2, b3, b4⟩ := rdv_bound hr
            rw [diGo_some hr] at hd
            have HD := Lib.hid hd
            have HRR := Lib.hid hr
            have hlen2 : acc.length ≤ 100 := by omega
            clear hd hr hlen
            go_wp2_with fail
            refine (impl_ru HR.out hlim' HP.out).mono ?_
            rw [HRR.out]
            rintro e' w2 ⟨rfl, hw2⟩
            subst hw2
            have r1 : rvN (some (m, e)) = (m : Int) := rfl
            have r2 : rvE (some (m, e)) = (e : Int) := rfl
            have r3 : rvB (some (m, e)) = true := rfl
            rw [r1, r2, r3]
            clear r1 r2 r3
            go_wp2_with (first | (at_builtin; refine append_rd _ rfl _ _ 35 rfl 3 i0 (.int .i64 0) 8 Try.underlying35 Hhi.out hz0 hz1 hz2 rfl (by omega) rfl (HO.out.alloc _) rfl (Rd.one _ _ _ _ (wf_i64_of (by omega) (by omega))) (by simp; omega) ?_))
            intro v3 w3 h3 h4
            have H3 := Lib.hid h3
            have H4 := Lib.hid (HB.out.trans ((((Below.refl w1'.heap.size w2).alloc HB.out.size _).trans ((HO.out.alloc _).below (Nat.le_refl _) h4))))
            clear h3 h4
            go_wp2_with fail
            go_roundw
            case rel => exact ⟨j + 1, acc ++ [(m : Int)], (e : Int), by simp, rfl, hlt, by simp [HLn.out], wf_i64_of (by omega) (by omega), by rw [show n - (j + 1) = f by omega]; exact HD.out, H3.out, H4.out⟩
            case measure => simp [intOf]; omega
        · have e1 : decide ((j : Int) < (n : Int)) = false := by simp; omega
          rw [show n - j = 0 by omega, diGo] at hd
          have HD : Hid (some (acc, p) = di zs o n) := Lib.hid (by rw [hd]; exact HE.out)
          clear hd hlen
          go_wp2_with fail
          go_ret3
          rw [← HD.out]
          exact ⟨_, rfl, HO.out, HB.out⟩
    · have Ho := inR_no ho
      have HE : Hid (none = di zs o c) := Lib.hid (by unfold di; rw [if_neg (fun h => ho h.2)])
      clear hc ho
      go_enter Try.func24, Try.ntmps24
      go_wp2_with fail
      refine (impl_in _ _ _ _ hm).mono ?_
      rintro e w1 ⟨rfl, rfl⟩
      rw [Hc]
      go_wp2_with fail
      refine (impl_in _ _ _ _ hw).mono ?_
      rintro e w1' ⟨rfl, hw1'⟩
      subst hw1'
      rw [Ho]
      go_wp2_with fail
      go_ret3
      rw [← HE.out]
      exact ⟨_, rfl, Own.lit _ _ (Nat.le_refl _), (Below.refl _ _).alloc (Nat.le_refl _) _⟩
  · have Hc := inR_no hc
    have HE : Hid (none = di zs o c) := Lib.hid (by unfold di; rw [if_neg (fun h => hc h.1)])
    clear hc
    go_enter Try.func24, Try.ntmps24
    go_wp2_with fail
    refine (impl_in _ _ _ _ hm).mono ?_
    rintro e w1 ⟨rfl, hw1⟩
    subst hw1
    rw [Hc]
    go_wp2_with fail
    go_ret3
    rw [← HE.out]
    exact ⟨_, rfl, Own.lit _ _ (Nat.le_refl _), (Below.refl _ _).alloc (Nat.le_refl _) _⟩

set_option maxHeartbeats 1000000 in
/-- spec.DecodeInts. -/
theorem spec_di {lim : Nat} {w : World} {v : Value} {zs : List Int} {o c : Int} (h : Rd lim .u8 w v zs) (hlim : lim ≤ w.heap.size) (hw : (Lit.int .i64 o).wf = true) (hm : (Lit.int .i64 c).wf = true) :
    Calls Try.prog 37 #[v, .int .i64 o, .int .i64 c] w fun e w' => ∃ v', e = .returned (.tuple #[v', .int .i64 (diE (di zs o c)), .bool (diB (di zs o c))]) ∧ Own 3 .i64 w.heap.size w' v' (diV (di zs o c)) ∧ Below w.heap.size w w' := by
  obtain ⟨i0, hi, hz0, hz1, hz2⟩ := info_parts infoi64
  have Hhi := Lib.hid hi
  have H := Lib.hid h
  have hl := h.len
  obtain ⟨a, cap, rfl, h1, h2, hc⟩ := h.open
  have h2' : zs.length ≤ 9223372036854775807 := by unfold maxLen at hl; omega
  have hwo := wf_i64 hw
  clear h hi hc h2 hl
  by_cases hc : 0 ≤ c ∧ c ≤ 100
  · have Hc := inR_yes hc
    by_cases ho : 0 ≤ o ∧ o ≤ zs.length
    · have Ho := inR_yes ho
      have HE : Hid (diGo zs c.toNat o [] = di zs o c) := Lib.hid (by unfold di; rw [if_pos ⟨hc, ho⟩])
      obtain ⟨n, rfl⟩ : ∃ n : Nat, c = (n : Int) := ⟨c.toNat, by omega⟩
      rw [Int.toNat_natCast] at HE
      have hn : n ≤ 100 := by omega
      clear hc ho
      go_enter Try.func37, Try.ntmps37
      go_wp2_with fail
      refine (spec_in _ _ _ _ hm).mono ?_
      rintro e w1 ⟨rfl, hw1⟩
      subst hw1
      rw [Hc]
      go_wp2_with fail
      refine (spec_in _ _ _ _ hw).mono ?_
      rintro e w1' ⟨rfl, hw1'⟩
      subst hw1'
      rw [Ho]
      go_wp2_with fail
      go_loopw [9, 1, 10] (fun s x i wr => ∃ (j : Nat) (acc : List Int) (p : Int), i = .int .i64 j ∧ x = .int .i64 p ∧ j ≤ n ∧ acc.length = j ∧ (Lit.int .i64 p).wf = true ∧ diGo zs (n - j) p acc = diGo zs n o [] ∧ Own 3 .i64 w.heap.size wr s acc ∧ Below w.heap.size w wr) (fun _ _ i _ => n - (intOf i).toNat)
      case atStart => exact ⟨0, [], o, rfl, rfl, Nat.zero_le _, rfl, hw, rfl, Own.lit _ _ (Nat.le_refl _), (Below.refl _ _).alloc (Nat.le_refl _) _⟩
      case round =>
        obtain ⟨j, acc, p, rfl, rfl, hj, hlen, hwp, hd, hO, hB⟩ := hrel
        have HO := Lib.hid hO
        have HB := Lib.hid hB
        have HP := Lib.hid hwp
        have HLn := Lib.hid hlen
        have HR : Hid (Rd lim .u8 wr (.slice a zs.length cap) zs) := Lib.hid (H.out.behind (hB.mono hlim))
        have hlim' : lim ≤ wr.heap.size := Nat.le_trans hlim hB.size
        clear hO hB hwp
        by_cases hlt : j < n
        · have e1 : decide ((j : Int) < (n : Int)) = true := by simp; omega
          obtain ⟨f, hf⟩ : ∃ f, n - j = f + 1 := ⟨n - j - 1, by omega⟩
          rw [hf] at hd
          cases hr : rdv zs p with
          | none =>
            rw [diGo_none hr] at hd
            have HD : Hid (none = di zs o n) := Lib.hid (by rw [hd]; exact HE.out)
            have HRR := Lib.hid hr
            clear hd hr hlen
            go_wp2_with fail
            refine (spec_ru HR.out hlim' HP.out).mono ?_
            rw [HRR.out]
            rintro e w2 ⟨rfl, hw2⟩
            subst hw2
            have r3 : rvB (none : Option (Nat × Nat)) = false := rfl
            go_wp2_with fail
            go_ret3
            rw [← HD.out]
            exact ⟨_, rfl, Own.lit _ _ HB.out.size, HB.out.alloc HB.out.size _⟩
          | some r =>
            obtain ⟨m, e⟩ := r
            obtain ⟨b1, b2, b3, b4⟩ := rdv_bound hr
            rw [diGo_some hr] at hd
            have HD := Lib.hid hd
            have HRR := Lib.hid hr
            have hlen2 : acc.length ≤ 100 := by omega
            clear hd hr hlen
            go_wp2_with fail
            refine (spec_ru HR.out hlim' HP.out).mono ?_
            rw [HRR.out]
            rintro e' w2 ⟨rfl, hw2⟩
            subst hw2
            have r1 : rvN (some (m, e)) = (m : Int) := rfl
            have r2 : rvE (some (m, e)) = (e : Int) := rfl
            have r3 : rvB (some (m, e)) = true := rfl
            rw [r1, r2, r3]
            clear r1 r2 r3
            go_wp2_with (first | (at_builtin; refine append_rd _ rfl _ _ 35 rfl 3 i0 (.int .i64 0) 8 Try.underlying35 Hhi.out hz0 hz1 hz2 rfl (by omega) rfl (HO.out.alloc _) rfl (Rd.one _ _ _ _ (wf_i64_of (by omega) (by omega))) (by simp; omega) ?_))
            intro v3 w3 h3 h4
            have H3 := Lib.hid h3
            have H4 := Lib.hid (HB.out.trans ((((Below.refl w.heap.size w2).alloc HB.out.size _).trans ((HO.out.alloc _).below (Nat.le_refl _) h4))))
            clear h3 h4
            go_wp2_with fail
            go_roundw
            case rel => exact ⟨j + 1, acc ++ [(m : Int)], (e : Int), by simp, rfl, hlt, by simp [HLn.out], wf_i64_of (by omega) (by omega), by rw [show n - (j + 1) = f by omega]; exact HD.out, H3.out, H4.out⟩
            case measure => simp [intOf]; omega
        · have e1 : decide ((j : Int) < (n : Int)) = false := by simp; omega
          rw [show n - j = 0 by omega, diGo] at hd
          have HD : Hid (some (acc, p) = di zs o n) := Lib.hid (by rw [hd]; exact HE.out)
          clear hd hlen
          go_wp2_with fail
          go_ret3
          rw [← HD.out]
          exact ⟨_, rfl, HO.out, HB.out⟩
    · have Ho := inR_no ho
      have HE : Hid (none = di zs o c) := Lib.hid (by unfold di; rw [if_neg (fun h => ho h.2)])
      clear hc ho
      go_enter Try.func37, Try.ntmps37
      go_wp2_with fail
      refine (spec_in _ _ _ _ hm).mono ?_
      rintro e w1 ⟨rfl, hw1⟩
      subst hw1
      rw [Hc]
      go_wp2_with fail
      refine (spec_in _ _ _ _ hw).mono ?_
      rintro e w1' ⟨rfl, hw1'⟩
      subst hw1'
      rw [Ho]
      go_wp2_with fail
      go_ret3
      rw [← HE.out]
      exact ⟨_, rfl, Own.lit _ _ (Nat.le_refl _), (Below.refl _ _).alloc (Nat.le_refl _) _⟩
  · have Hc := inR_no hc
    have HE : Hid (none = di zs o c) := Lib.hid (by unfold di; rw [if_neg (fun h => hc h.1)])
    clear hc
    go_enter Try.func37, Try.ntmps37
    go_wp2_with fail
    refine (spec_in _ _ _ _ hm).mono ?_
    rintro e w1 ⟨rfl, hw1⟩
    subst hw1
    rw [Hc]
    go_wp2_with fail
    go_ret3
    rw [← HE.out]
    exact ⟨_, rfl, Own.lit _ _ (Nat.le_refl _), (Below.refl _ _).alloc (Nat.le_refl _) _⟩

end Go.Proofs.Ytbkmnmjobndpiaa
