/- PadTo, the program's and the document's: what it gives. No conditions but a length that a machine holds. -/
import Derived.Test.YtcemadckgimhhaaXor
import Derived.Test.YtcemadckgimhhaaApZ
import Derived.Test.YtcemadckgimhhaaEnc
namespace Go.Proofs.Ytcemadckgimhhaa
open Go Go.RowKit
set_option linter.unusedVariables false

/-- PadTo's answer. -/
def pd (xs : List Int) (n : Int) : List Int := if (xs.length : Int) < n ∧ n ≤ 400 then xs ++ List.replicate (n.toNat - xs.length) 0 else xs
theorem pd_yes {xs : List Int} {n : Nat} (h : xs.length < n ∧ n ≤ 400) : pd xs (n : Int) = xs ++ List.replicate (n - xs.length) 0 := by
  unfold pd; rw [if_pos (by omega), Int.toNat_natCast]
theorem pd_no {xs : List Int} {n : Int} (h : ¬ ((xs.length : Int) < n ∧ n ≤ 400)) : pd xs n = xs := if_neg h
theorem pd_len (xs : List Int) (n : Int) : (pd xs n).length ≤ xs.length + 400 := by
  unfold pd; split
  · rw [List.length_append, List.length_replicate]; omega
  · omega

set_option maxHeartbeats 1000000 in
/-- impl.PadTo. -/
theorem impl_pd {lim : Nat} {w : World} {v : Value} {xs : List Int} {n : Int} (h : Rd lim .u8 w v xs) (hlim : lim ≤ w.heap.size) (hw : (Lit.int .i64 n).wf = true) (hn : xs.length ≤ 1099511627776) :
    Calls Try.prog 23 #[v, .int .i64 n] w fun e w' => ∃ v', e = .returned v' ∧ Own 5 .u8 w.heap.size w' v' (pd xs n) ∧ Below w.heap.size w w' := by
  obtain ⟨i0, hi, hz0, hz1, hz2⟩ := info_parts infou8
  have Hhi := Lib.hid hi
  have H := Lib.hid h
  obtain ⟨a, cap, rfl, _⟩ := h.open
  have hwn := wf_i64 hw
  clear h hi
  by_cases hp : (xs.length : Int) < n ∧ n ≤ 400
  · obtain ⟨m, rfl⟩ : ∃ m : Nat, n = (m : Int) := ⟨n.toNat, by omega⟩
    have HP := Lib.hid (pd_yes (xs := xs) (n := m) (by omega))
    have HR := inR_yes (x := (m : Int)) (a := (xs.length : Int) + 1) (b := 400) (by omega)
    obtain ⟨k, hk⟩ : ∃ k : Nat, m = xs.length + k ∧ 0 < k := ⟨m - xs.length, by omega, by omega⟩
    obtain ⟨rfl, hk0⟩ := hk
    have ek : (((xs.length + k : Nat) : Int) - (xs.length : Int)) = (k : Int) := by omega
    have ek' : ((xs.length : Int) + (k : Int) - (xs.length : Int)) = (k : Int) := by omega
    have hk400 : xs.length + k ≤ 400 := by omega
    have HK : Hid ((xs.length + k) * 1 ≤ 140737488355328) := Lib.hid (by omega)
    have HQ : Hid (xs ++ List.replicate k 0 = pd xs ((xs.length + k : Nat) : Int)) := Lib.hid (by rw [HP.out]; congr 2; omega)
    clear hp
    go_enter Try.func23, Try.ntmps23
    go_wp2_with fail
    refine (copyBytes_any H.out hlim (by omega)).mono ?_
    rintro e w1 ⟨v1, rfl, h1, h2⟩
    have H1 := Lib.hid h1
    have H2 := Lib.hid h2
    clear h1 h2
    go_wp2_with fail
    refine (impl_in _ _ _ _ hw).mono ?_
    rintro e w2 ⟨rfl, hw2⟩
    subst hw2
    rw [HR]
    go_wp2_with (first | (at_builtin; refine append_zeros _ rfl _ _ 22 3 rfl 5 .i64 i0 1 Try.underlying22 Try.underlying3 Hhi.out hz0 hz1 hz2 (by omega) (m := k) rfl H1.out (by first | rfl | (simp; done)) hk0 (by rfl) HK.out ?_))
    intro v3 w3 h3 h4
    rw [HQ.out] at h3
    have H3 := Lib.hid h3
    have H4 := Lib.hid (H2.out.trans (H1.out.below (Nat.le_refl _) h4))
    clear h3 h4
    go_wp2
    go_ret
    exact ⟨_, rfl, H3.out, H4.out⟩
  · have HP := Lib.hid (pd_no hp)
    have HR := inR_no (x := n) (a := (xs.length : Int) + 1) (b := 400) (by omega)
    clear hp
    go_enter Try.func23, Try.ntmps23
    go_wp2_with fail
    refine (copyBytes_any H.out hlim (by omega)).mono ?_
    rintro e w1 ⟨v1, rfl, h1, h2⟩
    have H1 := Lib.hid h1
    have H2 := Lib.hid h2
    clear h1 h2
    go_wp2_with fail
    refine (impl_in _ _ _ _ hw).mono ?_
    rintro e w2 ⟨rfl, hw2⟩
    subst hw2
    rw [HR]
    go_wp2_with fail
    go_ret
    exact ⟨_, rfl, by rw [HP.out]; exact H1.out, H2.out⟩

/-- A slice's length. -/
def slen : Value → Nat
  | .slice _ n _ => n
  | _ => 0
theorem slen_slice (a : Option Addr) (n c : Nat) : slen (.slice a n c) = n := rfl

set_option maxHeartbeats 1000000 in
/-- spec.PadTo. -/
theorem spec_pd {lim : Nat} {w : World} {v : Value} {xs : List Int} {n : Int} (h : Rd lim .u8 w v xs) (hlim : lim ≤ w.heap.size) (hw : (Lit.int .i64 n).wf = true) (hn : xs.length ≤ 1099511627776) :
    Calls Try.prog 35 #[v, .int .i64 n] w fun e w' => ∃ v', e = .returned v' ∧ Own 5 .u8 w.heap.size w' v' (pd xs n) ∧ Below w.heap.size w w' := by
  obtain ⟨i0, hi, hz0, hz1, hz2⟩ := info_parts infou8
  have Hhi := Lib.hid hi
  have hwn := wf_i64 hw
  have HR : Hid (Rd lim .u8 (w.alloc (.cells #[] 5)) v xs) := Lib.hid (h.behind (((Below.refl w.heap.size w).alloc (Nat.le_refl _) _).mono hlim))
  have HO : Hid (Own 5 .u8 w.heap.size (w.alloc (.cells #[] 5)) (.slice (some ⟨w.heap.size, 0, none⟩) 0 0) []) := Lib.hid (Own.lit _ _ (Nat.le_refl _))
  clear h hi
  obtain ⟨q, hq⟩ : ∃ q, q = pd xs n := ⟨_, rfl⟩
  rw [← hq]
  have Hq := Lib.hid hq
  clear hq
  go_enter Try.func35, Try.ntmps35
  go_wp2_with (first | (at_builtin; refine append_rd _ rfl _ _ 22 rfl 5 i0 (.int .u8 0) 1 Try.underlying22 Hhi.out hz0 hz1 hz2 rfl (by omega) rfl HO.out rfl HR.out (by simp; omega) ?_))
  intro v1 w1 h1 h2
  have HB := Lib.hid ((((Below.refl w.heap.size w).alloc (Nat.le_refl _) _).trans (HO.out.below (Nat.le_refl _) h2)))
  have H1 := Lib.hid h1
  clear h1 h2
  go_wp2_with fail
  go_loopw [5] (fun s wr => ∃ k : Nat, (k = 0 ∨ ((xs.length + k : Nat) : Int) ≤ n ∧ n ≤ 400) ∧ Own 5 .u8 w.heap.size wr s (xs ++ List.replicate k 0) ∧ Below w.heap.size w wr) (fun s _ => 400 - slen s)
  case atStart => exact ⟨0, .inl rfl, by simpa using H1.out, HB.out⟩
  case round =>
    obtain ⟨k, hk, hO, hB⟩ := hrel
    obtain ⟨a1, cap1, rfl, _⟩ := hO.open
    have el : (xs ++ List.replicate k (0 : Int)).length = xs.length + k := by simp
    obtain ⟨L, hL⟩ : ∃ L, L = xs.length + k := ⟨_, rfl⟩
    rw [el, ← hL] at hO ⊢
    have HO' := Lib.hid hO
    have HB' := Lib.hid hB
    have Hel := Lib.hid el
    have Hk := Lib.hid hk
    have HL := Lib.hid hL
    have hLb : L ≤ 2199023255552 := by omega
    clear hO hB HO el hk hL
    by_cases h1 : (L : Int) < n
    · have e1 : decide ((L : Int) < n) = true := by simpa using h1
      by_cases h2 : n ≤ 400
      · have e2 : decide (n ≤ 400) = true := by simpa using h2
        have HLe : Hid (((xs ++ List.replicate k (0 : Int)).length + 1) * 1 ≤ 140737488355328) := Lib.hid (by rw [Hel.out, ← HL.out]; omega)
        go_wp2_with (first | (at_builtin; refine append_rd _ rfl _ _ 22 rfl 5 i0 (.int .u8 0) 1 Try.underlying22 Hhi.out hz0 hz1 hz2 rfl (by omega) rfl (HO'.out.alloc _) rfl (Rd.one _ _ _ 0 (by rfl)) HLe.out ?_))
        intro v3 w3 h3 h4
        have h3' := h3
        rw [← List.replicate_succ'] at h3'
        obtain ⟨a3, cap3, rfl, _⟩ := h3'.open
        have H3 := Lib.hid h3'
        have H4 := Lib.hid (HB'.out.trans ((((Below.refl w.heap.size wr).alloc HO'.out.2.1 _).trans ((HO'.out.alloc _).below (Nat.le_refl _) h4))))
        clear h3 h3' h4
        go_wp2
        go_roundw
        case rel => exact ⟨k + 1, .inr ⟨by have := HL.out; omega, h2⟩, H3.out, H4.out⟩
        case measure =>
          have := HL.out
          simp only [slen_slice, List.length_append, List.length_replicate]
          omega
      · have e2 : decide (n ≤ 400) = false := by simpa using h2
        have HF : Hid (q = xs ++ List.replicate k 0) := Lib.hid (by
          rw [Hq.out, pd_no (by omega)]
          rcases Hk.out with rfl | h
          · simp
          · omega)
        go_wp2
        go_ret
        exact ⟨_, rfl, by rw [HF.out]; exact HO'.out, HB'.out⟩
    · have e1 : decide ((L : Int) < n) = false := by simpa using h1
      have HF : Hid (q = xs ++ List.replicate k 0) := Lib.hid (by
        have hL := HL.out
        rcases Hk.out with rfl | h
        · rw [Hq.out, pd_no (by omega)]; simp
        · by_cases hk0 : k = 0
          · subst hk0; rw [Hq.out, pd_no (by omega)]; simp
          · obtain ⟨m, rfl⟩ : ∃ m : Nat, n = (m : Int) := ⟨n.toNat, by omega⟩
            rw [Hq.out, pd_yes (by omega)]
            congr 2; omega)
      go_wp2
      go_ret
      exact ⟨_, rfl, by rw [HF.out]; exact HO'.out, HB'.out⟩

end Go.Proofs.Ytcemadckgimhhaa
