/- The cursor that the drawn inputs come from: what each of its steps gives and leaves. No conditions. -/
import Derived.Test.YtnamgnhplodhoaaRows
import Derived.Test.YtnamgnhplodhoaaJ1
import Derived.Test.YtnamgnhplodhoaaJ2
import Derived.WalkKit
import Derived.Below
import Derived.Handy
import Derived.Outline
import Derived.WalkSpells
import Derived.Deep.QuietTactic
import Derived.BigQuiet
import Derived.OpenShut
import Derived.Lib.Hide
namespace Go.Proofs.Ytnamgnhplodhoaa
open Go.RowKit
set_option linter.unusedVariables false

/-- A row of bytes below block B. -/
def RowB (B : Nat) (k : IntKind) (w : World) (a : Option Addr) (len cap : Nat) (zs : List Int) : Prop :=
  (a = none ∧ len = 0 ∧ cap = 0 ∧ zs = []) ∨
  ∃ x, a = some x ∧ len ≤ cap ∧ cap ≤ maxLen ∧ zs.length = cap ∧ (∀ i, i < zs.length → w.cell? (x.add i) = some (.int k (zs.getD i 0))) ∧ (∀ n ∈ zs, (Lit.int k n).wf = true) ∧ (x.block < B ∨ zs.length = 0)

theorem add_block (x : Addr) (i : Nat) : (x.add i).block = x.block := by
  unfold Addr.add; split <;> rfl

theorem RowB.behind {B : Nat} {k : IntKind} {w w' : World} {a : Option Addr} {len cap : Nat} {zs : List Int} (h : RowB B k w a len cap zs) (hb : Below B w w') : RowB B k w' a len cap zs := by
  rcases h with h | ⟨x, ha, hl, hc, hz, hcell, hwf, hlt⟩
  · exact .inl h
  · refine .inr ⟨x, ha, hl, hc, hz, fun i hi => ?_, hwf, hlt⟩
    rw [← hcell i hi]
    have hlt' : (x.add i).block < B := by
      rcases hlt with h | h
      · rw [add_block]; exact h
      · omega
    exact hb.cell (p := x.add i) hlt'

/-- The cursor in block b, one of the call's own. -/
def Cur (B b : Nat) (w : World) : Prop :=
  ∃ (a : Option Addr) (len cap : Nat) (zs : List Int) (i : Nat) (h : Int), B ≤ b ∧ w.heap[b]? = some (.cells #[.slice a len cap, .int .i64 i, .int .i64 h] 90 (0, 0)) ∧ i ≤ len ∧ RowB B .u8 w a len cap zs

/-- A step of the cursor that gives a number from lo to hi. -/
def StepOut (B b : Nat) (lo hi : Int) (w : World) (e : Ending) (w' : World) : Prop :=
  ∃ x : Int, lo ≤ x ∧ x ≤ hi ∧ e = .returned (.int .i64 x) ∧ Cur B b w' ∧ w.grownBy w' (some b)

theorem and_lo (x : Int) : 0 ≤ bits .and .i64 x 255 ∧ bits .and .i64 x 255 ≤ 255 := by
  rw [i64_and255]; omega

/-- How a step ends. -/
theorem step_end {B b : Nat} {a : Option Addr} {len cap : Nat} {zs : List Int} {i : Nat} {h : Int} {w : World} (hB : B ≤ b)
    (hb : w.heap[b]? = some (.cells #[.slice a len cap, .int .i64 i, .int .i64 h] 90 (0, 0))) (hrow : RowB B .u8 w a len cap zs)
    (i' : Nat) (w' : World) (hw : ∃ h' : Int, w'.heap[b]? = some (.cells #[.slice a len cap, .int .i64 i', .int .i64 h'] 90 (0, 0))) (hi : i' ≤ len) (hg : w.grownBy w' (some b)) (x : Int) :
    StepOut B b 0 255 w (.returned (.int .i64 (bits .and .i64 x 255))) w' :=
  ⟨_, (and_lo x).1, (and_lo x).2, rfl, ⟨a, len, cap, zs, i', hw.choose, hB, hw.choose_spec, hi, hrow.behind (below_of_grown hg hB (by have := lt_of_block hb; omega))⟩, hg⟩

theorem grown_set_drewN (w : World) (b i : Nat) (u : Value) (n : Nat) : w.grownBy ((w.setCell ⟨b, i, none⟩ u).drewN n) (some b) := grown_trans (grown_set _ _ _ _) (grown_drewN _ _ _)

set_option maxHeartbeats 400000 in
theorem byte_end (B : Nat) (a : Option Addr) (len cap : Nat) (zs : List Int) (i : Nat) (h : Int) (b : Nat) (w : World) (hB : B ≤ b) (hb : w.heap[b]? = some (.cells #[.slice a len cap, .int .i64 i, .int .i64 h] 90 (0, 0))) (hi : len ≤ i) (hil : i ≤ len) (hl : len ≤ maxLen)
    (hrow : RowB B .u8 w a len cap zs) :
    Calls Try.prog 81 #[.pointer (some ⟨b, 0, none⟩)] w (StepOut B b 0 255 w) := by
  have c0 : w.cell? ⟨b, 0, none⟩ = some (.slice a len cap) := blk_cell hb 0
  have c1 : w.cell? ⟨b, 1, none⟩ = some (.int .i64 i) := blk_cell hb 1
  have c2 : w.cell? ⟨b, 2, none⟩ = some (.int .i64 h) := blk_cell hb 2
  have f2 : w.frozen? ⟨b, 2, none⟩ = false := blk_free hb 2
  have hd : decide ((i : Int) < (len : Int)) = false := by simp; omega
  have Hb := Lib.hid hb
  have Hr := Lib.hid hrow
  unfold maxLen at hl
  clear hb hrow
  go_enter Try.func81, Try.ntmps81
  go_wp2
  go_quiet (fail)
  go_wp2
  go_quiet (fail)
  go_wp2
  go_ret
  refine step_end hB Hb.out Hr.out i _ ?_ hil ?_ _
  · exact ⟨_, blk_set Hb.out 2 _⟩
  · repeat (first | exact grown_set _ _ _ _ | refine grown_trans ?_ (grown_drewN _ _ _) | refine grown_trans ?_ (grown_set _ _ _ _))

theorem byte_row (B : Nat) (xb xo : Nat) (z : Int) (len cap : Nat) (zs : List Int) (i : Nat) (h : Int) (b : Nat) (w : World) (hB : B ≤ b) (hb : w.heap[b]? = some (.cells #[.slice (some ⟨xb, xo, none⟩) len cap, .int .i64 i, .int .i64 h] 90 (0, 0))) (hi : i < len) (hl : len ≤ maxLen)
    (hrow : RowB B .u8 w (some ⟨xb, xo, none⟩) len cap zs) (hx : xb ≠ b) (hc : w.cell? ⟨xb, xo + i, none⟩ = some (.int .u8 z)) (z0 : 0 ≤ z) (z1 : z ≤ 255) :
    Calls Try.prog 81 #[.pointer (some ⟨b, 0, none⟩)] w (StepOut B b 0 255 w) := by
  have c0 : w.cell? ⟨b, 0, none⟩ = some (.slice (some ⟨xb, xo, none⟩) len cap) := blk_cell hb 0
  have c1 : w.cell? ⟨b, 1, none⟩ = some (.int .i64 i) := blk_cell hb 1
  have c2 : w.cell? ⟨b, 2, none⟩ = some (.int .i64 h) := blk_cell hb 2
  have f2 : w.frozen? ⟨b, 2, none⟩ = false := blk_free hb 2
  have f1 : w.frozen? ⟨b, 1, none⟩ = false := blk_free hb 1
  have hd : decide ((i : Int) < (len : Int)) = true := by simp; omega
  have hi' : (i : Int) < (len : Int) := by omega
  have Hb := Lib.hid hb
  have Hr := Lib.hid hrow
  unfold maxLen at hl
  clear hb hrow
  go_enter Try.func81, Try.ntmps81
  go_wp2
  go_quiet (fail)
  go_wp2
  go_quiet (fail)
  go_wp2
  go_quiet (fail)
  go_wp2
  go_ret
  refine step_end hB Hb.out Hr.out (i + 1) _ ?_ (by omega) ?_ _
  · exact ⟨_, blk_set (blk_set Hb.out 2 _) 1 _⟩
  · repeat (first | exact grown_set _ _ _ _ | refine grown_trans ?_ (grown_drewN _ _ _) | refine grown_trans ?_ (grown_set _ _ _ _))

/-- spec.l1Byte: a number from 0 to 255. -/
theorem byte_any (B b : Nat) (w : World) (h : Cur B b w) :
    Calls Try.prog 81 #[.pointer (some ⟨b, 0, none⟩)] w (StepOut B b 0 255 w) := by
  obtain ⟨a, len, cap, zs, i, h, hB, hb, hi, hrow⟩ := h
  have hl : len ≤ maxLen := by
    rcases hrow with ⟨_, h, _, _⟩ | ⟨_, _, h1, h2, _⟩
    · rw [h]; unfold maxLen; omega
    · omega
  by_cases hlt : i < len
  · have hrow' := hrow
    rcases hrow with ⟨_, h, _, _⟩ | ⟨x, rfl, h1, h2, hz, hcell, hwf, hblk⟩
    · omega
    · obtain ⟨xb, xo, rfl, hc⟩ := ints_at hcell (by omega)
      have hm : zs.getD i 0 ∈ zs := by
        rw [List.getD_eq_getElem?_getD, List.getElem?_eq_getElem (by omega)]; simp
      have hw := hwf _ hm
      have e1 : IntKind.u8.min = 0 := rfl
      have e2 : IntKind.u8.max = 255 := rfl
      simp [Lit.wf, e1, e2] at hw
      refine byte_row B xb xo (zs.getD i 0) len cap zs i h b w hB hb hlt hl hrow' ?_ (hc i (by omega)) (by simpa using hw.1) (by simpa using hw.2)
      rcases hblk with h | h
      · have : xb < B := h
        omega
      · omega
  · exact byte_end B a len cap zs i h b w hB hb (by omega) hi hl hrow

/-- spec.l1Below: a number below n; 0 where n is not above 0. -/
theorem below_any (B b : Nat) (n : Int) (w : World) (h : Cur B b w) (hn0 : 1 ≤ n) (hn : n ≤ 9223372036854775807) :
    Calls Try.prog 52 #[.pointer (some ⟨b, 0, none⟩), .int .i64 n] w (StepOut B b 0 (n - 1) w) := by
  by_cases h256 : n ≤ 256
  · have H := Lib.hid h
    clear h
    go_enter Try.func52, Try.ntmps52
    go_wp2_with fail
    refine (byte_any B b _ H.out).mono ?_
    rintro e w1 ⟨x, x0, x1, rfl, hc, hg⟩
    have b1 := Int.emod_nonneg x (b := n) (by omega)
    have b2 := Int.emod_lt_of_pos x (b := n) (by omega)
    go_wp2_with fail
    go_ret
    exact ⟨_, b1, by omega, rfl, hc, hg⟩
  · have H := Lib.hid h
    clear h
    go_enter Try.func52, Try.ntmps52
    go_wp2_with fail
    refine (byte_any B b _ H.out).mono ?_
    rintro e w1 ⟨x, x0, x1, rfl, hc, hg1⟩
    go_wp2_with fail
    refine (byte_any B b _ hc).mono ?_
    rintro e w2 ⟨y, y0, y1, rfl, hc2, hg2⟩
    go_wp2_with fail
    refine (byte_any B b _ hc2).mono ?_
    rintro e w3 ⟨z, z0, z1, rfl, hc3, hg3⟩
    have b1 := Int.emod_nonneg (x * 65536 + y * 256 + z) (b := n) (by omega)
    have b2 := Int.emod_lt_of_pos (x * 65536 + y * 256 + z) (b := n) (by omega)
    go_wp2_with fail
    go_ret
    exact ⟨_, b1, by omega, rfl, hc3, grown_trans hg1 (grown_trans hg2 hg3)⟩

end Go.Proofs.Ytnamgnhplodhoaa
