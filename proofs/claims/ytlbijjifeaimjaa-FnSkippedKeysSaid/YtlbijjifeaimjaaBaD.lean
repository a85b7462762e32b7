/- The cursor that the drawn inputs come from: what each of its steps gives and leaves. No conditions. What the drawn numbers and strings are, and what drawing leaves. No conditions. What the laws of properties share: whether the code is too long, a byte of it. No conditions. What the laws of properties with a cursor share. No conditions. -/
import Derived.Test.YtlbijjifeaimjaaRows
import Derived.Test.YtlbijjifeaimjaaBa1
import Derived.WalkKit
import Derived.Below
import Derived.Handy
import Derived.Outline
import Derived.WalkSpells
import Derived.Deep.QuietTactic
import Derived.BigQuiet
import Derived.OpenShut
import Derived.Lib.Hide
import Derived.Deep.RegionWith

/-! Draw -/
namespace Go.Proofs.Ytlbijjifeaimjaa
open Go.RowKit
set_option linter.unusedVariables false

/-- A row of bytes below block B. -/
def RowB (B : Nat) (k : IntKind) (w : World) (a : Option Addr) (len cap : Nat) (zs : List Int) : Prop :=
  (a = none ∧ len = 0 ∧ cap = 0 ∧ zs = []) ∨
  ∃ x, a = some x ∧ len ≤ cap ∧ cap ≤ maxLen ∧ zs.length = cap ∧ (∀ i, i < zs.length → w.cell? (x.add i) = some (.int k (zs.getD i 0))) ∧ (∀ n ∈ zs, (Lit.int k n).wf = true) ∧ (x.block < B ∨ zs.length = 0)

theorem add_block (x : Addr) (i : Nat) : (x.add i).block = x.block := by
  unfold Addr.add; split <;> rfl

theorem RowB.behind {B : Nat} {k : IntKind} {w w' : World} {a : Option Addr} {len cap : Nat} {zs : List Int} (h : RowB B k w a len cap zs) (hb : Below B w w') : RowB B k w' a len cap zs := by
  rcases h with h | ⟨x, ha, hl, hc, hz, hcell, hwf, hlt⟩
  · exact .inl h
  · refine .inr ⟨x, ha, hl, hc, hz, fun i hi => ?_, hwf, hlt⟩
    rw [← hcell i hi]
    have hlt' : (x.add i).block < B := by
      rcases hlt with h | h
      · rw [add_block]; exact h
      · omega
    exact hb.cell (p := x.add i) hlt'

/-- The cursor in block b, one of the call's own. -/
def Cur (B b : Nat) (w : World) : Prop :=
  ∃ (a : Option Addr) (len cap : Nat) (zs : List Int) (i : Nat) (h : Int), B ≤ b ∧ w.heap[b]? = some (.cells #[.slice a len cap, .int .i64 i, .int .i64 h] 52 (0, 0)) ∧ i ≤ len ∧ RowB B .u8 w a len cap zs

/-- A step of the cursor that gives a number from lo to hi. -/
def StepOut (B b : Nat) (lo hi : Int) (w : World) (e : Ending) (w' : World) : Prop :=
  ∃ x : Int, lo ≤ x ∧ x ≤ hi ∧ e = .returned (.int .i64 x) ∧ Cur B b w' ∧ w.grownBy w' (some b)

theorem and_lo (x : Int) : 0 ≤ bits .and .i64 x 255 ∧ bits .and .i64 x 255 ≤ 255 := by
  rw [i64_and255]; omega

/-- How a step ends. -/
theorem step_end {B b : Nat} {a : Option Addr} {len cap : Nat} {zs : List Int} {i : Nat} {h : Int} {w : World} (hB : B ≤ b)
    (hb : w.heap[b]? = some (.cells #[.slice a len cap, .int .i64 i, .int .i64 h] 52 (0, 0))) (hrow : RowB B .u8 w a len cap zs)
    (i' : Nat) (w' : World) (hw : ∃ h' : Int, w'.heap[b]? = some (.cells #[.slice a len cap, .int .i64 i', .int .i64 h'] 52 (0, 0))) (hi : i' ≤ len) (hg : w.grownBy w' (some b)) (x : Int) :
    StepOut B b 0 255 w (.returned (.int .i64 (bits .and .i64 x 255))) w' :=
  ⟨_, (and_lo x).1, (and_lo x).2, rfl, ⟨a, len, cap, zs, i', hw.choose, hB, hw.choose_spec, hi, hrow.behind (below_of_grown hg hB (by have := lt_of_block hb; omega))⟩, hg⟩

theorem grown_set_drewN (w : World) (b i : Nat) (u : Value) (n : Nat) : w.grownBy ((w.setCell ⟨b, i, none⟩ u).drewN n) (some b) := grown_trans (grown_set _ _ _ _) (grown_drewN _ _ _)

set_option maxHeartbeats 400000 in
theorem byte_end (B : Nat) (a : Option Addr) (len cap : Nat) (zs : List Int) (i : Nat) (h : Int) (b : Nat) (w : World) (hB : B ≤ b) (hb : w.heap[b]? = some (.cells #[.slice a len cap, .int .i64 i, .int .i64 h] 52 (0, 0))) (hi : len ≤ i) (hil : i ≤ len) (hl : len ≤ maxLen)
    (hrow : RowB B .u8 w a len cap zs) :
    Calls Try.prog 28 #[.pointer (some ⟨b, 0, none⟩)] w (StepOut B b 0 255 w) := by
  have c0 : w.cell? ⟨b, 0, none⟩ = some (.slice a len cap) := blk_cell hb 0
  have c1 : w.cell? ⟨b, 1, none⟩ = some (.int .i64 i) := blk_cell hb 1
  have c2 : w.cell? ⟨b, 2, none⟩ = some (.int .i64 h) := blk_cell hb 2
  have f2 : w.frozen? ⟨b, 2, none⟩ = false := blk_free hb 2
  have hd : decide ((i : Int) < (len : Int)) = false := by simp; omega
  have Hb := Lib.hid hb
  have Hr := Lib.hid hrow
  unfold maxLen at hl
  clear hb hrow
  go_enter Try.func28, Try.ntmps28
  go_wp2
  go_quiet (fail)
  go_wp2
  go_quiet (fail)
  go_wp2
  go_ret
  refine step_end hB Hb.out Hr.out i _ ?_ hil ?_ _
  · exact ⟨_, blk_set Hb.out 2 _⟩
  · repeat (first | exact grown_set _ _ _ _ | refine grown_trans ?_ (grown_drewN _ _ _) | refine grown_trans ?_ (grown_set _ _ _ _))

theorem byte_row (B : Nat) (xb xo : Nat) (z : Int) (len cap : Nat) (zs : List Int) (i : Nat) (h : Int) (b : Nat) (w : World) (hB : B ≤ b) (hb : w.heap[b]? = some (.cells #[.slice (some ⟨xb, xo, none⟩) len cap, .int .i64 i, .int .i64 h] 52 (0, 0))) (hi : i < len) (hl : len ≤ maxLen)
    (hrow : RowB B .u8 w (some ⟨xb, xo, none⟩) len cap zs) (hx : xb ≠ b) (hc : w.cell? ⟨xb, xo + i, none⟩ = some (.int .u8 z)) (z0 : 0 ≤ z) (z1 : z ≤ 255) :
    Calls Try.prog 28 #[.pointer (some ⟨b, 0, none⟩)] w (StepOut B b 0 255 w) := by
  have c0 : w.cell? ⟨b, 0, none⟩ = some (.slice (some ⟨xb, xo, none⟩) len cap) := blk_cell hb 0
  have c1 : w.cell? ⟨b, 1, none⟩ = some (.int .i64 i) := blk_cell hb 1
  have c2 : w.cell? ⟨b, 2, none⟩ = some (.int .i64 h) := blk_cell hb 2
  have f2 : w.frozen? ⟨b, 2, none⟩ = false := blk_free hb 2
  have f1 : w.frozen? ⟨b, 1, none⟩ = false := blk_free hb 1
  have hd : decide ((i : Int) < (len : Int)) = true := by simp; omega
  have hi' : (i : Int) < (len : Int) := by omega
  have Hb := Lib.hid hb
  have Hr := Lib.hid hrow
  unfold maxLen at hl
  clear hb hrow
  go_enter Try.func28, Try.ntmps28
  go_wp2
  go_quiet (fail)
  go_wp2
  go_quiet (fail)
  go_wp2
  go_quiet (fail)
  go_wp2
  go_ret
  refine step_end hB Hb.out Hr.out (i + 1) _ ?_ (by omega) ?_ _
  · exact ⟨_, blk_set (blk_set Hb.out 2 _) 1 _⟩
  · repeat (first | exact grown_set _ _ _ _ | refine grown_trans ?_ (grown_drewN _ _ _) | refine grown_trans ?_ (grown_set _ _ _ _))

/-- spec.l1Byte: a number from 0 to 255. -/
theorem byte_any (B b : Nat) (w : World) (h : Cur B b w) :
    Calls Try.prog 28 #[.pointer (some ⟨b, 0, none⟩)] w (StepOut B b 0 255 w) := by
  obtain ⟨a, len, cap, zs, i, h, hB, hb, hi, hrow⟩ := h
  have hl : len ≤ maxLen := by
    rcases hrow with ⟨_, h, _, _⟩ | ⟨_, _, h1, h2, _⟩
    · rw [h]; unfold maxLen; omega
    · omega
  by_cases hlt : i < len
  · have hrow' := hrow
    rcases hrow with ⟨_, h, _, _⟩ | ⟨x, rfl, h1, h2, hz, hcell, hwf, hblk⟩
    · omega
    · obtain ⟨xb, xo, rfl, hc⟩ := ints_at hcell (by omega)
      have hm : zs.getD i 0 ∈ zs := by
        rw [List.getD_eq_getElem?_getD, List.getElem?_eq_getElem (by omega)]; simp
      have hw := hwf _ hm
      have e1 : IntKind.u8.min = 0 := rfl
      have e2 : IntKind.u8.max = 255 := rfl
      simp [Lit.wf, e1, e2] at hw
      refine byte_row B xb xo (zs.getD i 0) len cap zs i h b w hB hb hlt hl hrow' ?_ (hc i (by omega)) (by simpa using hw.1) (by simpa using hw.2)
      rcases hblk with h | h
      · have : xb < B := h
        omega
      · omega
  · exact byte_end B a len cap zs i h b w hB hb (by omega) hi hl hrow

/-- spec.l1Below: a number below n; 0 where n is not above 0. -/
theorem below_any (B b : Nat) (n : Int) (w : World) (h : Cur B b w) (hn0 : 1 ≤ n) (hn : n ≤ 9223372036854775807) :
    Calls Try.prog 15 #[.pointer (some ⟨b, 0, none⟩), .int .i64 n] w (StepOut B b 0 (n - 1) w) := by
  by_cases h256 : n ≤ 256
  · have H := Lib.hid h
    clear h
    go_enter Try.func15, Try.ntmps15
    go_wp2_with fail
    refine (byte_any B b _ H.out).mono ?_
    rintro e w1 ⟨x, x0, x1, rfl, hc, hg⟩
    have b1 := Int.emod_nonneg x (b := n) (by omega)
    have b2 := Int.emod_lt_of_pos x (b := n) (by omega)
    go_wp2_with fail
    go_ret
    exact ⟨_, b1, by omega, rfl, hc, hg⟩
  · have H := Lib.hid h
    clear h
    go_enter Try.func15, Try.ntmps15
    go_wp2_with fail
    refine (byte_any B b _ H.out).mono ?_
    rintro e w1 ⟨x, x0, x1, rfl, hc, hg1⟩
    go_wp2_with fail
    refine (byte_any B b _ hc).mono ?_
    rintro e w2 ⟨y, y0, y1, rfl, hc2, hg2⟩
    go_wp2_with fail
    refine (byte_any B b _ hc2).mono ?_
    rintro e w3 ⟨z, z0, z1, rfl, hc3, hg3⟩
    have b1 := Int.emod_nonneg (x * 65536 + y * 256 + z) (b := n) (by omega)
    have b2 := Int.emod_lt_of_pos (x * 65536 + y * 256 + z) (b := n) (by omega)
    go_wp2_with fail
    go_ret
    exact ⟨_, b1, by omega, rfl, hc3, grown_trans hg1 (grown_trans hg2 hg3)⟩

end Go.Proofs.Ytlbijjifeaimjaa


/-! DrawNum -/
namespace Go.Proofs.Ytlbijjifeaimjaa
open Go.RowKit
set_option linter.unusedVariables false

theorem Cur.alloc {B b : Nat} {w : World} (h : Cur B b w) (o : Obj) : Cur B b (w.alloc o) := by
  obtain ⟨a, len, cap, zs, i, h, hB, hb, hi, hrow⟩ := h
  have hlt := lt_of_block hb
  exact ⟨a, len, cap, zs, i, h, hB, by rw [Below.heap_alloc _ _ _ hlt]; exact hb, hi, hrow.behind ((Below.refl _ _).alloc (by omega) _)⟩
theorem Cur.lt {B b : Nat} {w : World} (h : Cur B b w) : B ≤ b ∧ b < w.heap.size := by
  obtain ⟨a, len, cap, zs, i, h, hB, hb, hi, hrow⟩ := h
  exact ⟨hB, lt_of_block hb⟩

def OnceOut (B b : Nat) (w : World) (e : Ending) (w' : World) : Prop :=
  ∃ t : Bool, e = .returned (.bool t) ∧ Cur B b w' ∧ w.grownBy w' (some b)

theorem once_any (B b : Nat) (n : Int) (w : World) (h : Cur B b w) (hn0 : 1 ≤ n) (hn : n ≤ 9223372036854775807) :
    Calls Try.prog 14 #[.pointer (some ⟨b, 0, none⟩), .int .i64 n] w (OnceOut B b w) := by
  have H := Lib.hid h
  clear h
  go_enter Try.func14, Try.ntmps14
  go_wp2_with fail
  refine (below_any B b n _ H.out hn0 hn).mono ?_
  rintro e w1 ⟨x, x0, x1, rfl, hc, hg⟩
  go_wp2_with fail
  go_ret
  exact ⟨_, rfl, hc, hg⟩

/-- spec.l1Int over a list of numbers that the call has made. -/
theorem int_any (B b l : Nat) (lo hi : Int) (zs : List Int) (t : TypeId) (fz : Nat × Nat) (n : Nat) (w : World) (h : Cur B b w) (hne : l ≠ b) (hl : w.heap[l]? = some (.cells (zs.map (Value.int .i64)).toArray t fz))
    (hn : n = zs.length) (hn1 : 1 ≤ n) (hs : n ≤ 1000) (hz : ∀ x ∈ zs, lo ≤ x ∧ x ≤ hi) :
    Calls Try.prog 27 #[.pointer (some ⟨b, 0, none⟩), .slice (some ⟨l, 0, none⟩) n n] w (StepOut B b lo hi w) := by
  have H := Lib.hid h
  have HL := Lib.hid hl
  have HN := Lib.hid hn
  have hlt := lt_of_block hl
  clear h hl hn
  go_enter Try.func27, Try.ntmps27
  go_wp2_with fail
  refine (below_any B b _ _ H.out (by omega) (by omega)).mono ?_
  rintro e w1 ⟨x, x0, x1, rfl, hc, hg⟩
  obtain ⟨k, rfl⟩ := Int.eq_ofNat_of_zero_le x0
  have hk : k < n := by omega
  have hc1 : w1.cell? ⟨l, k, none⟩ = some (.int .i64 (zs.getD k 0)) := by
    have e1 := hg.block l hlt (by simpa using hne)
    rw [HL.out] at e1
    rw [blk_cell e1]
    have hN := HN.out
    have hk' : k < zs.length := by omega
    simp [List.getD, List.getElem?_eq_getElem hk']
  have hm : lo ≤ zs.getD k 0 ∧ zs.getD k 0 ≤ hi := by
    have hN := HN.out
    have hk' : k < zs.length := by omega
    apply hz
    rw [List.getD_eq_getElem?_getD, List.getElem?_eq_getElem hk']; simp
  obtain ⟨y, hy⟩ : ∃ y, y = zs.getD k 0 := ⟨_, rfl⟩
  rw [← hy] at hc1 hm
  clear hy hz
  go_wp2_with fail
  go_ret
  exact ⟨y, hm.1, hm.2, rfl, hc, hg⟩

theorem int_alloc (B b : Nat) (lo hi : Int) (zs : List Int) (t : TypeId) (n : Nat) (w : World) (h : Cur B b w) (hn : n = zs.length) (hn1 : 1 ≤ n) (hs : n ≤ 1000) (hz : ∀ x ∈ zs, lo ≤ x ∧ x ≤ hi) :
    Calls Try.prog 27 #[.pointer (some ⟨b, 0, none⟩), .slice (some ⟨w.heap.size, 0, none⟩) n n] (w.alloc (.cells (zs.map (Value.int .i64)).toArray t)) (StepOut B b lo hi w) := by
  have hlt := h.lt
  refine (int_any B b w.heap.size lo hi zs t (0, 0) n _ (h.alloc _) (by omega) ?_ hn hn1 hs hz).mono ?_
  · show (w.heap.push _)[w.heap.size]? = _
    simp
  · rintro e w1 ⟨x, h0, h1, he, hc, hg⟩
    exact ⟨x, h0, h1, he, hc, grown_trans (World.grownBy_alloc _ _ _) hg⟩

/-- Some int. -/
def AnyOut (B b : Nat) (w : World) : Ending → World → Prop := StepOut B b (-9223372036854775808) 9223372036854775807 w

/-- A new cursor over the code that came in. -/
def NewOut (B : Nat) (w : World) (e : Ending) (w' : World) : Prop :=
  e = .returned (.pointer (some ⟨w.heap.size, 0, none⟩)) ∧ Cur B w.heap.size w' ∧ w.grownBy w' none

theorem new_end {B : Nat} {a : Option Addr} {len cap : Nat} {zs : List Int} {w : World} (hB : B ≤ w.heap.size) (hrow : RowB B .u8 w a len cap zs) (h : Int) :
    NewOut B w (.returned (.pointer (some ⟨w.heap.size, 0, none⟩))) (w.alloc (.cells #[.slice a len cap, .int .i64 0, .int .i64 h] 52)) :=
  ⟨rfl, ⟨a, len, cap, zs, 0, h, hB, by show (w.heap.push _)[w.heap.size]? = _; simp, Nat.zero_le _, hrow.behind ((Below.refl _ _).alloc hB _)⟩, World.grownBy_alloc _ _ _⟩

theorem new_zero (B : Nat) (a : Option Addr) (cap : Nat) (zs : List Int) (w : World) (hB : B ≤ w.heap.size) (hrow : RowB B .u8 w a 0 cap zs) :
    Calls Try.prog 12 #[.slice a 0 cap] w (NewOut B w) := by
  have HR := Lib.hid hrow
  clear hrow
  go_enter Try.func12, Try.ntmps12
  go_wp2
  go_rounds 1
  go_ret
  exact new_end hB HR.out _

theorem new_any (B : Nat) (a : Option Addr) (len cap : Nat) (zs : List Int) (w : World) (hB : B ≤ w.heap.size) (hrow : RowB B .u8 w a len cap zs) (hl : len ≤ maxLen) :
    Calls Try.prog 12 #[.slice a len cap] w (NewOut B w) := by
  have HR := Lib.hid hrow
  unfold maxLen at hl
  rcases hrow with ⟨rfl, rfl, rfl, rfl⟩ | ⟨x, rfl, h1, h2, hz, hcell, hwf, hblk⟩
  · exact new_zero B _ _ _ w hB HR.out
  · by_cases h0 : len = 0
    · subst h0
      exact new_zero B _ _ _ w hB HR.out
    · obtain ⟨xb, xo, rfl, hc⟩ := ints_at hcell (by omega)
      clear hcell hwf hblk
      have Hc := Lib.hid hc
      clear hc
      go_enter Try.func12, Try.ntmps12
      go_wp2
      go_loop [3, 4] (fun hh i => ∃ (k : Nat) (h : Int), k ≤ len ∧ hh = .int .i64 h ∧ i = .int .i64 k) (fun _ i => len - (RowKit.intOf i).toNat)
      case atStart => exact ⟨0, _, Nat.zero_le _, rfl, rfl⟩
      case round =>
        obtain ⟨k, h, hk, rfl, rfl⟩ := hrel
        by_cases hlt : (k : Int) < (len : Int)
        · by_cases h4 : (k : Int) < 4000
          · have hcell := Hc.out k (by omega)
            go_wp2
            go_round
            case rel => exact ⟨k + 1, _, by omega, rfl, by go_num⟩
            case measure => simp [RowKit.intOf]; omega
          · go_wp2
            go_ret
            exact new_end hB HR.out _
        · go_wp2
          go_ret
          exact new_end hB HR.out _

end Go.Proofs.Ytlbijjifeaimjaa


/-! LawAt -/
namespace Go.Proofs.Ytlbijjifeaimjaa
open Go Go.RowKit
set_option linter.unusedVariables false

theorem big_is (a : Option Addr) (len cap : Nat) (w : World) (hl : len ≤ 9223372036854775807) :
    Calls Try.prog 4 #[.slice a len cap] w fun e w' => e = .returned (.bool (decide ((1048576 : Int) < (len : Int)))) ∧ w' = w := by
  go_enter Try.func4, Try.ntmps4
  go_wp2
  go_ret
  exact ⟨rfl, rfl⟩

/-- laws.at. -/
def atv (s : List Int) (i : Nat) : Int := if i < s.length then s.getD i 0 else ((i * 31 + s.length * 7 : Nat) : Int) % 256
theorem atv_bound {s : List Int} (h : ∀ i, i < s.length → (Lit.int .u8 (s.getD i 0)).wf = true) (i : Nat) : 0 ≤ atv s i ∧ atv s i ≤ 255 := by
  unfold atv
  split
  · exact wf_u8 (h i (by assumption))
  · omega
end Go.Proofs.Ytlbijjifeaimjaa


/-! LawBase -/
namespace Go.Proofs.Ytlbijjifeaimjaa
open Go Go.RowKit
set_option linter.unusedVariables false

theorem row_own {k : IntKind} {w : World} {a : Option Addr} {len cap : Nat} {zs : List Int} (h : IsRow k w a len cap zs) : RowB w.heap.size k w a len cap zs ∧ len ≤ maxLen := by
  rcases h with h | ⟨x, h1, h2, h3, h4, h5, h6, h7⟩
  · exact ⟨.inl h, by rw [h.2.1]; unfold maxLen; omega⟩
  · exact ⟨.inr ⟨x, h1, h2, h3, h4, h5, h6, h7⟩, by omega⟩

theorem RowB.mono {B B' : Nat} {k : IntKind} {w : World} {a : Option Addr} {len cap : Nat} {zs : List Int} (h : RowB B k w a len cap zs) (hB : B ≤ B') : RowB B' k w a len cap zs := by
  rcases h with h | ⟨x, h1, h2, h3, h4, h5, h6, h7⟩
  · exact .inl h
  · exact .inr ⟨x, h1, h2, h3, h4, h5, h6, by omega⟩

end Go.Proofs.Ytlbijjifeaimjaa
