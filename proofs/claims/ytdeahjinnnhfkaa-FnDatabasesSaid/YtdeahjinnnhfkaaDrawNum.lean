/- What the drawn numbers and strings are, and what drawing leaves. No conditions. -/
import Derived.Test.YtdeahjinnnhfkaaJ1
import Derived.Deep.RegionWith
namespace Go.Proofs.Ytdeahjinnnhfkaa
open Go.RowKit
set_option linter.unusedVariables false

theorem Cur.alloc {B b : Nat} {w : World} (h : Cur B b w) (o : Obj) : Cur B b (w.alloc o) := by
  obtain ⟨a, len, cap, zs, i, h, hB, hb, hi, hrow⟩ := h
  have hlt := lt_of_block hb
  exact ⟨a, len, cap, zs, i, h, hB, by rw [Below.heap_alloc _ _ _ hlt]; exact hb, hi, hrow.behind ((Below.refl _ _).alloc (by omega) _)⟩
theorem Cur.lt {B b : Nat} {w : World} (h : Cur B b w) : B ≤ b ∧ b < w.heap.size := by
  obtain ⟨a, len, cap, zs, i, h, hB, hb, hi, hrow⟩ := h
  exact ⟨hB, lt_of_block hb⟩

def OnceOut (B b : Nat) (w : World) (e : Ending) (w' : World) : Prop :=
  ∃ t : Bool, e = .returned (.bool t) ∧ Cur B b w' ∧ w.grownBy w' (some b)

/-- spec.l1Int over a list of numbers that the call has made. -/
theorem int_any (B b l : Nat) (lo hi : Int) (zs : List Int) (t : TypeId) (fz : Nat × Nat) (n : Nat) (w : World) (h : Cur B b w) (hne : l ≠ b) (hl : w.heap[l]? = some (.cells (zs.map (Value.int .i64)).toArray t fz))
    (hn : n = zs.length) (hn1 : 1 ≤ n) (hs : n ≤ 1000) (hz : ∀ x ∈ zs, lo ≤ x ∧ x ≤ hi) :
    Calls Try.prog 77 #[.pointer (some ⟨b, 0, none⟩), .slice (some ⟨l, 0, none⟩) n n] w (StepOut B b lo hi w) := by
  have H := Lib.hid h
  have HL := Lib.hid hl
  have HN := Lib.hid hn
  have hlt := lt_of_block hl
  clear h hl hn
  go_enter Try.func77, Try.ntmps77
  go_wp2_with fail
  refine (below_any B b _ _ H.out (by omega) (by omega)).mono ?_
  rintro e w1 ⟨x, x0, x1, rfl, hc, hg⟩
  obtain ⟨k, rfl⟩ := Int.eq_ofNat_of_zero_le x0
  have hk : k < n := by omega
  have hc1 : w1.cell? ⟨l, k, none⟩ = some (.int .i64 (zs.getD k 0)) := by
    have e1 := hg.block l hlt (by simpa using hne)
    rw [HL.out] at e1
    rw [blk_cell e1]
    have hN := HN.out
    have hk' : k < zs.length := by omega
    simp [List.getD, List.getElem?_eq_getElem hk']
  have hm : lo ≤ zs.getD k 0 ∧ zs.getD k 0 ≤ hi := by
    have hN := HN.out
    have hk' : k < zs.length := by omega
    apply hz
    rw [List.getD_eq_getElem?_getD, List.getElem?_eq_getElem hk']; simp
  obtain ⟨y, hy⟩ : ∃ y, y = zs.getD k 0 := ⟨_, rfl⟩
  rw [← hy] at hc1 hm
  clear hy hz
  go_wp2_with fail
  go_ret
  exact ⟨y, hm.1, hm.2, rfl, hc, hg⟩

theorem int_alloc (B b : Nat) (lo hi : Int) (zs : List Int) (t : TypeId) (n : Nat) (w : World) (h : Cur B b w) (hn : n = zs.length) (hn1 : 1 ≤ n) (hs : n ≤ 1000) (hz : ∀ x ∈ zs, lo ≤ x ∧ x ≤ hi) :
    Calls Try.prog 77 #[.pointer (some ⟨b, 0, none⟩), .slice (some ⟨w.heap.size, 0, none⟩) n n] (w.alloc (.cells (zs.map (Value.int .i64)).toArray t)) (StepOut B b lo hi w) := by
  have hlt := h.lt
  refine (int_any B b w.heap.size lo hi zs t (0, 0) n _ (h.alloc _) (by omega) ?_ hn hn1 hs hz).mono ?_
  · show (w.heap.push _)[w.heap.size]? = _
    simp
  · rintro e w1 ⟨x, h0, h1, he, hc, hg⟩
    exact ⟨x, h0, h1, he, hc, grown_trans (World.grownBy_alloc _ _ _) hg⟩

/-- Some int. -/
def AnyOut (B b : Nat) (w : World) : Ending → World → Prop := StepOut B b (-9223372036854775808) 9223372036854775807 w

/-- A new cursor over the code that came in. -/
def NewOut (B : Nat) (w : World) (e : Ending) (w' : World) : Prop :=
  e = .returned (.pointer (some ⟨w.heap.size, 0, none⟩)) ∧ Cur B w.heap.size w' ∧ w.grownBy w' none

theorem new_end {B : Nat} {a : Option Addr} {len cap : Nat} {zs : List Int} {w : World} (hB : B ≤ w.heap.size) (hrow : RowB B .u8 w a len cap zs) (h : Int) :
    NewOut B w (.returned (.pointer (some ⟨w.heap.size, 0, none⟩))) (w.alloc (.cells #[.slice a len cap, .int .i64 0, .int .i64 h] 78)) :=
  ⟨rfl, ⟨a, len, cap, zs, 0, h, hB, by show (w.heap.push _)[w.heap.size]? = _; simp, Nat.zero_le _, hrow.behind ((Below.refl _ _).alloc hB _)⟩, World.grownBy_alloc _ _ _⟩

theorem new_zero (B : Nat) (a : Option Addr) (cap : Nat) (zs : List Int) (w : World) (hB : B ≤ w.heap.size) (hrow : RowB B .u8 w a 0 cap zs) :
    Calls Try.prog 46 #[.slice a 0 cap] w (NewOut B w) := by
  have HR := Lib.hid hrow
  clear hrow
  go_enter Try.func46, Try.ntmps46
  go_wp2
  go_rounds 1
  go_ret
  exact new_end hB HR.out _

theorem new_any (B : Nat) (a : Option Addr) (len cap : Nat) (zs : List Int) (w : World) (hB : B ≤ w.heap.size) (hrow : RowB B .u8 w a len cap zs) (hl : len ≤ maxLen) :
    Calls Try.prog 46 #[.slice a len cap] w (NewOut B w) := by
  have HR := Lib.hid hrow
  unfold maxLen at hl
  rcases hrow with ⟨rfl, rfl, rfl, rfl⟩ | ⟨x, rfl, h1, h2, hz, hcell, hwf, hblk⟩
  · exact new_zero B _ _ _ w hB HR.out
  · by_cases h0 : len = 0
    · subst h0
      exact new_zero B _ _ _ w hB HR.out
    · obtain ⟨xb, xo, rfl, hc⟩ := ints_at hcell (by omega)
      clear hcell hwf hblk
      have Hc := Lib.hid hc
      clear hc
      go_enter Try.func46, Try.ntmps46
      go_wp2
      go_loop [3, 4] (fun hh i => ∃ (k : Nat) (h : Int), k ≤ len ∧ hh = .int .i64 h ∧ i = .int .i64 k) (fun _ i => len - (RowKit.intOf i).toNat)
      case atStart => exact ⟨0, _, Nat.zero_le _, rfl, rfl⟩
      case round =>
        obtain ⟨k, h, hk, rfl, rfl⟩ := hrel
        by_cases hlt : (k : Int) < (len : Int)
        · by_cases h4 : (k : Int) < 4000
          · have hcell := Hc.out k (by omega)
            go_wp2
            go_round
            case rel => exact ⟨k + 1, _, by omega, rfl, by go_num⟩
            case measure => simp [RowKit.intOf]; omega
          · go_wp2
            go_ret
            exact new_end hB HR.out _
        · go_wp2
          go_ret
          exact new_end hB HR.out _

end Go.Proofs.Ytdeahjinnnhfkaa
