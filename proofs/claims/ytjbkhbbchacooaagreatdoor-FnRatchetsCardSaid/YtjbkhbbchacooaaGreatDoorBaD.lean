/- The cursor that the drawn inputs come from: what each of its steps gives and leaves. No conditions. What the drawn numbers and strings are, and what drawing leaves. No conditions. What the laws of properties share: whether the code is too long, a byte of it. No conditions. What the laws of properties with a cursor share. No conditions. -/
import Derived.Test.YtjbkhbbchacooaaGreatDoorRows
import Derived.Test.YtjbkhbbchacooaaGreatDoorBa1
import Derived.WalkKit
import Derived.Below
import Derived.Handy
import Derived.Outline
import Derived.WalkSpells
import Derived.Deep.QuietTactic
import Derived.BigQuiet
import Derived.OpenShut
import Derived.Lib.Hide
import Derived.Deep.RegionWith

/-! Draw -/
namespace Go.Proofs.YtjbkhbbchacooaaGreatDoor
open Go.RowKit
set_option linter.unusedVariables false

/-- A row of bytes below block B. -/
def RowB (B : Nat) (k : IntKind) (w : World) (a : Option Addr) (len cap : Nat) (zs : List Int) : Prop :=
  (a = none ∧ len = 0 ∧ cap = 0 ∧ zs = []) ∨
  ∃ x, a = some x ∧ len ≤ cap ∧ cap ≤ maxLen ∧ zs.length = cap ∧ (∀ i, i < zs.length → w.cell? (x.add i) = some (.int k (zs.getD i 0))) ∧ (∀ n ∈ zs, (Lit.int k n).wf = true) ∧ (x.block < B ∨ zs.length = 0)

theorem add_block (x : Addr) (i : Nat) : (x.add i).block = x.block := by
  unfold Addr.add; split <;> rfl

theorem RowB.behind {B : Nat} {k : IntKind} {w w' : World} {a : Option Addr} {len cap : Nat} {zs : List Int} (h : RowB B k w a len cap zs) (hb : Below B w w') : RowB B k w' a len cap zs := by
  rcases h with h | ⟨x, ha, hl, hc, hz, hcell, hwf, hlt⟩
  · exact .inl h
  · refine .inr ⟨x, ha, hl, hc, hz, fun i hi => ?_, hwf, hlt⟩
    rw [← hcell i hi]
    have hlt' : (x.add i).block < B := by
      rcases hlt with h | h
      · rw [add_block]; exact h
      · omega
    exact hb.cell (p := x.add i) hlt'

theorem and_lo (x : Int) : 0 ≤ bits .and .i64 x 255 ∧ bits .and .i64 x 255 ≤ 255 := by
  rw [i64_and255]; omega

theorem grown_set_drewN (w : World) (b i : Nat) (u : Value) (n : Nat) : w.grownBy ((w.setCell ⟨b, i, none⟩ u).drewN n) (some b) := grown_trans (grown_set _ _ _ _) (grown_drewN _ _ _)

end Go.Proofs.YtjbkhbbchacooaaGreatDoor


/-! DrawNum -/
namespace Go.Proofs.YtjbkhbbchacooaaGreatDoor
open Go.RowKit
set_option linter.unusedVariables false

end Go.Proofs.YtjbkhbbchacooaaGreatDoor


/-! LawAt -/
namespace Go.Proofs.YtjbkhbbchacooaaGreatDoor
open Go Go.RowKit
set_option linter.unusedVariables false

theorem big_is (a : Option Addr) (len cap : Nat) (w : World) (hl : len ≤ 9223372036854775807) :
    Calls Tryz.prog 5 #[.slice a len cap] w fun e w' => e = .returned (.bool (decide ((1048576 : Int) < (len : Int)))) ∧ w' = w := by
  go_enter Tryz.func5, Tryz.ntmps5
  go_wp2
  go_ret
  exact ⟨rfl, rfl⟩

/-- laws.at. -/
def atv (s : List Int) (i : Nat) : Int := if i < s.length then s.getD i 0 else ((i * 31 + s.length * 7 : Nat) : Int) % 256
theorem atv_bound {s : List Int} (h : ∀ i, i < s.length → (Lit.int .u8 (s.getD i 0)).wf = true) (i : Nat) : 0 ≤ atv s i ∧ atv s i ≤ 255 := by
  unfold atv
  split
  · exact wf_u8 (h i (by assumption))
  · omega
theorem at_any {lim : Nat} {w : World} {v : Value} {s : List Int} (h : Rd lim .u8 w v s) (i : Nat) (hi : i ≤ 1000) (hs : s.length ≤ 1048576) :
    Calls Tryz.prog 7 #[v, .int .i64 i] w fun e w' => (e = .returned (.int .i64 (atv s i)) ∧ 0 ≤ atv s i ∧ atv s i ≤ 255) ∧ w' = w := by
  have hwf : Hid (∀ i, i < s.length → (Lit.int .u8 (s.getD i 0)).wf = true) := Lib.hid fun i hi => h.wf hi
  obtain ⟨a, cap, rfl, h1, h2, hc⟩ := h.open
  by_cases hlt : i < s.length
  · have e1 : decide ((i : Int) < (s.length : Int)) = true := by simp; omega
    obtain ⟨b, o, rfl, hb, hcell⟩ := hc (by omega)
    have c1 := hcell w (Below.refl _ _) i hlt
    have hw := wf_u8 (hwf.out i hlt)
    have ha : atv s i = s.getD i 0 := by unfold atv; rw [if_pos hlt]
    rw [ha]
    obtain ⟨z, hz⟩ : ∃ z, z = s.getD i 0 := ⟨_, rfl⟩
    rw [← hz] at c1 hw ⊢
    have hlt' : (i : Int) < (s.length : Int) := by omega
    clear h hc hcell ha hz h2 hwf
    go_enter Tryz.func7, Tryz.ntmps7
    go_wp2
    go_ret
    exact ⟨⟨rfl, hw⟩, rfl⟩
  · have e1 : decide ((i : Int) < (s.length : Int)) = false := by simp; omega
    have ha : atv s i = ((i : Int) * 31 + (s.length : Int) * 7) % 256 := by unfold atv; rw [if_neg hlt]; simp
    have hb : 0 ≤ ((i : Int) * 31 + (s.length : Int) * 7) % 256 ∧ ((i : Int) * 31 + (s.length : Int) * 7) % 256 ≤ 255 := by omega
    rw [ha]
    have h9 : 0 ≤ (i : Int) * 31 + (s.length : Int) * 7 := by omega
    have HB := Lib.hid hb
    clear h hc ha h2 hwf hb
    go_enter Tryz.func7, Tryz.ntmps7
    go_wp2
    go_ret
    exact ⟨⟨rfl, HB.out⟩, rfl⟩

end Go.Proofs.YtjbkhbbchacooaaGreatDoor


/-! LawBase -/
namespace Go.Proofs.YtjbkhbbchacooaaGreatDoor
open Go Go.RowKit
set_option linter.unusedVariables false

theorem row_own {k : IntKind} {w : World} {a : Option Addr} {len cap : Nat} {zs : List Int} (h : IsRow k w a len cap zs) : RowB w.heap.size k w a len cap zs ∧ len ≤ maxLen := by
  rcases h with h | ⟨x, h1, h2, h3, h4, h5, h6, h7⟩
  · exact ⟨.inl h, by rw [h.2.1]; unfold maxLen; omega⟩
  · exact ⟨.inr ⟨x, h1, h2, h3, h4, h5, h6, h7⟩, by omega⟩

theorem RowB.mono {B B' : Nat} {k : IntKind} {w : World} {a : Option Addr} {len cap : Nat} {zs : List Int} (h : RowB B k w a len cap zs) (hB : B ≤ B') : RowB B' k w a len cap zs := by
  rcases h with h | ⟨x, h1, h2, h3, h4, h5, h6, h7⟩
  · exact .inl h
  · exact .inr ⟨x, h1, h2, h3, h4, h5, h6, by omega⟩

end Go.Proofs.YtjbkhbbchacooaaGreatDoor
