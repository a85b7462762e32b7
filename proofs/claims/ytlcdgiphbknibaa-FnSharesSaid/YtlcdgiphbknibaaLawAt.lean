/- What the laws of properties share: whether the code is too long, a byte of it. No conditions. -/
import Derived.Test.YtlcdgiphbknibaaRows
import Derived.Test.YtlcdgiphbknibaaRd
import Derived.WalkKit
import Derived.Handy
import Derived.Outline
import Derived.WalkSpells
import Derived.Lib.Hide
namespace Go.Proofs.Ytlcdgiphbknibaa
open Go Go.RowKit
set_option linter.unusedVariables false

theorem big_is (a : Option Addr) (len cap : Nat) (w : World) (hl : len ≤ 9223372036854775807) :
    Calls Try.prog 11 #[.slice a len cap] w fun e w' => e = .returned (.bool (decide ((1048576 : Int) < (len : Int)))) ∧ w' = w := by
  go_enter Try.func11, Try.ntmps11
  go_wp2
  go_ret
  exact ⟨rfl, rfl⟩

/-- laws.at. -/
def atv (s : List Int) (i : Nat) : Int := if i < s.length then s.getD i 0 else ((i * 31 + s.length * 7 : Nat) : Int) % 256
theorem atv_bound {s : List Int} (h : ∀ i, i < s.length → (Lit.int .u8 (s.getD i 0)).wf = true) (i : Nat) : 0 ≤ atv s i ∧ atv s i ≤ 255 := by
  unfold atv
  split
  · exact wf_u8 (h i (by assumption))
  · omega
theorem at_any {lim : Nat} {w : World} {v : Value} {s : List Int} (h : Rd lim .u8 w v s) (i : Nat) (hi : i ≤ 1000) (hs : s.length ≤ 1048576) :
    Calls Try.prog 15 #[v, .int .i64 i] w fun e w' => (e = .returned (.int .i64 (atv s i)) ∧ 0 ≤ atv s i ∧ atv s i ≤ 255) ∧ w' = w := by
  have hwf : Hid (∀ i, i < s.length → (Lit.int .u8 (s.getD i 0)).wf = true) := Lib.hid fun i hi => h.wf hi
  obtain ⟨a, cap, rfl, h1, h2, hc⟩ := h.open
  by_cases hlt : i < s.length
  · have e1 : decide ((i : Int) < (s.length : Int)) = true := by simp; omega
    obtain ⟨b, o, rfl, hb, hcell⟩ := hc (by omega)
    have c1 := hcell w (Below.refl _ _) i hlt
    have hw := wf_u8 (hwf.out i hlt)
    have ha : atv s i = s.getD i 0 := by unfold atv; rw [if_pos hlt]
    rw [ha]
    obtain ⟨z, hz⟩ : ∃ z, z = s.getD i 0 := ⟨_, rfl⟩
    rw [← hz] at c1 hw ⊢
    have hlt' : (i : Int) < (s.length : Int) := by omega
    clear h hc hcell ha hz h2 hwf
    go_enter Try.func15, Try.ntmps15
    go_wp2
    go_ret
    exact ⟨⟨rfl, hw⟩, rfl⟩
  · have e1 : decide ((i : Int) < (s.length : Int)) = false := by simp; omega
    have ha : atv s i = ((i : Int) * 31 + (s.length : Int) * 7) % 256 := by unfold atv; rw [if_neg hlt]; simp
    have hb : 0 ≤ ((i : Int) * 31 + (s.length : Int) * 7) % 256 ∧ ((i : Int) * 31 + (s.length : Int) * 7) % 256 ≤ 255 := by omega
    rw [ha]
    have h9 : 0 ≤ (i : Int) * 31 + (s.length : Int) * 7 := by omega
    have HB := Lib.hid hb
    clear h hc ha h2 hwf hb
    go_enter Try.func15, Try.ntmps15
    go_wp2
    go_ret
    exact ⟨⟨rfl, HB.out⟩, rfl⟩

end Go.Proofs.Ytlcdgiphbknibaa
