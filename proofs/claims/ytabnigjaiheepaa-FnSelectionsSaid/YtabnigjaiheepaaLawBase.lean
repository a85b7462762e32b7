/- What the laws of properties share: whether the code is too long, a byte of it. No conditions. -/
import Derived.Test.YtabnigjaiheepaaRows
import Derived.Test.YtabnigjaiheepaaRd
import Derived.Test.YtabnigjaiheepaaDraw
namespace Go.Proofs.Ytabnigjaiheepaa
open Go Go.RowKit
set_option linter.unusedVariables false

theorem big_is (a : Option Addr) (len cap : Nat) (w : World) (hl : len ≤ 9223372036854775807) :
    Calls Try.prog 12 #[.slice a len cap] w fun e w' => e = .returned (.bool (decide ((1048576 : Int) < (len : Int)))) ∧ w' = w := by
  go_enter Try.func12, Try.ntmps12
  go_wp2
  go_ret
  exact ⟨rfl, rfl⟩

theorem row_own {k : IntKind} {w : World} {a : Option Addr} {len cap : Nat} {zs : List Int} (h : IsRow k w a len cap zs) : RowB w.heap.size k w a len cap zs ∧ len ≤ maxLen := by
  rcases h with h | ⟨x, h1, h2, h3, h4, h5, h6, h7⟩
  · exact ⟨.inl h, by rw [h.2.1]; unfold maxLen; omega⟩
  · exact ⟨.inr ⟨x, h1, h2, h3, h4, h5, h6, h7⟩, by omega⟩

theorem RowB.mono {B B' : Nat} {k : IntKind} {w : World} {a : Option Addr} {len cap : Nat} {zs : List Int} (h : RowB B k w a len cap zs) (hB : B ≤ B') : RowB B' k w a len cap zs := by
  rcases h with h | ⟨x, h1, h2, h3, h4, h5, h6, h7⟩
  · exact .inl h
  · exact .inr ⟨x, h1, h2, h3, h4, h5, h6, by omega⟩

/-- laws.at. -/
def atv (s : List Int) (i : Nat) : Int := if i < s.length then s.getD i 0 else ((i * 31 + s.length * 7 : Nat) : Int) % 256
theorem atv_bound {s : List Int} (h : ∀ i, i < s.length → (Lit.int .u8 (s.getD i 0)).wf = true) (i : Nat) : 0 ≤ atv s i ∧ atv s i ≤ 255 := by
  unfold atv
  split
  · exact wf_u8 (h i (by assumption))
  · omega
theorem at_any {lim : Nat} {w : World} {v : Value} {s : List Int} (h : Rd lim .u8 w v s) (i : Nat) (hi : i ≤ 1000) (hs : s.length ≤ 1048576) :
    Calls Try.prog 23 #[v, .int .i64 i] w fun e w' => (e = .returned (.int .i64 (atv s i)) ∧ 0 ≤ atv s i ∧ atv s i ≤ 255) ∧ w' = w := by
  have hwf : Hid (∀ i, i < s.length → (Lit.int .u8 (s.getD i 0)).wf = true) := Lib.hid fun i hi => h.wf hi
  obtain ⟨a, cap, rfl, h1, h2, hc⟩ := h.open
  by_cases hlt : i < s.length
  · have e1 : decide ((i : Int) < (s.length : Int)) = true := by simp; omega
    obtain ⟨b, o, rfl, hb, hcell⟩ := hc (by omega)
    have c1 := hcell w (Below.refl _ _) i hlt
    have hw := wf_u8 (hwf.out i hlt)
    have ha : atv s i = s.getD i 0 := by unfold atv; rw [if_pos hlt]
    rw [ha]
    obtain ⟨z, hz⟩ : ∃ z, z = s.getD i 0 := ⟨_, rfl⟩
    rw [← hz] at c1 hw ⊢
    have hlt' : (i : Int) < (s.length : Int) := by omega
    clear h hc hcell ha hz h2 hwf
    go_enter Try.func23, Try.ntmps23
    go_wp2
    go_ret
    exact ⟨⟨rfl, hw⟩, rfl⟩
  · have e1 : decide ((i : Int) < (s.length : Int)) = false := by simp; omega
    have ha : atv s i = ((i : Int) * 31 + (s.length : Int) * 7) % 256 := by unfold atv; rw [if_neg hlt]; simp
    have hb : 0 ≤ ((i : Int) * 31 + (s.length : Int) * 7) % 256 ∧ ((i : Int) * 31 + (s.length : Int) * 7) % 256 ≤ 255 := by omega
    rw [ha]
    have h9 : 0 ≤ (i : Int) * 31 + (s.length : Int) * 7 := by omega
    have HB := Lib.hid hb
    clear h hc ha h2 hwf hb
    go_enter Try.func23, Try.ntmps23
    go_wp2
    go_ret
    exact ⟨⟨rfl, HB.out⟩, rfl⟩

end Go.Proofs.Ytabnigjaiheepaa
