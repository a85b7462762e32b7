/- A helper of the exact laws: marks in a row whose block may have more cells. No conditions but a length that a machine holds. -/
import Derived.Test.YtcemadckgimhhaaRows
import Derived.Test.YtcemadckgimhhaaRd
import Derived.Test.YtcemadckgimhhaaUpt
import Derived.Test.YtcemadckgimhhaaCopyByte
import Derived.Test.YtcemadckgimhhaaOwnC
import Derived.WalkKit
import Derived.Handy
import Derived.Outline
import Derived.WalkSpells
import Derived.Deep.QuietTactic
import Derived.BigQuiet
import Derived.Lib.Hide
namespace Go.Proofs.Ytcemadckgimhhaa
open Go Go.RowKit
set_option linter.unusedVariables false

set_option maxHeartbeats 1000000 in
/-- laws.markByteS, where the block may have more cells. -/
theorem markByteS_c {e : TypeId} {B : Nat} {w : World} {v : Value} {zs : List Int} {k0 : Int} (h : OwnC e .u8 B w v zs) (h0 : 0 ≤ k0) (hk : k0 + zs.length ≤ 9223372036854775807) :
    Calls Try.prog 27 #[v, .int .i64 k0] w fun e' w' => e' = .returned (.int .i64 (k0 + zs.length)) ∧ OwnC e .u8 B w' v (marksByte k0 zs.length) ∧ w.grownBy w' v.ownBlock := by
  obtain ⟨a, cap, rfl, ha⟩ := h.open
  have hlen : zs.length ≤ 9223372036854775807 := by omega
  have HU : OwnC e .u8 B w (.slice a zs.length cap) (upt (fun i => (k0 + i) % 256) (fun i => zs.getD i 0) 0 zs.length) := by rw [upt_zero, range_getD]; exact h
  have HO := Lib.hid HU
  have Ha := Lib.hid ha
  clear h HU ha
  go_enter Try.func27, Try.ntmps27
  go_wp2_with fail
  go_loopw [1, 5] (fun k i wr => ∃ j : Nat, i = .int .i64 j ∧ k = .int .i64 (k0 + j) ∧ j ≤ zs.length ∧ OwnC e .u8 B wr (.slice a zs.length cap) (upt (fun i => (k0 + i) % 256) (fun i => zs.getD i 0) j zs.length) ∧ w.grownBy wr (Value.slice a zs.length cap).ownBlock) (fun _ i _ => zs.length - (intOf i).toNat)
  case atStart => exact ⟨0, rfl, by simp, Nat.zero_le _, HO.out, World.grownBy.refl _ _⟩
  case round =>
    obtain ⟨j, rfl, rfl, hj, hO, hG⟩ := hrel
    have HO := Lib.hid hO
    have HG := Lib.hid hG
    clear hO hG
    by_cases hlt : j < zs.length
    · have e1 : decide ((j : Int) < (zs.length : Int)) = true := by simp; omega
      obtain ⟨g, rfl⟩ := Ha.out (by omega)
      have c2 := HO.out.cellAt (by rw [upt_length]; exact hlt)
      have f2 := HO.out.free j
      go_wp2
      go_roundw
      case rel =>
        obtain ⟨p1, p2⟩ := HO.out.put (f := fun i => (k0 + i) % 256) (j := j) hlt (wf_u8_of (by omega) (by omega))
        exact ⟨j + 1, by simp, by simp; omega, hlt, p1, grown_trans HG.out p2⟩
      case measure => simp [intOf]; omega
    · have e1 : decide ((j : Int) < (zs.length : Int)) = false := by simp; omega
      have ej : j = zs.length := by omega
      have hO := HO.out
      rw [ej, upt_full] at hO
      have HO' := Lib.hid hO
      have He := Lib.hid ej
      clear hO HO ej
      go_wp2
      go_ret
      exact ⟨by rw [He.out]; rfl, HO'.out, HG.out⟩

end Go.Proofs.Ytcemadckgimhhaa
