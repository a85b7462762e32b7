/- Chapter 10's contracts in the words of the exact laws. No conditions but numbers that a machine holds. -/
import Derived.Test.YtaekjnacigicoaaPk7
import Derived.Test.YtaekjnacigicoaaPk9
import Derived.Test.YtaekjnacigicoaaBaX
namespace Go.Proofs.Ytaekjnacigicoaa
open Go Go.RowKit
set_option linter.unusedVariables false
attribute [local irreducible] kh

section
variable {l : Nat} {w : World} {c : List Value} {x : VPointKey}
theorem prt_wf {d p ra rb r : Int} (hr : (Lit.int .i64 r).wf = true) : (Lit.int .i64 (prt d p ra rb r)).wf = true := by
  unfold prt
  split
  · exact hr
  · decide
/-- A key of the call's own. -/
theorem key_own {B : Nat} {v : Value} {r b : Int} {cs : List Cor} {w : World} (hr : (Lit.int .i64 r).wf = true) (hb : (Lit.int .i64 b).wf = true) (h : OwnS corE 47 B w v cs) : tyPointKey.own (fun b => v.ownBlock = some b) w [.int .i64 r, .int .i64 b, v] (r, b, cs) := by
  exact int_own (p := (r, b, cs)) hr (int_own (p := (b, cs)) hb (slo_of_ownS_in cor_flat h (fun r hr => hr)))
end

/-! ### How many marks -/

theorem cnt_cors (cs : List Cor) : cntL tyCorrection cs = 3 * cs.length := by
  induction cs with
  | nil => rfl
  | cons c l ih =>
    have : cntL tyCorrection (c :: l) = 3 + cntL tyCorrection l := rfl
    rw [this, ih, List.length_cons]; omega
theorem vb_pk {x : VPointKey} (h : tyPointKey.tot x ≤ 1048576) : tyPointKey.vcnt x ≤ 1099511627776 := by
  have h1 : totL tyCorrection x.2.2 ≤ 1048576 := h
  have h2 := totL_eq tyCorrection x.2.2
  show cntL tyCorrection x.2.2 ≤ _
  rw [cnt_cors]; omega
theorem vb_pcs (r b d p ra rb : Int) : tyPointKey.vcnt (r, b, pcs d p ra rb) ≤ 1099511627776 := by
  show cntL tyCorrection (pcs d p ra rb) ≤ _
  rw [cnt_cors]
  unfold pcs
  split
  · rename_i h
    obtain ⟨D, I, rfl, rfl, _, h6, _⟩ := pkOk_iff.1 h
    rw [mkc_len]; simp; omega
  · simp
theorem vb_eall (r b : Int) (cs : List Cor) : (sliceT 3 i64T).vcnt (eall r b cs) ≤ 1099511627776 := by
  show cntL i64T (eall r b cs) ≤ _
  have e : cntL i64T (eall r b cs) = (eall r b cs).length := cntL_int _ _ _ _
  rw [e]
  unfold eall
  split
  · rename_i h
    have := (pow_le6 (vk_len h).2).2
    simp; omega
  · simp
theorem vb_enk (r b : Int) (cs : List Cor) : (sliceT 5 u8T).vcnt (epkBytes r b cs) ≤ 1099511627776 := by
  show cntL u8T (epkBytes r b cs) ≤ _
  have e : cntL u8T (epkBytes r b cs) = (epkBytes r b cs).length := cntL_int _ _ _ _
  rw [e]
  unfold epkBytes
  split
  · rename_i h
    have h1 := enc_len (pkInts r b cs)
    have h2 : (pkInts r b cs).length = 3 + 3 * cs.length := by unfold pkInts; rw [List.length_append, cints_len]; simp
    have := (vk_len h).2
    omega
  · simp

end Go.Proofs.Ytaekjnacigicoaa
