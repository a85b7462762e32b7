/- The program's EqualRatchets answers as the document's EqualRatchets for every argument; it changes no argument, and its result shares no memory with one or with another result. Conditions: none but those of the given statement. -/
import Derived.Test.YtjbkhbbchacooaaRows
import Derived.Test.YtjbkhbbchacooaaWEqualRatchets
import Derived.Test.YtjbkhbbchacooaaBaV
import Derived.WalkKit
import Derived.ProofKit
import Derived.OpenShut
import Derived.ShutString
import Derived.ChangeOld
import Derived.Below
namespace Go.Proofs.Ytjbkhbbchacooaa.fnExactEqualRatchets
open Go.ChangeShapes Go.WideShapes Go.ChangeAt Go.RowKit
open Go.ChangeMaps (open_string shut_string)
set_option linter.unusedVariables false

theorem own : ownKnob Try.prog.godebug = none := by kernel_rfl
theorem laidOut : laidOutB Try.prog = true := by kernel_rfl

theorem opens_SkippedKey : Opens Try.prog 71 tySkippedKey := opens_struct Try.underlying71 (by kernel_rfl) (ofs_int Try.underlying3 (by kernel_rfl) rfl (ofs_last (opens_int (hz := by decide) Try.underlying3 (by kernel_rfl)) rfl))
theorem opens_Ratchet : Opens Try.prog 31 tyRatchet := opens_struct Try.underlying31 (by kernel_rfl) (ofs_int Try.underlying3 (by kernel_rfl) rfl (ofs_int Try.underlying3 (by kernel_rfl) rfl (ofs_last (opens_slice Try.underlying29 (by kernel_rfl) opens_SkippedKey) rfl)))
set_option maxRecDepth 100000 in
theorem lifted (os : Os) (started : os.Started) (H : Type) (enc : TypeId × Value → H) :
    ReturnsInHanded {} Try.checked os 10 .any (Rows.fnExactEqualRatchetsSpec.pre6 enc Try.prog Try.f10 Rows.fnExactEqualRatchetsRow.domain false) (Rows.fnExactEqualRatchetsSpec.post enc Try.prog Try.f10 false true false false) := by
  refine returnsInHanded_of_change (C := Try.checked) own started (by kernel_rfl) Try.func10
    (ChangeSpec.witness6 (enc := enc) (C := Try.checked) false ⟨#[], #[.agg #[.int .i64 0, .int .i64 0, .slice none 0 0], .agg #[.int .i64 0, .int .i64 0, .slice none 0 0]], []⟩ 8 (by kernel_rfl) (by kernel_rfl) (by kernel_rfl) (by kernel_rfl)) ?_
  intro W base args ds gs before hval0 hW hcnd _
  have hval : ∀ (j : Nat) t v, Try.f10.params[j]? = some t → args[j]? = some v → Value.okWide Try.prog W .any base t v := hval0
  have hW' := hW
  obtain ⟨p, q, hA0, hV, rfl, hfz, hnd⟩ := hW
  have hA : DataW.TrodAll enc Try.prog W 0 (fun _ => true) true Try.f10.params.toList args.toList ds p := hA0
  rw [Try.params10] at hA hval
  obtain ⟨v0, vs0, d0, ds0, p0, q0, hargs, rfl, rfl, h0, r0⟩ := trodAll_cons hA
  obtain ⟨v1, vs1, d1, ds1, p1, q1, rfl, rfl, rfl, h1, r1⟩ := trodAll_cons r0
  obtain ⟨rfl, rfl, rfl⟩ := trodAll_nil r1
  obtain rfl : args = #[v0, v1] := by cases args; simp_all
  obtain ⟨rfl, rfl⟩ := trodVars_none hV
  obtain ⟨cs0, rfl, hsz0⟩ := okWide_struct Try.underlying31 (hval 0 31 v0 rfl rfl)
  have k0 := h0
  have lt0 : ∀ x ∈ p0, x.block < W.heap.size := by obtain ⟨m, hm⟩ := k0; exact DataW.trod_lt m _ _ _ hm
  obtain ⟨z0, w0⟩ : ∃ z, tyRatchet.rd W.heap.size W cs0.toList z := by
    obtain ⟨fuel, hf⟩ := h0
    exact opens_Ratchet.2 _ _ _ _ _ _ _ _ hf
  obtain ⟨cs1, rfl, hsz1⟩ := okWide_struct Try.underlying31 (hval 1 31 v1 rfl rfl)
  have k1 := h1
  have lt1 : ∀ x ∈ p1, x.block < W.heap.size := by obtain ⟨m, hm⟩ := k1; exact DataW.trod_lt m _ _ _ hm
  obtain ⟨z1, w1⟩ : ∃ z, tyRatchet.rd W.heap.size W cs1.toList z := by
    obtain ⟨fuel, hf⟩ := h1
    exact opens_Ratchet.2 _ _ _ _ _ _ _ _ hf
  clear hA0 hval0
  refine (fnExactEqualRatchets_walk cs0.toList z0 cs1.toList z1 W w0 w1).mono fun e W' ⟨he, bel⟩ => ?_
  subst he
  exact ⟨_, rfl, _, _, _, [], _, [], hW', trodAll_mk1 (shut_bool Try.underlying4 _), (trodAll_cons_mk (Below.trod laidOut (by kernel_rfl) (of_decide_eq_true (by kernel_rfl)) k0 bel lt0) (trodAll_cons_mk (Below.trod laidOut (by kernel_rfl) (of_decide_eq_true (by kernel_rfl)) k1 bel lt1) trodAll_mk0)), rfl, bel.frame _, fun h => by cases h⟩

theorem over : Rows.fnExactEqualRatchetsRow.holds Try.pinned (OpenSpec.ofChange Rows.fnExactEqualRatchetsSpec) :=
  OpenClaim.holds_of_wide 10 Try.f10 rfl rfl rfl rfl rfl rfl rfl ⟨rfl, rfl, rfl, rfl, rfl⟩ rfl rfl rfl rfl rfl (by kernel_rfl) Try.func10 (by kernel_rfl)
    (of_decide_eq_true (by kernel_rfl)) (by unfold Func.isWrapper; first | (rw [if_pos (by decide +kernel)]; kernel_rfl) | (rw [if_neg (by decide +kernel)]; exact ⟨rfl, rfl⟩))
    (fun os started H enc _ => lifted os started H enc)

/-- The given statement. -/
theorem proved : Rows.FnExactEqualRatchetsSaid := over
#print axioms proved
end Go.Proofs.Ytjbkhbbchacooaa.fnExactEqualRatchets
