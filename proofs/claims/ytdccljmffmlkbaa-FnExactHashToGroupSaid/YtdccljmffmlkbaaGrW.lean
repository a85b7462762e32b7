/- Chapter 15's contracts in the words of the exact laws. No conditions but numbers that a machine holds. -/
import Derived.Test.YtdccljmffmlkbaaGr4
namespace Go.Proofs.Ytdccljmffmlkbaa
open Go Go.RowKit
set_option linter.unusedVariables false
attribute [local irreducible] kh kid pwm tcm pw chl

section
variable {w : World}
theorem spec_isg_t {x : Int} (hx : (Lit.int .i64 x).wf = true) : Calls Try.prog 48 #[.int .i64 x] w fun e w' => e = .returned (.bool (isG x)) ∧ Below w.heap.size w w' := (spec_isg hx).mono (by rintro e w1 ⟨he, rfl⟩; exact ⟨he, Below.refl _ _⟩)
theorem impl_isg_t {x : Int} (hx : (Lit.int .i64 x).wf = true) : Calls Try.prog 66 #[.int .i64 x] w fun e w' => e = .returned (.bool (isG x)) ∧ Below w.heap.size w w' := impl_isg hx
theorem spec_pwg_t {g n : Int} (hg : (Lit.int .i64 g).wf = true) (hn : (Lit.int .i64 n).wf = true) : Calls Try.prog 33 #[.int .i64 g, .int .i64 n] w fun e w' => e = .returned (.int .i64 (pwG g n)) ∧ Below w.heap.size w w' := (spec_pwg hg hn).mono (by rintro e w1 ⟨he, rfl⟩; exact ⟨he, Below.refl _ _⟩)
theorem impl_pwg_t {g n : Int} (hg : (Lit.int .i64 g).wf = true) (hn : (Lit.int .i64 n).wf = true) : Calls Try.prog 36 #[.int .i64 g, .int .i64 n] w fun e w' => e = .returned (.int .i64 (pwG g n)) ∧ Below w.heap.size w w' := impl_pwg hg hn
theorem spec_mul_t {a b : Int} (ha : (Lit.int .i64 a).wf = true) (hb : (Lit.int .i64 b).wf = true) : Calls Try.prog 59 #[.int .i64 a, .int .i64 b] w fun e w' => e = .returned (.int .i64 (mulG a b)) ∧ Below w.heap.size w w' := (spec_mul ha hb).mono (by rintro e w1 ⟨he, rfl⟩; exact ⟨he, Below.refl _ _⟩)
theorem impl_mul_t {a b : Int} (ha : (Lit.int .i64 a).wf = true) (hb : (Lit.int .i64 b).wf = true) : Calls Try.prog 67 #[.int .i64 a, .int .i64 b] w fun e w' => e = .returned (.int .i64 (mulG a b)) ∧ Below w.heap.size w w' := impl_mul ha hb
theorem spec_inv_t {n : Int} (hn : (Lit.int .i64 n).wf = true) : Calls Try.prog 43 #[.int .i64 n] w fun e w' => e = .returned (.int .i64 (invE n)) ∧ Below w.heap.size w w' := (spec_inv hn).mono (by rintro e w1 ⟨he, rfl⟩; exact ⟨he, Below.refl _ _⟩)
theorem impl_inv_t {n : Int} (hn : (Lit.int .i64 n).wf = true) : Calls Try.prog 65 #[.int .i64 n] w fun e w' => e = .returned (.int .i64 (invE n)) ∧ Below w.heap.size w w' := (impl_inv hn).mono (by rintro e w1 ⟨he, rfl⟩; exact ⟨he, Below.refl _ _⟩)
theorem spec_hgr_t {l v : Int} (hl : (Lit.int .i64 l).wf = true) (hv : (Lit.int .i64 v).wf = true) : Calls Try.prog 15 #[.int .i64 l, .int .i64 v] w fun e w' => e = .returned (.int .i64 (hgr l v)) ∧ Below w.heap.size w w' := spec_hgr hl hv
theorem impl_hgr_t {l v : Int} (hl : (Lit.int .i64 l).wf = true) (hv : (Lit.int .i64 v).wf = true) : Calls Try.prog 16 #[.int .i64 l, .int .i64 v] w fun e w' => e = .returned (.int .i64 (hgr l v)) ∧ Below w.heap.size w w' := impl_hgr hl hv
theorem spec_vf_t {g h u v c r : Int} (hg : (Lit.int .i64 g).wf = true) (hh : (Lit.int .i64 h).wf = true) (hu : (Lit.int .i64 u).wf = true) (hv : (Lit.int .i64 v).wf = true) (hc : (Lit.int .i64 c).wf = true) (hr : (Lit.int .i64 r).wf = true) : Calls Try.prog 42 #[.int .i64 g, .int .i64 h, .int .i64 u, .int .i64 v, .int .i64 c, .int .i64 r] w fun e w' => e = .returned (.bool (vrf g h u v c r)) ∧ Below w.heap.size w w' := spec_vf hg hh hu hv hc hr
theorem impl_vf_t {g h u v c r : Int} (hg : (Lit.int .i64 g).wf = true) (hh : (Lit.int .i64 h).wf = true) (hu : (Lit.int .i64 u).wf = true) (hv : (Lit.int .i64 v).wf = true) (hc : (Lit.int .i64 c).wf = true) (hr : (Lit.int .i64 r).wf = true) : Calls Try.prog 64 #[.int .i64 g, .int .i64 h, .int .i64 u, .int .i64 v, .int .i64 c, .int .i64 r] w fun e w' => e = .returned (.bool (vrf g h u v c r)) ∧ Below w.heap.size w w' := impl_vf hg hh hu hv hc hr
end

end Go.Proofs.Ytdccljmffmlkbaa
