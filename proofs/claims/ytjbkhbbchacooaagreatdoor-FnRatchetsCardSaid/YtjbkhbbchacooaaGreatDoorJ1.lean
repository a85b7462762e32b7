import Derived.Test.YtjbkhbbchacooaaGreatDoorBaX
import Derived.Test.YtjbkhbbchacooaaGreatDoorHeldL
import Derived.Deep.RegionHeld3
import Derived.Deep.DeepCutAuto
import Derived.Test.YtjbkhbbchacooaaGreatDoorBdO
import Derived.Test.YtjbkhbbchacooaaGreatDoorCl6
import Derived.LaidLaws
import Derived.LaidHandle
import Derived.Stop.Joined
import Derived.Test.YtjbkhbbchacooaaGreatDoorRtW
import Derived.Test.YtjbkhbbchacooaaGreatDoorRt11

/- The laws' helpers on Plain: size, copy, equality, marks. No conditions but a size that a machine holds. -/
section
namespace Go.Proofs.YtjbkhbbchacooaaGreatDoor
open Go Go.RowKit
set_option linter.unusedVariables false

abbrev VPlain := Int × (List Int)
def tyPlain : Ty VPlain := iC (sliceT 5 u8T)

theorem rd_Plain {l : Nat} {w : World} {cs : List Value} {x : VPlain} (h : tyPlain.rd l w cs x) : ∃ (a1 : Option Addr) (c1 : Nat), cs = [.int .i64 x.1, .slice a1 x.2.length c1] ∧ (Lit.int .i64 x.1).wf = true ∧ (sliceT 5 u8T).rd l w [.slice a1 x.2.length c1] x.2 := by
  obtain ⟨r0, rfl, h0, h⟩ := rd_int h
  obtain ⟨a1, c1, rfl, _⟩ := sl_open h
  have h1 := h
  exact ⟨a1, c1, rfl, h0, h1⟩
theorem own_Plain {F : Nat → Prop} {w : World} {cs : List Value} {x : VPlain} (h : tyPlain.own F w cs x) : ∃ (a1 : Option Addr) (c1 : Nat) (F1 : Nat → Prop), cs = [.int .i64 x.1, .slice a1 x.2.length c1] ∧ (Lit.int .i64 x.1).wf = true ∧ (sliceT 5 u8T).own F1 w [.slice a1 x.2.length c1] x.2 ∧ (∀ b, F1 b → F b) := by
  obtain ⟨r0, rfl, h0, h⟩ := own_int h
  obtain ⟨a1, c1, rfl, _⟩ := slo_open h
  have h1 := h
  exact ⟨a1, c1, F, rfl, h0, h1, fun b hb => hb⟩
theorem rd_mkPlain {l : Nat} {w : World} {x : VPlain} {a1 : Option Addr} {c1 : Nat} (h0 : (Lit.int .i64 x.1).wf = true) (h1 : (sliceT 5 u8T).rd l w [.slice a1 x.2.length c1] x.2) : tyPlain.rd l w [.int .i64 x.1, .slice a1 x.2.length c1] x :=
  int_rd h0 (h1)
theorem own_mkPlain {F : Nat → Prop} {w : World} {x : VPlain} {a1 : Option Addr} {c1 : Nat} {F1 : Nat → Prop} (h0 : (Lit.int .i64 x.1).wf = true) (h1 : (sliceT 5 u8T).own F1 w [.slice a1 x.2.length c1] x.2) (s1 : ∀ b, F1 b → F b)  : tyPlain.own F w [.int .i64 x.1, .slice a1 x.2.length c1] x := by
  exact tyPlain.omono (F := _) (int_own h0 (h1)) (fun b hb => s1 b hb)

end Go.Proofs.YtjbkhbbchacooaaGreatDoor
end

/- Chapter 13's contracts in the words of the exact laws: OpenCell, FindCounter. Conditions: the package variable errors.errorType holds the handle of the type 'error', as the rows list it. -/
section
namespace Go.Proofs.YtjbkhbbchacooaaGreatDoor
open Go Go.RowKit
set_option linter.unusedVariables false
attribute [local irreducible] kh kid

theorem ev_et : Tryz.prog.globalNamed "errors.errorType" = some 0 := by kernel_rfl
theorem ev_rt : (Tryz.prog.cutTypes.find? (·.1 == "internal/reflectlite.rtype")).map (·.2) = some 119 := by kernel_rfl
theorem ev_one : ((List.range 184).filter fun t => Tryz.prog.rowNamed t [101, 114, 114, 111, 114]) = [79] := by kernel_rfl
theorem ev_size : Tryz.prog.types.size = 184 := by kernel_rfl
/-- What the condition gives a walk: the variable's one cell. -/
theorem gv_of_laid {W : World} (h : laidMetH Tryz.prog [("errors.errorType", Rows.laid_errors_errorType)] W) : GV W := by
  have h' : laidMet Tryz.prog [] W ∧ handlesMet Tryz.prog [("errors.errorType", Rows.laid_errors_errorType)] W := h
  obtain ⟨name, u, ty, e1, e2, e3, e4, e5⟩ := h'.2 _ (List.mem_singleton.2 rfl)
  have en : name = [101, 114, 114, 111, 114] := (Option.some.inj e1).symm
  subst en
  obtain rfl := Option.some.inj (ev_rt.symm.trans e2)
  have hm : ty ∈ (List.range 184).filter fun t => Tryz.prog.rowNamed t [101, 114, 114, 111, 114] := List.mem_filter.2 ⟨List.mem_range.2 (by rw [← ev_size]; exact e3), e4⟩
  rw [ev_one] at hm
  obtain rfl := List.mem_singleton.1 hm
  have hh : typeHandle Tryz.prog 79 = .pointer (some ⟨1, 79, none⟩) := by kernel_rfl
  rw [hh] at e5
  unfold GV
  simpa using World.var?_cell ev_et e5 0

section
variable {l : Nat} {w : World} {e : TypeId} {v : Value} {zs : List Int}
theorem spec_oc_t {k n : Int} (h : (sliceT e u8T).rd l w [v] zs) (hl : l ≤ w.heap.size) (hk : (Lit.int .i64 k).wf = true) (hn : (Lit.int .i64 n).wf = true) : Calls Tryz.prog 42 #[.int .i64 k, .int .i64 n, v] w fun e w' => ∃ (c : List Value) (F : Nat → Prop), e = .returned (.tuple #[.agg c.toArray, .bool (ook k n zs)]) ∧ tyPlain.own F w' c (ocK k n zs, ocB k n zs) ∧ (∀ b, F b → w.heap.size ≤ b ∧ b < w'.heap.size) ∧ Below w.heap.size w w' := by
  refine (spec_oc (rd_of_sl h) hl hk hn).mono ?_
  rintro e w' ⟨v', he, hO, hb⟩
  obtain ⟨a, c, rfl, _⟩ := hO.open
  have h1 := ocK_bound k n zs
  refine ⟨[.int .i64 (ocK k n zs), .slice a (ocB k n zs).length c], ival w.heap.size w'.heap.size, he, own_mkPlain (x := (ocK k n zs, ocB k n zs)) (wf_i64_of (by omega) (by omega)) (slo_of_own hO (fun b h1 h2 => ⟨h1, h2⟩)) (fun b h => h), fun b h => h, hb⟩
theorem impl_oc_t {k n : Int} (h : (sliceT e u8T).rd l w [v] zs) (hl : l ≤ w.heap.size) (hk : (Lit.int .i64 k).wf = true) (hn : (Lit.int .i64 n).wf = true) (hg : GV w) : Calls Tryz.prog 31 #[.int .i64 k, .int .i64 n, v] w fun e w' => ∃ (c : List Value) (F : Nat → Prop), e = .returned (.tuple #[.agg c.toArray, .bool (ook k n zs)]) ∧ tyPlain.own F w' c (ocK k n zs, ocB k n zs) ∧ (∀ b, F b → w.heap.size ≤ b ∧ b < w'.heap.size) ∧ Below w.heap.size w w' := by
  refine (impl_oc (rd_of_sl h) hl hk hn hg).mono ?_
  rintro e w' ⟨v', he, hO, hb⟩
  obtain ⟨a, c, rfl, _⟩ := hO.open
  have h1 := ocK_bound k n zs
  refine ⟨[.int .i64 (ocK k n zs), .slice a (ocB k n zs).length c], ival w.heap.size w'.heap.size, he, own_mkPlain (x := (ocK k n zs, ocB k n zs)) (wf_i64_of (by omega) (by omega)) (slo_of_own hO (fun b h1 h2 => ⟨h1, h2⟩)) (fun b h => h), fun b h => h, hb⟩
end

theorem vb_bs {e : TypeId} {xs : List Int} (h : xs.length ≤ 1048576) : (sliceT e u8T).vcnt xs ≤ 1099511627776 := by
  have e1 : (sliceT e u8T).vcnt xs = xs.length := cntL_int _ _ _ _
  rw [e1]; omega
theorem vb_open (k n : Int) (c : List Int) : tyPlain.vcnt (ocK k n c, ocB k n c) ≤ 1099511627776 := by
  show cntL u8T (ocB k n c) ≤ _
  have e : cntL u8T (ocB k n c) = (ocB k n c).length := cntL_int _ _ _ _
  have := ocB_len k n c
  rw [e]; omega

end Go.Proofs.YtjbkhbbchacooaaGreatDoor
end

/- OpenStep's contracts in the words of the exact laws. No conditions but numbers and lengths that a machine holds. -/
section
namespace Go.Proofs.YtjbkhbbchacooaaGreatDoor
open Go Go.RowKit
set_option linter.unusedVariables false
set_option maxRecDepth 20000
attribute [local irreducible] kh kid

theorem osC_wf {c s t : Int} {xs : Kept} {z : List Int} (h : (Lit.int .i64 c).wf = true) : (Lit.int .i64 (osC c s xs t z)).wf = true := by
  unfold osC; split
  · exact kfC_wf h
  · exact h
theorem osS_wf {c s t : Int} {xs : Kept} {z : List Int} (h : (Lit.int .i64 s).wf = true) : (Lit.int .i64 (osS c s xs t z)).wf = true := by
  unfold osS; split
  · exact kfS_wf h
  · exact h
section
variable {l : Nat} {w : World} {c : List Value} {x : VRatchet}
theorem spec_os_t {l2 : Nat} {e' : TypeId} {u : Value} {zs : List Int} {t : Int} (h : tyRatchet.rd l w c x) (hl : l ≤ w.heap.size) (k : (sliceT e' u8T).rd l2 w [u] zs) (hl2 : l2 ≤ w.heap.size) (ht : (Lit.int .i64 t).wf = true) (hz : tyRatchet.tot x ≤ 1048576) : Calls Tryz.prog 18 #[.agg c.toArray, .int .i64 t, u] w fun e w' => ∃ (c1 : List Value) (v2 : Value) (F1 F2 : Nat → Prop), e = .returned (.tuple #[.agg c1.toArray, v2, .bool (osq x.1 x.2.1 x.2.2 t zs)]) ∧ tyRatchet.own F1 w' c1 (osC x.1 x.2.1 x.2.2 t zs, osS x.1 x.2.1 x.2.2 t zs, osL x.1 x.2.1 x.2.2 t zs) ∧ (sliceT 5 u8T).own F2 w' [v2] (osB x.1 x.2.1 x.2.2 t zs) ∧ (∀ b, F1 b → w.heap.size ≤ b ∧ b < w'.heap.size) ∧ (∀ b, F2 b → w.heap.size ≤ b ∧ b < w'.heap.size) ∧ (∀ b, F1 b → ¬ F2 b) ∧ Below w.heap.size w w' := by
  obtain ⟨a, n, rfl, h0, h1, h2⟩ := rd_Ratchet h
  refine (spec_os (rds_of_sl kep_flat h2) hl h0 h1 ht (rd_of_sl k) hl2 (rat_len hz)).mono ?_
  rintro e w' ⟨v, u', he, hO, hU, hb⟩
  exact ⟨[.int .i64 _, .int .i64 _, v], u', _, (fun b => u'.ownBlock = some b), he, rat_own (osC_wf h0) (osS_wf h1) hO, slo_of_own_in hU (fun b h => h), fun b h => hO.lt b h, fun b h => hU.lt b h, fun b h h' => rows_apart (by decide) hO hU b h h', hb⟩
theorem impl_os_t {l2 : Nat} {e' : TypeId} {u : Value} {zs : List Int} {t : Int} (h : tyRatchet.rd l w c x) (hl : l ≤ w.heap.size) (k : (sliceT e' u8T).rd l2 w [u] zs) (hl2 : l2 ≤ w.heap.size) (ht : (Lit.int .i64 t).wf = true) (hz : tyRatchet.tot x ≤ 1048576) (hg : GV w) : Calls Tryz.prog 9 #[.agg c.toArray, .int .i64 t, u] w fun e w' => ∃ (c1 : List Value) (v2 : Value) (F1 F2 : Nat → Prop), e = .returned (.tuple #[.agg c1.toArray, v2, .bool (osq x.1 x.2.1 x.2.2 t zs)]) ∧ tyRatchet.own F1 w' c1 (osC x.1 x.2.1 x.2.2 t zs, osS x.1 x.2.1 x.2.2 t zs, osL x.1 x.2.1 x.2.2 t zs) ∧ (sliceT 5 u8T).own F2 w' [v2] (osB x.1 x.2.1 x.2.2 t zs) ∧ (∀ b, F1 b → w.heap.size ≤ b ∧ b < w'.heap.size) ∧ (∀ b, F2 b → w.heap.size ≤ b ∧ b < w'.heap.size) ∧ (∀ b, F1 b → ¬ F2 b) ∧ Below w.heap.size w w' := by
  obtain ⟨a, n, rfl, h0, h1, h2⟩ := rd_Ratchet h
  refine (impl_os (rds_of_sl kep_flat h2) hl h0 h1 ht (rd_of_sl k) hl2 (rat_len hz) hg).mono ?_
  rintro e w' ⟨v, u', he, hO, hU, hb⟩
  exact ⟨[.int .i64 _, .int .i64 _, v], u', _, (fun b => u'.ownBlock = some b), he, rat_own (osC_wf h0) (osS_wf h1) hO, slo_of_own_in hU (fun b h => h), fun b h => hO.lt b h, fun b h => hU.lt b h, fun b h h' => rows_apart (by decide) hO hU b h h', hb⟩
end
theorem vb_os {x : VRatchet} (h : tyRatchet.tot x ≤ 1048576) (a b t : Int) (z : List Int) : tyRatchet.vcnt (a, b, osL x.1 x.2.1 x.2.2 t z) ≤ 1099511627776 := by
  unfold osL
  split
  · exact vb_kf h a b t
  · exact vb_ra h a b
theorem vb_osb (e : TypeId) (c s : Int) (xs : Kept) (t : Int) (z : List Int) : (sliceT e u8T).vcnt (osB c s xs t z) ≤ 1099511627776 := by
  refine vb_rb ?_
  unfold osB
  split
  · have := ocB_len (kfM c s xs t) t z; omega
  · simp

end Go.Proofs.YtjbkhbbchacooaaGreatDoor
end
