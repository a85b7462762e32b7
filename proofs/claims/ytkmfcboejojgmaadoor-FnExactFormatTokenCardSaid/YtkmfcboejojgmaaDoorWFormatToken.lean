/- FnExactFormatToken: the walk. Condition: the library's table of powers of ten as its text lays it. -/
import Derived.Test.YtkmfcboejojgmaaDoorTkF
import Derived.Test.YtkmfcboejojgmaaDoorCells
namespace Go.Proofs.YtkmfcboejojgmaaDoor
open Go Go.RowKit
set_option linter.unusedVariables false
attribute [local irreducible] kh

set_option maxHeartbeats 4000000 in
set_option maxRecDepth 100000 in
theorem fnExactFormatToken_core (n v : Int) (w : World) (h0 : (Lit.int .i64 n).wf = true) (h1 : (Lit.int .i64 v).wf = true) (hL : Lib.TabIs Tryd.prog w "internal/strconv.uint64pow10" .u64 Lib.pow10Tab) :
    Calls Tryd.prog 6 #[.agg #[.int .i64 n, .int .i64 v]] w fun e w' => e = .returned (.bool true) ∧ Below w.heap.size w w' := by
  have HL := Lib.hid hL
  have H0 := Lib.hid h0
  have H1 := Lib.hid h1
  obtain ⟨S, hS⟩ : ∃ S, S = fmtT n v := ⟨_, rfl⟩
  have HS := Lib.hid hS
  have HK := Lib.hid (heap_alloc_new w (.cells #[.int .i64 n, .int .i64 v] 48))
  have HB := Lib.hid ((Below.refl w.heap.size w).alloc (Nat.le_refl _) (.cells #[.int .i64 n, .int .i64 v] 48))
  have HA : ∀ (B : Nat) (w' : World), Hid (tyToken.rd B w' [.int .i64 n, .int .i64 v] (n, v)) := fun B w' => Lib.hid (rd_mkToken (x := (n, v)) H0.out H1.out)
  have HAA := Lib.hid HA
  have HO : ∀ (c : List Value) (F : Nat → Prop) (w' : World), tyToken.own F w' c (n, v) → c = [.int .i64 n, .int .i64 v] := fun c F w' h => (own_Token h).1
  have HOO := Lib.hid HO
  obtain ⟨c0, c1, -⟩ := pcs HK.out
  clear h0 h1 hL hS HA HO
  go_enter Tryd.func6, Tryd.ntmps6
  go_wp2_with fail
  clear c0 c1
  refine (toToken_any (HAA.out w.heap.size _).out HB.out.size (show (0 : Nat) ≤ 1073741824 by decide)).mono ?_
  rintro e w2 ⟨d, he, hO, hb⟩
  have hd := HOO.out _ _ _ hO
  subst hd
  subst he
  replace HK := Lib.hid ((hb.block _ (lt_of_block HK.out)).trans HK.out)
  replace HB := Lib.hid (HB.out.trans (hb.mono HB.out.size))
  clear hO hb
  go_wp2_with fail
  refine (spec_ft H0.out H1.out).mono ?_
  rw [← HS.out]
  rintro e w3 ⟨rfl, hb⟩
  replace HK := Lib.hid ((hb.block _ (lt_of_block HK.out)).trans HK.out)
  replace HB := Lib.hid (HB.out.trans (hb.mono HB.out.size))
  obtain ⟨c0, c1, -⟩ := pcs HK.out
  clear hb
  go_wp2_with fail
  clear c0 c1
  refine (toToken_any (HAA.out w.heap.size _).out HB.out.size (show (0 : Nat) ≤ 1073741824 by decide)).mono ?_
  rintro e w4 ⟨d, he, hO, hb⟩
  have hd := HOO.out _ _ _ hO
  subst hd
  subst he
  replace HB := Lib.hid (HB.out.trans (hb.mono HB.out.size))
  clear hO hb
  go_wp2_with fail
  refine (impl_ft H0.out H1.out (tab_behind HL.out HB.out)).mono ?_
  rw [← HS.out]
  rintro e w5 ⟨rfl, hb⟩
  replace HB := Lib.hid (HB.out.trans (hb.mono HB.out.size))
  clear hb
  go_wp2_with fail
  go_ret
  exact ⟨rfl, HB.out⟩


theorem fnExactFormatToken_walk (c0 : List Value) (s0 : VToken) (w : World) (w0 : tyToken.rd w.heap.size w c0 s0) (hL : laidMetH Tryd.prog Rows.fnExactFormatTokenRow.laid w) :
    Calls Tryd.prog 6 #[.agg c0.toArray] w fun e w' => e = .returned (.bool true) ∧ Below w.heap.size w w' := by
  obtain ⟨rfl, h0, h1⟩ := rd_Token w0
  exact fnExactFormatToken_core s0.1 s0.2 w h0 h1 (tab_fnExactFormatToken hL)

end Go.Proofs.YtkmfcboejojgmaaDoor
