/- FnTokensAreBlind: the walk. A request fits every serial number; its own blinding is found; the element 1 fits none. Conditions: the package variable impl.unit as the rows list it. -/
import Derived.Test.YtdccljmffmlkbaaDoorTkX
import Derived.Test.YtdccljmffmlkbaaDoorTk4
import Derived.Test.YtdccljmffmlkbaaDoorDraw16
namespace Go.Proofs.YtdccljmffmlkbaaDoor
open Go Go.RowKit
set_option linter.unusedVariables false
attribute [local irreducible] kh kid pwm tcm pw chl kmap

theorem exV_wf (x n : Int) : (Lit.int .i64 (exV x n)).wf = true := by have := exV_bound x n; exact small_wf (by omega) (by omega)

set_option maxHeartbeats 4000000 in
set_option maxRecDepth 20000 in
theorem fnTokensAreBlind_walk (a : Option Addr) (len cap : Nat) (zs : List Int) (w : World) (hrow : IsRow .u8 w a len cap zs) (hL : laidMetH Tryd.prog Rows.fnTokensAreBlindRow.laid w) :
    Calls Tryd.prog 6 #[.slice a len cap] w fun e w' => e = .returned (.bool true) ∧ Below w.heap.size w w' := by
  have HL := Lib.hid (gv_of_laid hL)
  obtain ⟨hr, hl⟩ := row_own hrow
  obtain ⟨s, A, l⟩ : ∃ s, Rd w.heap.size .u8 w (.slice a len cap) s ∧ len = s.length := ⟨zs.take len, hrow.rd, hrow.rd.len_eq⟩
  subst l
  have HA := Lib.hid A
  have HRow := Lib.hid hr
  have HLen := Lib.hid hl
  have hl' : s.length ≤ 9223372036854775807 := by unfold maxLen at hl; omega
  clear hr hrow hl A hL
  by_cases hbig : 1048576 < s.length
  · have e0 : decide ((1048576 : Int) < (s.length : Int)) = true := by simp; omega
    go_enter Tryd.func6, Tryd.ntmps6
    go_wp2_with fail
    refine (big_is a s.length cap _ hl').mono ?_
    rw [e0]
    rintro e w0 ⟨rfl, rfl⟩
    go_wp2_with fail
    go_ret
    exact ⟨rfl, Below.refl _ _⟩
  have e0 : decide ((1048576 : Int) < (s.length : Int)) = false := by simp; omega
  have HS := Lib.hid (show s.length ≤ 1048576 by omega)
  clear hbig
  go_enter Tryd.func6, Tryd.ntmps6
  go_wp2_with fail
  refine (big_is a s.length cap _ hl').mono ?_
  rw [e0]
  rintro e w0 ⟨rfl, hw⟩
  obtain rfl : w = w0 := hw.symm
  clear e0 hw
  go_wp2_with fail
  refine (draw_is w.heap.size a s.length cap zs _ (Nat.le_refl _) HRow.out HLen.out).mono ?_
  rintro e w1 ⟨sc, n, b, rfl, hsb, hnb, hbb, hb⟩
  have HB := Lib.hid hb
  have Wn := Lib.hid (small_wf (x := n) (by omega) (by omega))
  have Wb := Lib.hid (small_wf (x := b) (by omega) (by omega))
  have HNk := Lib.hid (okNr_in (n := n) (by omega) (by omega))
  have HNz := Lib.hid (nz_small hbb.1 hbb.2)
  have HSelf := Lib.hid (ex_self HNk.out hbb.1 hbb.2)
  have HEl := Lib.hid (tk_el HNk.out HNz.out)
  have HBl := Lib.hid (tk_bl HNk.out HNz.out)
  replace HL := Lib.hid (HL.out.next hb)
  replace HA := Lib.hid (HA.out.behind hb)
  have Wx := Lib.hid (blE_wf n b)
  obtain ⟨x, hx⟩ : ∃ x, x = blE n b := ⟨_, rfl⟩
  rw [← hx] at HSelf HEl Wx
  have HX := Lib.hid hx
  have HOk := Lib.hid (ex_fits HEl.out.1 HEl.out.2 HNk.out).1
  clear hb HRow hx hsb hnb hbb
  go_wp2_with fail
  refine (impl_bl Wn.out Wb.out).mono ?_
  rw [HBl.out, ← HX.out]
  rintro e w2 ⟨rfl, hb⟩
  replace HA := Lib.hid (HA.out.behind (hb.mono HB.out.size))
  replace HB := Lib.hid (HB.out.trans (hb.mono HB.out.size))
  replace HL := Lib.hid (HL.out.next hb)
  clear hb
  have hb2 := (Below.refl w2.heap.size w2).alloc (Nat.le_refl _) (.cells #[.int .i64 x] 43)
  have HA2 := Lib.hid (HA.out.behind (hb2.mono HB.out.size))
  have HB2 := Lib.hid (HB.out.trans (hb2.mono HB.out.size))
  have HL2 := Lib.hid (HL.out.next hb2)
  have HK2 := Lib.hid (heap_alloc_new w2 (.cells #[.int .i64 x] 43))
  clear hb2
  go_wp2_with fail
  go_loopw [8] (fun i wr => ∃ j : Nat, i = .int .i64 j ∧ j ≤ 5 ∧ wr.heap[w2.heap.size]? = some (.cells #[.int .i64 x] 43) ∧ Rd w.heap.size .u8 wr (.slice a s.length cap) s ∧ GV wr ∧ Below w.heap.size w wr) (fun i _ => 5 - (intOf i).toNat)
  case atStart => exact ⟨0, rfl, by omega, HK2.out, HA2.out, HL2.out, HB2.out⟩
  case round =>
    clear HK2 HA2 HL2 HB2 HA HB HL
    obtain ⟨j, rfl, hj, hK, hA, hL, hB⟩ := hrel
    have HK := Lib.hid hK
    have HA := Lib.hid hA
    have HL := Lib.hid hL
    have HB := Lib.hid hB
    clear hK hA hL hB
    by_cases hlt : j < 5
    · have e1 : decide ((j : Int) < 5) = true := by simp; omega
      go_wp2_with fail
      refine (at_any HA.out j (by omega) HS.out).mono ?_
      obtain ⟨y, hy⟩ : ∃ y, y = atv s j := ⟨_, rfl⟩
      rw [← hy]
      rintro e w3 ⟨⟨rfl, y0, y1⟩, hw⟩
      obtain rfl := hw.symm
      obtain ⟨m, hm⟩ : ∃ m, y * 11 = m := ⟨_, rfl⟩
      have hmb : 0 ≤ m ∧ m ≤ 2805 := by omega
      have Wm := Lib.hid (small_wf (x := m) (by omega) (by omega))
      have HF := Lib.hid (ex_fits HEl.out.1 HEl.out.2 (okNr_in (n := m) (by omega) (by omega)))
      have Wz := Lib.hid (exV_wf x m)
      obtain ⟨z, hz⟩ : ∃ z, z = exV x m := ⟨_, rfl⟩
      rw [← hz] at HF Wz
      have HZ := Lib.hid hz
      have c0 := gc0 HK.out
      clear hy hz hw
      go_wp2_with fail
      refine (impl_ex Wx.out Wm.out HL.out).mono ?_
      rw [HF.out.1, ← HZ.out]
      rintro e w4 ⟨rfl, hb⟩
      replace HA := Lib.hid (HA.out.behind (hb.mono HB.out.size))
      replace HB := Lib.hid (HB.out.trans (hb.mono HB.out.size))
      replace HL := Lib.hid (HL.out.next hb)
      replace HK := Lib.hid ((hb.block _ (lt_of_block HK.out)).trans HK.out)
      clear hb c0
      go_wp2_with fail
      refine (impl_bl Wm.out Wz.out).mono ?_
      rw [HF.out.2.1, HF.out.2.2]
      rintro e w5 ⟨rfl, hb⟩
      replace hb := hb.alloc hb.size (.cells #[.int .i64 x] 43)
      have HN5 := Lib.hid (heap_alloc_new w5 (.cells #[.int .i64 x] 43))
      replace HA := Lib.hid (HA.out.behind (hb.mono HB.out.size))
      replace HB := Lib.hid (HB.out.trans (hb.mono HB.out.size))
      replace HL := Lib.hid (HL.out.next hb)
      replace HK := Lib.hid ((hb.block _ (lt_of_block HK.out)).trans HK.out)
      have c0 := gc0 HK.out
      have c1 := gc0 HN5.out
      clear hb
      go_wp2_with fail
      go_roundw
      case rel => exact ⟨j + 1, by simp, hlt, HK.out, HA.out, HL.out, HB.out⟩
      case measure => simp [intOf]; omega
    · have e1 : decide ((j : Int) < 5) = false := by simp; omega
      have c0 := gc0 HK.out
      clear hlt
      go_wp2_with fail
      refine (impl_ex Wx.out Wn.out HL.out).mono ?_
      rw [HOk.out, HSelf.out]
      rintro e w3 ⟨rfl, hb⟩
      replace HB := Lib.hid (HB.out.trans (hb.mono HB.out.size))
      replace HL := Lib.hid (HL.out.next hb)
      clear hb c0
      go_wp2_with fail
      refine (impl_ex (x := 1) (by decide) Wn.out HL.out).mono ?_
      rw [ex_one, ex_no (ex_one n)]
      rintro e w4 ⟨rfl, hb⟩
      replace HB := Lib.hid (HB.out.trans (hb.mono HB.out.size))
      have eb : (b == b) = true := by simp
      clear hb
      go_wp2_with fail
      go_ret
      exact ⟨rfl, HB.out⟩

end Go.Proofs.YtdccljmffmlkbaaDoor
