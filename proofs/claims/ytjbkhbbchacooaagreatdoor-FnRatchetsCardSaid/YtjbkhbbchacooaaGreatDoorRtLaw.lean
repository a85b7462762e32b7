/- FnRatchets: eight messages are sealed with eight steps; in whatever order they are asked for, each is opened once, with its body, and never again; the ratchet stays valid, and as it was where nothing is opened; the last chain's keys differ. Condition: the package variable errors.errorType holds the handle of the type 'error', as the row lists it. -/
import Derived.Test.YtjbkhbbchacooaaGreatDoorRtP
import Derived.Test.YtjbkhbbchacooaaGreatDoorRt9
import Derived.Test.YtjbkhbbchacooaaGreatDoorRt10
import Derived.Test.YtjbkhbbchacooaaGreatDoorRt11
import Derived.Test.YtjbkhbbchacooaaGreatDoorJ1
import Derived.Test.YtjbkhbbchacooaaGreatDoorBa4
import Derived.Test.YtjbkhbbchacooaaGreatDoorBaD
import Derived.Deep.DeepCutAuto
import Derived.BigQuiet
namespace Go.Proofs.YtjbkhbbchacooaaGreatDoor
open Go Go.RowKit
set_option linter.unusedVariables false
set_option maxRecDepth 20000
attribute [local irreducible] kh kid

/-- The cells of the first j messages. -/
def cellsZ (c : Int) (j : Nat) : List (List Int) := (List.range j).map fun i => sealL (mky (chn c i)) (i : Int) 1 [(i : Int)]
theorem cellsZ_succ (c : Int) (j : Nat) : cellsZ c (j + 1) = cellsZ c j ++ [sealL (mky (chn c j)) (j : Int) 1 [(j : Int)]] := by
  unfold cellsZ
  rw [List.range_succ, List.map_append]
  rfl
theorem cellsZ_len (c : Int) (j : Nat) : (cellsZ c j).length = j := by unfold cellsZ; simp
theorem cellsZ_get (c : Int) {j k : Nat} (h : k < j) : (cellsZ c j)[k]? = some (sealL (mky (chn c k)) (k : Int) 1 [(k : Int)]) := by
  unfold cellsZ
  rw [List.getElem?_map, List.getElem?_range h]
  rfl
theorem wrapU8r {x : Int} (h : 0 ≤ x ∧ x ≤ 255) : IntKind.u8.wrap x = x := by
  have : IntKind.u8.wrap x = x % 256 := by unfold IntKind.wrap; rfl
  rw [this]
  omega
theorem eqRt_same (c s : Int) (xs : Kept) : eqRt c s xs c s xs = true := by unfold eqRt; simp

set_option maxHeartbeats 2000000 in
/-- laws.contains. -/
theorem contains_any {l : Nat} {w : World} {v : Value} {zs : List Int} {n : Int} (h : Rd l .i64 w v zs) (hl : l ≤ w.heap.size) :
    Calls Tryz.prog 10 #[v, .int .i64 n] w fun e w' => e = .returned (.bool (zs.contains n)) ∧ w' = w := by
  obtain ⟨p, cap, rfl, h1, h2, hc⟩ := h.open
  have Hc := Lib.hid hc
  have hlen : zs.length ≤ 9223372036854775807 := by unfold maxLen at h2; omega
  obtain ⟨q, hq⟩ : ∃ q, q = zs.contains n := ⟨_, rfl⟩
  have HQ := Lib.hid hq
  rw [← hq]
  clear h hc hq
  unfold maxLen at h2
  go_enter Tryz.func10, Tryz.ntmps10
  go_wp2_with fail
  go_loopw [5] (fun i wr => ∃ j : Nat, i = .int .i64 j ∧ j ≤ zs.length ∧ (∀ k, k < j → zs.getD k 0 ≠ n) ∧ wr = w) (fun i _ => zs.length - (intOf i).toNat)
  case atStart => exact ⟨0, rfl, Nat.zero_le _, fun k hk => by omega, rfl⟩
  case round =>
    obtain ⟨j, rfl, hj, hall, rfl⟩ := hrel
    have HAll := Lib.hid hall
    clear hall
    by_cases hlt : j < zs.length
    · have e1 : decide ((j : Int) < (zs.length : Int)) = true := by simp; omega
      have hji : (j : Int) < (zs.length : Int) := by omega
      obtain ⟨b, o, rfl, hbl, hcell⟩ := Hc.out (by omega)
      have d0 := hcell wr (Below.refl _ _) j hlt
      obtain ⟨z, hz⟩ : ∃ z, z = zs.getD j 0 := ⟨_, rfl⟩
      rw [← hz] at d0
      have HZ := Lib.hid hz
      clear hcell hz
      by_cases hzn : z = n
      · subst hzn
        have HN : Hid (q = true) := Lib.hid (by
          rw [HQ.out, List.contains_iff_mem, HZ.out, List.getD_eq_getElem?_getD, List.getElem?_eq_getElem hlt]
          exact List.getElem_mem hlt)
        go_wp2_with fail
        go_ret
        exact ⟨by rw [HN.out]; rfl, rfl⟩
      · have e9 : (z == n) = false := by simpa using hzn
        have HNe := Lib.hid hzn
        clear hzn
        go_wp2_with fail
        go_roundw
        case rel => exact ⟨j + 1, by simp, hlt, fun k hk => by
          by_cases hkj : k = j
          · rw [hkj, ← HZ.out]; exact HNe.out
          · exact HAll.out k (by omega), by first | rfl | trivial⟩
        case measure => simp [intOf]; omega
    · have e1 : decide ((j : Int) < (zs.length : Int)) = false := by simp; omega
      have HN : Hid (q = false) := Lib.hid (by
        rw [HQ.out]
        cases hcn : zs.contains n with
        | false => rfl
        | true =>
          rw [List.contains_iff_mem] at hcn
          obtain ⟨k, hk, e⟩ := List.mem_iff_getElem.1 hcn
          have := HAll.out k (by omega)
          rw [List.getD_eq_getElem?_getD, List.getElem?_eq_getElem hk] at this
          exact absurd e this)
      go_wp2_with fail
      go_ret
      exact ⟨by rw [HN.out]; rfl, rfl⟩

set_option maxHeartbeats 32000000 in
theorem fnRatchets_walk (a : Option Addr) (len cap : Nat) (zs : List Int) (w : World) (hrow : IsRow .u8 w a len cap zs) (hL : laidMetH Tryz.prog Rows.fnRatchetsRow.laid w) :
    Calls Tryz.prog 3 #[.slice a len cap] w fun e w' => e = .returned (.bool true) ∧ Below w.heap.size w w' := by
  have HL := Lib.hid (gv_of_laid hL)
  obtain ⟨hr, hl⟩ := row_own hrow
  obtain ⟨s, A, l⟩ : ∃ s, Rd w.heap.size .u8 w (.slice a len cap) s ∧ len = s.length := ⟨zs.take len, hrow.rd, hrow.rd.len_eq⟩
  subst l
  have HA := Lib.hid A
  have HA0 := Lib.hid A
  have hl' : s.length ≤ 9223372036854775807 := by unfold maxLen at hl; omega
  have HB := Lib.hid (Below.refl w.heap.size w)
  clear hr hrow hl A hL
  by_cases hbig : 1048576 < s.length
  · have e0 : decide ((1048576 : Int) < (s.length : Int)) = true := by simp; omega
    go_enter Tryz.func3, Tryz.ntmps3
    go_wp2_with fail
    refine (big_is a s.length cap _ hl').mono ?_
    rw [e0]
    rintro e w0 ⟨rfl, rfl⟩
    go_wp2_with fail
    go_ret
    exact ⟨rfl, Below.refl _ _⟩
  have e0 : decide ((1048576 : Int) < (s.length : Int)) = false := by simp; omega
  have HS := Lib.hid (show s.length ≤ 1048576 by omega)
  clear hbig
  obtain ⟨i0, hi, hz0, hz1, hz2⟩ := info_parts infoi64
  have Hhi := Lib.hid hi
  obtain ⟨i1, hi1, hy0, hy1, hy2⟩ := info_parts infou8s
  have Hhi1 := Lib.hid hi1
  clear hi hi1
  go_enter Tryz.func3, Tryz.ntmps3
  go_wp2_with fail
  refine (big_is a s.length cap _ hl').mono ?_
  rw [e0]
  rintro e w0 ⟨rfl, hw⟩
  obtain rfl : w = w0 := hw.symm
  go_wp2_with fail
  refine (at_any HA.out 0 (by omega) HS.out).mono ?_
  obtain ⟨x0, hx0⟩ : ∃ x, x = atv s 0 := ⟨_, rfl⟩
  rw [← hx0]
  have Hx0 := Lib.hid hx0
  rintro e w0' ⟨⟨rfl, x00, x01⟩, hw⟩
  obtain rfl : w = w0' := hw.symm
  obtain ⟨c0, hc0⟩ : ∃ x, x = 1 + x0 * 3 := ⟨_, rfl⟩
  have hkr : 1 + x0 * 3 = c0 := hc0.symm
  have hkb : 1 ≤ c0 ∧ c0 ≤ 766 := by omega
  have HCb : Hid (1 ≤ c0 ∧ c0 ≤ 2147483646) := Lib.hid (by omega)
  have HAp : Hid (mky (chn c0 8) ≠ nxc (chn c0 8)) := Lib.hid (by rw [hc0]; exact rt_apart x00 x01)
  have HCW : Hid ((Lit.int .i64 c0).wf = true) := Lib.hid (wf_i64_of (by omega) (by omega))
  have HNr : Hid (nrC c0 = c0) := Lib.hid (if_pos (kRi.2 HCb.out))
  clear hx0 hw hc0
  go_wp2_with fail
  refine (impl_nr HCW.out).mono ?_
  rw [HNr.out]
  rintro e w1 ⟨rfl, hb⟩
  replace HA := Lib.hid (HA.out.behind (hb.mono HB.out.size))
  replace HB := Lib.hid (HB.out.trans (hb.mono HB.out.size))
  clear hb
  have hb := (Below.refl w1.heap.size w1).alloc (Nat.le_refl _) (.cells #[.int .i64 c0, .int .i64 0, .slice none 0 0] 26)
  have KS := Lib.hid (heap_alloc_new w1 (.cells #[.int .i64 c0, .int .i64 0, .slice none 0 0] 26))
  go_wp2_with fail
  obtain ⟨w2, hW⟩ : ∃ W, W = w1.alloc (.cells #[.int .i64 c0, .int .i64 0, .slice none 0 0] 26) := ⟨_, rfl⟩
  obtain ⟨S0, hS0⟩ : ∃ n, n = w1.heap.size := ⟨_, rfl⟩
  have HS0 : Hid (w.heap.size ≤ S0) := Lib.hid (by rw [hS0]; exact HB.out.size)
  rw [← hW] at hb KS ⊢
  rw [← hS0] at KS ⊢
  clear hW hS0
  replace HA := Lib.hid (HA.out.behind (hb.mono HB.out.size))
  replace HB := Lib.hid (HB.out.trans (hb.mono HB.out.size))
  clear hb
  refine (at_any HA.out 0 (by omega) HS.out).mono ?_
  rw [← Hx0.out]
  rintro e w2' ⟨⟨rfl, _, _⟩, hw⟩
  obtain rfl : w2 = w2' := hw.symm
  clear hw
  go_wp2_with fail
  refine (impl_nr HCW.out).mono ?_
  rw [HNr.out]
  rintro e w3 ⟨rfl, hb⟩
  replace HA := Lib.hid (HA.out.behind (hb.mono HB.out.size))
  replace KS := Lib.hid (rstand KS.out hb)
  replace HB := Lib.hid (HB.out.trans (hb.mono HB.out.size))
  clear hb
  have hb := (Below.refl w3.heap.size w3).alloc (Nat.le_refl _) (.cells #[.int .i64 c0, .int .i64 0, .slice none 0 0] 26)
  have KR := Lib.hid (heap_alloc_new w3 (.cells #[.int .i64 c0, .int .i64 0, .slice none 0 0] 26))
  have HSl := Lib.hid (lt_of_block KS.out)
  obtain ⟨w4, hW⟩ : ∃ W, W = w3.alloc (.cells #[.int .i64 c0, .int .i64 0, .slice none 0 0] 26) := ⟨_, rfl⟩
  obtain ⟨R0, hR0⟩ : ∃ n, n = w3.heap.size := ⟨_, rfl⟩
  rw [← hW] at hb KR
  rw [← hR0] at KR HSl
  have HW4 := Lib.hid hW
  have HR0e := Lib.hid hR0
  have HS4 : Hid (w4.heap.size = R0 + 1) := Lib.hid (by rw [hW, hR0]; simp)
  clear hW hR0
  replace HA := Lib.hid (HA.out.behind (hb.mono HB.out.size))
  replace KS := Lib.hid (rstand KS.out hb)
  replace HB := Lib.hid (HB.out.trans (hb.mono HB.out.size))
  clear hb
  have hb := (Below.refl w4.heap.size w4).alloc (Nat.le_refl _) (.cells #[] 22)
  have C5 := Own2.lit (w := w4) 22 5 .u8 (F := fun b => b = w4.heap.size) rfl
  obtain ⟨w5, hW⟩ : ∃ W, W = w4.alloc (.cells #[] 22) := ⟨_, rfl⟩
  have HRl := Lib.hid (lt_of_block KR.out)
  obtain ⟨L0, hL0⟩ : ∃ n, n = w4.heap.size := ⟨_, rfl⟩
  have hls : L0 < w5.heap.size := by rw [hW, hL0]; simp
  rw [← hW] at hb C5
  rw [← hL0] at C5 HRl
  have HC5 : Hid (Own2 22 5 .u8 (ival L0 w5.heap.size) w5 (.slice (some ⟨L0, 0, none⟩) 0 0) (cellsZ c0 0)) := Lib.hid (C5.mono (fun b hb => by rw [hb]; exact ⟨Nat.le_refl _, hls⟩))
  have HW5 := Lib.hid hW
  have HL0e := Lib.hid hL0
  have HL1 : Hid (R0 + 1 = L0) := Lib.hid (by rw [hL0, HS4.out])
  have HLs := Lib.hid (Nat.le_of_lt hls)
  clear hW hL0 hls C5
  replace HA := Lib.hid (HA.out.behind (hb.mono HB.out.size))
  replace KS := Lib.hid (rstand KS.out hb)
  replace KR := Lib.hid (rstand KR.out hb)
  replace HB := Lib.hid (HB.out.trans (hb.mono HB.out.size))
  clear hb
  go_wp2_with fail
  rw [← HR0e.out]
  rw [← HW4.out]
  rw [← HW5.out, HL1.out]
  clear HW4 HR0e HW5 HL0e
  go_loopw [5, 6] (fun v i wr => ∃ (j : Nat) (aS : Option Addr) (nS : Nat), i = .int .i64 j ∧ j ≤ 8 ∧ Own2 22 5 .u8 (ival L0 wr.heap.size) wr v (cellsZ c0 j) ∧ wr.heap[S0]? = some (.cells #[.int .i64 (chn c0 j), .int .i64 j, .slice aS 0 nS] 26) ∧ OwnS kepE 61 w.heap.size wr (.slice aS 0 nS) [] ∧ wr.heap[R0]? = some (.cells #[.int .i64 c0, .int .i64 0, .slice none 0 0] 26) ∧ L0 ≤ wr.heap.size ∧ Below w.heap.size w wr) (fun _ i _ => 8 - (intOf i).toNat)
  case atStart => exact ⟨0, none, 0, rfl, by omega, HC5.out, KS.out, OwnS.nil _ _ HB.out.size, KR.out, HLs.out, HB.out⟩
  case round =>
    obtain ⟨j, aS, nS, rfl, hj, hC, hS, hO, hR, hLs, hB⟩ := hrel
    replace HLs := Lib.hid hLs
    replace HC5 := Lib.hid hC
    replace KS := Lib.hid hS
    have HO := Lib.hid hO
    replace KR := Lib.hid hR
    replace HA := Lib.hid (HA0.out.behind hB)
    replace HB := Lib.hid hB
    clear hC hS hO hR hB hLs
    by_cases hlt : j < 8
    · have e1 : decide ((j : Int) < 8) = true := by simp; omega
      have hji : (j : Int) < 8 := by omega
      have hcj : IntKind.u8.wrap (j : Int) = (j : Int) := wrapU8r (by omega)
      have HT := Lib.hid (rt_seal HCb.out hlt)
      have HCS := Lib.hid (cellsZ_succ c0 j)
      obtain ⟨cl, hcl⟩ : ∃ l, l = sealL (mky (chn c0 j)) (j : Int) 1 [(j : Int)] := ⟨_, rfl⟩
      rw [← hcl] at HT HCS
      obtain ⟨x, hx⟩ : ∃ x, x = chn c0 j := ⟨_, rfl⟩
      obtain ⟨y, hy⟩ : ∃ y, y = chn c0 (j + 1) := ⟨_, rfl⟩
      rw [← hx, ← hy] at HT
      rw [← hx] at KS
      have Hy := Lib.hid hy
      have hxb := chn_bound HCb.out j
      rw [← hx] at hxb
      have HXW : Hid ((Lit.int .i64 x).wf = true) := Lib.hid (wf_i64_of (by omega) (by omega))
      have HJW : Hid ((Lit.int .i64 (j : Int)).wf = true) := Lib.hid (wf_i64_of (by omega) (by omega))
      obtain ⟨E0, hE0⟩ : ∃ n, n = wr.heap.size := ⟨_, rfl⟩
      have HE0e := Lib.hid hE0
      have HLE : Hid (L0 ≤ E0) := Lib.hid (by rw [hE0]; exact HLs.out)
      rw [← hE0] at HC5
      have R1 := Rd.one 5 .u8 wr (j : Int) (wf_u8_of (by omega) (by omega))
      have hb := (Below.refl wr.heap.size wr).alloc (Nat.le_refl _) (.cells #[.int .u8 (j : Int)] 5)
      obtain ⟨l0, l1, l2⟩ := rcs KS.out
      clear hcl hx hy hE0
      go_wp2_with fail
      clear l0 l1 l2 hcj
      obtain ⟨w6, hW⟩ : ∃ W, W = wr.alloc (.cells #[.int .u8 (j : Int)] 5) := ⟨_, rfl⟩
      rw [← hW] at hb R1 ⊢
      have hs6 : wr.heap.size + 1 ≤ w6.heap.size := by rw [hW]; simp
      have HU := Lib.hid (R1.mono hs6)
      have HEw : Hid (E0 ≤ w6.heap.size) := Lib.hid (by rw [HE0e.out]; exact hb.size)
      have HW6 : Hid (w.heap.size ≤ w6.heap.size) := Lib.hid (Nat.le_trans HB.out.size hb.size)
      clear hW R1 hs6
      replace HA := Lib.hid (HA.out.behind (hb.mono HB.out.size))
      replace HC5 := Lib.hid (HC5.out.next hb)
      replace KS := Lib.hid (rstand KS.out hb)
      replace HO := Lib.hid (HO.out.next hb)
      replace KR := Lib.hid (rstand KR.out hb)
      replace HB := Lib.hid (HB.out.trans (hb.mono HB.out.size))
      clear hb
      have hse := impl_ss (zs := [(j : Int)]) (HO.out.rd) (Nat.le_refl _) HXW.out HJW.out HU.out (Nat.le_refl _) (by simp)
      rw [HT.out.1, HT.out.2.1, HT.out.2.2.1, HT.out.2.2.2.1, HT.out.2.2.2.2] at hse
      refine hse.mono ?_
      clear hse
      rintro e w7 ⟨v7, u7, rfl, h7, hu7, hb⟩
      obtain ⟨a7, n7, hv7, _⟩ := h7.open
      rw [List.length_nil] at hv7
      subst hv7
      have HE7 : Hid (E0 ≤ w7.heap.size) := Lib.hid (Nat.le_trans HEw.out hb.size)
      have HLt7 : Hid (∀ r, (Value.slice a7 0 n7).ownBlock = some r → E0 ≤ r) := Lib.hid (fun r hr => Nat.le_trans HEw.out (h7.lt r hr).1)
      clear HO HU
      replace HA := Lib.hid (HA.out.behind (hb.mono HB.out.size))
      replace HC5 := Lib.hid (HC5.out.next hb)
      replace KS := Lib.hid (rstand KS.out hb)
      replace KR := Lib.hid (rstand KR.out hb)
      replace HB := Lib.hid (HB.out.trans (hb.mono HB.out.size))
      clear hb
      have HO := Lib.hid (h7.mono (B' := w.heap.size) HW6.out)
      have HU7 := Lib.hid (hu7.mono (B' := E0) HEw.out)
      obtain ⟨au, nu, hu, _⟩ := hu7.open
      obtain ⟨lu, hlu⟩ : ∃ l, l = cl.length := ⟨_, rfl⟩
      rw [← hlu] at hu
      subst hu
      clear h7 hu7 hlu
      have hb := (Below.refl w7.heap.size w7).alloc (Nat.le_refl _) (.cells #[.int .i64 y, .int .i64 ((j : Int) + 1), .slice a7 0 n7] 26)
      have KX := Lib.hid (heap_alloc_new w7 (.cells #[.int .i64 y, .int .i64 ((j : Int) + 1), .slice a7 0 n7] 26))
      obtain ⟨w8, hW⟩ : ∃ W, W = w7.alloc (.cells #[.int .i64 y, .int .i64 ((j : Int) + 1), .slice a7 0 n7] 26) := ⟨_, rfl⟩
      obtain ⟨X0, hX0⟩ : ∃ n, n = w7.heap.size := ⟨_, rfl⟩
      have HEX : Hid (E0 ≤ X0) := Lib.hid (by rw [hX0]; exact HE7.out)
      rw [← hW] at hb KX
      rw [← hX0] at KX
      have HE8 : Hid (E0 ≤ w8.heap.size) := Lib.hid (Nat.le_trans HE7.out hb.size)
      have HS8 : Hid (w8.heap.size = w7.heap.size + 1) := Lib.hid (by rw [hW]; simp)
      have HW8 := Lib.hid hW
      have HX0e := Lib.hid hX0
      clear hW hX0
      replace HA := Lib.hid (HA.out.behind (hb.mono HB.out.size))
      replace HC5 := Lib.hid (HC5.out.next hb)
      replace KS := Lib.hid (rstand KS.out hb)
      replace KR := Lib.hid (rstand KR.out hb)
      replace HO := Lib.hid (HO.out.next hb)
      replace HU7 := Lib.hid (HU7.out.next hb)
      replace HB := Lib.hid (HB.out.trans (hb.mono HB.out.size))
      clear hb
      obtain ⟨l0, l1, l2⟩ := rcs KX.out
      rw [HW8.out, HX0e.out] at l0 l1 l2
      have hb := (Below.refl w8.heap.size w8).alloc (Nat.le_refl _) (.cells #[.slice au lu nu] 22)
      have C1 := Lib.hid (HC5.out.next hb)
      have U1 := Lib.hid (HU7.out.next hb)
      have B1 := Lib.hid (HB.out.trans (hb.mono HB.out.size))
      have KX1 := rstand KX.out hb
      have KS1 := rstand KS.out hb
      have KR1 := rstand KR.out hb
      have HO1 := Lib.hid (HO.out.next hb)
      have HKX1 := Lib.hid KX1
      have HKS1 := Lib.hid KS1
      have HKR1 := Lib.hid KR1
      have HES : Hid (E0 ≤ (w8.alloc (.cells #[.slice au lu nu] 22)).heap.size) := Lib.hid (Nat.le_trans HE8.out hb.size)
      have HLit : Hid ((w8.alloc (.cells #[.slice au lu nu] 22)).cell? ((⟨w7.heap.size + 1, 0, none⟩ : Addr).add 0) = some (.slice au lu nu)) := Lib.hid (by
        have h8 : w8.heap.size = w7.heap.size + 1 := HS8.out
        rw [← h8]
        exact cell_one_new w8 _ _ 0 _ rfl)
      have HLen : Hid (((cellsZ c0 j).length + 1) * 24 ≤ 140737488355328) := Lib.hid (by rw [cellsZ_len]; omega)
      clear KX1 KS1 KR1 hb
      go_wp2_with (first | (at_builtin; rw [← HW8.out]; refine append_row _ rfl _ _ 29 rfl 22 5 i1 24 Tryz.underlying29 Hhi1.out hy0 hy1 hy2 (by omega) rfl C1.out HLE.out HES.out rfl HLit.out U1.out HLen.out ?_))
      intro v9 w9 h9 hg
      rw [← HCS.out] at h9
      have hK := (hg.block _ (lt_of_block HKX1.out) (fun h => by have h1 := C1.out.in_ _ h.symm; have h2 := HEX.out; unfold ival at h1; omega)).trans HKX1.out
      have hSb := (hg.block _ (lt_of_block HKS1.out) (fun h => by have h1 := C1.out.in_ _ h.symm; have h2 := HSl.out; have h3 := HRl.out; unfold ival at h1; omega)).trans HKS1.out
      have hRb := (hg.block _ (lt_of_block HKR1.out) (fun h => by have h1 := C1.out.in_ _ h.symm; have h3 := HRl.out; unfold ival at h1; omega)).trans HKR1.out
      have hO9 := HO1.out.kept hg (by
        cases hv : (Value.slice a7 0 n7).ownBlock with
        | none => exact Or.inl rfl
        | some r => exact Or.inr (fun e => by have h1 := C1.out.in_ r e.symm; have h2 := HLt7.out r hv; unfold ival at h1; omega))
      have hB9 := B1.out.grown hg B1.out.size (fun k hk => by have h1 := C1.out.in_ k hk; have h2 := HS0.out; have h3 := HSl.out; have h4 := HRl.out; unfold ival at h1; omega)
      have hL9 : L0 ≤ w9.heap.size := Nat.le_trans HLE.out (Nat.le_trans HES.out hg.size)
      obtain ⟨p0, p1, p2⟩ := rcs hK
      rw [HX0e.out] at p0 p1 p2
      obtain ⟨q0, q1, q2⟩ := rcs hSb
      obtain ⟨f0, f1, f2⟩ := rfr hSb
      obtain ⟨k9, g9⟩ := rst hSb (.int .i64 y) (.int .i64 ((j : Int) + 1)) (.slice a7 0 n7)
      have HEq := Lib.hid hSb
      have hRf := (g9.block _ (lt_of_block hRb) (fun h => by injection h with h; have := HSl.out; omega)).trans hRb
      have hOf := hO9.kept g9 (Or.inr (fun hh => owns_ne_box (by decide) hO9 HEq.out _ hh rfl))
      have hCf := (h9.keptF (G := fun b => b = S0) (KeptF.of_grown g9 (fun b h => by injection h with h; exact h.symm)) (fun b hb h => by have h1 := HSl.out; have h2 := HRl.out; unfold ival at hb; omega)).mono (fun b hb => show ival L0 _ b from ⟨hb.1, Nat.lt_of_lt_of_le hb.2 g9.size⟩)
      have hBf := hB9.grown g9 hB9.size (fun k hk => by injection hk with hk; have := HS0.out; omega)
      have HKf := Lib.hid k9
      have HRf := Lib.hid hRf
      have HOf := Lib.hid hOf
      have HCf := Lib.hid hCf
      have HBf := Lib.hid hBf
      have HLf := Lib.hid (Nat.le_trans hL9 g9.size)
      have hyy := Hy.out
      clear hK hSb hRb hO9 hB9 hL9 k9 g9 hRf hOf hCf hBf h9 hg l0 l1 l2
      clear hyy
      go_wp2_with fail
      go_roundw
      case rel => exact ⟨j + 1, a7, n7, by simp, hlt, HCf.out, by rw [← Hy.out]; push_cast; exact HKf.out, HOf.out, HRf.out, HLf.out, HBf.out⟩
      case measure => simp [intOf]; omega
    · have e1 : decide ((j : Int) < 8) = false := by simp; omega
      obtain rfl : j = 8 := by omega
      have hKS : wr.heap[S0]? = some (.cells #[.int .i64 (chn c0 8), .int .i64 8, .slice aS 0 nS] 26) := KS.out
      replace KS := Lib.hid hKS
      obtain ⟨E1, hE1⟩ : ∃ n, n = wr.heap.size := ⟨_, rfl⟩
      rw [← hE1] at HC5
      have HE1 := Lib.hid (Nat.le_of_eq hE1)
      have HWE : Hid (w.heap.size ≤ E1) := Lib.hid (by rw [hE1]; exact HB.out.size)
      obtain ⟨a5, cp5, hv5, _, _, hg5⟩ := HC5.out.open
      obtain ⟨g5, rfl, _⟩ := hg5 (by rw [cellsZ_len]; omega)
      rw [cellsZ_len] at hv5
      subst hv5
      clear hKS hE1 hg5
      have hb := (Below.refl wr.heap.size wr).alloc (Nat.le_refl _) (.cells #[] 3)
      have HI := Lib.hid (Own.lit (w := wr) (B := E1) 3 .i64 HE1.out)
      have HEb : Hid (E1 ≤ (wr.alloc (.cells #[] 3)).heap.size) := Lib.hid (Nat.le_trans HE1.out hb.size)
      clear HE1
      clear HO
      replace HA := Lib.hid (HA.out.behind (hb.mono HB.out.size))
      replace HC5 := Lib.hid (HC5.out.next hb)
      replace KS := Lib.hid (rstand KS.out hb)
      replace KR := Lib.hid (rstand KR.out hb)
      replace HB := Lib.hid (HB.out.trans (hb.mono HB.out.size))
      clear hb
      go_wp2_with fail
      go_loopw [11, 12] (fun v i wr => ∃ (j n : Nat) (seen : List Int) (aR : Option Addr) (lR nR : Nat), i = .int .i64 j ∧ j ≤ 20 ∧ n ≤ 8 ∧ seen.length ≤ j ∧ (∀ x ∈ seen, 0 ≤ x ∧ x < (n : Int)) ∧ Own 3 .i64 E1 wr v seen ∧ wr.heap[R0]? = some (.cells #[.int .i64 (chn c0 n), .int .i64 (n : Int), .slice aR lR nR] 26) ∧ OwnS kepE 61 w.heap.size wr (.slice aR lR nR) (kpt c0 n seen) ∧ wr.heap[S0]? = some (.cells #[.int .i64 (chn c0 8), .int .i64 8, .slice aS 0 nS] 26) ∧ Own2 22 5 .u8 (ival L0 E1) wr (.slice (some ⟨g5, 0, none⟩) 8 cp5) (cellsZ c0 8) ∧ E1 ≤ wr.heap.size ∧ Below w.heap.size w wr) (fun _ i _ => 20 - (intOf i).toNat)
      case atStart => exact ⟨0, 0, [], none, 0, 0, rfl, by omega, by omega, by simp, by simp, HI.out, KR.out, OwnS.nil _ _ HB.out.size, KS.out, HC5.out, HEb.out, HB.out⟩
      case round =>
        obtain ⟨j, n, seen, aR, lR, nR, rfl, hj, hn8, hsl, hsn, hI, hR, hO, hS, hC, hE, hB⟩ := hrel
        replace HI := Lib.hid hI
        replace KR := Lib.hid hR
        have HO := Lib.hid hO
        replace KS := Lib.hid hS
        replace HC5 := Lib.hid hC
        replace HEb := Lib.hid hE
        replace HA := Lib.hid (HA0.out.behind hB)
        replace HB := Lib.hid hB
        have HSn := Lib.hid hsn
        clear hI hR hO hS hC hE hB hsn
        by_cases hlt : j < 20
        · have e1 : decide ((j : Int) < 20) = true := by simp; omega
          have hji : (j : Int) < 20 := by omega
          have hat := at_any HA.out (j + 1) (by omega) HS.out
          obtain ⟨x1, hx1⟩ : ∃ x, x = atv s (j + 1) := ⟨_, rfl⟩
          rw [← hx1, show (((j + 1 : Nat)) : Int) = (j : Int) + 1 by push_cast; rfl] at hat
          clear hx1
          go_wp2_with fail
          refine hat.mono ?_
          clear hat
          rintro e w3 ⟨⟨rfl, x10, x11⟩, hw⟩
          obtain rfl : wr = w3 := hw.symm
          clear hw
          obtain ⟨k, hk⟩ : ∃ k : Nat, x1 % 8 = (k : Int) := ⟨(x1 % 8).toNat, by omega⟩
          have hk8 : k < 8 := by omega
          have hki : (k : Int) < 8 := by omega
          have HRT := Lib.hid (rt_step (seen := seen) HCb.out hn8 hk8 (fun x hx => (HSn.out x hx).2))
          have HCG := Lib.hid (cellsZ_get c0 hk8)
          have HKL : Hid ((kpt c0 n seen).length ≤ 1048576) := Lib.hid (by have := kpt_len (c := c0) (n := n) (seen := seen); omega)
          obtain ⟨cl, hcl⟩ : ∃ l, l = sealL (mky (chn c0 k)) (k : Int) 1 [(k : Int)] := ⟨_, rfl⟩
          rw [← hcl] at HRT HCG
          have hxb := chn_bound HCb.out n
          obtain ⟨Kn, hKn⟩ : ∃ l, l = kpt c0 n seen := ⟨_, rfl⟩
          rw [← hKn] at HRT HKL HO
          have HKn := Lib.hid hKn
          obtain ⟨x, hx⟩ : ∃ x, x = chn c0 n := ⟨_, rfl⟩
          rw [← hx] at HRT KR hxb
          have HX := Lib.hid hx
          have HXW : Hid ((Lit.int .i64 x).wf = true) := Lib.hid (wf_i64_of (by omega) (by omega))
          have HNW : Hid ((Lit.int .i64 (n : Int)).wf = true) := Lib.hid (wf_i64_of (by omega) (by omega))
          have HKW : Hid ((Lit.int .i64 (k : Int)).wf = true) := Lib.hid (wf_i64_of (by omega) (by omega))
          obtain ⟨C, hC⟩ : ∃ C, C = osC x n Kn k cl := ⟨_, rfl⟩
          obtain ⟨T, hT⟩ : ∃ T, T = osS x n Kn k cl := ⟨_, rfl⟩
          obtain ⟨Mn, hM⟩ : ∃ M, M = osL x n Kn k cl := ⟨_, rfl⟩
          obtain ⟨zb, hzb⟩ : ∃ z, z = osB x n Kn k cl := ⟨_, rfl⟩
          obtain ⟨q, hq⟩ : ∃ q, q = osq x n Kn k cl := ⟨_, rfl⟩
          have HCe := Lib.hid hC
          have HTe := Lib.hid hT
          have HMe := Lib.hid hM
          have HZe := Lib.hid hzb
          have HQe := Lib.hid hq
          have HCWf : Hid ((Lit.int .i64 C).wf = true) := Lib.hid (by rw [hC]; exact osC_wf HXW.out)
          have HTWf : Hid ((Lit.int .i64 T).wf = true) := Lib.hid (by rw [hT]; exact osS_wf HNW.out)
          clear hcl hKn hx hC hT hM hzb hq
          have hki2 : (k : Int) < ((8 : Nat) : Int) := by omega
          have htm : x1.tmod 8 = (k : Int) := by rw [Int.tmod_eq_emod_of_nonneg x10]; exact hk
          go_wp2_with fail
          clear htm hk x10 x11
          go_cut [14, 15, 16] (fun p b q' wx => ∃ (WW : World) (E : Nat) (aN : Option Addr) (lN nN : Nat) (ab : Option Addr) (lb nb : Nat), WW = wx ∧ p = .pointer (some ⟨E, 0, none⟩) ∧ b = .slice ab lb nb ∧ q' = .bool q ∧ R0 < E ∧ wx.heap[E]? = some (.cells #[.int .i64 C, .int .i64 T, .slice aN lN nN] 26) ∧ OwnS kepE 61 w.heap.size wx (.slice aN lN nN) Mn ∧ Own 5 .u8 w.heap.size wx (.slice ab lb nb) zb ∧ wx.heap[R0]? = some (.cells #[.int .i64 x, .int .i64 (n : Int), .slice aR lR nR] 26) ∧ wx.heap[S0]? = some (.cells #[.int .i64 (chn c0 8), .int .i64 8, .slice aS 0 nS] 26) ∧ OwnS kepE 61 w.heap.size wx (.slice aR lR nR) Kn ∧ Own 3 .i64 E1 wx u11 seen ∧ Own2 22 5 .u8 (ival L0 E1) wx (.slice (some ⟨g5, 0, none⟩) 8 cp5) (cellsZ c0 8) ∧ E1 ≤ wx.heap.size ∧ Below w.heap.size w wx)
          case first =>
            obtain ⟨uu, hcu0, hOu, _⟩ := HC5.out.at HCG.out
            obtain ⟨al, nl, huu, _⟩ := hOu.open
            obtain ⟨ll, hll⟩ : ∃ l, l = cl.length := ⟨_, rfl⟩
            rw [← hll] at huu
            subst huu
            have HRu0 := Lib.hid hOu.rd
            have hgl : g5 < wr.heap.size := World.block_lt_of_cell? _ _ hcu0
            have HCu0 : Hid (∀ w', Below wr.heap.size wr w' → w'.cell? ⟨g5, k, none⟩ = some (.slice al ll nl)) := Lib.hid (fun w' hb => (hb.cell (p := ⟨g5, k, none⟩) hgl).trans hcu0)
            clear hcu0 hOu hll hgl
            refine region_till (fun u => u.cell? ⟨R0, 0, none⟩ = some (.int .i64 x) ∧ u.cell? ⟨R0, 1, none⟩ = some (.int .i64 (n : Int)) ∧ u.cell? ⟨R0, 2, none⟩ = some (.slice aR lR nR) ∧ u.cell? ⟨g5, k, none⟩ = some (.slice al ll nl)) 14 (by kernel_rfl) ?_
            obtain ⟨wd, hwd⟩ : ∃ x, x = wr.drew := ⟨_, rfl⟩
            have hb : Below wr.heap.size wr wd := by rw [hwd]; exact (Below.refl _ _).drew
            rw [← hwd]
            clear hwd
            have hbk := Lib.hid hb
            replace HA := Lib.hid (HA.out.behind (hb.mono HB.out.size))
            replace HC5 := Lib.hid (HC5.out.next hb)
            replace KS := Lib.hid (rstand KS.out hb)
            replace KR := Lib.hid (rstand KR.out hb)
            replace HO := Lib.hid (HO.out.next hb)
            replace HI := Lib.hid (HI.out.next hb)
            replace HB := Lib.hid (HB.out.trans (hb.mono HB.out.size))
            have HEb0 := HEb
            replace HEb := Lib.hid (Nat.le_trans HEb.out hb.size)
            have hdd : wr.heap.size ≤ wd.heap.size := hb.size
            have HRu := Lib.hid ((HRu0.out.behind hb).mono hdd)
            have HCu : Hid (∀ w', Below wd.heap.size wd w' → w'.cell? ⟨g5, k, none⟩ = some (.slice al ll nl)) := Lib.hid (fun w' h => HCu0.out w' (hbk.out.trans (h.mono hdd)))
            have HQu : Hid (Below wd.heap.size wd wd) := Lib.hid (Below.refl _ _)
            have HEb0 : Hid (E1 ≤ wd.heap.size) := HEb
            clear hb
            have hcu := HCu.out _ HQu.out
            have s0 := And.intro (rcs KR.out).1 (And.intro (rcs KR.out).2.1 (And.intro (rcs KR.out).2.2 hcu))
            clear hcu
            apply Till.take (i := 0) [0, 6, 7, 10, 14]
            · simp only [List.getElem?_toArray, List.getElem?_cons_zero]
              rfl
            · kernel_rfl
            · kernel_rfl
            · kernel_rfl
            · kernel_rfl
            · exact fun _ _ _ h => h
            · first
                | exact Or.inr ⟨by rfl, rfl⟩
                | (refine Or.inl ⟨by rfl, fun wq hwq => ?_⟩
                   dsimp only at hwq
                   go_simp
                   first
                     | done
                     | rfl)
            · exact s0
            simp only [Act.put, List.setIfInBounds_toArray, List.set_cons_zero, List.set_cons_succ]
            apply Till.take (i := 1) [1, 6, 7, 10, 14]
            · simp only [List.getElem?_toArray, List.getElem?_cons_succ, List.getElem?_cons_zero]
              rfl
            · kernel_rfl
            · kernel_rfl
            · kernel_rfl
            · kernel_rfl
            · exact fun _ _ _ h => h
            · first
                | exact Or.inr ⟨by rfl, rfl⟩
                | (refine Or.inl ⟨by rfl, fun wq hwq => ?_⟩
                   dsimp only at hwq
                   go_simp
                   first
                     | done
                     | rfl)
            · exact s0
            simp only [Act.put, List.setIfInBounds_toArray, List.set_cons_zero, List.set_cons_succ]
            apply Till.take (i := 2) [2, 4, 5, 6, 7, 10, 14]
            · simp only [List.getElem?_toArray, List.getElem?_cons_succ, List.getElem?_cons_zero]
              rfl
            · kernel_rfl
            · kernel_rfl
            · kernel_rfl
            · kernel_rfl
            · exact fun _ _ _ h => h
            · first
                | exact Or.inr ⟨by rfl, rfl⟩
                | (refine Or.inl ⟨by rfl, fun wq hwq => ?_⟩
                   dsimp only at hwq
                   go_simp
                   first
                     | done
                     | rfl)
            · exact s0
            simp only [Act.put, List.setIfInBounds_toArray, List.set_cons_zero, List.set_cons_succ]
            apply Till.take (i := 3) [3, 4, 5, 6, 7, 10, 14]
            · simp only [List.getElem?_toArray, List.getElem?_cons_succ, List.getElem?_cons_zero]
              rfl
            · kernel_rfl
            · kernel_rfl
            · kernel_rfl
            · kernel_rfl
            · exact fun _ _ _ h => h
            · first
                | exact Or.inr ⟨by rfl, rfl⟩
                | (refine Or.inl ⟨by rfl, fun wq hwq => ?_⟩
                   dsimp only at hwq
                   go_simp
                   first
                     | done
                     | rfl)
            · exact s0
            simp only [Act.put, List.setIfInBounds_toArray, List.set_cons_zero, List.set_cons_succ]
            apply Till.take (i := 4) [4, 5, 6, 7, 10, 14]
            · simp only [List.getElem?_toArray, List.getElem?_cons_succ, List.getElem?_cons_zero]
              rfl
            · kernel_rfl
            · kernel_rfl
            · kernel_rfl
            · kernel_rfl
            · exact fun _ _ _ h => h
            · first
                | exact Or.inr ⟨by rfl, rfl⟩
                | (refine Or.inl ⟨by rfl, fun wq hwq => ?_⟩
                   dsimp only at hwq
                   go_simp
                   first
                     | done
                     | rfl)
            · exact s0
            simp only [Act.put, List.setIfInBounds_toArray, List.set_cons_zero, List.set_cons_succ]
            apply Till.take (i := 5) [5, 6, 7, 10, 14]
            · simp only [List.getElem?_toArray, List.getElem?_cons_succ, List.getElem?_cons_zero]
              rfl
            · kernel_rfl
            · kernel_rfl
            · kernel_rfl
            · kernel_rfl
            · exact fun _ _ _ h => h
            · first
                | exact Or.inr ⟨by rfl, rfl⟩
                | (refine Or.inl ⟨by rfl, fun wq hwq => ?_⟩
                   dsimp only at hwq
                   go_simp
                   first
                     | done
                     | rfl)
            · exact s0
            simp only [Act.put, List.setIfInBounds_toArray, List.set_cons_zero, List.set_cons_succ]
            apply Till.two (i := 6) (j := 11)
            · kernel_rfl
            · simp only [List.getElem?_toArray, List.getElem?_cons_succ, List.getElem?_cons_zero]
              rfl
            · simp only [List.getElem?_toArray, List.getElem?_cons_succ, List.getElem?_cons_zero]
              rfl
            · intro K0 hK
              go_simp
              refine (impl_os (zs := cl) HO.out.rd (Nat.le_refl _) HXW.out HNW.out HKW.out ((HRu.out.behind HQu.out).mono HQu.out.size) (Nat.le_refl _) HKL.out (HL.out.next HB.out)).mono ?_
              rw [← HCe.out, ← HTe.out, ← HMe.out, ← HZe.out, ← HQe.out]
              rintro e' w4 ⟨vN, ub, he, hON, hUb, hb⟩
              subst he
              obtain ⟨aN, nN, hvN, _⟩ := hON.open
              obtain ⟨lN, hlN⟩ : ∃ l, l = Mn.length := ⟨_, rfl⟩
              rw [← hlN] at hvN
              subst hvN
              obtain ⟨ab, nb, hub, _⟩ := hUb.open
              obtain ⟨lb, hlb⟩ : ∃ l, l = zb.length := ⟨_, rfl⟩
              rw [← hlb] at hub
              subst hub
              clear hlN hlb
              have HON := Lib.hid (hON.mono (B' := w.heap.size) HB.out.size)
              have HUb := Lib.hid (hUb.mono (B' := w.heap.size) HB.out.size)
              clear hON hUb
              replace HEb := Lib.hid (Nat.le_trans HEb.out hb.size)
              replace HQu := Lib.hid (HQu.out.trans (hb.mono HQu.out.size))
              replace HA := Lib.hid (HA.out.behind (hb.mono HB.out.size))
              replace HC5 := Lib.hid (HC5.out.next hb)
              replace KS := Lib.hid (rstand KS.out hb)
              replace KR := Lib.hid (rstand KR.out hb)
              replace HO := Lib.hid (HO.out.next hb)
              replace HI := Lib.hid (HI.out.next hb)
              replace HB := Lib.hid (HB.out.trans (hb.mono HB.out.size))
              clear hb s0
              have hcu := HCu.out _ HQu.out
              have s0 := And.intro (rcs KR.out).1 (And.intro (rcs KR.out).2.1 (And.intro (rcs KR.out).2.2 hcu))
              clear hcu
              refine hK.out _ _ (Or.inr s0) ?_
              clear hK K0
              try simp only [Act.put, List.setIfInBounds_toArray, List.set_cons_zero, List.set_cons_succ]
              apply Till.take (i := 7) [7, 10, 14]
              · simp only [List.getElem?_toArray, List.getElem?_cons_succ, List.getElem?_cons_zero]
                rfl
              · kernel_rfl
              · kernel_rfl
              · kernel_rfl
              · kernel_rfl
              · exact fun _ _ _ h => h
              · first
                  | exact Or.inr ⟨by rfl, rfl⟩
                  | (refine Or.inl ⟨by rfl, fun wq hwq => ?_⟩
                     dsimp only at hwq
                     go_simp
                     first
                       | done
                       | rfl)
              · exact s0
              simp only [Act.put, List.setIfInBounds_toArray, List.set_cons_zero, List.set_cons_succ]
              apply Till.take (i := 8) [8, 12, 13, 14]
              · simp only [List.getElem?_toArray, List.getElem?_cons_succ, List.getElem?_cons_zero]
                rfl
              · kernel_rfl
              · kernel_rfl
              · kernel_rfl
              · kernel_rfl
              · exact fun _ _ _ h => h
              · first
                  | exact Or.inr ⟨by rfl, rfl⟩
                  | (refine Or.inl ⟨by rfl, fun wq hwq => ?_⟩
                     dsimp only at hwq
                     go_simp
                     first
                       | done
                       | rfl)
              · exact s0
              simp only [Act.put, List.setIfInBounds_toArray, List.set_cons_zero, List.set_cons_succ]
              apply Till.take (i := 9) [9, 13, 14]
              · simp only [List.getElem?_toArray, List.getElem?_cons_succ, List.getElem?_cons_zero]
                rfl
              · kernel_rfl
              · kernel_rfl
              · kernel_rfl
              · kernel_rfl
              · exact fun _ _ _ h => h
              · first
                  | exact Or.inr ⟨by rfl, rfl⟩
                  | (refine Or.inl ⟨by rfl, fun wq hwq => ?_⟩
                     dsimp only at hwq
                     go_simp
                     first
                       | done
                       | rfl)
              · exact s0
              simp only [Act.put, List.setIfInBounds_toArray, List.set_cons_zero, List.set_cons_succ]
              apply Till.take (i := 10) [10, 14]
              · simp only [List.getElem?_toArray, List.getElem?_cons_succ, List.getElem?_cons_zero]
                rfl
              · kernel_rfl
              · kernel_rfl
              · kernel_rfl
              · kernel_rfl
              · exact fun _ _ _ h => h
              · first
                  | exact Or.inr ⟨by rfl, rfl⟩
                  | (refine Or.inl ⟨by rfl, fun wq hwq => ?_⟩
                     dsimp only at hwq
                     go_simp
                     first
                       | done
                       | rfl)
              · exact s0
              simp only [Act.put, List.setIfInBounds_toArray, List.set_cons_zero, List.set_cons_succ]
              apply Till.one (i := 11)
              · kernel_rfl
              · simp only [List.getElem?_toArray, List.getElem?_cons_succ, List.getElem?_cons_zero]
                rfl
              intro K hK
              go_simp
              have hb : Below w4.heap.size w4 (w4.alloc (.cells #[.int .i64 0, .int .i64 0, .slice none 0 0] 26)) := (Below.refl _ _).alloc (Nat.le_refl _) _
              have HEz := Lib.hid (heap_alloc_new w4 (.cells #[.int .i64 0, .int .i64 0, .slice none 0 0] 26))
              have HElt := Lib.hid (lt_of_block KR.out)
              have HElo0 := Lib.hid HQu.out.size
              replace HON := Lib.hid (HON.out.next hb)
              replace HUb := Lib.hid (HUb.out.next hb)
              replace HEb := Lib.hid (Nat.le_trans HEb.out hb.size)
              replace HQu := Lib.hid (HQu.out.trans (hb.mono HQu.out.size))
              replace HA := Lib.hid (HA.out.behind (hb.mono HB.out.size))
              replace HC5 := Lib.hid (HC5.out.next hb)
              replace KS := Lib.hid (rstand KS.out hb)
              replace KR := Lib.hid (rstand KR.out hb)
              replace HO := Lib.hid (HO.out.next hb)
              replace HI := Lib.hid (HI.out.next hb)
              replace HB := Lib.hid (HB.out.trans (hb.mono HB.out.size))
              clear hb s0
              have hcu := HCu.out _ HQu.out
              have s0 := And.intro (rcs KR.out).1 (And.intro (rcs KR.out).2.1 (And.intro (rcs KR.out).2.2 hcu))
              clear hcu
              refine hK.out _ _ (Or.inr s0) ?_
              clear hK K
              try simp only [Act.put, List.setIfInBounds_toArray, List.set_cons_zero, List.set_cons_succ]
              obtain ⟨wa, hwa⟩ : ∃ x, x = w4.alloc (.cells #[.int .i64 0, .int .i64 0, .slice none 0 0] 26) := ⟨_, rfl⟩
              obtain ⟨E, hE⟩ : ∃ x, x = w4.heap.size := ⟨_, rfl⟩
              rw [← hwa] at HEz HA HC5 KS KR HO HI HON HUb HB HEb HQu s0 ⊢
              rw [← hE] at HEz HElt HElo0 ⊢
              have HE := HEz
              clear hwa hE HEz
              have HElo := HElo0
              obtain ⟨wz, hwz⟩ : ∃ x, x = wa := ⟨_, rfl⟩
              rw [← hwz] at HE HA HC5 KS KR HO HI HON HUb HB HEb HQu s0 ⊢
              clear hwz
              obtain ⟨q0, q1, q2⟩ := rcs HE.out
              obtain ⟨f0, f1, f2⟩ := rfr HE.out
              obtain ⟨k9, g9⟩ := rst HE.out (.int .i64 C) (.int .i64 T) (.slice aN lN nN)
              have HEq := Lib.hid HE.out
              have hON := HON.out.kept g9 (Or.inr (fun hh => owns_ne_box (by decide) HON.out HEq.out _ hh rfl))
              have hUb := HUb.out.kept g9 (Or.inr (fun hh => own_ne_boxR (by decide) HUb.out HEq.out _ hh rfl))
              have hQ9 := HQu.out.grown g9 HQu.out.size (fun k hk => by injection hk with hk; have := HElo.out; omega)
              replace HEb := Lib.hid (Nat.le_trans HEb.out g9.size)
              replace HA := Lib.hid (HA.out.behind ((Below.refl w.heap.size _).grown g9 HB.out.size (fun k hk => by injection hk with hk; have := HElt.out; have := HSl.out; have := HS0.out; omega)))
              replace HC5 := Lib.hid (HC5.out.keptF (G := fun b => b = E) (KeptF.of_grown g9 (fun b h => by injection h with h; exact h.symm)) (fun b hb h => by have h1 := HElo.out; have h2 := HEb0.out; unfold ival at hb; omega))
              replace KS := Lib.hid ((g9.block _ (lt_of_block KS.out) (fun h => by injection h with h; have h1 := HElt.out; have h2 := HSl.out; omega)).trans KS.out)
              replace KR := Lib.hid ((g9.block _ (lt_of_block KR.out) (fun h => by injection h with h; have h1 := HElt.out; omega)).trans KR.out)
              replace HO := Lib.hid (HO.out.kept g9 (Or.inr (fun hh => owns_ne_box (by decide) HO.out HEq.out _ hh rfl)))
              replace HI := Lib.hid (HI.out.kept g9 (Or.inr (fun hh => own_ne_boxR (by decide) HI.out HEq.out _ hh rfl)))
              replace HB := Lib.hid (HB.out.grown g9 HB.out.size (fun k hk => by injection hk with hk; have := HElt.out; have := HSl.out; have := HS0.out; omega))
              have hcu := HCu.out _ hQ9
              have s9 := And.intro (rcs KR.out).1 (And.intro (rcs KR.out).2.1 (And.intro (rcs KR.out).2.2 hcu))
              have HK9 := Lib.hid k9
              have HON9 := Lib.hid hON
              have HUb9 := Lib.hid hUb
              clear k9 g9 hON hUb hQ9 hcu s0
              apply Till.one (i := 12)
              · kernel_rfl
              · simp only [List.getElem?_toArray, List.getElem?_cons_succ, List.getElem?_cons_zero]
                rfl
              intro K hK
              go_simp
              skip
              refine hK.out _ _ (Or.inr s9) ?_
              clear hK K
              try simp only [Act.put, List.setIfInBounds_toArray, List.set_cons_zero, List.set_cons_succ]
              apply Till.one (i := 13)
              · kernel_rfl
              · simp only [List.getElem?_toArray, List.getElem?_cons_succ, List.getElem?_cons_zero]
                rfl
              intro K hK
              go_simp
              skip
              refine hK.out _ _ (Or.inr s9) ?_
              clear hK K
              try simp only [Act.put, List.setIfInBounds_toArray, List.set_cons_zero, List.set_cons_succ]
              apply Till.one (i := 14)
              · kernel_rfl
              · simp only [List.getElem?_toArray, List.getElem?_cons_succ, List.getElem?_cons_zero]
                rfl
              intro K hK
              go_simp
              skip
              refine hK.out _ _ (Or.inl (by rfl)) ?_
              clear hK K
              try simp only [Act.put, List.setIfInBounds_toArray, List.set_cons_zero, List.set_cons_succ]
              refine Till.done (by kernel_rfl) ?_ _
              clear q0 q1 q2 f0 f1 f2 s9
              obtain ⟨wy, hwy⟩ : ∃ zz, zz = ((wz.setCell ⟨E, 0, none⟩ (.int .i64 C)).setCell ⟨E, 1, none⟩ (.int .i64 T)).setCell ⟨E, 2, none⟩ (.slice aN lN nN) := ⟨_, rfl⟩
              rw [← hwy] at HK9 HON9 HUb9 HB HEb HA HC5 KS KR HO HI ⊢
              clear hwy
              go_wp2_with fail
              go_meet
              case rel => exact ⟨_, E, aN, lN, nN, ab, lb, nb, rfl, rfl, rfl, rfl, HElt.out, HK9.out, HON9.out, HUb9.out, KR.out, KS.out, HO.out, HI.out, HC5.out, HEb.out, HB.out⟩
            · intro K0 hK
              go_simp
              have hb : Below wd.heap.size wd (wd.alloc (.cells #[.int .i64 0, .int .i64 0, .slice none 0 0] 26)) := (Below.refl _ _).alloc (Nat.le_refl _) _
              have HEz := Lib.hid (heap_alloc_new wd (.cells #[.int .i64 0, .int .i64 0, .slice none 0 0] 26))
              have HElt := Lib.hid (lt_of_block KR.out)
              have HElo0 := Lib.hid HQu.out.size
              replace HEb := Lib.hid (Nat.le_trans HEb.out hb.size)
              replace HQu := Lib.hid (HQu.out.trans (hb.mono HQu.out.size))
              replace HA := Lib.hid (HA.out.behind (hb.mono HB.out.size))
              replace HC5 := Lib.hid (HC5.out.next hb)
              replace KS := Lib.hid (rstand KS.out hb)
              replace KR := Lib.hid (rstand KR.out hb)
              replace HO := Lib.hid (HO.out.next hb)
              replace HI := Lib.hid (HI.out.next hb)
              replace HB := Lib.hid (HB.out.trans (hb.mono HB.out.size))
              clear hb s0
              have hcu := HCu.out _ HQu.out
              have s0 := And.intro (rcs KR.out).1 (And.intro (rcs KR.out).2.1 (And.intro (rcs KR.out).2.2 hcu))
              clear hcu
              refine hK.out _ _ (Or.inr s0) ?_
              clear hK K0
              try simp only [Act.put, List.setIfInBounds_toArray, List.set_cons_zero, List.set_cons_succ]
              obtain ⟨wa, hwa⟩ : ∃ x, x = wd.alloc (.cells #[.int .i64 0, .int .i64 0, .slice none 0 0] 26) := ⟨_, rfl⟩
              obtain ⟨E, hE⟩ : ∃ x, x = wd.heap.size := ⟨_, rfl⟩
              rw [← hwa] at HEz HA HC5 KS KR HO HI HB HEb HQu s0 ⊢
              rw [← hE] at HEz HElt ⊢
              have HE := HEz
              have HEd : Hid (E = wd.heap.size) := Lib.hid hE
              clear hwa hE HEz
              have HElo : Hid (wd.heap.size ≤ E) := Lib.hid (Nat.le_of_eq HEd.out.symm)
              apply Till.one (i := 6)
              · kernel_rfl
              · simp only [List.getElem?_toArray, List.getElem?_cons_succ, List.getElem?_cons_zero]
                rfl
              intro K hK
              go_simp
              refine (impl_os (zs := cl) HO.out.rd (Nat.le_refl _) HXW.out HNW.out HKW.out ((HRu.out.behind HQu.out).mono HQu.out.size) (Nat.le_refl _) HKL.out (HL.out.next HB.out)).mono ?_
              rw [← HCe.out, ← HTe.out, ← HMe.out, ← HZe.out, ← HQe.out]
              rintro e' w4 ⟨vN, ub, he, hON, hUb, hb⟩
              subst he
              obtain ⟨aN, nN, hvN, _⟩ := hON.open
              obtain ⟨lN, hlN⟩ : ∃ l, l = Mn.length := ⟨_, rfl⟩
              rw [← hlN] at hvN
              subst hvN
              obtain ⟨ab, nb, hub, _⟩ := hUb.open
              obtain ⟨lb, hlb⟩ : ∃ l, l = zb.length := ⟨_, rfl⟩
              rw [← hlb] at hub
              subst hub
              clear hlN hlb
              have HON := Lib.hid (hON.mono (B' := w.heap.size) HB.out.size)
              have HUb := Lib.hid (hUb.mono (B' := w.heap.size) HB.out.size)
              clear hON hUb
              replace HE := Lib.hid (rstand HE.out hb)
              replace HEb := Lib.hid (Nat.le_trans HEb.out hb.size)
              replace HQu := Lib.hid (HQu.out.trans (hb.mono HQu.out.size))
              replace HA := Lib.hid (HA.out.behind (hb.mono HB.out.size))
              replace HC5 := Lib.hid (HC5.out.next hb)
              replace KS := Lib.hid (rstand KS.out hb)
              replace KR := Lib.hid (rstand KR.out hb)
              replace HO := Lib.hid (HO.out.next hb)
              replace HI := Lib.hid (HI.out.next hb)
              replace HB := Lib.hid (HB.out.trans (hb.mono HB.out.size))
              clear hb s0
              have hcu := HCu.out _ HQu.out
              have s0 := And.intro (rcs KR.out).1 (And.intro (rcs KR.out).2.1 (And.intro (rcs KR.out).2.2 hcu))
              clear hcu
              refine hK.out _ _ (Or.inr s0) ?_
              clear hK K
              try simp only [Act.put, List.setIfInBounds_toArray, List.set_cons_zero, List.set_cons_succ]
              apply Till.take (i := 7) [7, 10, 14]
              · simp only [List.getElem?_toArray, List.getElem?_cons_succ, List.getElem?_cons_zero]
                rfl
              · kernel_rfl
              · kernel_rfl
              · kernel_rfl
              · kernel_rfl
              · exact fun _ _ _ h => h
              · first
                  | exact Or.inr ⟨by rfl, rfl⟩
                  | (refine Or.inl ⟨by rfl, fun wq hwq => ?_⟩
                     dsimp only at hwq
                     go_simp
                     first
                       | done
                       | rfl)
              · exact s0
              simp only [Act.put, List.setIfInBounds_toArray, List.set_cons_zero, List.set_cons_succ]
              apply Till.take (i := 8) [8, 12, 13, 14]
              · simp only [List.getElem?_toArray, List.getElem?_cons_succ, List.getElem?_cons_zero]
                rfl
              · kernel_rfl
              · kernel_rfl
              · kernel_rfl
              · kernel_rfl
              · exact fun _ _ _ h => h
              · first
                  | exact Or.inr ⟨by rfl, rfl⟩
                  | (refine Or.inl ⟨by rfl, fun wq hwq => ?_⟩
                     dsimp only at hwq
                     go_simp
                     first
                       | done
                       | rfl)
              · exact s0
              simp only [Act.put, List.setIfInBounds_toArray, List.set_cons_zero, List.set_cons_succ]
              apply Till.take (i := 9) [9, 13, 14]
              · simp only [List.getElem?_toArray, List.getElem?_cons_succ, List.getElem?_cons_zero]
                rfl
              · kernel_rfl
              · kernel_rfl
              · kernel_rfl
              · kernel_rfl
              · exact fun _ _ _ h => h
              · first
                  | exact Or.inr ⟨by rfl, rfl⟩
                  | (refine Or.inl ⟨by rfl, fun wq hwq => ?_⟩
                     dsimp only at hwq
                     go_simp
                     first
                       | done
                       | rfl)
              · exact s0
              simp only [Act.put, List.setIfInBounds_toArray, List.set_cons_zero, List.set_cons_succ]
              apply Till.take (i := 10) [10, 14]
              · simp only [List.getElem?_toArray, List.getElem?_cons_succ, List.getElem?_cons_zero]
                rfl
              · kernel_rfl
              · kernel_rfl
              · kernel_rfl
              · kernel_rfl
              · exact fun _ _ _ h => h
              · first
                  | exact Or.inr ⟨by rfl, rfl⟩
                  | (refine Or.inl ⟨by rfl, fun wq hwq => ?_⟩
                     dsimp only at hwq
                     go_simp
                     first
                       | done
                       | rfl)
              · exact s0
              simp only [Act.put, List.setIfInBounds_toArray, List.set_cons_zero, List.set_cons_succ]
              obtain ⟨wz, hwz⟩ : ∃ x, x = w4 := ⟨_, rfl⟩
              rw [← hwz] at HE HA HC5 KS KR HO HI HON HUb HB HEb HQu s0 ⊢
              clear hwz
              obtain ⟨q0, q1, q2⟩ := rcs HE.out
              obtain ⟨f0, f1, f2⟩ := rfr HE.out
              obtain ⟨k9, g9⟩ := rst HE.out (.int .i64 C) (.int .i64 T) (.slice aN lN nN)
              have HEq := Lib.hid HE.out
              have hON := HON.out.kept g9 (Or.inr (fun hh => owns_ne_box (by decide) HON.out HEq.out _ hh rfl))
              have hUb := HUb.out.kept g9 (Or.inr (fun hh => own_ne_boxR (by decide) HUb.out HEq.out _ hh rfl))
              have hQ9 := HQu.out.grown g9 HQu.out.size (fun k hk => by injection hk with hk; have := HElo.out; omega)
              replace HEb := Lib.hid (Nat.le_trans HEb.out g9.size)
              replace HA := Lib.hid (HA.out.behind ((Below.refl w.heap.size _).grown g9 HB.out.size (fun k hk => by injection hk with hk; have := HElt.out; have := HSl.out; have := HS0.out; omega)))
              replace HC5 := Lib.hid (HC5.out.keptF (G := fun b => b = E) (KeptF.of_grown g9 (fun b h => by injection h with h; exact h.symm)) (fun b hb h => by have h1 := HElo.out; have h2 := HEb0.out; unfold ival at hb; omega))
              replace KS := Lib.hid ((g9.block _ (lt_of_block KS.out) (fun h => by injection h with h; have h1 := HElt.out; have h2 := HSl.out; omega)).trans KS.out)
              replace KR := Lib.hid ((g9.block _ (lt_of_block KR.out) (fun h => by injection h with h; have h1 := HElt.out; omega)).trans KR.out)
              replace HO := Lib.hid (HO.out.kept g9 (Or.inr (fun hh => owns_ne_box (by decide) HO.out HEq.out _ hh rfl)))
              replace HI := Lib.hid (HI.out.kept g9 (Or.inr (fun hh => own_ne_boxR (by decide) HI.out HEq.out _ hh rfl)))
              replace HB := Lib.hid (HB.out.grown g9 HB.out.size (fun k hk => by injection hk with hk; have := HElt.out; have := HSl.out; have := HS0.out; omega))
              have hcu := HCu.out _ hQ9
              have s9 := And.intro (rcs KR.out).1 (And.intro (rcs KR.out).2.1 (And.intro (rcs KR.out).2.2 hcu))
              have HK9 := Lib.hid k9
              have HON9 := Lib.hid hON
              have HUb9 := Lib.hid hUb
              clear k9 g9 hON hUb hQ9 hcu s0
              apply Till.one (i := 12)
              · kernel_rfl
              · simp only [List.getElem?_toArray, List.getElem?_cons_succ, List.getElem?_cons_zero]
                rfl
              intro K hK
              go_simp
              skip
              refine hK.out _ _ (Or.inr s9) ?_
              clear hK K
              try simp only [Act.put, List.setIfInBounds_toArray, List.set_cons_zero, List.set_cons_succ]
              apply Till.one (i := 13)
              · kernel_rfl
              · simp only [List.getElem?_toArray, List.getElem?_cons_succ, List.getElem?_cons_zero]
                rfl
              intro K hK
              go_simp
              skip
              refine hK.out _ _ (Or.inr s9) ?_
              clear hK K
              try simp only [Act.put, List.setIfInBounds_toArray, List.set_cons_zero, List.set_cons_succ]
              apply Till.one (i := 14)
              · kernel_rfl
              · simp only [List.getElem?_toArray, List.getElem?_cons_succ, List.getElem?_cons_zero]
                rfl
              intro K hK
              go_simp
              skip
              refine hK.out _ _ (Or.inl (by rfl)) ?_
              clear hK K
              try simp only [Act.put, List.setIfInBounds_toArray, List.set_cons_zero, List.set_cons_succ]
              refine Till.done (by kernel_rfl) ?_ _
              clear q0 q1 q2 f0 f1 f2 s9
              obtain ⟨wy, hwy⟩ : ∃ zz, zz = ((wz.setCell ⟨E, 0, none⟩ (.int .i64 C)).setCell ⟨E, 1, none⟩ (.int .i64 T)).setCell ⟨E, 2, none⟩ (.slice aN lN nN) := ⟨_, rfl⟩
              rw [← hwy] at HK9 HON9 HUb9 HB HEb HA HC5 KS KR HO HI ⊢
              clear hwy
              go_wp2_with fail
              go_meet
              case rel => exact ⟨_, E, aN, lN, nN, ab, lb, nb, rfl, rfl, rfl, rfl, HElt.out, HK9.out, HON9.out, HUb9.out, KR.out, KS.out, HO.out, HI.out, HC5.out, HEb.out, HB.out⟩
          case rest =>
            obtain ⟨wx, E, aN, lN, nN, ab, lb, nb, hWW, rfl, rfl, rfl, hRE, hKE, hON, hUb, hR, hS, hO, hI, hC, hE1, hB⟩ := hcut
            subst hWW
            have HRE := Lib.hid hRE
            have KE := Lib.hid hKE
            have HON := Lib.hid hON
            have HUb := Lib.hid hUb
            replace KR := Lib.hid hR
            replace KS := Lib.hid hS
            replace HO := Lib.hid hO
            replace HI := Lib.hid hI
            replace HC5 := Lib.hid hC
            replace HEb := Lib.hid hE1
            replace HA := Lib.hid (HA0.out.behind hB)
            replace HB := Lib.hid hB
            clear hRE hKE hON hUb hR hS hO hI hC hE1 hB
            go_wp2_with fail
            refine (contains_any HI.out.rd (Nat.le_refl _)).mono ?_
            rcases HRT.out with ⟨hcn, hq0⟩ | ⟨hcn, hq1, hb1, m, hm8, hC1, hS1, hL1, hsm⟩
            · have HOs := Lib.hid (os_no hq0)
              obtain rfl : q = false := by rw [HQe.out]; exact hq0
              have hCx : C = x := by rw [HCe.out]; exact HOs.out.1
              have hTx : T = (n : Int) := by rw [HTe.out]; exact HOs.out.2.1
              have hMx : Mn = Kn := by rw [HMe.out]; exact HOs.out.2.2.1
              subst hCx
              subst hTx
              subst hMx
              have HV : Hid (okR C (n : Int) Mn = true) := Lib.hid (by rw [HX.out, HKn.out]; exact kpt_ok HCb.out hn8)
              have HQs : Hid (eqRt C (n : Int) Mn C (n : Int) Mn = true) := Lib.hid (eqRt_same _ _ _)
              clear hq0
              rw [hcn]
              rintro e wy ⟨rfl, hw⟩
              obtain rfl : wx = wy := hw.symm
              clear hw
              clear hcn
              obtain ⟨t0, t1, t2⟩ := rcs KE.out
              go_wp2_with fail
              refine (impl_vr HON.out.rd (Nat.le_refl _) HCWf.out HTWf.out).mono ?_
              rw [HV.out]
              rintro e wz ⟨rfl, hb⟩
              clear t0 t1 t2
              replace HEb := Lib.hid (Nat.le_trans HEb.out hb.size)
              replace HA := Lib.hid (HA.out.behind (hb.mono HB.out.size))
              replace HC5 := Lib.hid (HC5.out.next hb)
              replace KS := Lib.hid (rstand KS.out hb)
              replace KR := Lib.hid (rstand KR.out hb)
              replace HO := Lib.hid (HO.out.next hb)
              replace HI := Lib.hid (HI.out.next hb)
              replace KE := Lib.hid (rstand KE.out hb)
              replace HON := Lib.hid (HON.out.next hb)
              replace HB := Lib.hid (HB.out.trans (hb.mono HB.out.size))
              clear hb
              obtain ⟨t0, t1, t2⟩ := rcs KE.out
              obtain ⟨y0, y1, y2⟩ := rcs KR.out
              go_wp2_with fail
              refine (impl_er HON.out.rd HO.out.rd (Nat.le_refl _) (Nat.le_refl _)).mono ?_
              rw [HQs.out]
              rintro e wu ⟨rfl, hb⟩
              clear t0 t1 t2 y0 y1 y2
              replace HEb := Lib.hid (Nat.le_trans HEb.out hb.size)
              replace HA := Lib.hid (HA.out.behind (hb.mono HB.out.size))
              replace HC5 := Lib.hid (HC5.out.next hb)
              replace KS := Lib.hid (rstand KS.out hb)
              replace KR := Lib.hid (rstand KR.out hb)
              replace HO := Lib.hid (HO.out.next hb)
              replace HI := Lib.hid (HI.out.next hb)
              replace KE := Lib.hid (rstand KE.out hb)
              replace HON := Lib.hid (HON.out.next hb)
              replace HB := Lib.hid (HB.out.trans (hb.mono HB.out.size))
              clear hb
              obtain ⟨t0, t1, t2⟩ := rcs KE.out
              obtain ⟨y0, y1, y2⟩ := rcs KR.out
              obtain ⟨f0, f1, f2⟩ := rfr KR.out
              obtain ⟨k9, g9⟩ := rst KR.out (.int .i64 C) (.int .i64 (n : Int)) (.slice aN lN nN)
              have HEq := Lib.hid KR.out
              replace HA := Lib.hid (HA.out.behind ((Below.refl w.heap.size _).grown g9 HB.out.size (fun k hk => by injection hk with hk; have := HSl.out; have := HS0.out; omega)))
              replace HC5 := Lib.hid (HC5.out.keptF (G := fun b => b = R0) (KeptF.of_grown g9 (fun b h => by injection h with h; exact h.symm)) (fun b hb h => by have h1 := HRl.out; unfold ival at hb; omega))
              replace KS := Lib.hid ((g9.block _ (lt_of_block KS.out) (fun h => by injection h with h; have h1 := HSl.out; omega)).trans KS.out)
              replace HO := Lib.hid (HO.out.kept g9 (Or.inr (fun hh => owns_ne_box (by decide) HO.out HEq.out _ hh rfl)))
              replace HI := Lib.hid (HI.out.kept g9 (Or.inr (fun hh => own_ne_boxR (by decide) HI.out HEq.out _ hh rfl)))
              replace KE := Lib.hid ((g9.block _ (lt_of_block KE.out) (fun h => by injection h with h; have h1 := HRE.out; omega)).trans KE.out)
              replace HON := Lib.hid (HON.out.kept g9 (Or.inr (fun hh => owns_ne_box (by decide) HON.out HEq.out _ hh rfl)))
              replace HB := Lib.hid (HB.out.grown g9 HB.out.size (fun k hk => by injection hk with hk; have := HSl.out; have := HS0.out; omega))
              replace HEb := Lib.hid (Nat.le_trans HEb.out g9.size)
              have HKf := Lib.hid k9
              clear k9 g9 HEq
              go_wp2_with fail
              go_roundw
              case rel =>
                repeat apply Exists.intro
                refine ⟨?_, rfl⟩
                exact ⟨j + 1, n, seen, aN, lN, nN, by simp, by omega, hn8, by omega, HSn.out, HI.out, by rw [← HX.out]; exact HKf.out, by rw [← HKn.out]; exact HON.out, KS.out, HC5.out, HEb.out, HB.out⟩
              case measure => simp [intOf]; omega
            · have HOs := Lib.hid (os_yes hq1)
              obtain rfl : q = true := by rw [HQe.out]; exact hq1
              have hCx : C = chn c0 m := by rw [HCe.out, HOs.out.1]; exact hC1
              have hTx : T = (m : Int) := by rw [HTe.out, HOs.out.2.1]; exact hS1
              have hMx : Mn = kpt c0 m (seen ++ [(k : Int)]) := by rw [HMe.out, HOs.out.2.2.1]; exact hL1
              have hzx : zb = [(k : Int)] := by rw [HZe.out, HOs.out.2.2.2]; exact hb1
              subst hTx
              subst hzx
              have HC2 := Lib.hid hCx
              have HM2 := Lib.hid hMx
              have HV : Hid (okR C (m : Int) Mn = true) := Lib.hid (by rw [hCx, hMx]; exact kpt_ok HCb.out hm8)
              have HSq : Hid (∀ x ∈ seen ++ [(k : Int)], 0 ≤ x ∧ x < (m : Int)) := Lib.hid (fun x hx => ⟨by
                rcases List.mem_append.1 hx with h | h
                · exact (HSn.out x h).1
                · obtain rfl := List.mem_singleton.1 h; omega, hsm x hx⟩)
              clear hq1 hb1 hC1 hS1 hL1 hCx hMx hsm
              rw [hcn]
              rintro e wy ⟨rfl, hw⟩
              obtain rfl : wx = wy := hw.symm
              clear hw
              clear hcn
              have hck : IntKind.u8.wrap (k : Int) = (k : Int) := wrapU8r (by omega)
              have R1 := Rd.one 5 .u8 wx (k : Int) (wf_u8_of (by omega) (by omega))
              have hb := (Below.refl wx.heap.size wx).alloc (Nat.le_refl _) (.cells #[.int .u8 (k : Int)] 5)
              go_wp2_with fail
              clear hck
              obtain ⟨wz, hW⟩ : ∃ W, W = wx.alloc (.cells #[.int .u8 (k : Int)] 5) := ⟨_, rfl⟩
              rw [← hW] at hb R1 ⊢
              have hs6 : wx.heap.size + 1 ≤ wz.heap.size := by rw [hW]; simp
              have HU := Lib.hid (R1.mono hs6)
              replace HUb := Lib.hid (HUb.out.next hb)
              clear hW R1 hs6
              replace HEb := Lib.hid (Nat.le_trans HEb.out hb.size)
              replace HA := Lib.hid (HA.out.behind (hb.mono HB.out.size))
              replace HC5 := Lib.hid (HC5.out.next hb)
              replace KS := Lib.hid (rstand KS.out hb)
              replace KR := Lib.hid (rstand KR.out hb)
              replace HO := Lib.hid (HO.out.next hb)
              replace HI := Lib.hid (HI.out.next hb)
              replace KE := Lib.hid (rstand KE.out hb)
              replace HON := Lib.hid (HON.out.next hb)
              replace HB := Lib.hid (HB.out.trans (hb.mono HB.out.size))
              clear hb
              refine (sameBytes_same HUb.out.rd HU.out (Nat.le_refl _) (Nat.le_refl _)).mono ?_
              rintro e wu ⟨rfl, hb⟩
              clear HUb HU
              replace HEb := Lib.hid (Nat.le_trans HEb.out hb.size)
              replace HA := Lib.hid (HA.out.behind (hb.mono HB.out.size))
              replace HC5 := Lib.hid (HC5.out.next hb)
              replace KS := Lib.hid (rstand KS.out hb)
              replace KR := Lib.hid (rstand KR.out hb)
              replace HO := Lib.hid (HO.out.next hb)
              replace HI := Lib.hid (HI.out.next hb)
              replace KE := Lib.hid (rstand KE.out hb)
              replace HON := Lib.hid (HON.out.next hb)
              replace HB := Lib.hid (HB.out.trans (hb.mono HB.out.size))
              clear hb
              obtain ⟨t0, t1, t2⟩ := rcs KE.out
              go_wp2_with fail
              refine (impl_vr HON.out.rd (Nat.le_refl _) HCWf.out HTWf.out).mono ?_
              rw [HV.out]
              rintro e wv ⟨rfl, hb⟩
              clear t0 t1 t2
              replace HEb := Lib.hid (Nat.le_trans HEb.out hb.size)
              replace HA := Lib.hid (HA.out.behind (hb.mono HB.out.size))
              replace HC5 := Lib.hid (HC5.out.next hb)
              replace KS := Lib.hid (rstand KS.out hb)
              replace KR := Lib.hid (rstand KR.out hb)
              replace HO := Lib.hid (HO.out.next hb)
              replace HI := Lib.hid (HI.out.next hb)
              replace KE := Lib.hid (rstand KE.out hb)
              replace HON := Lib.hid (HON.out.next hb)
              replace HB := Lib.hid (HB.out.trans (hb.mono HB.out.size))
              clear hb
              have hb := (Below.refl wv.heap.size wv).alloc (Nat.le_refl _) (.cells #[.int .i64 (k : Int)] 3)
              have R1 := Lib.hid (Rd.one 3 .i64 wv (k : Int) (wf_i64_of (by omega) (by omega)))
              have I1 := Lib.hid (HI.out.next hb)
              have HLn : Hid ((seen ++ [(k : Int)]).length ≤ 1000) := Lib.hid (by simp; omega)
              have hbq := Lib.hid hb
              have Hsz := Lib.hid HB.out.size
              replace HEb := Lib.hid (Nat.le_trans HEb.out hb.size)
              replace HA := Lib.hid (HA.out.behind (hb.mono HB.out.size))
              replace HC5 := Lib.hid (HC5.out.next hb)
              replace KS := Lib.hid (rstand KS.out hb)
              replace KR := Lib.hid (rstand KR.out hb)
              replace HO := Lib.hid (HO.out.next hb)
              replace HI := Lib.hid (HI.out.next hb)
              replace KE := Lib.hid (rstand KE.out hb)
              replace HON := Lib.hid (HON.out.next hb)
              replace HB := Lib.hid (HB.out.trans (hb.mono HB.out.size))
              clear hb
              go_wp2_with (first | (at_builtin; refine append_rd _ rfl _ _ 32 rfl 3 i0 (.int .i64 0) 8 Tryz.underlying32 Hhi.out hz0 hz1 hz2 rfl (by omega) rfl I1.out rfl R1.out (by have := HLn.out; simp only [List.length_append, List.length_singleton] at *; omega) ?_))
              intro v9 w9 h9 hg
              have HIo := Lib.hid I1.out
              have hKE := (hg.block _ (lt_of_block KE.out) (fun h => own_ne_boxR (by decide) HIo.out KE.out _ h.symm rfl)).trans KE.out
              have hKS := (hg.block _ (lt_of_block KS.out) (fun h => own_ne_boxR (by decide) HIo.out KS.out _ h.symm rfl)).trans KS.out
              have hKR := (hg.block _ (lt_of_block KR.out) (fun h => own_ne_boxR (by decide) HIo.out KR.out _ h.symm rfl)).trans KR.out
              have hON := HON.out.kept hg (by
                cases hv : (Value.slice aN lN nN).ownBlock with
                | none => exact Or.inl rfl
                | some r => exact Or.inr (fun e => rows_apart (by decide) HON.out HIo.out r hv e.symm))
              have hC9 := HC5.out.keptF (G := fun b => u11.ownBlock = some b) (KeptF.of_grown hg (fun b h => h)) (fun b hb h => by have h1 := (HIo.out.lt b h).1; unfold ival at hb; omega)
              have hB9 := HB.out.grown hg HB.out.size (fun k hk => Nat.le_trans HWE.out (HIo.out.lt k hk).1)
              replace KE := Lib.hid hKE
              replace KS := Lib.hid hKS
              replace KR := Lib.hid hKR
              replace HON := Lib.hid hON
              replace HC5 := Lib.hid hC9
              replace HEb := Lib.hid (Nat.le_trans HEb.out hg.size)
              replace HA := Lib.hid (HA0.out.behind hB9)
              replace HB := Lib.hid hB9
              replace HI := Lib.hid h9
              clear hKE hKS hKR hON hC9 hB9 hg h9 I1 R1 HIo HO
              obtain ⟨t0, t1, t2⟩ := rcs KE.out
              obtain ⟨y0, y1, y2⟩ := rcs KR.out
              obtain ⟨f0, f1, f2⟩ := rfr KR.out
              obtain ⟨k9, g9⟩ := rst KR.out (.int .i64 C) (.int .i64 (m : Int)) (.slice aN lN nN)
              have HEq := Lib.hid KR.out
              replace HA := Lib.hid (HA.out.behind ((Below.refl w.heap.size _).grown g9 HB.out.size (fun k hk => by injection hk with hk; have := HSl.out; have := HS0.out; omega)))
              replace HC5 := Lib.hid (HC5.out.keptF (G := fun b => b = R0) (KeptF.of_grown g9 (fun b h => by injection h with h; exact h.symm)) (fun b hb h => by have h1 := HRl.out; unfold ival at hb; omega))
              replace KS := Lib.hid ((g9.block _ (lt_of_block KS.out) (fun h => by injection h with h; have h1 := HSl.out; omega)).trans KS.out)
              replace HI := Lib.hid (HI.out.kept g9 (Or.inr (fun hh => own_ne_boxR (by decide) HI.out HEq.out _ hh rfl)))
              replace KE := Lib.hid ((g9.block _ (lt_of_block KE.out) (fun h => by injection h with h; have h1 := HRE.out; omega)).trans KE.out)
              replace HON := Lib.hid (HON.out.kept g9 (Or.inr (fun hh => owns_ne_box (by decide) HON.out HEq.out _ hh rfl)))
              replace HB := Lib.hid (HB.out.grown g9 HB.out.size (fun k hk => by injection hk with hk; have := HSl.out; have := HS0.out; omega))
              replace HEb := Lib.hid (Nat.le_trans HEb.out g9.size)
              have HKf := Lib.hid k9
              clear k9 g9 HEq
              go_wp2_with fail
              go_roundw
              case rel =>
                repeat apply Exists.intro
                refine ⟨?_, rfl⟩
                exact ⟨j + 1, m, seen ++ [(k : Int)], aN, lN, nN, by simp, by omega, hm8, by simp; omega, HSq.out, HI.out, by rw [← HC2.out]; exact HKf.out, by rw [← HM2.out]; exact HON.out, KS.out, HC5.out, HEb.out, HB.out⟩
              case measure => simp [intOf]; omega
        · have e1 : decide ((j : Int) < 20) = false := by simp; omega
          obtain ⟨a11, c11, hv11, _⟩ := HI.out.open
          subst hv11
          have HLs9 : Hid (seen.length ≤ 1000) := Lib.hid (by omega)
          go_wp2_with fail
          go_loopw [17] (fun i wr => ∃ j : Nat, i = .int .i64 j ∧ j ≤ seen.length ∧ Own 3 .i64 E1 wr (.slice a11 seen.length c11) seen ∧ wr.heap[R0]? = some (.cells #[.int .i64 (chn c0 n), .int .i64 (n : Int), .slice aR lR nR] 26) ∧ OwnS kepE 61 w.heap.size wr (.slice aR lR nR) (kpt c0 n seen) ∧ wr.heap[S0]? = some (.cells #[.int .i64 (chn c0 8), .int .i64 8, .slice aS 0 nS] 26) ∧ E1 ≤ wr.heap.size ∧ Below w.heap.size w wr) (fun i _ => seen.length - (intOf i).toNat)
          case atStart => exact ⟨0, rfl, Nat.zero_le _, HI.out, KR.out, HO.out, KS.out, HEb.out, HB.out⟩
          case round =>
            obtain ⟨j, rfl, hj, hI, hR, hO, hS, hE, hB⟩ := hrel
            replace HI := Lib.hid hI
            replace KR := Lib.hid hR
            replace HO := Lib.hid hO
            replace KS := Lib.hid hS
            replace HEb := Lib.hid hE
            replace HA := Lib.hid (HA0.out.behind hB)
            replace HB := Lib.hid hB
            clear hI hR hO hS hE hB HC5
            by_cases hlt : j < seen.length
            · have e1 : decide ((j : Int) < (seen.length : Int)) = true := by simp; omega
              have hji : (j : Int) < (seen.length : Int) := by omega
              obtain ⟨_, _, hv, hg11⟩ := HI.out.open
              injection hv with p1 p2 p3
              subst p1
              subst p3
              obtain ⟨g11, rfl⟩ := hg11 (by omega)
              obtain ⟨z, hz⟩ : ∃ z, z = seen.getD j 0 := ⟨_, rfl⟩
              have hzm : z ∈ seen := by rw [hz, List.getD_eq_getElem?_getD, List.getElem?_eq_getElem hlt]; exact List.getElem_mem hlt
              have hzb := HSn.out z hzm
              obtain ⟨k, rfl⟩ : ∃ k : Nat, z = (k : Int) := ⟨z.toNat, by omega⟩
              have HQs := Lib.hid (rt_seen (c := c0) (n := n) (seen := seen) (k := k) (by omega) (by rw [List.contains_iff_mem]; exact hzm))
              have HZk := Lib.hid hz
              have hcu0 := HI.out.cellAt rfl hlt
              rw [← hz] at hcu0
              have hgl : g11 < wr.heap.size := World.block_lt_of_cell? _ _ hcu0
              have HCu0 : Hid (∀ w', Below wr.heap.size wr w' → w'.cell? ⟨g11, j, none⟩ = some (.int .i64 (k : Int))) := Lib.hid (fun w' hb => (hb.cell (p := ⟨g11, j, none⟩) hgl).trans hcu0)
              have HKL : Hid ((kpt c0 n seen).length ≤ 1048576) := Lib.hid (by have := kpt_len (c := c0) (n := n) (seen := seen); omega)
              have hxb := chn_bound HCb.out n
              obtain ⟨Kn, hKn⟩ : ∃ l, l = kpt c0 n seen := ⟨_, rfl⟩
              have HKn := Lib.hid hKn
              obtain ⟨x, hx⟩ : ∃ x, x = chn c0 n := ⟨_, rfl⟩
              rw [← hx] at HQs KR hxb
              rw [← hKn] at HQs HKL HO
              have HX := Lib.hid hx
              have HZ9 := Lib.hid (kf_no HQs.out)
              have HXW : Hid ((Lit.int .i64 x).wf = true) := Lib.hid (wf_i64_of (by omega) (by omega))
              have HNW : Hid ((Lit.int .i64 (n : Int)).wf = true) := Lib.hid (wf_i64_of (by omega) (by omega))
              have HKW : Hid ((Lit.int .i64 (k : Int)).wf = true) := Lib.hid (wf_i64_of (by omega) (by omega))
              clear hz hzm hcu0 hgl hKn hx hg11
              go_wp2_with fail
              go_cut [20] (fun q' wx => ∃ (WW : World), WW = wx ∧ q' = .bool false ∧ Own 3 .i64 E1 wx (.slice (some ⟨g11, 0, none⟩) seen.length c11) seen ∧ wx.heap[R0]? = some (.cells #[.int .i64 x, .int .i64 (n : Int), .slice aR lR nR] 26) ∧ OwnS kepE 61 w.heap.size wx (.slice aR lR nR) Kn ∧ wx.heap[S0]? = some (.cells #[.int .i64 (chn c0 8), .int .i64 8, .slice aS 0 nS] 26) ∧ E1 ≤ wx.heap.size ∧ Below w.heap.size w wx)
              case first =>
                refine region_till (fun u => u.cell? ⟨R0, 0, none⟩ = some (.int .i64 x) ∧ u.cell? ⟨R0, 1, none⟩ = some (.int .i64 (n : Int)) ∧ u.cell? ⟨R0, 2, none⟩ = some (.slice aR lR nR) ∧ u.cell? ⟨g11, j, none⟩ = some (.int .i64 (k : Int))) 13 (by kernel_rfl) ?_
                obtain ⟨wd, hwd⟩ : ∃ x, x = wr.drew := ⟨_, rfl⟩
                have hb : Below wr.heap.size wr wd := by rw [hwd]; exact (Below.refl _ _).drew
                rw [← hwd]
                clear hwd
                have hbk := Lib.hid hb
                replace HA := Lib.hid (HA.out.behind (hb.mono HB.out.size))
                replace KS := Lib.hid (rstand KS.out hb)
                replace KR := Lib.hid (rstand KR.out hb)
                replace HO := Lib.hid (HO.out.next hb)
                replace HI := Lib.hid (HI.out.next hb)
                replace HB := Lib.hid (HB.out.trans (hb.mono HB.out.size))
                have HEb0 := HEb
                replace HEb := Lib.hid (Nat.le_trans HEb.out hb.size)
                have hdd : wr.heap.size ≤ wd.heap.size := hb.size
                have HCu : Hid (∀ w', Below wd.heap.size wd w' → w'.cell? ⟨g11, j, none⟩ = some (.int .i64 (k : Int))) := Lib.hid (fun w' h => HCu0.out w' (hbk.out.trans (h.mono hdd)))
                have HQu : Hid (Below wd.heap.size wd wd) := Lib.hid (Below.refl _ _)
                have HEb0 : Hid (E1 ≤ wd.heap.size) := HEb
                clear hb
                have hcu := HCu.out _ HQu.out
                have s0 := And.intro (rcs KR.out).1 (And.intro (rcs KR.out).2.1 (And.intro (rcs KR.out).2.2 hcu))
                clear hcu
                apply Till.take (i := 0) [0, 5, 6, 9, 13]
                · simp only [List.getElem?_toArray, List.getElem?_cons_zero]
                  rfl
                · kernel_rfl
                · kernel_rfl
                · kernel_rfl
                · kernel_rfl
                · exact fun _ _ _ h => h
                · first
                    | exact Or.inr ⟨by rfl, rfl⟩
                    | (refine Or.inl ⟨by rfl, fun wq hwq => ?_⟩
                       dsimp only at hwq
                       go_simp
                       first
                         | done
                         | rfl)
                · exact s0
                simp only [Act.put, List.setIfInBounds_toArray, List.set_cons_zero, List.set_cons_succ]
                apply Till.take (i := 1) [1, 3, 4, 5, 6, 9, 13]
                · simp only [List.getElem?_toArray, List.getElem?_cons_succ, List.getElem?_cons_zero]
                  rfl
                · kernel_rfl
                · kernel_rfl
                · kernel_rfl
                · kernel_rfl
                · exact fun _ _ _ h => h
                · first
                    | exact Or.inr ⟨by rfl, rfl⟩
                    | (refine Or.inl ⟨by rfl, fun wq hwq => ?_⟩
                       dsimp only at hwq
                       go_simp
                       first
                         | done
                         | rfl)
                · exact s0
                simp only [Act.put, List.setIfInBounds_toArray, List.set_cons_zero, List.set_cons_succ]
                apply Till.take (i := 2) [2, 3, 4, 5, 6, 9, 13]
                · simp only [List.getElem?_toArray, List.getElem?_cons_succ, List.getElem?_cons_zero]
                  rfl
                · kernel_rfl
                · kernel_rfl
                · kernel_rfl
                · kernel_rfl
                · exact fun _ _ _ h => h
                · first
                    | exact Or.inr ⟨by rfl, rfl⟩
                    | (refine Or.inl ⟨by rfl, fun wq hwq => ?_⟩
                       dsimp only at hwq
                       go_simp
                       first
                         | done
                         | rfl)
                · exact s0
                simp only [Act.put, List.setIfInBounds_toArray, List.set_cons_zero, List.set_cons_succ]
                apply Till.take (i := 3) [3, 4, 5, 6, 9, 13]
                · simp only [List.getElem?_toArray, List.getElem?_cons_succ, List.getElem?_cons_zero]
                  rfl
                · kernel_rfl
                · kernel_rfl
                · kernel_rfl
                · kernel_rfl
                · exact fun _ _ _ h => h
                · first
                    | exact Or.inr ⟨by rfl, rfl⟩
                    | (refine Or.inl ⟨by rfl, fun wq hwq => ?_⟩
                       dsimp only at hwq
                       go_simp
                       first
                         | done
                         | rfl)
                · exact s0
                simp only [Act.put, List.setIfInBounds_toArray, List.set_cons_zero, List.set_cons_succ]
                apply Till.take (i := 4) [4, 5, 6, 9, 13]
                · simp only [List.getElem?_toArray, List.getElem?_cons_succ, List.getElem?_cons_zero]
                  rfl
                · kernel_rfl
                · kernel_rfl
                · kernel_rfl
                · kernel_rfl
                · exact fun _ _ _ h => h
                · first
                    | exact Or.inr ⟨by rfl, rfl⟩
                    | (refine Or.inl ⟨by rfl, fun wq hwq => ?_⟩
                       dsimp only at hwq
                       go_simp
                       first
                         | done
                         | rfl)
                · exact s0
                simp only [Act.put, List.setIfInBounds_toArray, List.set_cons_zero, List.set_cons_succ]
                apply Till.two (i := 5) (j := 10)
                · kernel_rfl
                · simp only [List.getElem?_toArray, List.getElem?_cons_succ, List.getElem?_cons_zero]
                  rfl
                · simp only [List.getElem?_toArray, List.getElem?_cons_succ, List.getElem?_cons_zero]
                  rfl
                · intro K0 hK
                  go_simp
                  have hkf := impl_kf (t := (k : Int)) HO.out.rd (Nat.le_refl _) HXW.out HNW.out HKW.out HKL.out
                  rw [HZ9.out.1, HZ9.out.2.1, HZ9.out.2.2.1, HZ9.out.2.2.2, HQs.out] at hkf
                  refine hkf.mono ?_
                  clear hkf
                  rintro e' w4 ⟨vN, he, hON, hb⟩
                  subst he
                  obtain ⟨aN, nN, hvN, _⟩ := hON.open
                  obtain ⟨lN, hlN⟩ : ∃ l, l = Kn.length := ⟨_, rfl⟩
                  rw [← hlN] at hvN
                  subst hvN
                  clear hlN
                  have HON := Lib.hid (hON.mono (B' := w.heap.size) HB.out.size)
                  have HUb := Lib.hid (Own.nil 5 .u8 (B := w.heap.size) (w := w4) (Nat.le_trans HB.out.size hb.size))
                  clear hON
                  replace HEb := Lib.hid (Nat.le_trans HEb.out hb.size)
                  replace HQu := Lib.hid (HQu.out.trans (hb.mono HQu.out.size))
                  replace HA := Lib.hid (HA.out.behind (hb.mono HB.out.size))
                  replace KS := Lib.hid (rstand KS.out hb)
                  replace KR := Lib.hid (rstand KR.out hb)
                  replace HO := Lib.hid (HO.out.next hb)
                  replace HI := Lib.hid (HI.out.next hb)
                  replace HB := Lib.hid (HB.out.trans (hb.mono HB.out.size))
                  clear hb s0
                  have hcu := HCu.out _ HQu.out
                  have s0 := And.intro (rcs KR.out).1 (And.intro (rcs KR.out).2.1 (And.intro (rcs KR.out).2.2 hcu))
                  clear hcu
                  refine hK.out _ _ (Or.inr s0) ?_
                  clear hK K0
                  try simp only [Act.put, List.setIfInBounds_toArray, List.set_cons_zero, List.set_cons_succ]
                  apply Till.take (i := 6) [6, 9, 13]
                  · simp only [List.getElem?_toArray, List.getElem?_cons_succ, List.getElem?_cons_zero]
                    rfl
                  · kernel_rfl
                  · kernel_rfl
                  · kernel_rfl
                  · kernel_rfl
                  · exact fun _ _ _ h => h
                  · first
                      | exact Or.inr ⟨by rfl, rfl⟩
                      | (refine Or.inl ⟨by rfl, fun wq hwq => ?_⟩
                         dsimp only at hwq
                         go_simp
                         first
                           | done
                           | rfl)
                  · exact s0
                  simp only [Act.put, List.setIfInBounds_toArray, List.set_cons_zero, List.set_cons_succ]
                  apply Till.take (i := 7) [7, 11, 12, 13]
                  · simp only [List.getElem?_toArray, List.getElem?_cons_succ, List.getElem?_cons_zero]
                    rfl
                  · kernel_rfl
                  · kernel_rfl
                  · kernel_rfl
                  · kernel_rfl
                  · exact fun _ _ _ h => h
                  · first
                      | exact Or.inr ⟨by rfl, rfl⟩
                      | (refine Or.inl ⟨by rfl, fun wq hwq => ?_⟩
                         dsimp only at hwq
                         go_simp
                         first
                           | done
                           | rfl)
                  · exact s0
                  simp only [Act.put, List.setIfInBounds_toArray, List.set_cons_zero, List.set_cons_succ]
                  apply Till.take (i := 8) [8, 12, 13]
                  · simp only [List.getElem?_toArray, List.getElem?_cons_succ, List.getElem?_cons_zero]
                    rfl
                  · kernel_rfl
                  · kernel_rfl
                  · kernel_rfl
                  · kernel_rfl
                  · exact fun _ _ _ h => h
                  · first
                      | exact Or.inr ⟨by rfl, rfl⟩
                      | (refine Or.inl ⟨by rfl, fun wq hwq => ?_⟩
                         dsimp only at hwq
                         go_simp
                         first
                           | done
                           | rfl)
                  · exact s0
                  simp only [Act.put, List.setIfInBounds_toArray, List.set_cons_zero, List.set_cons_succ]
                  apply Till.take (i := 9) [9, 13]
                  · simp only [List.getElem?_toArray, List.getElem?_cons_succ, List.getElem?_cons_zero]
                    rfl
                  · kernel_rfl
                  · kernel_rfl
                  · kernel_rfl
                  · kernel_rfl
                  · exact fun _ _ _ h => h
                  · first
                      | exact Or.inr ⟨by rfl, rfl⟩
                      | (refine Or.inl ⟨by rfl, fun wq hwq => ?_⟩
                         dsimp only at hwq
                         go_simp
                         first
                           | done
                           | rfl)
                  · exact s0
                  simp only [Act.put, List.setIfInBounds_toArray, List.set_cons_zero, List.set_cons_succ]
                  apply Till.one (i := 10)
                  · kernel_rfl
                  · simp only [List.getElem?_toArray, List.getElem?_cons_succ, List.getElem?_cons_zero]
                    rfl
                  intro K hK
                  go_simp
                  have hb : Below w4.heap.size w4 (w4.alloc (.cells #[.int .i64 0, .int .i64 0, .slice none 0 0] 26)) := (Below.refl _ _).alloc (Nat.le_refl _) _
                  have HEz := Lib.hid (heap_alloc_new w4 (.cells #[.int .i64 0, .int .i64 0, .slice none 0 0] 26))
                  have HElt := Lib.hid (lt_of_block KR.out)
                  have HElo0 := Lib.hid HQu.out.size
                  replace HON := Lib.hid (HON.out.next hb)
                  replace HUb := Lib.hid (HUb.out.next hb)
                  replace HEb := Lib.hid (Nat.le_trans HEb.out hb.size)
                  replace HQu := Lib.hid (HQu.out.trans (hb.mono HQu.out.size))
                  replace HA := Lib.hid (HA.out.behind (hb.mono HB.out.size))
                  replace KS := Lib.hid (rstand KS.out hb)
                  replace KR := Lib.hid (rstand KR.out hb)
                  replace HO := Lib.hid (HO.out.next hb)
                  replace HI := Lib.hid (HI.out.next hb)
                  replace HB := Lib.hid (HB.out.trans (hb.mono HB.out.size))
                  clear hb s0
                  have hcu := HCu.out _ HQu.out
                  have s0 := And.intro (rcs KR.out).1 (And.intro (rcs KR.out).2.1 (And.intro (rcs KR.out).2.2 hcu))
                  clear hcu
                  refine hK.out _ _ (Or.inr s0) ?_
                  clear hK K
                  try simp only [Act.put, List.setIfInBounds_toArray, List.set_cons_zero, List.set_cons_succ]
                  obtain ⟨wa, hwa⟩ : ∃ x, x = w4.alloc (.cells #[.int .i64 0, .int .i64 0, .slice none 0 0] 26) := ⟨_, rfl⟩
                  obtain ⟨E, hE⟩ : ∃ x, x = w4.heap.size := ⟨_, rfl⟩
                  rw [← hwa] at HEz HA KS KR HO HI HON HUb HB HEb HQu s0 ⊢
                  rw [← hE] at HEz HElt HElo0 ⊢
                  have HE := HEz
                  clear hwa hE HEz
                  have HElo := HElo0
                  obtain ⟨wz, hwz⟩ : ∃ x, x = wa := ⟨_, rfl⟩
                  rw [← hwz] at HE HA KS KR HO HI HON HUb HB HEb HQu s0 ⊢
                  clear hwz
                  obtain ⟨q0, q1, q2⟩ := rcs HE.out
                  obtain ⟨f0, f1, f2⟩ := rfr HE.out
                  obtain ⟨k9, g9⟩ := rst HE.out (.int .i64 x) (.int .i64 (n : Int)) (.slice aN lN nN)
                  have HEq := Lib.hid HE.out
                  have hON := HON.out.kept g9 (Or.inr (fun hh => owns_ne_box (by decide) HON.out HEq.out _ hh rfl))
                  have hUb := HUb.out.kept g9 (Or.inr (fun hh => own_ne_boxR (by decide) HUb.out HEq.out _ hh rfl))
                  have hQ9 := HQu.out.grown g9 HQu.out.size (fun k hk => by injection hk with hk; have := HElo.out; omega)
                  replace HEb := Lib.hid (Nat.le_trans HEb.out g9.size)
                  replace HA := Lib.hid (HA.out.behind ((Below.refl w.heap.size _).grown g9 HB.out.size (fun k hk => by injection hk with hk; have := HElt.out; have := HSl.out; have := HS0.out; omega)))
                  replace KS := Lib.hid ((g9.block _ (lt_of_block KS.out) (fun h => by injection h with h; have h1 := HElt.out; have h2 := HSl.out; omega)).trans KS.out)
                  replace KR := Lib.hid ((g9.block _ (lt_of_block KR.out) (fun h => by injection h with h; have h1 := HElt.out; omega)).trans KR.out)
                  replace HO := Lib.hid (HO.out.kept g9 (Or.inr (fun hh => owns_ne_box (by decide) HO.out HEq.out _ hh rfl)))
                  replace HI := Lib.hid (HI.out.kept g9 (Or.inr (fun hh => own_ne_boxR (by decide) HI.out HEq.out _ hh rfl)))
                  replace HB := Lib.hid (HB.out.grown g9 HB.out.size (fun k hk => by injection hk with hk; have := HElt.out; have := HSl.out; have := HS0.out; omega))
                  have hcu := HCu.out _ hQ9
                  have s9 := And.intro (rcs KR.out).1 (And.intro (rcs KR.out).2.1 (And.intro (rcs KR.out).2.2 hcu))
                  have HK9 := Lib.hid k9
                  have HON9 := Lib.hid hON
                  have HUb9 := Lib.hid hUb
                  clear k9 g9 hON hUb hQ9 hcu s0
                  apply Till.one (i := 11)
                  · kernel_rfl
                  · simp only [List.getElem?_toArray, List.getElem?_cons_succ, List.getElem?_cons_zero]
                    rfl
                  intro K hK
                  go_simp
                  skip
                  refine hK.out _ _ (Or.inr s9) ?_
                  clear hK K
                  try simp only [Act.put, List.setIfInBounds_toArray, List.set_cons_zero, List.set_cons_succ]
                  apply Till.one (i := 12)
                  · kernel_rfl
                  · simp only [List.getElem?_toArray, List.getElem?_cons_succ, List.getElem?_cons_zero]
                    rfl
                  intro K hK
                  go_simp
                  skip
                  refine hK.out _ _ (Or.inr s9) ?_
                  clear hK K
                  try simp only [Act.put, List.setIfInBounds_toArray, List.set_cons_zero, List.set_cons_succ]
                  apply Till.one (i := 13)
                  · kernel_rfl
                  · simp only [List.getElem?_toArray, List.getElem?_cons_succ, List.getElem?_cons_zero]
                    rfl
                  intro K hK
                  go_simp
                  skip
                  refine hK.out _ _ (Or.inl (by rfl)) ?_
                  clear hK K
                  try simp only [Act.put, List.setIfInBounds_toArray, List.set_cons_zero, List.set_cons_succ]
                  refine Till.done (by kernel_rfl) ?_ _
                  clear q0 q1 q2 f0 f1 f2 s9
                  obtain ⟨wy, hwy⟩ : ∃ zz, zz = ((wz.setCell ⟨E, 0, none⟩ (.int .i64 x)).setCell ⟨E, 1, none⟩ (.int .i64 (n : Int))).setCell ⟨E, 2, none⟩ (.slice aN lN nN) := ⟨_, rfl⟩
                  rw [← hwy] at HK9 HON9 HUb9 HB HEb HA KS KR HO HI ⊢
                  clear hwy
                  go_wp2_with fail
                  go_meet
                  case rel => exact ⟨_, rfl, rfl, HI.out, KR.out, HO.out, KS.out, HEb.out, HB.out⟩
                · intro K0 hK
                  go_simp
                  have hb : Below wd.heap.size wd (wd.alloc (.cells #[.int .i64 0, .int .i64 0, .slice none 0 0] 26)) := (Below.refl _ _).alloc (Nat.le_refl _) _
                  have HEz := Lib.hid (heap_alloc_new wd (.cells #[.int .i64 0, .int .i64 0, .slice none 0 0] 26))
                  have HElt := Lib.hid (lt_of_block KR.out)
                  have HElo0 := Lib.hid HQu.out.size
                  replace HEb := Lib.hid (Nat.le_trans HEb.out hb.size)
                  replace HQu := Lib.hid (HQu.out.trans (hb.mono HQu.out.size))
                  replace HA := Lib.hid (HA.out.behind (hb.mono HB.out.size))
                  replace KS := Lib.hid (rstand KS.out hb)
                  replace KR := Lib.hid (rstand KR.out hb)
                  replace HO := Lib.hid (HO.out.next hb)
                  replace HI := Lib.hid (HI.out.next hb)
                  replace HB := Lib.hid (HB.out.trans (hb.mono HB.out.size))
                  clear hb s0
                  have hcu := HCu.out _ HQu.out
                  have s0 := And.intro (rcs KR.out).1 (And.intro (rcs KR.out).2.1 (And.intro (rcs KR.out).2.2 hcu))
                  clear hcu
                  refine hK.out _ _ (Or.inr s0) ?_
                  clear hK K0
                  try simp only [Act.put, List.setIfInBounds_toArray, List.set_cons_zero, List.set_cons_succ]
                  obtain ⟨wa, hwa⟩ : ∃ x, x = wd.alloc (.cells #[.int .i64 0, .int .i64 0, .slice none 0 0] 26) := ⟨_, rfl⟩
                  obtain ⟨E, hE⟩ : ∃ x, x = wd.heap.size := ⟨_, rfl⟩
                  rw [← hwa] at HEz HA KS KR HO HI HB HEb HQu s0 ⊢
                  rw [← hE] at HEz HElt ⊢
                  have HE := HEz
                  have HEd : Hid (E = wd.heap.size) := Lib.hid hE
                  clear hwa hE HEz
                  have HElo : Hid (wd.heap.size ≤ E) := Lib.hid (Nat.le_of_eq HEd.out.symm)
                  apply Till.one (i := 5)
                  · kernel_rfl
                  · simp only [List.getElem?_toArray, List.getElem?_cons_succ, List.getElem?_cons_zero]
                    rfl
                  intro K hK
                  go_simp
                  have hkf := impl_kf (t := (k : Int)) HO.out.rd (Nat.le_refl _) HXW.out HNW.out HKW.out HKL.out
                  rw [HZ9.out.1, HZ9.out.2.1, HZ9.out.2.2.1, HZ9.out.2.2.2, HQs.out] at hkf
                  refine hkf.mono ?_
                  clear hkf
                  rintro e' w4 ⟨vN, he, hON, hb⟩
                  subst he
                  obtain ⟨aN, nN, hvN, _⟩ := hON.open
                  obtain ⟨lN, hlN⟩ : ∃ l, l = Kn.length := ⟨_, rfl⟩
                  rw [← hlN] at hvN
                  subst hvN
                  clear hlN
                  have HON := Lib.hid (hON.mono (B' := w.heap.size) HB.out.size)
                  have HUb := Lib.hid (Own.nil 5 .u8 (B := w.heap.size) (w := w4) (Nat.le_trans HB.out.size hb.size))
                  clear hON
                  replace HE := Lib.hid (rstand HE.out hb)
                  replace HEb := Lib.hid (Nat.le_trans HEb.out hb.size)
                  replace HQu := Lib.hid (HQu.out.trans (hb.mono HQu.out.size))
                  replace HA := Lib.hid (HA.out.behind (hb.mono HB.out.size))
                  replace KS := Lib.hid (rstand KS.out hb)
                  replace KR := Lib.hid (rstand KR.out hb)
                  replace HO := Lib.hid (HO.out.next hb)
                  replace HI := Lib.hid (HI.out.next hb)
                  replace HB := Lib.hid (HB.out.trans (hb.mono HB.out.size))
                  clear hb s0
                  have hcu := HCu.out _ HQu.out
                  have s0 := And.intro (rcs KR.out).1 (And.intro (rcs KR.out).2.1 (And.intro (rcs KR.out).2.2 hcu))
                  clear hcu
                  refine hK.out _ _ (Or.inr s0) ?_
                  clear hK K
                  try simp only [Act.put, List.setIfInBounds_toArray, List.set_cons_zero, List.set_cons_succ]
                  apply Till.take (i := 6) [6, 9, 13]
                  · simp only [List.getElem?_toArray, List.getElem?_cons_succ, List.getElem?_cons_zero]
                    rfl
                  · kernel_rfl
                  · kernel_rfl
                  · kernel_rfl
                  · kernel_rfl
                  · exact fun _ _ _ h => h
                  · first
                      | exact Or.inr ⟨by rfl, rfl⟩
                      | (refine Or.inl ⟨by rfl, fun wq hwq => ?_⟩
                         dsimp only at hwq
                         go_simp
                         first
                           | done
                           | rfl)
                  · exact s0
                  simp only [Act.put, List.setIfInBounds_toArray, List.set_cons_zero, List.set_cons_succ]
                  apply Till.take (i := 7) [7, 11, 12, 13]
                  · simp only [List.getElem?_toArray, List.getElem?_cons_succ, List.getElem?_cons_zero]
                    rfl
                  · kernel_rfl
                  · kernel_rfl
                  · kernel_rfl
                  · kernel_rfl
                  · exact fun _ _ _ h => h
                  · first
                      | exact Or.inr ⟨by rfl, rfl⟩
                      | (refine Or.inl ⟨by rfl, fun wq hwq => ?_⟩
                         dsimp only at hwq
                         go_simp
                         first
                           | done
                           | rfl)
                  · exact s0
                  simp only [Act.put, List.setIfInBounds_toArray, List.set_cons_zero, List.set_cons_succ]
                  apply Till.take (i := 8) [8, 12, 13]
                  · simp only [List.getElem?_toArray, List.getElem?_cons_succ, List.getElem?_cons_zero]
                    rfl
                  · kernel_rfl
                  · kernel_rfl
                  · kernel_rfl
                  · kernel_rfl
                  · exact fun _ _ _ h => h
                  · first
                      | exact Or.inr ⟨by rfl, rfl⟩
                      | (refine Or.inl ⟨by rfl, fun wq hwq => ?_⟩
                         dsimp only at hwq
                         go_simp
                         first
                           | done
                           | rfl)
                  · exact s0
                  simp only [Act.put, List.setIfInBounds_toArray, List.set_cons_zero, List.set_cons_succ]
                  apply Till.take (i := 9) [9, 13]
                  · simp only [List.getElem?_toArray, List.getElem?_cons_succ, List.getElem?_cons_zero]
                    rfl
                  · kernel_rfl
                  · kernel_rfl
                  · kernel_rfl
                  · kernel_rfl
                  · exact fun _ _ _ h => h
                  · first
                      | exact Or.inr ⟨by rfl, rfl⟩
                      | (refine Or.inl ⟨by rfl, fun wq hwq => ?_⟩
                         dsimp only at hwq
                         go_simp
                         first
                           | done
                           | rfl)
                  · exact s0
                  simp only [Act.put, List.setIfInBounds_toArray, List.set_cons_zero, List.set_cons_succ]
                  obtain ⟨wz, hwz⟩ : ∃ x, x = w4 := ⟨_, rfl⟩
                  rw [← hwz] at HE HA KS KR HO HI HON HUb HB HEb HQu s0 ⊢
                  clear hwz
                  obtain ⟨q0, q1, q2⟩ := rcs HE.out
                  obtain ⟨f0, f1, f2⟩ := rfr HE.out
                  obtain ⟨k9, g9⟩ := rst HE.out (.int .i64 x) (.int .i64 (n : Int)) (.slice aN lN nN)
                  have HEq := Lib.hid HE.out
                  have hON := HON.out.kept g9 (Or.inr (fun hh => owns_ne_box (by decide) HON.out HEq.out _ hh rfl))
                  have hUb := HUb.out.kept g9 (Or.inr (fun hh => own_ne_boxR (by decide) HUb.out HEq.out _ hh rfl))
                  have hQ9 := HQu.out.grown g9 HQu.out.size (fun k hk => by injection hk with hk; have := HElo.out; omega)
                  replace HEb := Lib.hid (Nat.le_trans HEb.out g9.size)
                  replace HA := Lib.hid (HA.out.behind ((Below.refl w.heap.size _).grown g9 HB.out.size (fun k hk => by injection hk with hk; have := HElt.out; have := HSl.out; have := HS0.out; omega)))
                  replace KS := Lib.hid ((g9.block _ (lt_of_block KS.out) (fun h => by injection h with h; have h1 := HElt.out; have h2 := HSl.out; omega)).trans KS.out)
                  replace KR := Lib.hid ((g9.block _ (lt_of_block KR.out) (fun h => by injection h with h; have h1 := HElt.out; omega)).trans KR.out)
                  replace HO := Lib.hid (HO.out.kept g9 (Or.inr (fun hh => owns_ne_box (by decide) HO.out HEq.out _ hh rfl)))
                  replace HI := Lib.hid (HI.out.kept g9 (Or.inr (fun hh => own_ne_boxR (by decide) HI.out HEq.out _ hh rfl)))
                  replace HB := Lib.hid (HB.out.grown g9 HB.out.size (fun k hk => by injection hk with hk; have := HElt.out; have := HSl.out; have := HS0.out; omega))
                  have hcu := HCu.out _ hQ9
                  have s9 := And.intro (rcs KR.out).1 (And.intro (rcs KR.out).2.1 (And.intro (rcs KR.out).2.2 hcu))
                  have HK9 := Lib.hid k9
                  have HON9 := Lib.hid hON
                  have HUb9 := Lib.hid hUb
                  clear k9 g9 hON hUb hQ9 hcu s0
                  apply Till.one (i := 11)
                  · kernel_rfl
                  · simp only [List.getElem?_toArray, List.getElem?_cons_succ, List.getElem?_cons_zero]
                    rfl
                  intro K hK
                  go_simp
                  skip
                  refine hK.out _ _ (Or.inr s9) ?_
                  clear hK K
                  try simp only [Act.put, List.setIfInBounds_toArray, List.set_cons_zero, List.set_cons_succ]
                  apply Till.one (i := 12)
                  · kernel_rfl
                  · simp only [List.getElem?_toArray, List.getElem?_cons_succ, List.getElem?_cons_zero]
                    rfl
                  intro K hK
                  go_simp
                  skip
                  refine hK.out _ _ (Or.inr s9) ?_
                  clear hK K
                  try simp only [Act.put, List.setIfInBounds_toArray, List.set_cons_zero, List.set_cons_succ]
                  apply Till.one (i := 13)
                  · kernel_rfl
                  · simp only [List.getElem?_toArray, List.getElem?_cons_succ, List.getElem?_cons_zero]
                    rfl
                  intro K hK
                  go_simp
                  skip
                  refine hK.out _ _ (Or.inl (by rfl)) ?_
                  clear hK K
                  try simp only [Act.put, List.setIfInBounds_toArray, List.set_cons_zero, List.set_cons_succ]
                  refine Till.done (by kernel_rfl) ?_ _
                  clear q0 q1 q2 f0 f1 f2 s9
                  obtain ⟨wy, hwy⟩ : ∃ zz, zz = ((wz.setCell ⟨E, 0, none⟩ (.int .i64 x)).setCell ⟨E, 1, none⟩ (.int .i64 (n : Int))).setCell ⟨E, 2, none⟩ (.slice aN lN nN) := ⟨_, rfl⟩
                  rw [← hwy] at HK9 HON9 HUb9 HB HEb HA KS KR HO HI ⊢
                  clear hwy
                  go_wp2_with fail
                  go_meet
                  case rel => exact ⟨_, rfl, rfl, HI.out, KR.out, HO.out, KS.out, HEb.out, HB.out⟩
              case rest =>
                obtain ⟨wx, hWW, rfl, hI, hR, hO, hS, hE1, hB⟩ := hcut
                subst hWW
                replace KR := Lib.hid hR
                replace KS := Lib.hid hS
                replace HO := Lib.hid hO
                replace HI := Lib.hid hI
                replace HEb := Lib.hid hE1
                replace HB := Lib.hid hB
                clear hR hS hO hI hE1 hB
                go_wp2_with fail
                go_roundw
                case rel =>
                  repeat apply Exists.intro
                  refine ⟨?_, rfl⟩
                  exact ⟨j + 1, by simp, hlt, HI.out, by rw [← HX.out]; exact KR.out, by rw [← HKn.out]; exact HO.out, KS.out, HEb.out, HB.out⟩
                case measure => simp [intOf]; omega
            · have e1 : decide ((j : Int) < (seen.length : Int)) = false := by simp; omega
              obtain ⟨ch, hch⟩ : ∃ c, c = chn c0 8 := ⟨_, rfl⟩
              obtain ⟨m1, hm1⟩ : ∃ m, m = mky ch := ⟨_, rfl⟩
              obtain ⟨n1, hn1⟩ : ∃ m, m = nxc ch := ⟨_, rfl⟩
              have hcb := chn_bound HCb.out 8
              rw [← hch] at KS HAp hcb
              rw [← hm1, ← hn1] at HAp
              have hne : (m1 != n1) = true := bne_iff_ne.2 HAp.out
              have Hm1 := Lib.hid hm1
              have Hn1 := Lib.hid hn1
              have HchW : Hid ((Lit.int .i64 ch).wf = true) := Lib.hid (wf_i64_of (by omega) (by omega))
              clear hch hm1 hn1 hcb
              go_wp2_with fail
              replace KS : Hid (wr.drew.heap[S0]? = some (.cells #[.int .i64 ch, .int .i64 8, .slice aS 0 nS] 26)) := Lib.hid KS.out
              replace HB := Lib.hid HB.out.drew
              obtain ⟨t0, t1, t2⟩ := rcs KS.out
              go_region_with (first
                | (go_at_call 15
                   go_loud (refine (impl_mky HchW.out).mono ?_
                            rintro e' wa ⟨he, hb⟩
                            rw [← Hm1.out] at he
                            subst he
                            replace KS := Lib.hid (rstand KS.out hb)
                            replace HB := Lib.hid (HB.out.trans (hb.mono HB.out.size))
                            obtain ⟨t0, t1, t2⟩ := rcs KS.out
                            clear hb))
                | (go_at_call 16
                   go_loud (refine (impl_nx HchW.out).mono ?_
                            rintro e' wa ⟨he, hb⟩
                            rw [← Hn1.out] at he
                            subst he
                            replace KS := Lib.hid (rstand KS.out hb)
                            replace HB := Lib.hid (HB.out.trans (hb.mono HB.out.size))
                            obtain ⟨t0, t1, t2⟩ := rcs KS.out
                            clear hb)))
              all_goals (
                go_wp2_with fail
                go_ret
                exact ⟨rfl, HB.out⟩)

end Go.Proofs.YtjbkhbbchacooaaGreatDoor
