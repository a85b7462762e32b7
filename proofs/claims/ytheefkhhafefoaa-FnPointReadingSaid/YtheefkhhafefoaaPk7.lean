/- EqualPointKeys and EncodePointKey, the program's and the document's. No conditions but numbers that a machine holds. -/
import Derived.Test.YtheefkhhafefoaaPk6
import Derived.Test.YtheefkhhafefoaaEnc2
import Derived.Test.YtheefkhhafefoaaBa2
namespace Go.Proofs.Ytheefkhhafefoaa
open Go Go.RowKit
set_option linter.unusedVariables false
attribute [local irreducible] kh

def epk (ra ba : Int) (cs : List Cor) (rb bb : Int) (ds : List Cor) : Bool := (ra == rb) && ((ba == bb) && decide (cs = ds))

set_option maxHeartbeats 4000000 in
/-- impl.EqualPointKeys -/
theorem impl_epk {l1 l2 : Nat} {w : World} {e1 e2 : TypeId} {a a' : Option Addr} {cap cap' : Nat} {xs ys : List Cor} {ra ba rb bb : Int} (hu : (sliceT e1 tyCorrection).rd l1 w [.slice a xs.length cap] xs) (hv : (sliceT e2 tyCorrection).rd l2 w [.slice a' ys.length cap'] ys) (hl1 : l1 ≤ w.heap.size) (hl2 : l2 ≤ w.heap.size) :
    Calls Try.prog 22 #[.agg #[.int .i64 ra, .int .i64 ba, .slice a xs.length cap], .agg #[.int .i64 rb, .int .i64 bb, .slice a' ys.length cap']] w fun e w' => e = .returned (.bool (epk ra ba xs rb bb ys)) ∧ Below w.heap.size w w' := by
  have HB := Lib.hid (((Below.refl w.heap.size w).alloc (Nat.le_refl _) (.cells #[.int .i64 ra, .int .i64 ba, .slice a xs.length cap] 27)).alloc (by simp) (.cells #[.int .i64 rb, .int .i64 bb, .slice a' ys.length cap'] 27))
  have HU := Lib.hid ((sliceT e1 tyCorrection).behind hu (HB.out.mono hl1))
  have HV := Lib.hid ((sliceT e2 tyCorrection).behind hv (HB.out.mono hl2))
  obtain ⟨q, hq⟩ : ∃ q, q = epk ra ba xs rb bb ys := ⟨_, rfl⟩
  rw [← hq]
  obtain ⟨v1, hv1⟩ : ∃ v, (ra == rb) = v := ⟨_, rfl⟩
  obtain ⟨v2, hv2⟩ : ∃ v, (ba == bb) = v := ⟨_, rfl⟩
  obtain ⟨v3, hv3⟩ : ∃ v, v = decide (xs = ys) := ⟨_, rfl⟩
  have HE : Hid (q = (v1 && (v2 && v3))) := Lib.hid (by rw [hq, ← hv1, ← hv2, hv3]; rfl)
  have H3 := Lib.hid hv3
  clear hu hv hq hv3
  cases v1 with
  | false =>
    go_enter Try.func22, Try.ntmps22
    go_wp2_with fail
    go_ret
    exact ⟨by rw [HE.out]; rfl, HB.out⟩
  | true =>
    cases v2 with
    | false =>
      go_enter Try.func22, Try.ntmps22
      go_wp2_with fail
      go_ret
      exact ⟨by rw [HE.out]; rfl, HB.out⟩
    | true =>
      go_enter Try.func22, Try.ntmps22
      go_wp2_with fail
      refine (eqC_any HU.out HV.out (Nat.le_trans hl1 HB.out.size) (Nat.le_trans hl2 HB.out.size)).mono ?_
      rw [← H3.out]
      rintro e w1 ⟨rfl, hb⟩
      replace HB := Lib.hid (HB.out.trans (hb.mono HB.out.size))
      clear hb
      go_wp2_with fail
      go_ret
      exact ⟨by rw [HE.out]; cases v3 <;> rfl, HB.out⟩

set_option maxHeartbeats 4000000 in
/-- spec.EqualPointKeys -/
theorem spec_epk {l1 l2 : Nat} {w : World} {e1 e2 : TypeId} {a a' : Option Addr} {cap cap' : Nat} {xs ys : List Cor} {ra ba rb bb : Int} (hu : (sliceT e1 tyCorrection).rd l1 w [.slice a xs.length cap] xs) (hv : (sliceT e2 tyCorrection).rd l2 w [.slice a' ys.length cap'] ys) (hl1 : l1 ≤ w.heap.size) (hl2 : l2 ≤ w.heap.size) :
    Calls Try.prog 49 #[.agg #[.int .i64 ra, .int .i64 ba, .slice a xs.length cap], .agg #[.int .i64 rb, .int .i64 bb, .slice a' ys.length cap']] w fun e w' => e = .returned (.bool (epk ra ba xs rb bb ys)) ∧ Below w.heap.size w w' := by
  have hm1 := sl_len hu
  have hm2 := sl_len hv
  obtain ⟨_, _, hq1, h1, h2, hc⟩ := sl_open hu
  injection hq1 with hq1
  injection hq1 with p1 p2 p3
  subst p1
  subst p3
  obtain ⟨_, _, hq1, h1', h2', hc'⟩ := sl_open hv
  injection hq1 with hq1
  injection hq1 with p1 p2' p3
  subst p1
  subst p3
  have Hc := Lib.hid hc
  have Hc' := Lib.hid hc'
  unfold maxLen at h2 h2' hm1 hm2
  have HB := Lib.hid (((Below.refl w.heap.size w).alloc (Nat.le_refl _) (.cells #[.int .i64 ra, .int .i64 ba, .slice a xs.length cap] 27)).alloc (by simp) (.cells #[.int .i64 rb, .int .i64 bb, .slice a' ys.length cap'] 27))
  have K := blocks2T w (.cells #[.int .i64 ra, .int .i64 ba, .slice a xs.length cap] 27) (.cells #[.int .i64 rb, .int .i64 bb, .slice a' ys.length cap'] 27)
  have KA := Lib.hid K.1
  have KB := Lib.hid K.2
  obtain ⟨q, hq⟩ : ∃ q, q = epk ra ba xs rb bb ys := ⟨_, rfl⟩
  rw [← hq]
  obtain ⟨v1, hv1⟩ : ∃ v, (ra == rb) = v := ⟨_, rfl⟩
  obtain ⟨v2, hv2⟩ : ∃ v, (ba == bb) = v := ⟨_, rfl⟩
  have HE : Hid (q = (v1 && (v2 && decide (xs = ys)))) := Lib.hid (by rw [hq, ← hv1, ← hv2]; rfl)
  have n1 : (ra != rb) = !v1 := by rw [← hv1]; rfl
  have n2 : (ba != bb) = !v2 := by rw [← hv2]; rfl
  clear hu hv hq hc hc' p2 p2' K hv1 hv2
  cases v1 with
  | false =>
    go_enter Try.func49, Try.ntmps49
    go_wp2_with fail
    go_ret
    exact ⟨by rw [HE.out]; rfl, HB.out⟩
  | true =>
    cases v2 with
    | false =>
      go_enter Try.func49, Try.ntmps49
      go_wp2_with fail
      go_ret
      exact ⟨by rw [HE.out]; rfl, HB.out⟩
    | true =>
      by_cases hn : xs.length = ys.length
      · have HN := Lib.hid hn
        have e0 : ((xs.length : Int) != (ys.length : Int)) = false := by simp; omega
        have hle : xs.length ≤ ys.length := by omega
        have HQ2 : Hid (q = decide (xs = ys)) := Lib.hid (by rw [HE.out]; rfl)
        clear hn
        go_enter Try.func49, Try.ntmps49
        go_wp2_with fail
        go_loopw [5] (fun i wr => ∃ j : Nat, i = .int .i64 j ∧ j ≤ xs.length ∧ (∀ i, i < j → xs[i]? = ys[i]?) ∧ wr.heap[w.heap.size]? = some (.cells #[.int .i64 ra, .int .i64 ba, .slice a xs.length cap] 27) ∧ wr.heap[w.heap.size + 1]? = some (.cells #[.int .i64 rb, .int .i64 bb, .slice a' ys.length cap'] 27) ∧ Below w.heap.size w wr) (fun i _ => xs.length - (intOf i).toNat)
        case atStart => exact ⟨0, rfl, Nat.zero_le _, fun i hi => by omega, KA.out, KB.out, HB.out⟩
        case round =>
          obtain ⟨j, rfl, hj, hall, hKA, hKB, hB⟩ := hrel
          replace HB := Lib.hid hB
          replace KA := Lib.hid hKA
          replace KB := Lib.hid hKB
          have HA := Lib.hid hall
          have k2 := blk_cell hKA 2
          have m2 := blk_cell hKB 2
          rw [th2] at k2 m2
          clear hB hall hKA hKB
          by_cases hlt : j < xs.length
          · have e1 : decide ((j : Int) < (xs.length : Int)) = true := by simp; omega
            have hlt2 : j < ys.length := by omega
            have ej1 : (j : Int) < (xs.length : Int) := by omega
            have ej2 : (j : Int) < (ys.length : Int) := by omega
            obtain ⟨b, o, rfl, hbl, hcell⟩ := Hc.out (by omega)
            obtain ⟨b', o', rfl, hbl', hcell'⟩ := Hc'.out (by omega)
            obtain ⟨x, hx⟩ : ∃ x, xs[j]? = some x := ⟨_, List.getElem?_eq_getElem hlt⟩
            obtain ⟨y, hy⟩ : ∃ y, ys[j]? = some y := ⟨_, List.getElem?_eq_getElem hlt2⟩
            obtain ⟨c, hr, hcl⟩ := hcell wr (HB.out.mono hl1) j x hx
            obtain ⟨c', hr', hcl'⟩ := hcell' wr (HB.out.mono hl2) j y hy
            obtain rfl := (rd_Correction hr).1
            obtain rfl := (rd_Correction hr').1
            have c0 : wr.cell? ⟨b, o + j * 3, none⟩ = _ := hcl 0 _ rfl
            have c1 : wr.cell? ⟨b, o + j * 3 + 1, none⟩ = _ := hcl 1 _ rfl
            have c2 : wr.cell? ⟨b, o + j * 3 + 2, none⟩ = _ := hcl 2 _ rfl
            have d0 : wr.cell? ⟨b', o' + j * 3, none⟩ = _ := hcl' 0 _ rfl
            have d1 : wr.cell? ⟨b', o' + j * 3 + 1, none⟩ = _ := hcl' 1 _ rfl
            have d2 : wr.cell? ⟨b', o' + j * 3 + 2, none⟩ = _ := hcl' 2 _ rfl
            have HX := Lib.hid hx
            have HY := Lib.hid hy
            clear hcell hcell' hr hr' hcl hcl' hx hy
            have hq := fun w' => eq_cor w' x y
            by_cases hxy : x = y
            · have e9 : decide (x = y) = true := by simpa using hxy
              have HXY := Lib.hid hxy
              clear hxy
              go_wp2_with fail
              go_quiet (fail)
              go_wp2_with fail
              go_roundw
              case rel => exact ⟨j + 1, by simp, hlt, fun i hi => by
                by_cases hij : i = j
                · rw [hij, HX.out, HY.out, HXY.out]
                · exact HA.out i (by omega), KA.out, KB.out, HB.out.trans (below_drewN ⟨_, rfl⟩)⟩
              case measure => simp [intOf]; omega
            · have e9 : decide (x = y) = false := by simpa using hxy
              have HF : Hid (q = false) := Lib.hid (by rw [HQ2.out]; exact cors_ne HX.out HY.out hxy)
              clear hxy
              go_wp2_with fail
              go_quiet (fail)
              go_wp2_with fail
              go_ret
              exact ⟨by rw [HF.out]; rfl, HB.out.trans (below_drewN ⟨_, rfl⟩)⟩
          · have e1 : decide ((j : Int) < (xs.length : Int)) = false := by simp; omega
            have HF : Hid (q = true) := Lib.hid (by rw [HQ2.out, decide_eq_true]; exact cors_eq HN.out (fun i hi => HA.out i (by omega)))
            go_wp2_with fail
            go_ret
            exact ⟨by rw [HF.out]; rfl, HB.out⟩
      · have e0 : ((xs.length : Int) != (ys.length : Int)) = true := by simp; omega
        have HF : Hid (q = false) := Lib.hid (by rw [HE.out, show decide (xs = ys) = false from decide_eq_false_iff_not.2 fun e => hn (by rw [e])]; rfl)
        clear hn
        go_enter Try.func49, Try.ntmps49
        go_wp2_with fail
        go_ret
        exact ⟨by rw [HF.out]; rfl, HB.out⟩

/-! ### EncodePointKey -/

theorem Own.lits3 {B : Nat} {w : World} {x y z : Int} (e : TypeId) (hB : B ≤ w.heap.size) (hx : (Lit.int .i64 x).wf = true) (hy : (Lit.int .i64 y).wf = true) (hz : (Lit.int .i64 z).wf = true) : Own e .i64 B (w.alloc (.cells #[.int .i64 x, .int .i64 y, .int .i64 z] e)) (.slice (some ⟨w.heap.size, 0, none⟩) 3 3) [x, y, z] :=
  ⟨by intro u hu; simp at hu; rcases hu with rfl | rfl | rfl; exact hx; exact hy; exact hz, by simp; omega, World.ownsRow_lit w #[.int .i64 x, .int .i64 y, .int .i64 z] 3 hB (by unfold maxLen; omega) rfl⟩
theorem enc_no {r b : Int} {cs : List Cor} (h : vk r b cs = false) : (if vk r b cs = true then enc (pkInts r b cs) else []) = [] := by rw [h]; rfl
def epkBytes (r b : Int) (cs : List Cor) : List Int := if vk r b cs = true then enc (pkInts r b cs) else []

set_option maxHeartbeats 4000000 in
/-- impl.EncodePointKey -/
theorem impl_enk {l : Nat} {w : World} {e0 : TypeId} {a : Option Addr} {cap : Nat} {cs : List Cor} {r b : Int} (h : (sliceT e0 tyCorrection).rd l w [.slice a cs.length cap] cs) (hl : l ≤ w.heap.size) (hr : (Lit.int .i64 r).wf = true) (hb : (Lit.int .i64 b).wf = true) :
    Calls Try.prog 23 #[.agg #[.int .i64 r, .int .i64 b, .slice a cs.length cap]] w fun e w' => ∃ v', e = .returned v' ∧ Own 5 .u8 w.heap.size w' v' (epkBytes r b cs) ∧ Below w.heap.size w w' := by
  obtain ⟨i0, hi, hz0, hz1, hz2⟩ := info_parts infoi64
  have Hhi := Lib.hid hi
  obtain ⟨q, hq⟩ : ∃ q, q = epkBytes r b cs := ⟨_, rfl⟩
  rw [← hq]
  have HQ := Lib.hid hq
  have HR := Lib.hid hr
  have HBi := Lib.hid hb
  have hB0 := (Below.refl w.heap.size w).alloc (Nat.le_refl _) (.cells #[.int .i64 r, .int .i64 b, .slice a cs.length cap] 27)
  have hK0 := heap_alloc_new w (.cells #[.int .i64 r, .int .i64 b, .slice a cs.length cap] 27)
  obtain ⟨W0, hW0⟩ : ∃ W, W = w.alloc (.cells #[.int .i64 r, .int .i64 b, .slice a cs.length cap] 27) := ⟨_, rfl⟩
  rw [← hW0] at hB0 hK0
  have HB := Lib.hid hB0
  have HK := Lib.hid hK0
  have HW0 := Lib.hid hW0
  have H := Lib.hid h
  clear h hr hb hq hi hB0 hK0 hW0
  go_enter Try.func23, Try.ntmps23
  go_wp2_with fail
  rw [← HW0.out]
  refine (impl_vpk ((sliceT e0 tyCorrection).behind H.out (HB.out.mono hl)) (Nat.le_trans hl HB.out.size) HR.out HBi.out).mono ?_
  cases hv : vk r b cs with
  | false =>
    have HE : Hid (q = []) := Lib.hid (by rw [HQ.out]; exact enc_no hv)
    clear hv
    rintro e w3 ⟨rfl, hb⟩
    replace HB := Lib.hid (HB.out.trans (hb.mono HB.out.size))
    clear hb
    go_wp2_with fail
    go_ret
    exact ⟨_, rfl, by rw [HE.out]; exact Own.lit _ _ HB.out.size, HB.out.alloc HB.out.size _⟩
  | true =>
    obtain ⟨h16a, h16⟩ := vk_len hv
    have HE : Hid (q = enc (pkInts r b cs)) := Lib.hid (by rw [HQ.out]; unfold epkBytes; rw [hv]; rfl)
    have HWl : Hid ((Lit.int .i64 (cs.length : Int)).wf = true) := Lib.hid (wf_i64_of (by omega) (by omega))
    have hlen6 : cs.length ≤ 6 := h16
    clear hv
    rintro e w3 ⟨rfl, hb⟩
    replace HB := Lib.hid (HB.out.trans (hb.mono HB.out.size))
    replace HK := Lib.hid ((hb.block _ (lt_of_block HK.out)).trans HK.out)
    clear hb
    have k0 := blk_cell HK.out 0
    have k1 := blk_cell HK.out 1
    have k2 := blk_cell HK.out 2
    rw [th0] at k0
    rw [th1] at k1
    rw [th2] at k2
    have hO := Own.lits3 (B := w.heap.size) (w := w3) 3 HB.out.size HR.out HBi.out HWl.out
    have hB := HB.out.alloc HB.out.size (.cells #[.int .i64 r, .int .i64 b, .int .i64 (cs.length : Int)] 3)
    have hK := (heap_alloc_old w3 (.cells #[.int .i64 r, .int .i64 b, .int .i64 (cs.length : Int)] 3) (lt_of_block HK.out)).trans HK.out
    have HO := Lib.hid hO
    replace HB := Lib.hid hB
    replace HK := Lib.hid hK
    have q0 := blk_cell hK 0
    have q1 := blk_cell hK 1
    have q2 := blk_cell hK 2
    rw [th0] at q0
    rw [th1] at q1
    rw [th2] at q2
    clear hO hB hK
    go_wp2_with fail
    clear k0 k1 k2 q0 q1 q2
    go_loopw [3, 21] (fun s i wr => ∃ j : Nat, i = .int .i64 j ∧ j ≤ cs.length ∧ Own 3 .i64 w.heap.size wr s ([r, b, (cs.length : Int)] ++ cints (cs.take j)) ∧ Below w.heap.size w wr) (fun _ i _ => cs.length - (intOf i).toNat)
    case atStart => exact ⟨0, rfl, Nat.zero_le _, by rw [List.take_zero]; exact HO.out, HB.out⟩
    case round =>
      obtain ⟨j, rfl, hj, hO, hB⟩ := hrel
      replace HO := Lib.hid hO
      replace HB := Lib.hid hB
      clear hO hB
      by_cases hlt : j < cs.length
      · have e1 : decide ((j : Int) < (cs.length : Int)) = true := by simp; omega
        obtain ⟨a', cap', hv, h1, h2, hc⟩ := sl_open H.out
        injection (List.cons.inj hv).1 with hv1 hv2 hv3
        clear hv
        subst hv1
        subst hv3
        obtain ⟨g, p, rfl, hbl, hcell⟩ := hc (by omega)
        obtain ⟨c, hcj⟩ : ∃ c, cs[j]? = some c := ⟨_, List.getElem?_eq_getElem hlt⟩
        obtain ⟨d, hrd, hcl⟩ := hcell wr (HB.out.mono hl) j c hcj
        obtain ⟨rfl, w1, w2, w3⟩ := rd_Correction hrd
        have c0 : wr.cell? ⟨g, p + j * 3, none⟩ = _ := hcl 0 _ rfl
        have c1 : wr.cell? ⟨g, p + j * 3 + 1, none⟩ = _ := hcl 1 _ rfl
        have c2 : wr.cell? ⟨g, p + j * 3 + 2, none⟩ = _ := hcl 2 _ rfl
        have HT := Lib.hid (cints_take hcj)
        have hcl2 : (cints (cs.take j)).length ≤ 18 := by rw [cints_len, List.length_take]; omega
        have HLn := Lib.hid hcl2
        have O1 := Lib.hid ((HO.out.alloc (.cells #[.int .i64 c.1, .int .i64 c.2.1, .int .i64 c.2.2] 52)).alloc (.cells #[.int .i64 c.1, .int .i64 c.2.1, .int .i64 c.2.2] 3))
        have R1 := Lib.hid (Own.lits3 (B := 0) (w := wr.alloc (.cells #[.int .i64 c.1, .int .i64 c.2.1, .int .i64 c.2.2] 52)) 3 (Nat.zero_le _) w1 w2 w3).rd
        have B1 := Lib.hid ((HB.out.alloc HB.out.size (.cells #[.int .i64 c.1, .int .i64 c.2.1, .int .i64 c.2.2] 52)).alloc (by have := HB.out.size; simp; omega) (.cells #[.int .i64 c.1, .int .i64 c.2.1, .int .i64 c.2.2] 3))
        rw [World.size_alloc, World.size_alloc] at R1
        clear hcj hrd hcl hcell hc hv2 h1 h2 hcl2 w1 w2 w3
        go_wp2_with (first | (at_builtin; refine append_rd _ rfl _ _ 31 rfl 3 i0 (.int .i64 0) 8 Try.underlying31 Hhi.out hz0 hz1 hz2 rfl (by omega) rfl O1.out rfl R1.out (by have := HLn.out; simp only [List.length_append, List.length_cons, List.length_nil]; omega) ?_))
        intro v7 w7 h7 hg7
        rw [← HT.out] at h7
        have H7 := Lib.hid h7
        have HB7 := Lib.hid (B1.out.trans (O1.out.below (Nat.le_refl _) hg7))
        clear h7 hg7
        go_wp2_with fail
        go_roundw
        case rel => exact ⟨j + 1, by simp, hlt, H7.out, HB7.out⟩
        case measure => simp [intOf]; omega
      · have e1 : decide ((j : Int) < (cs.length : Int)) = false := by simp; omega
        have HT2 : Hid ([r, b, (cs.length : Int)] ++ cints (cs.take j) = pkInts r b cs) := Lib.hid (by rw [show j = cs.length by omega, List.take_length]; rfl)
        have HL2 : Hid ((pkInts r b cs).length ≤ 1048576) := Lib.hid (by unfold pkInts; rw [List.length_append, cints_len]; simp; omega)
        rw [HT2.out] at HO
        have HRd := Lib.hid HO.out.rd
        go_wp2_with fail
        refine (impl_ei HRd.out (Nat.le_refl _) HL2.out).mono ?_
        rw [← HE.out]
        rintro e w8 ⟨v8, rfl, h8, hb8⟩
        have H8 := Lib.hid (h8.mono HB.out.size)
        have HB8 := Lib.hid (HB.out.trans (hb8.mono HB.out.size))
        clear h8 hb8
        go_wp2_with fail
        go_ret
        exact ⟨_, rfl, H8.out, HB8.out⟩

set_option maxHeartbeats 4000000 in
/-- spec.EncodePointKey -/
theorem spec_enk {l : Nat} {w : World} {e0 : TypeId} {a : Option Addr} {cap : Nat} {cs : List Cor} {r b : Int} (h : (sliceT e0 tyCorrection).rd l w [.slice a cs.length cap] cs) (hl : l ≤ w.heap.size) (hr : (Lit.int .i64 r).wf = true) (hb : (Lit.int .i64 b).wf = true) :
    Calls Try.prog 44 #[.agg #[.int .i64 r, .int .i64 b, .slice a cs.length cap]] w fun e w' => ∃ v', e = .returned v' ∧ Own 5 .u8 w.heap.size w' v' (epkBytes r b cs) ∧ Below w.heap.size w w' := by
  obtain ⟨i0, hi, hz0, hz1, hz2⟩ := info_parts infoi64
  have Hhi := Lib.hid hi
  obtain ⟨q, hq⟩ : ∃ q, q = epkBytes r b cs := ⟨_, rfl⟩
  rw [← hq]
  have HQ := Lib.hid hq
  have HR := Lib.hid hr
  have HBi := Lib.hid hb
  have hB0 := (Below.refl w.heap.size w).alloc (Nat.le_refl _) (.cells #[.int .i64 r, .int .i64 b, .slice a cs.length cap] 27)
  have hK0 := heap_alloc_new w (.cells #[.int .i64 r, .int .i64 b, .slice a cs.length cap] 27)
  obtain ⟨W0, hW0⟩ : ∃ W, W = w.alloc (.cells #[.int .i64 r, .int .i64 b, .slice a cs.length cap] 27) := ⟨_, rfl⟩
  rw [← hW0] at hB0 hK0
  have HB := Lib.hid hB0
  have HK := Lib.hid hK0
  have HW0 := Lib.hid hW0
  have H := Lib.hid h
  clear h hr hb hq hi hB0 hK0 hW0
  go_enter Try.func44, Try.ntmps44
  go_wp2_with fail
  rw [← HW0.out]
  refine (spec_vpk ((sliceT e0 tyCorrection).behind H.out (HB.out.mono hl)) (Nat.le_trans hl HB.out.size) HR.out HBi.out).mono ?_
  cases hv : vk r b cs with
  | false =>
    have HE : Hid (q = []) := Lib.hid (by rw [HQ.out]; exact enc_no hv)
    clear hv
    rintro e w3 ⟨rfl, hb⟩
    replace HB := Lib.hid (HB.out.trans (hb.mono HB.out.size))
    clear hb
    go_wp2_with fail
    go_ret
    exact ⟨_, rfl, by rw [HE.out]; exact Own.lit _ _ HB.out.size, HB.out.alloc HB.out.size _⟩
  | true =>
    obtain ⟨h16a, h16⟩ := vk_len hv
    have HE : Hid (q = enc (pkInts r b cs)) := Lib.hid (by rw [HQ.out]; unfold epkBytes; rw [hv]; rfl)
    have HWl : Hid ((Lit.int .i64 (cs.length : Int)).wf = true) := Lib.hid (wf_i64_of (by omega) (by omega))
    have hlen6 : cs.length ≤ 6 := h16
    clear hv
    rintro e w3 ⟨rfl, hb⟩
    replace HB := Lib.hid (HB.out.trans (hb.mono HB.out.size))
    replace HK := Lib.hid ((hb.block _ (lt_of_block HK.out)).trans HK.out)
    clear hb
    have k0 := blk_cell HK.out 0
    have k1 := blk_cell HK.out 1
    have k2 := blk_cell HK.out 2
    rw [th0] at k0
    rw [th1] at k1
    rw [th2] at k2
    have hO := Own.lits3 (B := w.heap.size + 1) (w := w3) 3 (lt_of_block HK.out) HR.out HBi.out HWl.out
    have hB := HB.out.alloc HB.out.size (.cells #[.int .i64 r, .int .i64 b, .int .i64 (cs.length : Int)] 3)
    have hK := (heap_alloc_old w3 (.cells #[.int .i64 r, .int .i64 b, .int .i64 (cs.length : Int)] 3) (lt_of_block HK.out)).trans HK.out
    have HO := Lib.hid hO
    replace HB := Lib.hid hB
    replace HK := Lib.hid hK
    clear hO hB hK
    go_wp2_with fail
    clear k0 k1 k2
    go_loopw [3, 4] (fun s i wr => ∃ j : Nat, i = .int .i64 j ∧ j ≤ cs.length ∧ Own 3 .i64 (w.heap.size + 1) wr s ([r, b, (cs.length : Int)] ++ cints (cs.take j)) ∧ wr.heap[w.heap.size]? = some (.cells #[.int .i64 r, .int .i64 b, .slice a cs.length cap] 27) ∧ Below w.heap.size w wr) (fun _ i _ => cs.length - (intOf i).toNat)
    case atStart => exact ⟨0, rfl, Nat.zero_le _, by rw [List.take_zero]; exact HO.out, HK.out, HB.out⟩
    case round =>
      obtain ⟨j, rfl, hj, hO, hK, hB⟩ := hrel
      replace HO := Lib.hid hO
      replace HB := Lib.hid hB
      replace HK := Lib.hid hK
      have k2 := blk_cell hK 2
      rw [th2] at k2
      clear hO hB hK
      by_cases hlt : j < cs.length
      · have e1 : decide ((j : Int) < (cs.length : Int)) = true := by simp; omega
        have hlt' : (j : Int) < (cs.length : Int) := by omega
        obtain ⟨a', cap', hv, h1, h2, hc⟩ := sl_open H.out
        injection (List.cons.inj hv).1 with hv1 hv2 hv3
        clear hv
        subst hv1
        subst hv3
        obtain ⟨g, p, rfl, hbl, hcell⟩ := hc (by omega)
        obtain ⟨c, hcj⟩ : ∃ c, cs[j]? = some c := ⟨_, List.getElem?_eq_getElem hlt⟩
        obtain ⟨d, hrd, hcl⟩ := hcell wr (HB.out.mono hl) j c hcj
        obtain ⟨rfl, w1, w2, w3'⟩ := rd_Correction hrd
        have hgw : g < w.heap.size + 1 := by omega
        have HCs : Hid (∀ w', Below (w.heap.size + 1) wr w' → w'.cell? ⟨w.heap.size, 2, none⟩ = some (.slice (some ⟨g, p, none⟩) cs.length cap) ∧ w'.cell? ⟨g, p + j * 3, none⟩ = some (.int .i64 c.1) ∧ w'.cell? ⟨g, p + j * 3 + 1, none⟩ = some (.int .i64 c.2.1) ∧ w'.cell? ⟨g, p + j * 3 + 2, none⟩ = some (.int .i64 c.2.2)) := Lib.hid (fun w' hb =>
          ⟨(blk_cell ((hb.block _ (Nat.lt_succ_self _)).trans HK.out) 2).trans (th2 _ _ _), (hb.cell (p := ⟨g, p + j * 3, none⟩) hgw).trans (hcl 0 _ rfl), (hb.cell (p := ⟨g, p + j * 3 + 1, none⟩) hgw).trans (hcl 1 _ rfl), (hb.cell (p := ⟨g, p + j * 3 + 2, none⟩) hgw).trans (hcl 2 _ rfl)⟩)
        have HT := Lib.hid (cints_take hcj)
        have hcl2 : (cints (cs.take j)).length ≤ 18 := by rw [cints_len, List.length_take]; omega
        have HLn := Lib.hid hcl2
        have O1 := Lib.hid ((HO.out.alloc (.cells #[.int .i64 c.1, .int .i64 c.2.1, .int .i64 c.2.2] 3)).drew)
        have R1 := Lib.hid (Own.lits3 (B := 0) (w := wr) 3 (Nat.zero_le _) w1 w2 w3').rd.drew
        have b1 : Below (w.heap.size + 1) wr (wr.alloc (.cells #[.int .i64 c.1, .int .i64 c.2.1, .int .i64 c.2.2] 3)).drew := ((Below.refl _ _).alloc (lt_of_block HK.out) _).drew
        have B1 := Lib.hid b1
        have d0 := HCs.out wr.drew (Below.refl _ _).drew
        have d1 := HCs.out _ b1
        clear hcj hrd hcl hcell hc hv2 h1 h2 hcl2 w1 w2 w3' b1
        go_wp2_with fail
        go_region_held3 (fun w' => w'.cell? ⟨w.heap.size, 2, none⟩ = some (.slice (some ⟨g, p, none⟩) cs.length cap) ∧ w'.cell? ⟨g, p + j * 3, none⟩ = some (.int .i64 c.1) ∧ w'.cell? ⟨g, p + j * 3 + 1, none⟩ = some (.int .i64 c.2.1) ∧ w'.cell? ⟨g, p + j * 3 + 2, none⟩ = some (.int .i64 c.2.2)) (first | assumption | go_keep) ((first
          | (go_loud (refine step_append_rd _ (by rfl) _ _ 31 (by rfl) 3 i0 (.int .i64 0) 8 Try.underlying31 Hhi.out hz0 hz1 hz2 rfl (by omega) (by rfl) O1.out (by rfl) R1.out (by have := HLn.out; simp only [List.length_append, List.length_cons, List.length_nil]; omega) ?_
                      intro v5 w5 h5 h6
                      rw [List.append_assoc, ← HT.out] at h5
                      have H5 := Lib.hid h5
                      have hb5 := B1.out.trans (O1.out.below (Nat.le_refl _) h6)
                      have d5 := HCs.out _ hb5
                      have HB5 := Lib.hid (HB.out.trans (hb5.mono (Nat.le_succ _)))
                      have HK5 := Lib.hid ((hb5.block _ (Nat.lt_succ_self _)).trans HK.out)
                      clear h5 h6 hb5))))
        clear d0 d1 d5
        go_wp2_with fail
        go_roundw
        case rel => exact ⟨j + 1, by simp, hlt, H5.out, HK5.out, HB5.out⟩
        case measure => simp [intOf]; omega
      · have e1 : decide ((j : Int) < (cs.length : Int)) = false := by simp; omega
        have HT2 : Hid ([r, b, (cs.length : Int)] ++ cints (cs.take j) = pkInts r b cs) := Lib.hid (by rw [show j = cs.length by omega, List.take_length]; rfl)
        have HL2 : Hid ((pkInts r b cs).length ≤ 1048576) := Lib.hid (by unfold pkInts; rw [List.length_append, cints_len]; simp; omega)
        rw [HT2.out] at HO
        have HRd := Lib.hid HO.out.rd
        go_wp2_with fail
        refine (spec_ei HRd.out (Nat.le_refl _) HL2.out).mono ?_
        rw [← HE.out]
        rintro e w8 ⟨v8, rfl, h8, hb8⟩
        have H8 := Lib.hid (h8.mono HB.out.size)
        have HB8 := Lib.hid (HB.out.trans (hb8.mono HB.out.size))
        clear h8 hb8
        go_wp2_with fail
        go_ret
        exact ⟨_, rfl, H8.out, HB8.out⟩

end Go.Proofs.Ytheefkhhafefoaa
