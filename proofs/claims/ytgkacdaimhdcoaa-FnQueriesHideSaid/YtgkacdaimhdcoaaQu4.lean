/- ExplainSelections, the program's and the document's: what each gives. No conditions but a size that a machine holds. -/
import Derived.Test.YtgkacdaimhdcoaaQu1
namespace Go.Proofs.Ytgkacdaimhdcoaa
open Go Go.RowKit
set_option linter.unusedVariables false
attribute [local irreducible] kh

set_option maxHeartbeats 1000000 in
/-- impl.ExplainSelections. -/
theorem impl_exq {lim : Nat} {w : World} {v : Value} {zss : List (List Int)} {r x : Int} (h : Rd2 lim .i64 w v zss) (hlim : lim ≤ w.heap.size) (hr : (Lit.int .i64 r).wf = true) (hx : (Lit.int .i64 x).wf = true) :
    Calls Try.prog 23 #[v, .int .i64 r, .int .i64 x] w fun e w' => ∃ v', e = .returned (.tuple #[v', .bool (decide (0 < (exq zss r x).length))]) ∧ Own 3 .i64 w.heap.size w' v' (exq zss r x) ∧ Below w.heap.size w w' := by
  have HZ := Lib.hid h
  have HR := Lib.hid hr
  have HX := Lib.hid hx
  obtain ⟨q, hq⟩ : ∃ q, q = decide (0 < (exq zss r x).length) := ⟨_, rfl⟩
  rw [← hq]
  have Hq := Lib.hid hq
  clear h hr hx hq
  go_enter Try.func23, Try.ntmps23
  go_wp2_with fail
  refine (impl_us HR.out HX.out).mono ?_
  rintro e w1 ⟨v1, rfl, h1, hb⟩
  have H1 := Lib.hid h1
  have HB := Lib.hid hb
  have HZ1 := Lib.hid (HZ.out.behind (hb.mono hlim))
  clear h1 hb
  go_wp2_with fail
  refine (ms_own HZ1.out H1.out (Nat.le_trans hlim HB.out.size) HB.out.size).mono ?_
  rw [show xsAll (unitV r x) zss = exq zss r x from rfl]
  rintro e w4 ⟨v4, rfl, h4, hb⟩
  obtain ⟨a4, cap4, hv4, _⟩ := h4.open
  obtain ⟨L, hL⟩ : ∃ L, L = (exq zss r x).length := ⟨_, rfl⟩
  have hL64 : L ≤ 64 := by rw [hL]; exact exq_len _ _ _
  rw [← hL] at hv4 Hq
  subst hv4
  have H4 := Lib.hid h4
  have HB4 := Lib.hid (HB.out.trans (hb.mono HB.out.size))
  clear h4 hb hL
  by_cases h0 : 0 < L
  · have e1 : decide ((0 : Int) < (L : Int)) = true := decide_eq_true (by omega)
    have HQ : Hid (q = true) := Lib.hid (by rw [Hq.out]; exact decide_eq_true h0)
    go_wp2_with fail
    go_ret2
    rw [HQ.out]
    exact ⟨_, rfl, H4.out, HB4.out⟩
  · have e1 : decide ((0 : Int) < (L : Int)) = false := decide_eq_false (by omega)
    have HQ : Hid (q = false) := Lib.hid (by rw [Hq.out]; exact decide_eq_false h0)
    go_wp2_with fail
    go_ret2
    rw [HQ.out]
    exact ⟨_, rfl, H4.out, HB4.out⟩

set_option maxHeartbeats 2000000 in
/-- spec.ExplainSelections. -/
theorem spec_exq {lim : Nat} {w : World} {v : Value} {zss : List (List Int)} {r x : Int} (h : Rd2 lim .i64 w v zss) (hlim : lim ≤ w.heap.size) (hr : (Lit.int .i64 r).wf = true) (hx : (Lit.int .i64 x).wf = true) :
    Calls Try.prog 49 #[v, .int .i64 r, .int .i64 x] w fun e w' => ∃ v', e = .returned (.tuple #[v', .bool (decide (0 < (exq zss r x).length))]) ∧ Own 3 .i64 w.heap.size w' v' (exq zss r x) ∧ Below w.heap.size w w' := by
  have HZ := Lib.hid h
  have HR := Lib.hid hr
  have HX := Lib.hid hx
  have hlen := h.len
  obtain ⟨a, cap, rfl, h1, h2, hc⟩ := h.open
  have Hc := Lib.hid hc
  unfold maxLen at h2 hlen
  obtain ⟨q, hq⟩ : ∃ q, q = decide (0 < (exq zss r x).length) := ⟨_, rfl⟩
  rw [← hq]
  have Hq := Lib.hid hq
  clear h hr hx hc hq
  go_enter Try.func49, Try.ntmps49
  go_wp2_with fail
  refine (spec_us HR.out HX.out).mono ?_
  rintro e w1 ⟨v1, rfl, h1, hb⟩
  obtain ⟨a1, cap1, hv1, _⟩ := h1.open
  obtain ⟨U, hU⟩ : ∃ U, U = unitV r x := ⟨_, rfl⟩
  have HUf := Lib.hid (unitV_sel (r := r) (x := x))
  have HXq : Hid (exq zss r x = xsAll U zss) := Lib.hid (by rw [hU]; rfl)
  have HU64 := unitV_len r x
  rw [← hU] at hv1 h1 HUf HU64
  obtain ⟨nU, hnU⟩ : ∃ n, n = U.length := ⟨_, rfl⟩
  rw [← hnU] at hv1 HUf HU64
  subst hv1
  have HnU := Lib.hid hnU
  have HO := Lib.hid h1
  have HB := Lib.hid hb
  clear h1 hb hU hnU
  by_cases h0 : nU = 0
  · have e1 : ((nU : Int) == 0) = true := by simp; exact h0
    have HE : Hid (exq zss r x = []) := Lib.hid (by
      have hu : U = [] := List.length_eq_zero_iff.1 (by rw [← HnU.out]; exact h0)
      rw [HXq.out, hu]; exact xsAll_of_nil _)
    have HQ : Hid (q = false) := Lib.hid (by rw [Hq.out, HE.out]; rfl)
    clear h0
    go_wp2_with fail
    go_ret2
    rw [HQ.out]
    exact ⟨_, rfl, by rw [HE.out]; exact Own.lit _ _ HB.out.size, HB.out.alloc HB.out.size _⟩
  · have e1 : ((nU : Int) == 0) = false := by simp; exact h0
    obtain ⟨hs, hr1, hr2, _, _⟩ := HUf.out h0
    obtain ⟨n, rfl⟩ : ∃ n : Nat, r = (n : Int) := ⟨r.toNat, by omega⟩
    rw [Int.toNat_natCast] at hs
    have HUs := Lib.hid hs
    have HN0 : Hid (0 < n) := Lib.hid (by omega)
    clear h0 hs
    go_wp2_with fail
    go_loopw [8, 9] (fun s i wr => ∃ j : Nat, i = .int .i64 j ∧ j ≤ zss.length ∧ Own 3 .i64 w.heap.size wr s (xsAll U (zss.take j)) ∧ Sel n (xsAll U (zss.take j)) ∧ Below w.heap.size w wr) (fun _ i _ => zss.length - (intOf i).toNat)
    case atStart => exact ⟨0, rfl, Nat.zero_le _, HO.out, HUs.out, HB.out⟩
    case round =>
      obtain ⟨j, rfl, hj, hO, hS, hB⟩ := hrel
      replace HO := Lib.hid hO
      have HS := Lib.hid hS
      replace HB := Lib.hid hB
      clear hO hS hB
      by_cases hlt : j < zss.length
      · have e2 : decide ((j : Int) < (zss.length : Int)) = true := by simp; omega
        obtain ⟨b, o, rfl, hbl, hcell⟩ := Hc.out (by omega)
        obtain ⟨zs, hzs⟩ : ∃ zs, zss[j]? = some zs := ⟨_, List.getElem?_eq_getElem hlt⟩
        obtain ⟨u, c1, hr⟩ := hcell wr (HB.out.mono hlim) j zs hzs
        have Hr := Lib.hid hr
        have HS1 := Lib.hid (Nat.le_trans hlim HB.out.size)
        have HT := Lib.hid (xsAll_take (u := U) hzs)
        cases hk : isel zs (n : Int)
        · have HN : Hid (exq zss (n : Int) x = []) := Lib.hid (by rw [HXq.out]; exact xsAll_stop HS.out.1 hzs hk)
          have HQ : Hid (q = false) := Lib.hid (by rw [Hq.out, HN.out]; rfl)
          have HK := Lib.hid hk
          clear hr hzs hk hcell
          go_wp2_with fail
          refine (spec_is Hr.out HR.out).mono ?_
          rw [HK.out]
          rintro e w2 ⟨rfl, hw⟩
          subst hw
          go_wp2_with fail
          go_ret2
          rw [HQ.out]
          exact ⟨_, rfl, by rw [HN.out]; exact Own.lit _ _ HB.out.size, HB.out.alloc HB.out.size _⟩
        · have HN : Hid (Sel n (xsAll U (zss.take (j + 1)))) := Lib.hid (HS.out.step hzs hk)
          have HK := Lib.hid hk
          clear hr hzs hk hcell
          go_wp2_with fail
          refine (spec_is Hr.out HR.out).mono ?_
          rw [HK.out]
          rintro e w2 ⟨rfl, hw⟩
          subst hw
          go_wp2_with fail
          refine (spec_xs HO.out.rd Hr.out (Nat.le_refl _) HS1.out).mono ?_
          rw [HT.out]
          rintro e w2 ⟨v2, rfl, h3, hb⟩
          have H3 := Lib.hid (h3.mono HB.out.size)
          have HB3 := Lib.hid (HB.out.trans (hb.mono HB.out.size))
          clear h3 hb
          go_wp2
          go_roundw
          case rel => exact ⟨j + 1, by simp, hlt, H3.out, HN.out, HB3.out⟩
          case measure => simp [intOf]; omega
      · have e2 : decide ((j : Int) < (zss.length : Int)) = false := by simp; omega
        have HT : Hid (xsAll U (zss.take j) = exq zss (n : Int) x) := Lib.hid (by rw [HXq.out, List.take_of_length_le (by omega)])
        have HQ : Hid (q = true) := Lib.hid (by rw [Hq.out, ← HT.out, HS.out.1]; exact decide_eq_true HN0.out)
        go_wp2
        go_ret2
        rw [HQ.out]
        exact ⟨_, rfl, by rw [← HT.out]; exact HO.out, HB.out⟩

end Go.Proofs.Ytgkacdaimhdcoaa
