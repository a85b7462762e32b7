/- ShareBytes, the program's and the document's; copies of rows: what each gives. No conditions but a size that a machine holds. -/
import Derived.Test.YtlogljbbegklbaaSh1
import Derived.Test.YtlogljbbegklbaaBbR
import Derived.Test.YtlogljbbegklbaaCopyL
import Derived.Laws.EntriesVeiled
namespace Go.Proofs.Ytlogljbbegklbaa
open Go Go.RowKit
set_option linter.unusedVariables false
attribute [local irreducible] kh

/-- ShareBytes's closure. -/
theorem str_any {w : World} {b n cap : Nat} {a : Option Addr} {s : Int} (hc : w.cell? ⟨b, 0, none⟩ = some (.slice a n cap)) (hs : (Lit.int .i64 s).wf = true) (hn : n ≤ 140737488355328) :
    Calls Try.prog 46 #[.int .i64 s, .pointer (some ⟨b, 0, none⟩)] w fun e w' => ∃ v', e = .returned v' ∧ Own 5 .u8 w.heap.size w' v' (strm s (n : Int)) ∧ Below w.heap.size w w' := by
  have HS := Lib.hid hs
  clear hs
  go_enter Try.func46, Try.ntmps46
  go_wp2_with fail
  refine (impl_sb HS.out (wf_i64_of (by omega) (by omega))).mono ?_
  rintro e w1 ⟨v1, rfl, h1, hb⟩
  have H1 := Lib.hid h1
  have HB := Lib.hid hb
  clear h1 hb
  go_wp2_with fail
  go_ret
  exact ⟨_, rfl, H1.out, HB.out⟩

set_option maxHeartbeats 2000000 in
/-- impl.divide, of bytes. -/
theorem divB_any {l1 l2 b nx cx : Nat} {ax : Option Addr} {w : World} {v : Value} {xs ss : List Int} (hu : Rd l1 .u8 w (.slice ax nx cx) xs) (hv : Rd l2 .i64 w v ss) (hl1 : l1 ≤ w.heap.size) (hl2 : l2 ≤ w.heap.size) (hx : xs.length ≤ 400) (hc : w.cell? ⟨b, 0, none⟩ = some (.slice ax nx cx)) (hb : b < w.heap.size) :
    Calls Try.prog 48 #[.slice ax nx cx, v, .func (.func 46) #[] #[.pointer (some ⟨b, 0, none⟩)], .func (.func 18) #[] #[]] w
      fun e w' => ∃ v', e = .returned v' ∧ Own2 22 5 .u8 (ival w.heap.size w'.heap.size) w' v' (shB xs ss) ∧ Below w.heap.size w w' := by
  obtain ⟨i1, hi', hy0, hy1, hy2⟩ := info_parts infou8s
  have Hhi' := Lib.hid hi'
  have HU := Lib.hid hu
  have HV := Lib.hid hv
  have hnx : nx = xs.length := hu.len_eq
  subst hnx
  have hlv := hv.len
  obtain ⟨a, cap, rfl, h1, h2, hcl⟩ := hv.open
  have Hcl := Lib.hid hcl
  unfold maxLen at h2 hlv
  obtain ⟨c, hcc⟩ : ∃ c, c = min ss.length 4 := ⟨_, rfl⟩
  obtain ⟨N, hN⟩ : ∃ N, N = c + 1 := ⟨_, rfl⟩
  have Hm : Hid (mn (ss.length : Int) 4 = (c : Int)) := Lib.hid (by unfold mn; split <;> omega)
  have hcn : (c : Int) + 1 = (N : Int) := by omega
  have hN5 : N ≤ 5 := by omega
  have HW1 : Hid ((Lit.int .i64 (ss.length : Int)).wf = true) := Lib.hid (wf_i64_of (by omega) (by omega))
  have Hcb := Lib.hid hc
  have Hbl := Lib.hid hb
  clear hu hv hcl hi' hc hb
  by_cases hin : 1 ≤ ss.length ∧ ss.length ≤ 3
  · have hcs : c = ss.length := by omega
    have HI : Hid (inR (N : Int) 2 4 = true) := Lib.hid (inR_yes (by omega))
    have hy : xs.length ≤ 400 ∧ 1 ≤ ss.length ∧ ss.length ≤ 3 := ⟨hx, hin.1, hin.2⟩
    have HY := Lib.hid hy
    have HR : ∃ R, R = shB xs ss := ⟨_, rfl⟩
    obtain ⟨R, hR⟩ := HR
    have HRl : Hid (R.length = N) := Lib.hid (by rw [hR, shB_yes hy, List.length_append, strs_len, List.length_singleton]; omega)
    have HRat : Hid (∀ j, j < ss.length → R[j]? = some (strm (ss.getD j 0) (xs.length : Int))) := Lib.hid (fun j hj => by rw [hR]; exact shB_at hy hj)
    have HRlast : Hid (R[ss.length]? = some (lastB xs ss)) := Lib.hid (by rw [hR]; exact shB_last hy)
    have HRtake : Hid (R.take ss.length = strs (xs.length : Int) ss) := Lib.hid (by rw [hR]; exact shB_take hy)
    rw [← hR]
    have HN := Lib.hid hN
    subst hcs
    clear hR hcc hy hN
    go_enter Try.func48, Try.ntmps48
    go_wp2_with fail
    refine (impl_mn _ _ _ HW1.out (wf_i64_of (by omega) (by omega))).mono ?_
    rw [Hm.out]
    rintro e w1 ⟨rfl, hb1⟩
    have HB1 := Lib.hid hb1
    clear hb1
    go_wp2_with (first | (at_make; refine wpList_make_full _ rfl _ _ 61 rfl w1.heap.size 22 i1 (.slice none 0 0) 1 Try.underlying61 Hhi'.out hy0 hy1 .i64 .i64 _ _ N rfl rfl rfl rfl (by rw [hy2]; omega) (by unfold maxLen; omega) (Nat.le_refl _) ?_))
    intro w2 hown hg
    have HO : Hid (Own2 22 5 .u8 (ival w.heap.size w2.heap.size) w2 (.slice (some ⟨w1.heap.size, 0, none⟩) N N) (R.take 0 ++ List.replicate (R.length - 0) [])) := Lib.hid (by
      rw [List.take_zero, List.nil_append, Nat.sub_zero, HRl.out]
      exact made_start hown HB1.out.size)
    have HB2 := Lib.hid (HB1.out.trans (((Below.refl w1.heap.size w1).grown hg (Nat.le_refl _) (fun k hk => by cases hk)).mono HB1.out.size))
    clear hown hg
    go_wp2_with fail
    refine (fitB_any (by omega)).mono ?_
    rw [HI.out]
    rintro e w3 ⟨rfl, hw3⟩
    subst hw3
    go_wp2_with fail
    go_loopw [26] (fun i wr => ∃ j : Nat, i = .int .i64 j ∧ j ≤ ss.length ∧ Own2 22 5 .u8 (ival w.heap.size wr.heap.size) wr (.slice (some ⟨w1.heap.size, 0, none⟩) N N) (R.take j ++ List.replicate (R.length - j) []) ∧ Below w.heap.size w wr) (fun i _ => ss.length - (intOf i).toNat)
    case atStart => exact ⟨0, rfl, Nat.zero_le _, HO.out, HB2.out⟩
    case round =>
      obtain ⟨j, rfl, hj, hO, hB⟩ := hrel
      replace HO := Lib.hid hO
      have HB := Lib.hid hB
      clear hO hB
      by_cases hlt : j < ss.length
      · have e1 : decide ((j : Int) < (ss.length : Int)) = true := by simp; omega
        obtain ⟨bs, os, rfl, hbs, hcell⟩ := Hcl.out (by omega)
        have c1 := hcell wr (HB.out.mono hl2) j hlt
        have HZ := Lib.hid (HV.out.wf hlt)
        have HRj := Lib.hid (HRat.out j hlt)
        obtain ⟨z, hz⟩ : ∃ z, z = ss.getD j 0 := ⟨_, rfl⟩
        rw [← hz] at c1 HZ HRj
        clear hcell hz
        go_wp2_with fail
        refine (str_any ((HB.out.cell (p := ⟨b, 0, none⟩) Hbl.out).trans Hcb.out) HZ.out (by omega)).mono ?_
        rintro e w4 ⟨v4, rfl, h4, hb4⟩
        obtain ⟨a4, cap4, hv4, _⟩ := h4.open
        obtain ⟨L4, hL4⟩ : ∃ L, L = (strm z (xs.length : Int)).length := ⟨_, rfl⟩
        rw [← hL4] at hv4
        subst hv4
        have H4 := Lib.hid h4
        replace HO := Lib.hid (HO.out.next hb4)
        have HB4 := Lib.hid (HB.out.trans (hb4.mono HB.out.size))
        have HS4 := Lib.hid hb4.size
        have hlen2 : j < (R.take j ++ List.replicate (R.length - j) ([] : List Int)).length := by have := HRl.out; simp; omega
        obtain ⟨u2, c2⟩ := HO.out.cellAt hlen2
        have f2 := HO.out.free (by have := HRl.out; simp; omega) j
        have hjN : (j : Int) < (N : Int) := by omega
        clear h4 hb4 hlen2 hL4
        go_wp2
        go_roundw
        case rel =>
          obtain ⟨p1, p2, p3⟩ := put_ival (j := j) HO.out H4.out HB.out.size HS4.out
          rw [fill_set HRj.out] at p1
          exact ⟨j + 1, by simp, hlt, p1, HB4.out.grown p2 HB4.out.size (fun k hk => by injection hk with hk; omega)⟩
        case measure => simp [intOf]; omega
      · have e1 : decide ((j : Int) < (ss.length : Int)) = false := by simp; omega
        have ej : j = ss.length := by omega
        subst ej
        have HP := Lib.hid HO.out.rd2.parts
        obtain ⟨us, hus, hUs, hreads⟩ := HP.out
        have hlen : (R.take ss.length ++ List.replicate (R.length - ss.length) ([] : List Int)).length = N := by have := HRl.out; simp; omega
        have hcx : ss.length ≤ us.length := by rw [hus, hlen]; omega
        have eT : (R.take ss.length ++ List.replicate (R.length - ss.length) ([] : List Int)).take ss.length = strs (xs.length : Int) ss := by
          rw [List.take_append_of_le_length (by have := HRl.out; simp; omega), List.take_take, Nat.min_self]; exact HRtake.out
        have ET := Lib.hid eT
        have HUs := Lib.hid hUs
        have Hreads := Lib.hid hreads
        have Hus := Lib.hid hus
        clear hus hUs hreads hlen eT HP
        go_wp2_with (first | (refine slice_rdv_h _ rfl _ _ _ i1 Try.underlying61 Hhi'.out hy1 rfl HUs.out _ rfl rfl hcx ?_))
        intro u5 hu5
        have h5 := rd2_head Hus.out hu5 Hreads.out
        rw [ET.out] at h5
        have H5 := Lib.hid h5
        have HU5 := Lib.hid (HU.out.behind (HB.out.mono hl1))
        have HT : Hid (tot (strs (xs.length : Int) ss) ≤ 1099511627776) := Lib.hid (by have := strs_tot (xs.length : Int) ss; omega)
        clear hu5 h5
        go_wp2_with fail
        refine (impl_ms H5.out HU5.out (Nat.le_refl _) (Nat.le_trans hl1 HB.out.size) HT.out (by omega)).mono ?_
        rw [show xorl (xorAll (strs (xs.length : Int) ss)) xs = lastB xs ss from rfl]
        rintro e w6 ⟨v6, rfl, h6, hb6⟩
        obtain ⟨a6, cap6, hv6, _⟩ := h6.open
        obtain ⟨L6, hL6⟩ : ∃ L, L = (lastB xs ss).length := ⟨_, rfl⟩
        rw [← hL6] at hv6
        subst hv6
        have H6 := Lib.hid h6
        replace HO := Lib.hid (HO.out.next hb6)
        have HB6 := Lib.hid (HB.out.trans (hb6.mono HB.out.size))
        have HS6 := Lib.hid hb6.size
        have hlen2 : ss.length < (R.take ss.length ++ List.replicate (R.length - ss.length) ([] : List Int)).length := by have := HRl.out; simp; omega
        obtain ⟨u2, c2⟩ := HO.out.cellAt hlen2
        have f2 := HO.out.free (by have := HRl.out; simp; omega) ss.length
        have hjN : (ss.length : Int) < (N : Int) := by omega
        have hjN' : ss.length < N := by omega
        clear h6 hb6 hlen2 hL6
        go_wp2
        go_ret
        obtain ⟨p1, p2, p3⟩ := put_ival (j := ss.length) HO.out H6.out HB.out.size HS6.out
        rw [fill_set HRlast.out, List.take_of_length_le (by have := HRl.out; omega), show R.length - (ss.length + 1) = 0 by have := HRl.out; omega, List.replicate_zero, List.append_nil] at p1
        exact ⟨_, rfl, p1, HB6.out.grown p2 HB6.out.size (fun k hk => by injection hk with hk; omega)⟩
  · have HI : Hid (inR (N : Int) 2 4 = false) := Lib.hid (inR_no (by omega))
    have HE : Hid (shB xs ss = []) := Lib.hid (shB_no (by omega))
    clear hcc hin hN
    go_enter Try.func48, Try.ntmps48
    go_wp2_with fail
    refine (impl_mn _ _ _ HW1.out (wf_i64_of (by omega) (by omega))).mono ?_
    rw [Hm.out]
    rintro e w1 ⟨rfl, hb1⟩
    have HB1 := Lib.hid hb1
    clear hb1
    go_wp2_with (first | (at_make; refine wpList_make_full _ rfl _ _ 61 rfl w1.heap.size 22 i1 (.slice none 0 0) 1 Try.underlying61 Hhi'.out hy0 hy1 .i64 .i64 _ _ N rfl rfl rfl rfl (by rw [hy2]; omega) (by unfold maxLen; omega) (Nat.le_refl _) ?_))
    intro w2 hown hg
    have HB2 := Lib.hid (HB1.out.trans (((Below.refl w1.heap.size w1).grown hg (Nat.le_refl _) (fun k hk => by cases hk)).mono HB1.out.size))
    clear hown hg
    go_wp2_with fail
    refine (fitB_any (by omega)).mono ?_
    rw [HI.out]
    rintro e w3 ⟨rfl, hw3⟩
    subst hw3
    go_wp2_with fail
    go_ret
    refine ⟨_, rfl, ?_, HB2.out.alloc HB2.out.size _⟩
    rw [HE.out]
    exact Own2.lit _ _ _ (by have := HB2.out.size; unfold ival; simp; omega)

set_option maxHeartbeats 1000000 in
/-- impl.ShareBytes. -/
theorem impl_shB {l1 l2 : Nat} {w : World} {u v : Value} {xs ss : List Int} (hu : Rd l1 .u8 w u xs) (hv : Rd l2 .i64 w v ss) (hl1 : l1 ≤ w.heap.size) (hl2 : l2 ≤ w.heap.size) (hs : ss.length ≤ 1099511627776) :
    Calls Try.prog 13 #[u, v] w fun e w' => ∃ v', e = .returned v' ∧ Own2 22 5 .u8 (ival w.heap.size w'.heap.size) w' v' (shB xs ss) ∧ Below w.heap.size w w' := by
  have hmf : ∀ (fn : Fn) (first cap : Array Value) (w : World), (Instr.makeFunc fn first cap).run Try.prog w = .ok (.func fn first cap) w := fun _ _ _ _ => rfl
  have hlen := hu.len
  obtain ⟨a, cap, rfl, h1, h2, _⟩ := hu.open
  unfold maxLen at h2 hlen
  have b1 := (Below.refl w.heap.size w).alloc (Nat.le_refl _) (.cells #[.slice a xs.length cap] 22)
  have HB := Lib.hid b1
  have HU := Lib.hid (hu.behind (b1.mono hl1))
  have HV := Lib.hid (hv.behind (b1.mono hl2))
  have hc : (w.alloc (.cells #[.slice a xs.length cap] 22)).cell? ⟨w.heap.size, 0, none⟩ = some (.slice a xs.length cap) := blk_cell (heap_alloc_new w (.cells #[.slice a xs.length cap] 22)) 0
  have HC := Lib.hid hc
  clear hu hv b1
  by_cases hx : xs.length ≤ 400
  · have e1 : decide ((400 : Int) < (xs.length : Int)) = false := by simp; omega
    go_enter Try.func13, Try.ntmps13
    go_wp2_with fail
    refine (divB_any HU.out HV.out (Nat.le_trans hl1 HB.out.size) (Nat.le_trans hl2 HB.out.size) hx HC.out (by simp)).mono ?_
    rintro e w2 ⟨v2, rfl, h3, hb⟩
    have H3 := Lib.hid (h3.mono (G := ival w.heap.size w2.heap.size) (fun b hb' => by have := HB.out.size; unfold ival at hb' ⊢; omega))
    have HB2 := Lib.hid (HB.out.trans (hb.mono HB.out.size))
    clear h3 hb
    go_wp2_with fail
    go_ret
    exact ⟨_, rfl, H3.out, HB2.out⟩
  · have e1 : decide ((400 : Int) < (xs.length : Int)) = true := by simp; omega
    have HE : Hid (shB xs ss = []) := Lib.hid (shB_no (by omega))
    go_enter Try.func13, Try.ntmps13
    go_wp2_with fail
    go_ret
    refine ⟨_, rfl, ?_, HB.out.alloc HB.out.size _⟩
    rw [HE.out]
    have := Own2.lit (w := w.alloc (.cells #[.slice a xs.length cap] 22)) (F := ival w.heap.size (w.heap.size + 1 + 1)) 22 5 .u8 (by unfold ival; rw [World.size_alloc]; omega)
    rw [World.size_alloc] at this
    rw [World.size_alloc, World.size_alloc]
    exact this

end Go.Proofs.Ytlogljbbegklbaa
