/- What FnDatabases needs of databases as lists; CountRowsWritten of the document. No conditions but a size that a machine holds. -/
import Derived.Test.YtdeahjinnnhfkaaDb11
import Derived.Test.YtdeahjinnnhfkaaDb6
import Derived.Test.YtdeahjinnnhfkaaDb8
namespace Go.Proofs.Ytdeahjinnnhfkaa
open Go Go.RowKit
set_option linter.unusedVariables false
attribute [local irreducible] kh

/-- The rows that are not zero. -/
def crw (zss : List (List Int)) : Nat := (zss.filter fun r => !isz r).length
theorem crw_take {zss : List (List Int)} {j : Nat} {zs : List Int} (h : zss[j]? = some zs) : crw (zss.take (j + 1)) = crw (zss.take j) + (if isz zs = true then 0 else 1) := by
  rw [List.take_add_one, h]
  unfold crw
  rw [List.filter_append, List.length_append]
  congr 1
  cases hz : isz zs <;> simp [hz]
theorem crw_le (zss : List (List Int)) : crw zss ≤ zss.length := List.length_filter_le _ _
theorem crw_zero {zss : List (List Int)} (h : ∀ zs ∈ zss, isz zs = true) : crw zss = 0 := by
  unfold crw
  rw [List.length_eq_zero_iff, List.filter_eq_nil_iff]
  intro zs hz
  rw [h zs hz]
  decide

set_option maxHeartbeats 1000000 in
/-- spec.CountRowsWritten -/
theorem spec_crw {lim : Nat} {w : World} {v : Value} {zss : List (List Int)} (h : Rd2 lim .u8 w v zss) (hlim : lim ≤ w.heap.size) :
    Calls Try.prog 27 #[.agg #[v]] w fun e w' => e = .returned (.int .i64 (crw zss : Int)) ∧ Below w.heap.size w w' := by
  obtain ⟨q, hq⟩ : ∃ q, q = crw zss := ⟨_, rfl⟩
  rw [← hq]
  have HQ := Lib.hid hq
  have hlen := h.len
  obtain ⟨a, cap, rfl, h1, h2, hc⟩ := h.open
  have HB := Lib.hid ((Below.refl w.heap.size w).alloc (Nat.le_refl _) (.cells #[.slice a zss.length cap] 30))
  have HBk := Lib.hid (heap_alloc_new w (.cells #[.slice a zss.length cap] 30))
  unfold maxLen at h2 hlen
  have Hc := Lib.hid hc
  clear h hc hq
  go_enter Try.func27, Try.ntmps27
  go_wp2_with fail
  go_loopw [3, 4] (fun n i wr => ∃ j : Nat, n = .int .i64 (crw (zss.take j) : Int) ∧ i = .int .i64 j ∧ j ≤ zss.length ∧ wr.heap[w.heap.size]? = some (.cells #[.slice a zss.length cap] 30) ∧ Below w.heap.size w wr) (fun _ i _ => zss.length - (intOf i).toNat)
  case atStart => exact ⟨0, rfl, rfl, Nat.zero_le _, HBk.out, HB.out⟩
  case round =>
    obtain ⟨j, rfl, rfl, hj, hK, hB⟩ := hrel
    replace HB := Lib.hid hB
    have HK := Lib.hid hK
    have cD := blk_cell hK 0
    rw [one0] at cD
    obtain ⟨m, hm⟩ : ∃ m, m = crw (zss.take j) := ⟨_, rfl⟩
    rw [← hm]
    have hmj : m ≤ j := by rw [hm]; have := crw_le (zss.take j); rw [List.length_take] at this; omega
    have HM := Lib.hid hm
    clear hB hK hm
    by_cases hlt : j < zss.length
    · have e2 : decide ((j : Int) < (zss.length : Int)) = true := by simp; omega
      have hlt' : (j : Int) < (zss.length : Int) := by omega
      obtain ⟨b, o, rfl, hbl, hcell⟩ := Hc.out (by omega)
      obtain ⟨zs, hzs⟩ : ∃ zs, zss[j]? = some zs := ⟨_, List.getElem?_eq_getElem hlt⟩
      obtain ⟨u, c1, hr⟩ := hcell wr (HB.out.mono hlim) j zs hzs
      have Hr := Lib.hid hr
      have HT := Lib.hid (crw_take hzs)
      obtain ⟨p, hp⟩ : ∃ p, p = isz zs := ⟨_, rfl⟩
      have HP := Lib.hid hp
      clear hcell hzs hr hp
      cases p
      · have HT2 : Hid (crw (zss.take (j + 1)) = m + 1) := Lib.hid (by rw [HT.out, ← HM.out, ← HP.out]; rfl)
        go_wp2_with fail
        refine (spec_iz Hr.out).mono ?_
        rw [← HP.out]
        rintro e w2 ⟨rfl, hw2⟩
        subst hw2
        go_wp2_with fail
        go_roundw
        case rel => exact ⟨j + 1, by rw [HT2.out]; simp, by simp, hlt, HK.out, HB.out⟩
        case measure => simp [intOf]; omega
      · have HT2 : Hid (crw (zss.take (j + 1)) = m) := Lib.hid (by rw [HT.out, ← HM.out, ← HP.out]; rfl)
        go_wp2_with fail
        refine (spec_iz Hr.out).mono ?_
        rw [← HP.out]
        rintro e w2 ⟨rfl, hw2⟩
        subst hw2
        go_wp2_with fail
        go_roundw
        case rel => exact ⟨j + 1, by rw [HT2.out], by simp, hlt, HK.out, HB.out⟩
        case measure => simp [intOf]; omega
    · have e2 : decide ((j : Int) < (zss.length : Int)) = false := by simp; omega
      have HE : Hid (m = q) := Lib.hid (by rw [HM.out, HQ.out, List.take_of_length_le (by omega)])
      go_wp2_with fail
      go_ret
      exact ⟨by rw [HE.out]; rfl, HB.out⟩

theorem xorl_twice {x c : List Int} (hx : U8s x) (hc : U8s c) (hl : x.length = c.length) : xorl (xorl x c) c = x := by
  refine list_eq (by rw [xorl_len, xorl_len]; omega) fun i hi => ?_
  rw [xorl_getD, xorl_getD, bx_bx (hx.get i).1]
theorem xorl_own {x : List Int} {n : Nat} (hl : x.length = n) : xorl x x = List.replicate n 0 := by
  refine list_eq (by rw [xorl_len, List.length_replicate]; omega) fun i hi => ?_
  rw [xorl_getD, bx_self]
  rw [xorl_len] at hi
  simp [List.getD_eq_getElem?_getD, show i < n by omega]
theorem set_getD (zss : List (List Int)) (k : Nat) : zss.set k (zss.getD k []) = zss := by
  by_cases h : k < zss.length
  · rw [List.getD_eq_getElem?_getD, List.getElem?_eq_getElem h]; simp
  · rw [List.set_eq_of_length_le (by omega)]
/-- A cell combined twice. -/
theorem xr_twice {zss : List (List Int)} {k : Nat} {c : List Int} (hk : k < zss.length) (hx : U8s (zss.getD k [])) (hc : U8s c) (h1 : (zss.getD k []).length = 24) (h2 : c.length = 24) :
    xrK zss (k : Int) c = true ∧ xrK (xr zss (k : Int) c) (k : Int) c = true ∧ xr (xr zss (k : Int) c) (k : Int) c = zss := by
  have e1 := xrK_yes hk h1 h2
  have e2 := xr_yes e1
  have e3 : (zss.set k (xorl (zss.getD k []) c)).getD k [] = xorl (zss.getD k []) c := by rw [List.getD_eq_getElem?_getD, List.getElem?_set_self hk]; rfl
  have e4 : xrK (zss.set k (xorl (zss.getD k []) c)) (k : Int) c = true := xrK_yes (by simpa using hk) (by rw [e3, xorl_len]; omega) h2
  refine ⟨e1, by rw [e2]; exact e4, ?_⟩
  rw [e2, xr_yes e4, e3, xorl_twice hx hc (by omega), List.set_set, set_getD]
theorem xd_own {zss : List (List Int)} (h : vd zss = true) : xdK zss zss = true ∧ xd zss zss = List.replicate zss.length (List.replicate 24 0) := by
  have h1 := xdK_yes h h rfl
  refine ⟨h1, ?_⟩
  rw [xd_yes h1]
  refine List.ext_getElem (by rw [xdL_len, List.length_replicate]) fun i hi hi' => ?_
  rw [xdL_len] at hi
  have h2 := (vd_rows h).2 i hi
  have h3 := xdL_get (b := zss) hi
  rw [List.getElem?_eq_getElem (by rw [xdL_len]; exact hi)] at h3
  injection h3 with h3
  rw [h3, xorl_own h2, List.getElem_replicate]
theorem isz_zeros (n : Nat) : isz (List.replicate n 0) = true := decide_eq_true fun i hi => by
  rw [List.length_replicate] at hi
  simp [List.getD_eq_getElem?_getD, hi]
theorem vd_set {zss : List (List Int)} {k : Nat} {c : List Int} (h : vd zss = true) (hc : c.length = 24) : vd (zss.set k c) = true := by
  obtain ⟨h1, h2⟩ := vd_rows h
  unfold vd
  rw [List.length_set, decide_eq_true h1, Bool.true_and]
  refine vrows_iff.2 fun i hi => ?_
  rw [List.length_set] at hi
  rw [List.getD_eq_getElem?_getD, List.getElem?_set]
  by_cases hki : k = i
  · subst hki
    rw [if_pos rfl, if_pos hi]
    exact hc
  · rw [if_neg hki, ← List.getD_eq_getElem?_getD]
    exact h2 i hi
theorem tot_set (zss : List (List Int)) (k : Nat) (c : List Int) : tot (zss.set k c) ≤ tot zss + c.length := by
  have := fl_set zss k c
  unfold tot
  rw [List.length_set]
  omega
theorem tot_rep (zss : List (List Int)) (i : Int) (c : List Int) : tot (rep zss i c) ≤ tot zss + c.length := by
  unfold rep
  split
  · exact tot_set _ _ _
  · omega
theorem tot_xr (zss : List (List Int)) (i : Int) (c : List Int) : tot (xr zss i c) ≤ 2 * tot zss + c.length := by
  unfold xr
  split
  · have h1 := tot_set zss i.toNat (xorl (zss.getD i.toNat []) c)
    have h2 := xorl_len_le (zss.getD i.toNat []) c
    have h3 := fl_getD zss i.toNat
    unfold tot at *
    omega
  · omega
theorem rdR_set {zss : List (List Int)} {k j : Nat} {c : List Int} (hj : j < zss.length) : hasR (zss.set k c) (j : Int) = true ∧ rdR (zss.set k c) (j : Int) = if k = j then c else zss.getD j [] := by
  have h1 : j < (zss.set k c).length := by rw [List.length_set]; exact hj
  refine ⟨hasR_yes h1, ?_⟩
  rw [rdR_yes h1, List.getD_eq_getElem?_getD, List.getElem?_set]
  by_cases hk : k = j
  · subst hk; simp [hj]
  · rw [if_neg hk, if_neg hk, List.getD_eq_getElem?_getD]

end Go.Proofs.Ytdeahjinnnhfkaa
