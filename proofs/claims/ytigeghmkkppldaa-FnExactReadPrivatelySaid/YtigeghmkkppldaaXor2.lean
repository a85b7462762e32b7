/- IsZeroBytes, XorAll, EqualLists, the program's and the document's; the document's JoinBytes: what each gives. No conditions but a size that a machine holds. -/
import Derived.Test.YtigeghmkkppldaaXor
import Derived.Test.YtigeghmkkppldaaBa5
import Derived.Test.YtigeghmkkppldaaEqB
import Derived.Lib.Bytes
namespace Go.Proofs.Ytigeghmkkppldaa
open Go Go.RowKit
set_option linter.unusedVariables false

/-- Whether all bytes are 0. -/
def isz (xs : List Int) : Bool := decide (∀ i, i < xs.length → xs.getD i 0 = 0)

theorem xorAll_take {zss : List (List Int)} {j : Nat} {zs : List Int} (h : zss[j]? = some zs) : xorl (xorAll (zss.take j)) zs = xorAll (zss.take (j + 1)) := by
  obtain ⟨l, r, rfl, rfl⟩ := split_at h
  rw [List.take_left' rfl, take_mid, xorAll_snoc]
theorem xorAll_len (l : List (List Int)) : (xorAll l).length ≤ fl l := by
  suffices h : ∀ (l : List (List Int)) (acc : List Int), (l.foldl xorl acc).length ≤ acc.length + fl l by
    have := h l []; simpa [xorAll] using this
  intro l
  induction l with
  | nil => intro acc; simp [fl_nil]
  | cons x l ih =>
    intro acc
    have := ih (xorl acc x)
    have h2 := xorl_len_le acc x
    rw [fl_cons]
    simp only [List.foldl_cons]
    omega
theorem flat_take {zss : List (List Int)} {j : Nat} {zs : List Int} (h : zss[j]? = some zs) : (zss.take j).flatten ++ zs = (zss.take (j + 1)).flatten := by
  obtain ⟨l, r, rfl, rfl⟩ := split_at h
  rw [List.take_left' rfl, take_mid]
  simp

set_option maxHeartbeats 1000000 in
/-- spec.XorAll. -/
theorem spec_xa {lim : Nat} {w : World} {v : Value} {zss : List (List Int)} (h : Rd2 lim .u8 w v zss) (hlim : lim ≤ w.heap.size) (hn : tot zss ≤ 1099511627776) :
    Calls Try.prog 76 #[v] w fun e w' => ∃ v', e = .returned v' ∧ Own 5 .u8 w.heap.size w' v' (xorAll zss) ∧ Below w.heap.size w w' := by
  obtain ⟨i0, hi, hz0, hz1, hz2⟩ := info_parts infou8
  have Hhi := Lib.hid hi
  obtain ⟨a, cap, rfl, h1, h2, hc⟩ := h.open
  have Hc := Lib.hid hc
  have HN := Lib.hid hn
  unfold maxLen at h2
  clear h hc hi hn
  have HO : Hid (Own 5 .u8 w.heap.size (w.alloc (.cells #[] 5)) (.slice (some ⟨w.heap.size, 0, none⟩) 0 0) (xorAll (zss.take 0))) := Lib.hid (Own.lit _ _ (Nat.le_refl _))
  go_enter Try.func76, Try.ntmps76
  go_wp2_with fail
  go_loopw [3, 4] (fun s i wr => ∃ j : Nat, i = .int .i64 j ∧ j ≤ zss.length ∧ Own 5 .u8 w.heap.size wr s (xorAll (zss.take j)) ∧ Below w.heap.size w wr) (fun _ i _ => zss.length - (intOf i).toNat)
  case atStart => exact ⟨0, rfl, Nat.zero_le _, HO.out, (Below.refl _ _).alloc (Nat.le_refl _) _⟩
  case round =>
    obtain ⟨j, rfl, hj, hO, hB⟩ := hrel
    have HO' := Lib.hid hO
    have HB := Lib.hid hB
    clear hO hB HO
    by_cases hlt : j < zss.length
    · have e1 : decide ((j : Int) < (zss.length : Int)) = true := by simp; omega
      obtain ⟨b, o, rfl, hbl, hcell⟩ := Hc.out (by omega)
      obtain ⟨zs, hzs⟩ : ∃ zs, zss[j]? = some zs := ⟨_, List.getElem?_eq_getElem hlt⟩
      obtain ⟨u, c1, hr⟩ := hcell wr (HB.out.mono hlim) j zs hzs
      have Hr := Lib.hid hr
      have Hz := Lib.hid hzs
      have HL : Hid ((xorAll (zss.take j)).length + zs.length ≤ 140737488355328) := Lib.hid (by
        have h1 := fl_at hzs
        have h2 : (xorAll (zss.take j)).length ≤ fl (zss.take j) := xorAll_len _
        have h3 := HN.out
        unfold tot at h3
        omega)
      clear hcell hr hzs
      go_wp2_with fail
      refine (spec_xb HO'.out.rd Hr.out (Nat.le_refl _) (Nat.le_trans hlim HB.out.size) HL.out).mono ?_
      rintro e w3 ⟨v3, rfl, h3, h4⟩
      rw [xorAll_take Hz.out] at h3
      have H3 := Lib.hid (h3.mono HB.out.size)
      have H4 := Lib.hid (HB.out.trans (h4.mono HB.out.size))
      clear h3 h4
      go_wp2
      go_roundw
      case rel => exact ⟨j + 1, by simp, hlt, H3.out, H4.out⟩
      case measure => simp [intOf]; omega
    · have e1 : decide ((j : Int) < (zss.length : Int)) = false := by simp; omega
      have HR : Hid (Own 5 .u8 w.heap.size wr _ (xorAll zss)) := Lib.hid (by
        have := HO'.out
        rw [List.take_of_length_le (by omega)] at this
        exact this)
      go_wp2
      go_ret
      exact ⟨_, rfl, HR.out, HB.out⟩

set_option maxHeartbeats 1000000 in
/-- impl.XorAll. -/
theorem impl_xa {lim : Nat} {w : World} {v : Value} {zss : List (List Int)} (h : Rd2 lim .u8 w v zss) (hlim : lim ≤ w.heap.size) (hn : tot zss ≤ 1099511627776) :
    Calls Try.prog 91 #[v] w fun e w' => ∃ v', e = .returned v' ∧ Own 5 .u8 w.heap.size w' v' (xorAll zss) ∧ Below w.heap.size w w' := by
  obtain ⟨i0, hi, hz0, hz1, hz2⟩ := info_parts infou8
  have Hhi := Lib.hid hi
  obtain ⟨a, cap, rfl, h1, h2, hc⟩ := h.open
  have Hc := Lib.hid hc
  have HN := Lib.hid hn
  unfold maxLen at h2
  clear h hc hi hn
  have HO : Hid (Own 5 .u8 w.heap.size (w.alloc (.cells #[] 5)) (.slice (some ⟨w.heap.size, 0, none⟩) 0 0) (xorAll (zss.take 0))) := Lib.hid (Own.lit _ _ (Nat.le_refl _))
  go_enter Try.func91, Try.ntmps91
  go_wp2_with fail
  go_loopw [3, 9] (fun s i wr => ∃ j : Nat, i = .int .i64 j ∧ j ≤ zss.length ∧ Own 5 .u8 w.heap.size wr s (xorAll (zss.take j)) ∧ Below w.heap.size w wr) (fun _ i _ => zss.length - (intOf i).toNat)
  case atStart => exact ⟨0, rfl, Nat.zero_le _, HO.out, (Below.refl _ _).alloc (Nat.le_refl _) _⟩
  case round =>
    obtain ⟨j, rfl, hj, hO, hB⟩ := hrel
    have HO' := Lib.hid hO
    have HB := Lib.hid hB
    clear hO hB HO
    by_cases hlt : j < zss.length
    · have e1 : decide ((j : Int) < (zss.length : Int)) = true := by simp; omega
      obtain ⟨b, o, rfl, hbl, hcell⟩ := Hc.out (by omega)
      obtain ⟨zs, hzs⟩ : ∃ zs, zss[j]? = some zs := ⟨_, List.getElem?_eq_getElem hlt⟩
      obtain ⟨u, c1, hr⟩ := hcell wr (HB.out.mono hlim) j zs hzs
      have Hr := Lib.hid hr
      have Hz := Lib.hid hzs
      have HL : Hid ((xorAll (zss.take j)).length + zs.length ≤ 140737488355328) := Lib.hid (by
        have h1 := fl_at hzs
        have h2 : (xorAll (zss.take j)).length ≤ fl (zss.take j) := xorAll_len _
        have h3 := HN.out
        unfold tot at h3
        omega)
      clear hcell hr hzs
      go_wp2_with fail
      refine (xorInto_any HO'.out Hr.out hlim HL.out).mono ?_
      rintro e w3 ⟨v3, rfl, h3, h4⟩
      rw [xorAll_take Hz.out] at h3
      have H3 := Lib.hid h3
      have H4 := Lib.hid (HB.out.trans h4)
      clear h3 h4
      go_wp2
      go_roundw
      case rel => exact ⟨j + 1, by simp, hlt, H3.out, H4.out⟩
      case measure => simp [intOf]; omega
    · have e1 : decide ((j : Int) < (zss.length : Int)) = false := by simp; omega
      have HR : Hid (Own 5 .u8 w.heap.size wr _ (xorAll zss)) := Lib.hid (by
        have := HO'.out
        rw [List.take_of_length_le (by omega)] at this
        exact this)
      go_wp2
      go_ret
      exact ⟨_, rfl, HR.out, HB.out⟩

/-- Whether two byte strings are the same, as both functions compare them. -/
def eqb (xs ys : List Int) : Bool := (strOfNums xs).toList == (strOfNums ys).toList
theorem eqb_self (xs : List Int) : eqb xs xs = true := by unfold eqb; simp
/-- Whether two lists are the same. -/
def el (xss yss : List (List Int)) : Bool := decide (xss.length = yss.length ∧ ∀ i, i < xss.length → eqb (xss.getD i []) (yss.getD i []) = true)
theorem el_self (xss : List (List Int)) : el xss xss = true := decide_eq_true ⟨rfl, fun _ _ => eqb_self _⟩
theorem u8_inj {x y : Int} (hx : 0 ≤ x ∧ x ≤ 255) (hy : 0 ≤ y ∧ y ≤ 255) (h : UInt8.ofNat x.toNat = UInt8.ofNat y.toNat) : x = y := by
  have := congrArg UInt8.toNat h
  simp at this
  omega
theorem eqb_iff {xs ys : List Int} (hx : U8s xs) (hy : U8s ys) : eqb xs ys = decide (xs = ys) := by
  unfold eqb
  rw [Lib.strOfNums_toList, Lib.strOfNums_toList]
  rw [Bool.eq_iff_iff, decide_eq_true_iff, beq_iff_eq]
  constructor
  · intro h
    have hl : xs.length = ys.length := by rw [← Lib.bytesOf_length xs, h, Lib.bytesOf_length]
    refine list_eq hl fun i hi => u8_inj (hx.get i) (hy.get i) ?_
    have := congrArg (fun l => l[i]?) h
    unfold Lib.bytesOf at this
    simp only [List.getElem?_map, List.getElem?_eq_getElem hi, List.getElem?_eq_getElem (show i < ys.length by omega)] at this
    simpa [List.getD_eq_getElem?_getD, List.getElem?_eq_getElem hi, List.getElem?_eq_getElem (show i < ys.length by omega)] using this
  · rintro rfl; rfl
theorem getD_of {xss : List (List Int)} {i : Nat} {xs : List Int} (h : xss[i]? = some xs) : xss.getD i [] = xs := by rw [List.getD_eq_getElem?_getD, h]; rfl

end Go.Proofs.Ytigeghmkkppldaa
