import Derived.Test.YtnamgnhplodhoaaXor
import Derived.Lib.Bytes
import Derived.Test.YtnamgnhplodhoaaDeep

/- IsZeroBytes, XorAll, EqualLists, the program's and the document's; the document's JoinBytes: what each gives. No conditions but a size that a machine holds. -/
section
namespace Go.Proofs.Ytnamgnhplodhoaa
open Go Go.RowKit
set_option linter.unusedVariables false

/-- Whether all bytes are 0. -/
def isz (xs : List Int) : Bool := decide (∀ i, i < xs.length → xs.getD i 0 = 0)

theorem xorAll_take {zss : List (List Int)} {j : Nat} {zs : List Int} (h : zss[j]? = some zs) : xorl (xorAll (zss.take j)) zs = xorAll (zss.take (j + 1)) := by
  obtain ⟨l, r, rfl, rfl⟩ := split_at h
  rw [List.take_left' rfl, take_mid, xorAll_snoc]
theorem xorAll_len (l : List (List Int)) : (xorAll l).length ≤ fl l := by
  suffices h : ∀ (l : List (List Int)) (acc : List Int), (l.foldl xorl acc).length ≤ acc.length + fl l by
    have := h l []; simpa [xorAll] using this
  intro l
  induction l with
  | nil => intro acc; simp [fl_nil]
  | cons x l ih =>
    intro acc
    have := ih (xorl acc x)
    have h2 := xorl_len_le acc x
    rw [fl_cons]
    simp only [List.foldl_cons]
    omega
theorem flat_take {zss : List (List Int)} {j : Nat} {zs : List Int} (h : zss[j]? = some zs) : (zss.take j).flatten ++ zs = (zss.take (j + 1)).flatten := by
  obtain ⟨l, r, rfl, rfl⟩ := split_at h
  rw [List.take_left' rfl, take_mid]
  simp

set_option maxHeartbeats 1000000 in
/-- spec.XorAll. -/
theorem spec_xa {lim : Nat} {w : World} {v : Value} {zss : List (List Int)} (h : Rd2 lim .u8 w v zss) (hlim : lim ≤ w.heap.size) (hn : tot zss ≤ 1099511627776) :
    Calls Try.prog 76 #[v] w fun e w' => ∃ v', e = .returned v' ∧ Own 5 .u8 w.heap.size w' v' (xorAll zss) ∧ Below w.heap.size w w' := by
  obtain ⟨i0, hi, hz0, hz1, hz2⟩ := info_parts infou8
  have Hhi := Lib.hid hi
  obtain ⟨a, cap, rfl, h1, h2, hc⟩ := h.open
  have Hc := Lib.hid hc
  have HN := Lib.hid hn
  unfold maxLen at h2
  clear h hc hi hn
  have HO : Hid (Own 5 .u8 w.heap.size (w.alloc (.cells #[] 5)) (.slice (some ⟨w.heap.size, 0, none⟩) 0 0) (xorAll (zss.take 0))) := Lib.hid (Own.lit _ _ (Nat.le_refl _))
  go_enter Try.func76, Try.ntmps76
  go_wp2_with fail
  go_loopw [3, 4] (fun s i wr => ∃ j : Nat, i = .int .i64 j ∧ j ≤ zss.length ∧ Own 5 .u8 w.heap.size wr s (xorAll (zss.take j)) ∧ Below w.heap.size w wr) (fun _ i _ => zss.length - (intOf i).toNat)
  case atStart => exact ⟨0, rfl, Nat.zero_le _, HO.out, (Below.refl _ _).alloc (Nat.le_refl _) _⟩
  case round =>
    obtain ⟨j, rfl, hj, hO, hB⟩ := hrel
    have HO' := Lib.hid hO
    have HB := Lib.hid hB
    clear hO hB HO
    by_cases hlt : j < zss.length
    · have e1 : decide ((j : Int) < (zss.length : Int)) = true := by simp; omega
      obtain ⟨b, o, rfl, hbl, hcell⟩ := Hc.out (by omega)
      obtain ⟨zs, hzs⟩ : ∃ zs, zss[j]? = some zs := ⟨_, List.getElem?_eq_getElem hlt⟩
      obtain ⟨u, c1, hr⟩ := hcell wr (HB.out.mono hlim) j zs hzs
      have Hr := Lib.hid hr
      have Hz := Lib.hid hzs
      have HL : Hid ((xorAll (zss.take j)).length + zs.length ≤ 140737488355328) := Lib.hid (by
        have h1 := fl_at hzs
        have h2 : (xorAll (zss.take j)).length ≤ fl (zss.take j) := xorAll_len _
        have h3 := HN.out
        unfold tot at h3
        omega)
      clear hcell hr hzs
      go_wp2_with fail
      refine (spec_xb HO'.out.rd Hr.out (Nat.le_refl _) (Nat.le_trans hlim HB.out.size) HL.out).mono ?_
      rintro e w3 ⟨v3, rfl, h3, h4⟩
      rw [xorAll_take Hz.out] at h3
      have H3 := Lib.hid (h3.mono HB.out.size)
      have H4 := Lib.hid (HB.out.trans (h4.mono HB.out.size))
      clear h3 h4
      go_wp2
      go_roundw
      case rel => exact ⟨j + 1, by simp, hlt, H3.out, H4.out⟩
      case measure => simp [intOf]; omega
    · have e1 : decide ((j : Int) < (zss.length : Int)) = false := by simp; omega
      have HR : Hid (Own 5 .u8 w.heap.size wr _ (xorAll zss)) := Lib.hid (by
        have := HO'.out
        rw [List.take_of_length_le (by omega)] at this
        exact this)
      go_wp2
      go_ret
      exact ⟨_, rfl, HR.out, HB.out⟩

set_option maxHeartbeats 1000000 in
/-- impl.XorAll. -/
theorem impl_xa {lim : Nat} {w : World} {v : Value} {zss : List (List Int)} (h : Rd2 lim .u8 w v zss) (hlim : lim ≤ w.heap.size) (hn : tot zss ≤ 1099511627776) :
    Calls Try.prog 91 #[v] w fun e w' => ∃ v', e = .returned v' ∧ Own 5 .u8 w.heap.size w' v' (xorAll zss) ∧ Below w.heap.size w w' := by
  obtain ⟨i0, hi, hz0, hz1, hz2⟩ := info_parts infou8
  have Hhi := Lib.hid hi
  obtain ⟨a, cap, rfl, h1, h2, hc⟩ := h.open
  have Hc := Lib.hid hc
  have HN := Lib.hid hn
  unfold maxLen at h2
  clear h hc hi hn
  have HO : Hid (Own 5 .u8 w.heap.size (w.alloc (.cells #[] 5)) (.slice (some ⟨w.heap.size, 0, none⟩) 0 0) (xorAll (zss.take 0))) := Lib.hid (Own.lit _ _ (Nat.le_refl _))
  go_enter Try.func91, Try.ntmps91
  go_wp2_with fail
  go_loopw [3, 9] (fun s i wr => ∃ j : Nat, i = .int .i64 j ∧ j ≤ zss.length ∧ Own 5 .u8 w.heap.size wr s (xorAll (zss.take j)) ∧ Below w.heap.size w wr) (fun _ i _ => zss.length - (intOf i).toNat)
  case atStart => exact ⟨0, rfl, Nat.zero_le _, HO.out, (Below.refl _ _).alloc (Nat.le_refl _) _⟩
  case round =>
    obtain ⟨j, rfl, hj, hO, hB⟩ := hrel
    have HO' := Lib.hid hO
    have HB := Lib.hid hB
    clear hO hB HO
    by_cases hlt : j < zss.length
    · have e1 : decide ((j : Int) < (zss.length : Int)) = true := by simp; omega
      obtain ⟨b, o, rfl, hbl, hcell⟩ := Hc.out (by omega)
      obtain ⟨zs, hzs⟩ : ∃ zs, zss[j]? = some zs := ⟨_, List.getElem?_eq_getElem hlt⟩
      obtain ⟨u, c1, hr⟩ := hcell wr (HB.out.mono hlim) j zs hzs
      have Hr := Lib.hid hr
      have Hz := Lib.hid hzs
      have HL : Hid ((xorAll (zss.take j)).length + zs.length ≤ 140737488355328) := Lib.hid (by
        have h1 := fl_at hzs
        have h2 : (xorAll (zss.take j)).length ≤ fl (zss.take j) := xorAll_len _
        have h3 := HN.out
        unfold tot at h3
        omega)
      clear hcell hr hzs
      go_wp2_with fail
      refine (xorInto_any HO'.out Hr.out hlim HL.out).mono ?_
      rintro e w3 ⟨v3, rfl, h3, h4⟩
      rw [xorAll_take Hz.out] at h3
      have H3 := Lib.hid h3
      have H4 := Lib.hid (HB.out.trans h4)
      clear h3 h4
      go_wp2
      go_roundw
      case rel => exact ⟨j + 1, by simp, hlt, H3.out, H4.out⟩
      case measure => simp [intOf]; omega
    · have e1 : decide ((j : Int) < (zss.length : Int)) = false := by simp; omega
      have HR : Hid (Own 5 .u8 w.heap.size wr _ (xorAll zss)) := Lib.hid (by
        have := HO'.out
        rw [List.take_of_length_le (by omega)] at this
        exact this)
      go_wp2
      go_ret
      exact ⟨_, rfl, HR.out, HB.out⟩

/-- Whether two byte strings are the same, as both functions compare them. -/
def eqb (xs ys : List Int) : Bool := (strOfNums xs).toList == (strOfNums ys).toList
theorem eqb_self (xs : List Int) : eqb xs xs = true := by unfold eqb; simp
/-- Whether two lists are the same. -/
def el (xss yss : List (List Int)) : Bool := decide (xss.length = yss.length ∧ ∀ i, i < xss.length → eqb (xss.getD i []) (yss.getD i []) = true)
theorem el_self (xss : List (List Int)) : el xss xss = true := decide_eq_true ⟨rfl, fun _ _ => eqb_self _⟩
theorem u8_inj {x y : Int} (hx : 0 ≤ x ∧ x ≤ 255) (hy : 0 ≤ y ∧ y ≤ 255) (h : UInt8.ofNat x.toNat = UInt8.ofNat y.toNat) : x = y := by
  have := congrArg UInt8.toNat h
  simp at this
  omega
theorem eqb_iff {xs ys : List Int} (hx : U8s xs) (hy : U8s ys) : eqb xs ys = decide (xs = ys) := by
  unfold eqb
  rw [Lib.strOfNums_toList, Lib.strOfNums_toList]
  rw [Bool.eq_iff_iff, decide_eq_true_iff, beq_iff_eq]
  constructor
  · intro h
    have hl : xs.length = ys.length := by rw [← Lib.bytesOf_length xs, h, Lib.bytesOf_length]
    refine list_eq hl fun i hi => u8_inj (hx.get i) (hy.get i) ?_
    have := congrArg (fun l => l[i]?) h
    unfold Lib.bytesOf at this
    simp only [List.getElem?_map, List.getElem?_eq_getElem hi, List.getElem?_eq_getElem (show i < ys.length by omega)] at this
    simpa [List.getD_eq_getElem?_getD, List.getElem?_eq_getElem hi, List.getElem?_eq_getElem (show i < ys.length by omega)] using this
  · rintro rfl; rfl
theorem getD_of {xss : List (List Int)} {i : Nat} {xs : List Int} (h : xss[i]? = some xs) : xss.getD i [] = xs := by rw [List.getD_eq_getElem?_getD, h]; rfl

end Go.Proofs.Ytnamgnhplodhoaa
end

/- Rows of the call's own whose elements are slices that may be others'. No program. -/
section
namespace Go.Proofs.Ytnamgnhplodhoaa
open Go Go.RowKit
set_option linter.unusedVariables false

/-- v is nil or the head of a row of the call's own (blocks from B on) whose elements are the values us. -/
def OwnV (t : TypeId) (B : Nat) (w : World) (v : Value) (us : List Value) : Prop :=
  (∀ u ∈ us, u.oneCell' = true) ∧ B ≤ w.heap.size ∧ w.ownsRow B t 1 v us.length us

theorem OwnV.alloc {t : TypeId} {B : Nat} {w : World} {v : Value} {us : List Value} (h : OwnV t B w v us) (o : Obj) : OwnV t B (w.alloc o) v us :=
  ⟨h.1, by have := h.2.1; simp; omega, h.2.2.alloc o⟩
theorem OwnV.lit {B : Nat} {w : World} (t : TypeId) (hB : B ≤ w.heap.size) : OwnV t B (w.alloc (.cells #[] t)) (.slice (some ⟨w.heap.size, 0, none⟩) 0 0) [] :=
  ⟨by simp, by simp; omega, World.ownsRow_made w #[] 0 hB (Nat.zero_le _) rfl⟩
theorem OwnV.below {t : TypeId} {B C : Nat} {w w' : World} {v : Value} {us : List Value} (h : OwnV t B w v us) (hC : C ≤ B) (hg : w.grownBy w' v.ownBlock) : Below C w w' :=
  (Below.refl C w).grown hg (Nat.le_trans hC h.2.1) (fun r hr => by have := (h.2.2.lt r hr).1; omega)

theorem OwnV.rdv {t : TypeId} {B : Nat} {w : World} {v : Value} {us : List Value} (h : OwnV t B w v us) : RdV w.heap.size w v us := by
  obtain ⟨_, hB, h1⟩ := h
  have h1' := h1
  rcases h1.2 with ⟨rfl, h0⟩ | ⟨g, cap, cur, rfl, h5, h6, h7, h8, h9⟩
  · exact ⟨none, 0, by rw [h0], by omega, by unfold maxLen; omega, .inl ⟨rfl, rfl⟩⟩
  · refine ⟨_, cap, rfl, h7, h8, .inr ⟨_, rfl, fun i u hu => ?_, .inl (Array.getElem?_eq_some_iff.1 h6).1⟩⟩
    have hi := (List.getElem?_eq_some_iff.1 hu).1
    have e2 : (⟨g, 0, none⟩ : Addr).add i = ⟨g, i, none⟩ := by unfold Addr.add; split <;> simp_all
    rw [e2, World.ownsRow.cellAt h1' i (by omega)]
    exact hu

theorem rd_one {k : IntKind} {w : World} {lim : Nat} {u : Value} {zs : List Int} (h : Rd lim k w u zs) : u.oneCell' = true := by
  obtain ⟨_, a, cap, rfl, _⟩ := h
  rfl

/-- append of what is read to such a row. -/
theorem append_vals {P : Program} (w : World) {ops : Array Oper} {rest : List Oper} {o : Oper} {a : Act} {Q : Exit → Act → World → Prop} (hg : o.guard = none) (s x : Operand) (tt : TypeId)
    (hop : o.op = .call { callee := .builtin .append, args := #[s, x], argTypes := #[tt, tt] }) (t : TypeId) (i : TypeInfo) (bytes : Nat) (ht : P.underlying tt = some (.slice t)) (hi : P.info? t = some i) (hz : i.zero = some (.slice none 0 0))
    (hsize : i.size = 1) (hby : i.bytes = bytes) (hb1 : 1 ≤ bytes) {B lim : Nat} {v u : Value} {us ys : List Value} (hs : a.eval s = v) (hown : OwnV t B w v us) (hx : a.eval x = u) (hu : RdV lim w u ys) (hone : ∀ y ∈ ys, y.oneCell' = true)
    (hle : (us.length + ys.length) * bytes ≤ 140737488355328)
    (h : ∀ v' w', OwnV t B w' v' (us ++ ys) → w.grownBy w' v.ownBlock → wpList P ops Q rest (a.put o.dst v') w') : wpList P ops Q (o :: rest) a w := by
  obtain ⟨p, cap, rfl, u1, u2, u3⟩ := hu
  obtain ⟨vw, vB, vo⟩ := hown
  have hm : us.length + ys.length ≤ maxLen := by
    have : (us.length + ys.length) * 1 ≤ (us.length + ys.length) * bytes := Nat.mul_le_mul_left _ hb1
    unfold maxLen; omega
  have one : ∀ y ∈ us ++ ys, y.oneCell' = true := fun y hy => by
    rcases List.mem_append.1 hy with h | h
    · exact vw y h
    · exact hone y h
  rcases u3 with ⟨rfl, rfl⟩ | ⟨y, rfl, hc, hbl⟩
  · have hy : ys = [] := List.eq_nil_of_length_eq_zero (by omega)
    subst hy
    refine wpList_append_own_none hg s x tt hop B t i 1 ht hi v us.length _ hs vo hx ?_
    exact h v w (by rw [List.append_nil]; exact ⟨vw, vB, vo⟩) (World.grownBy.refl _ _)
  · refine wpList_append_own w hg s x tt hop B t i _ 1 bytes ht hi hz hsize hby rfl (by decide) v us.length us hs vo y ys.length cap ys hx (by simp) hc hone hm hle vB ?_
    intro v' w' h1 h2 _
    exact h v' w' ⟨one, Nat.le_trans vB h2.size, by rw [List.length_append]; exact h1⟩ h2

/-- A literal of one element. -/
theorem RdV.one (w : World) (u : Value) (t : TypeId) : RdV (w.heap.size + 1) (w.alloc (.cells #[u] t)) (.slice (some ⟨w.heap.size, 0, none⟩) 1 1) [u] :=
  ⟨_, 1, rfl, Nat.le_refl _, by unfold maxLen; omega, .inr ⟨_, rfl, fun i y hy => cell_one_new w u t i y hy, .inl (Nat.lt_succ_self _)⟩⟩

/-- What is read is one cell each. -/
theorem U3o {lim : Nat} {k : IntKind} {w : World} {us : List Value} {zss : List (List Int)} (hl : us.length = zss.length) (h : ∀ (i : Nat) (u : Value) (zs : List Int), us[i]? = some u → zss[i]? = some zs → Rd lim k w u zs) : ∀ y ∈ us, y.oneCell' = true := fun y hy => by
  obtain ⟨i, hi, rfl⟩ := List.mem_iff_getElem.1 hy
  exact rd_one (h i _ _ (List.getElem?_eq_getElem hi) (List.getElem?_eq_getElem (by omega)))

/-- A row of such values with one more, read. -/
theorem OwnV.rd2_snoc {t : TypeId} {B lim : Nat} {k : IntKind} {w0 w : World} {v u : Value} {us : List Value} {zss : List (List Int)} {zs : List Int} (h : OwnV t B w v (us ++ [u])) (hl : us.length = zss.length)
    (h1 : ∀ (i : Nat) (u : Value) (zs : List Int), us[i]? = some u → zss[i]? = some zs → Rd lim k w0 u zs) (h2 : Rd lim k w0 u zs) (hb : Below lim w0 w) (hlim : lim ≤ w.heap.size) : Rd2 w.heap.size k w v (zss ++ [zs]) := by
  refine ⟨us ++ [u], by simp [hl], h.rdv, fun i y z hy hz => ?_⟩
  by_cases hi : i < us.length
  · rw [List.getElem?_append_left hi] at hy
    rw [List.getElem?_append_left (by omega)] at hz
    exact ((h1 i y z hy hz).behind hb).mono hlim
  · have hi' : i = us.length := by have := (List.getElem?_eq_some_iff.1 hy).1; simp at this; omega
    subst hi'
    rw [List.getElem?_append_right (Nat.le_refl _)] at hy
    rw [hl, List.getElem?_append_right (Nat.le_refl _)] at hz
    simp at hy hz
    subst hy; subst hz
    exact (h2.behind hb).mono hlim

end Go.Proofs.Ytnamgnhplodhoaa
end
