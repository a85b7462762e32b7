/- Copies of rows; one row appended to rows: what each gives. No conditions but a size that a machine holds. -/
import Derived.Test.YtlogljbbegklbaaBa6
import Derived.Test.YtlogljbbegklbaaEnc
import Derived.Test.YtlogljbbegklbaaBa8
import Derived.Test.YtlogljbbegklbaaBaM
namespace Go.Proofs.Ytlogljbbegklbaa
open Go Go.RowKit
set_option linter.unusedVariables false

/-- The rows' head. -/
theorem rd2_head {lim n : Nat} {k : IntKind} {w : World} {u : Value} {us : List Value} {zss : List (List Int)} (hl : us.length = zss.length) (hr : RdV lim w u (us.take n))
    (h : ∀ (i : Nat) (u : Value) (zs : List Int), us[i]? = some u → zss[i]? = some zs → Rd lim k w u zs) : Rd2 lim k w u (zss.take n) := by
  refine ⟨us.take n, by simp [hl], hr, fun i y z hy hz => ?_⟩
  rw [List.getElem?_take] at hy hz
  split at hy
  · rename_i hi
    rw [if_pos hi] at hz
    exact h i y z hy hz
  · cases hy

/-- append of one row of the call's own to a slice of rows of the call's own, whatever their blocks. -/
theorem append_rowF {P : Program} (w : World) {ops : Array Oper} {rest : List Oper} {o : Oper} {a : Act} {Q : Exit → Act → World → Prop} (hg : o.guard = none) (s x : Operand) (tt : TypeId)
    (hop : o.op = .call { callee := .builtin .append, args := #[s, x], argTypes := #[tt, tt] }) (t e : TypeId) (i : TypeInfo) (bytes : Nat) (ht : P.underlying tt = some (.slice t)) (hi : P.info? t = some i) (hz : i.zero = some (.slice none 0 0))
    (hsize : i.size = 1) (hby : i.bytes = bytes) (hb1 : 1 ≤ bytes) {k : IntKind} {F : Nat → Prop} {v u : Value} {ad : Addr} {c : Nat} {zss : List (List Int)} {zs : List Int} (hs : a.eval s = v) (hown : Own2 t e k F w v zss) (hlt : ∀ b, F b → b < w.heap.size)
    (hx : a.eval x = .slice (some ad) 1 c) (hc : w.cell? (ad.add 0) = some u) (hu : Own e k 0 w u zs) (hF : ∀ r, u.ownBlock = some r → ¬ F r) (hle : (zss.length + 1) * bytes ≤ 140737488355328)
    (h : ∀ v' w', Own2 t e k (fun b => F b ∨ u.ownBlock = some b ∨ v'.ownBlock = some b) w' v' (zss ++ [zs]) → w.grownBy w' v.ownBlock → (v'.ownBlock = v.ownBlock ∨ v'.ownBlock = some w.heap.size) → (∀ r, v'.ownBlock = some r → r < w'.heap.size) →
      wpList P ops Q rest (a.put o.dst v') w') : wpList P ops Q (o :: rest) a w := by
  obtain ⟨v', w', hr, p1, p2, p3, p4, _⟩ := run_append_row (P := P) w tt o.type t e i bytes ht hi hz hsize hby hb1 hown hlt hc hu hF hle
  refine wpList_plain hg fun K hK => ?_
  unfold Oper.wp
  simp only [execOp, hop, resolve, invoke, builtin, Sem.run_bind, Sem.run_pure, Result.andThen_ok, List.map_toArray, List.map_cons, List.map_nil, hs, hx]
  rw [hr]
  exact hK _ _ (h v' w' p1 p2 p3 p4)

theorem made_start {t e : TypeId} {k : IntKind} {B g n : Nat} {w1 : World} (ho : w1.ownsRow g t 1 (.slice (some ⟨g, 0, none⟩) n n) n (madeCells #[.slice none 0 0] n).toList) (hB : B ≤ g) :
    Own2 t e k (ival B w1.heap.size) w1 (.slice (some ⟨g, 0, none⟩) n n) (List.replicate n []) := by
  rw [toList_madeCells_one] at ho
  have hlt := (ho.lt g rfl).2
  refine Own2.made ?_ ⟨hB, hlt⟩
  obtain ⟨p1, p2⟩ := ho
  exact ⟨p1, by rcases p2 with p2 | ⟨g', cap, cur, q1, q2, q3⟩; exact .inl p2; exact .inr ⟨g', cap, cur, q1, Nat.zero_le _, q3⟩⟩

/-- A row of its own is stored into an element. -/
theorem put_ival {t e : TypeId} {k : IntKind} {B E g n j : Nat} {w : World} {u : Value} {zss : List (List Int)} {zs : List Int} (h : Own2 t e k (ival B E) w (.slice (some ⟨g, 0, none⟩) n n) zss) (hu : Own e k E w u zs) (hBE : B ≤ E) (hE : E ≤ w.heap.size) :
    Own2 t e k (ival B (w.setCell ⟨g, j, none⟩ u).heap.size) (w.setCell ⟨g, j, none⟩ u) (.slice (some ⟨g, 0, none⟩) n n) (zss.set j zs) ∧ w.grownBy (w.setCell ⟨g, j, none⟩ u) (some g) ∧ B ≤ g := by
  have hF : ∀ r, u.ownBlock = some r → ¬ ival B E r := fun r hr hi => by
    have := (hu.lt r hr).1
    unfold ival at hi; omega
  have hg : ival B E g := h.in_ g rfl
  obtain ⟨p1, p2⟩ := h.put (j := j) (hu.mono (Nat.zero_le _)) hF
  refine ⟨p1.mono fun b hb => ?_, p2, hg.1⟩
  have es : (w.setCell ⟨g, j, none⟩ u).heap.size = w.heap.size := by simp [World.setCell]
  rw [es]
  rcases hb with hb | hb
  · unfold ival at hb ⊢; omega
  · have := hu.lt b hb
    unfold ival; omega

set_option maxHeartbeats 1000000 in
/-- impl.copyList. -/
theorem copyList_any {lim : Nat} {w : World} {v : Value} {zss : List (List Int)} (h : Rd2 lim .u8 w v zss) (hlim : lim ≤ w.heap.size) (hn : tot zss ≤ 1099511627776) :
    Calls Try.prog 52 #[v] w fun e w' => ∃ v', e = .returned v' ∧ Own2 22 5 .u8 (ival w.heap.size w'.heap.size) w' v' zss ∧ Below w.heap.size w w' := by
  obtain ⟨i0, hi, hz0, hz1, hz2⟩ := info_parts infou8s
  have hn1 : zss.length ≤ 1099511627776 := by unfold tot at hn; omega
  obtain ⟨a, cap, rfl, h1, h2, hc⟩ := h.open
  have Hc := Lib.hid hc
  have Hhi := Lib.hid hi
  have Hn := Lib.hid hn
  unfold maxLen at h2
  clear h hc hi hn
  go_enter Try.func52, Try.ntmps52
  go_wp2_with (first | (at_make; refine wpList_make_full _ rfl _ _ 27 rfl w.heap.size 22 i0 (.slice none 0 0) 1 Try.underlying27 Hhi.out hz0 hz1 .i64 .i64 _ _ zss.length rfl rfl rfl rfl (by rw [hz2]; omega) (by unfold maxLen; omega) (Nat.le_refl _) ?_))
  intro w1 hown hg
  have HO : Hid (Own2 22 5 .u8 (ival w.heap.size w1.heap.size) w1 (.slice (some ⟨w.heap.size, 0, none⟩) zss.length zss.length) (zss.take 0 ++ List.replicate (zss.length - 0) [])) := Lib.hid (by
    rw [List.take_zero, List.nil_append, Nat.sub_zero]
    exact made_start hown (Nat.le_refl _))
  have Hb := Lib.hid ((Below.refl w.heap.size w).grown hg (Nat.le_refl _) (fun k hk => by cases hk))
  clear hown hg
  go_wp2_with fail
  go_loopw [11] (fun i wr => ∃ j : Nat, i = .int .i64 j ∧ j ≤ zss.length ∧ Own2 22 5 .u8 (ival w.heap.size wr.heap.size) wr (.slice (some ⟨w.heap.size, 0, none⟩) zss.length zss.length) (zss.take j ++ List.replicate (zss.length - j) []) ∧ Below w.heap.size w wr) (fun i _ => zss.length - (intOf i).toNat)
  case atStart => exact ⟨0, rfl, Nat.zero_le _, HO.out, Hb.out⟩
  case round =>
    obtain ⟨j, rfl, hj, hO, hB⟩ := hrel
    replace HO := Lib.hid hO
    have HB := Lib.hid hB
    clear hO hB
    by_cases hlt : j < zss.length
    · have e1 : decide ((j : Int) < (zss.length : Int)) = true := by simp; omega
      obtain ⟨b, o, rfl, hbl, hcell⟩ := Hc.out (by omega)
      obtain ⟨zs, hzs⟩ : ∃ zs, zss[j]? = some zs := ⟨_, List.getElem?_eq_getElem hlt⟩
      obtain ⟨u, c1, hr⟩ := hcell wr (HB.out.mono hlim) j zs hzs
      have Hr := Lib.hid hr
      have t2 := tot_at hzs
      have Hz := Lib.hid hzs
      clear hcell hr hzs
      go_wp2_with fail
      refine (copyBytes_any Hr.out (by have := HB.out.size; omega) (by have := Hn.out; omega)).mono ?_
      rintro e w2 ⟨v', rfl, hO2, hb⟩
      obtain ⟨a2, cap2, rfl, _⟩ := hO2.open
      have hlen2 : j < (zss.take j ++ List.replicate (zss.length - j) ([] : List Int)).length := by simp; omega
      have HO2 := Lib.hid hO2
      have HO3 := Lib.hid (HO.out.next hb)
      have HB2 := Lib.hid hb
      obtain ⟨u2, c2⟩ := HO3.out.cellAt hlen2
      have f2 := HO3.out.free (by simp; omega) j
      clear hO2 hb hlen2
      go_wp2
      go_roundw
      case rel =>
        obtain ⟨p1, p2, p3⟩ := put_ival (j := j) HO3.out HO2.out HB.out.size HB2.out.size
        rw [fill_set Hz.out] at p1
        have hs2 := HB.out.size
        have hs3 := HB2.out.size
        exact ⟨j + 1, by simp, hlt, p1, (HB.out.trans (HB2.out.mono (by omega))).grown p2 (by omega) (fun k hk => by injection hk with hk; omega)⟩
      case measure => simp [intOf]; omega
    · have e1 : decide ((j : Int) < (zss.length : Int)) = false := by simp; omega
      have ej : j = zss.length := by omega
      have hO := HO.out
      rw [ej, List.take_length, Nat.sub_self, List.replicate_zero, List.append_nil] at hO
      have HO' := Lib.hid hO
      clear hO HO
      go_wp2
      go_ret
      exact ⟨_, rfl, HO'.out, HB.out⟩

set_option maxHeartbeats 1000000 in
/-- spec.l4Copy. -/
theorem l4Copy_any {lim : Nat} {w : World} {v : Value} {zss : List (List Int)} (h : Rd2 lim .u8 w v zss) (hlim : lim ≤ w.heap.size) (hn : tot zss ≤ 1099511627776) :
    Calls Try.prog 64 #[v] w fun e w' => ∃ v', e = .returned v' ∧ Own2 22 5 .u8 (ival w.heap.size w'.heap.size) w' v' zss ∧ Below w.heap.size w w' := by
  obtain ⟨i0, hi, hz0, hz1, hz2⟩ := info_parts infou8
  obtain ⟨i1, hi', hy0, hy1, hy2⟩ := info_parts infou8s
  have Hhi := Lib.hid hi
  have Hhi' := Lib.hid hi'
  have hn1 : zss.length ≤ 1099511627776 := by unfold tot at hn; omega
  obtain ⟨a, cap, rfl, h1, h2, hc⟩ := h.open
  have Hc := Lib.hid hc
  have Hn := Lib.hid hn
  unfold maxLen at h2
  clear h hc hi hi' hn
  have HO : Hid (Own2 22 5 .u8 (ival w.heap.size (w.alloc (.cells #[] 22)).heap.size) (w.alloc (.cells #[] 22)) (.slice (some ⟨w.heap.size, 0, none⟩) 0 0) (zss.take 0)) := Lib.hid (Own2.lit _ _ _ (by unfold ival; simp))
  go_enter Try.func64, Try.ntmps64
  go_wp2_with fail
  go_loopw [3, 4] (fun s i wr => ∃ j : Nat, i = .int .i64 j ∧ j ≤ zss.length ∧ Own2 22 5 .u8 (ival w.heap.size wr.heap.size) wr s (zss.take j) ∧ Below w.heap.size w wr) (fun _ i _ => zss.length - (intOf i).toNat)
  case atStart => exact ⟨0, rfl, Nat.zero_le _, HO.out, (Below.refl _ _).alloc (Nat.le_refl _) _⟩
  case round =>
    obtain ⟨j, rfl, hj, hO, hB⟩ := hrel
    replace HO := Lib.hid hO
    have HB := Lib.hid hB
    clear hO hB
    by_cases hlt : j < zss.length
    · have e1 : decide ((j : Int) < (zss.length : Int)) = true := by simp; omega
      obtain ⟨b, o, rfl, hbl, hcell⟩ := Hc.out (by omega)
      obtain ⟨zs, hzs⟩ : ∃ zs, zss[j]? = some zs := ⟨_, List.getElem?_eq_getElem hlt⟩
      have HOl : Hid (Own 5 .u8 wr.heap.size (wr.alloc (.cells #[] 5)) (.slice (some ⟨wr.heap.size, 0, none⟩) 0 0) []) := Lib.hid (Own.lit _ _ (Nat.le_refl _))
      have HBa := Lib.hid (HB.out.alloc HB.out.size (.cells #[] 5))
      obtain ⟨u, c1, hr⟩ := hcell _ (HBa.out.mono hlim) j zs hzs
      have Hr := Lib.hid hr
      have t2 := tot_at hzs
      have HT : Hid (zss.take j ++ [zs] = zss.take (j + 1)) := Lib.hid (by rw [List.take_add_one, hzs]; rfl)
      have HLa : Hid ((([] : List Int).length + zs.length) * 1 ≤ 140737488355328) := Lib.hid (by have := Hn.out; simp; omega)
      have HLb : Hid (((zss.take j).length + 1) * 24 ≤ 140737488355328) := Lib.hid (by rw [List.length_take]; omega)
      clear hcell hr hzs
      go_wp2_with (first
        | (at_builtin; refine append_rd _ rfl _ _ 22 rfl 5 i0 (.int .u8 0) 1 Try.underlying22 Hhi.out hz0 hz1 hz2 rfl (by omega) rfl HOl.out rfl Hr.out HLa.out ?_
           intro v5 w5 h5 h6
           have h5' := h5
           rw [List.nil_append] at h5'
           obtain ⟨a5, cap5, hv5, _⟩ := h5'.open
           obtain ⟨L5, hL5⟩ : ∃ L5, zs.length = L5 := ⟨_, rfl⟩
           rw [hL5] at hv5
           subst hv5
           clear hL5
           have H5 := Lib.hid h5'
           have HB5 := Lib.hid ((((Below.refl wr.heap.size wr).alloc (Nat.le_refl _) (.cells #[] 5)).trans (HOl.out.below (Nat.le_refl _) h6)))
           clear h5 h5' h6)
        | (at_builtin; refine append_row _ rfl _ _ 27 rfl 22 5 i1 24 Try.underlying27 Hhi'.out hy0 hy1 hy2 (by omega) rfl (HO.out.next (HB5.out.alloc HB5.out.size _)) HB.out.size (by have := HB5.out.size; simp; omega) rfl (cell_one_new _ _ _ 0 _ rfl) (H5.out.alloc _) HLb.out ?_
           intro v6 w6 h7 h8
           rw [HT.out] at h7
           have H7 := Lib.hid h7
           have HB7 := Lib.hid (KeptF.below (B := w.heap.size) (KeptF.of_grown (F := ival w.heap.size wr.heap.size) h8 (HO.out.in_)) (fun b hb => hb.1) (by have h1 := HB.out.size; have h2 := HB5.out.size; simp; omega))
           clear h7 h8))
      go_roundw
      case rel =>
        refine ⟨j + 1, by simp, hlt, H7.out, ?_⟩
        exact (HB.out.trans ((HB5.out.alloc HB5.out.size _).mono HB.out.size)).trans HB7.out
      case measure => simp [intOf]; omega
    · have e1 : decide ((j : Int) < (zss.length : Int)) = false := by simp; omega
      have hO := HO.out
      rw [List.take_of_length_le (by omega)] at hO
      have HO' := Lib.hid hO
      clear hO HO
      go_wp2
      go_ret
      exact ⟨_, rfl, HO'.out, HB.out⟩

end Go.Proofs.Ytlogljbbegklbaa
