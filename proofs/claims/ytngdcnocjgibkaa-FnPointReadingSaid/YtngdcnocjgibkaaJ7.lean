import Derived.Test.YtngdcnocjgibkaaJ3
import Derived.Test.YtngdcnocjgibkaaEnc
import Derived.Test.YtngdcnocjgibkaaBa8
import Derived.Test.YtngdcnocjgibkaaBaM
import Derived.Test.YtngdcnocjgibkaaJ4

/- The helpers of the exact laws on databases: their size, a copy, whether two are equal, marks. No conditions but a size that a machine holds. -/
section
namespace Go.Proofs.Ytngdcnocjgibkaa
open Go Go.RowKit
set_option linter.unusedVariables false

theorem one0 (x : Value) : (#[x] : Array Value)[0]? = some x := rfl

theorem blocks2 (w : World) (o1 o2 : Obj) : ((w.alloc o1).alloc o2).heap[w.heap.size]? = some o1 ∧ ((w.alloc o1).alloc o2).heap[w.heap.size + 1]? = some o2 := by
  refine ⟨(heap_alloc_old _ _ (by simp)).trans (heap_alloc_new w _), ?_⟩
  have := heap_alloc_new (w.alloc o1) o2
  rwa [World.size_alloc] at this
theorem blocks3 (w : World) (o1 o2 o3 : Obj) : (((w.alloc o1).alloc o2).alloc o3).heap[w.heap.size]? = some o1 ∧ (((w.alloc o1).alloc o2).alloc o3).heap[w.heap.size + 1]? = some o2 ∧ (((w.alloc o1).alloc o2).alloc o3).heap[w.heap.size + 1 + 1]? = some o3 := by
  have h1 := blocks2 w o1 o2
  refine ⟨(heap_alloc_old _ _ (by simp; omega)).trans h1.1, (heap_alloc_old _ _ (by simp)).trans h1.2, ?_⟩
  have := heap_alloc_new ((w.alloc o1).alloc o2) o3
  rwa [World.size_alloc, World.size_alloc] at this

theorem World.setCell_size (w : World) (p : Addr) (u : Value) : (w.setCell p u).heap.size = w.heap.size := by simp [World.setCell]

/-- A block of one cell, written. -/
theorem store1 {w : World} {b : Nat} {y : Value} {t : TypeId} (h : w.heap[b]? = some (.cells #[y] t (0, 0))) (x : Value) :
    (w.setCell ⟨b, 0, none⟩ x).heap[b]? = some (.cells #[x] t (0, 0)) ∧ (w.setCell ⟨b, 0, none⟩ x).cell? ⟨b, 0, none⟩ = some x ∧ KeptF (fun c => c = b) w (w.setCell ⟨b, 0, none⟩ x) := by
  have h1 : (w.setCell ⟨b, 0, none⟩ x).heap[b]? = some (.cells #[x] t (0, 0)) := blk_set h 0 x
  exact ⟨h1, blk_cell h1 0, KeptF.of_grown (grown_set w b 0 x) (fun c hc => by injection hc with hc; exact hc.symm)⟩
/-- Two blocks of one cell, written one after the other. -/
theorem store2 {w : World} {b c : Nat} {y : Value} {t : TypeId} (h : w.heap[b]? = some (.cells #[y] t (0, 0))) (hne : b ≠ c) (x z : Value) :
    ((w.setCell ⟨c, 0, none⟩ z).setCell ⟨b, 0, none⟩ x).cell? ⟨b, 0, none⟩ = some x ∧ KeptF (fun d => d = b ∨ d = c) w ((w.setCell ⟨c, 0, none⟩ z).setCell ⟨b, 0, none⟩ x) := by
  have g := grown_set w c 0 z
  have h1 := (g.block b (lt_of_block h) (fun e => hne (by injection e))).trans h
  obtain ⟨_, q2, q3⟩ := store1 h1 x
  exact ⟨q2, (KeptF.of_grown (F := fun d => d = b ∨ d = c) g (fun d hd => by injection hd with hd; exact .inr hd.symm)).trans (q3.mono fun d hd => .inl hd)⟩

end Go.Proofs.Ytngdcnocjgibkaa
end

/- Copies of rows; one row appended to rows: what each gives. No conditions but a size that a machine holds. -/
section
namespace Go.Proofs.Ytngdcnocjgibkaa
open Go Go.RowKit
set_option linter.unusedVariables false

/-- The rows' head. -/
theorem rd2_head {lim n : Nat} {k : IntKind} {w : World} {u : Value} {us : List Value} {zss : List (List Int)} (hl : us.length = zss.length) (hr : RdV lim w u (us.take n))
    (h : ∀ (i : Nat) (u : Value) (zs : List Int), us[i]? = some u → zss[i]? = some zs → Rd lim k w u zs) : Rd2 lim k w u (zss.take n) := by
  refine ⟨us.take n, by simp [hl], hr, fun i y z hy hz => ?_⟩
  rw [List.getElem?_take] at hy hz
  split at hy
  · rename_i hi
    rw [if_pos hi] at hz
    exact h i y z hy hz
  · cases hy

/-- append of one row of the call's own to a slice of rows of the call's own, whatever their blocks. -/
theorem append_rowF {P : Program} (w : World) {ops : Array Oper} {rest : List Oper} {o : Oper} {a : Act} {Q : Exit → Act → World → Prop} (hg : o.guard = none) (s x : Operand) (tt : TypeId)
    (hop : o.op = .call { callee := .builtin .append, args := #[s, x], argTypes := #[tt, tt] }) (t e : TypeId) (i : TypeInfo) (bytes : Nat) (ht : P.underlying tt = some (.slice t)) (hi : P.info? t = some i) (hz : i.zero = some (.slice none 0 0))
    (hsize : i.size = 1) (hby : i.bytes = bytes) (hb1 : 1 ≤ bytes) {k : IntKind} {F : Nat → Prop} {v u : Value} {ad : Addr} {c : Nat} {zss : List (List Int)} {zs : List Int} (hs : a.eval s = v) (hown : Own2 t e k F w v zss) (hlt : ∀ b, F b → b < w.heap.size)
    (hx : a.eval x = .slice (some ad) 1 c) (hc : w.cell? (ad.add 0) = some u) (hu : Own e k 0 w u zs) (hF : ∀ r, u.ownBlock = some r → ¬ F r) (hle : (zss.length + 1) * bytes ≤ 140737488355328)
    (h : ∀ v' w', Own2 t e k (fun b => F b ∨ u.ownBlock = some b ∨ v'.ownBlock = some b) w' v' (zss ++ [zs]) → w.grownBy w' v.ownBlock → (v'.ownBlock = v.ownBlock ∨ v'.ownBlock = some w.heap.size) → (∀ r, v'.ownBlock = some r → r < w'.heap.size) →
      wpList P ops Q rest (a.put o.dst v') w') : wpList P ops Q (o :: rest) a w := by
  obtain ⟨v', w', hr, p1, p2, p3, p4, _⟩ := run_append_row (P := P) w tt o.type t e i bytes ht hi hz hsize hby hb1 hown hlt hc hu hF hle
  refine wpList_plain hg fun K hK => ?_
  unfold Oper.wp
  simp only [execOp, hop, resolve, invoke, builtin, Sem.run_bind, Sem.run_pure, Result.andThen_ok, List.map_toArray, List.map_cons, List.map_nil, hs, hx]
  rw [hr]
  exact hK _ _ (h v' w' p1 p2 p3 p4)

theorem made_start {t e : TypeId} {k : IntKind} {B g n : Nat} {w1 : World} (ho : w1.ownsRow g t 1 (.slice (some ⟨g, 0, none⟩) n n) n (madeCells #[.slice none 0 0] n).toList) (hB : B ≤ g) :
    Own2 t e k (ival B w1.heap.size) w1 (.slice (some ⟨g, 0, none⟩) n n) (List.replicate n []) := by
  rw [toList_madeCells_one] at ho
  have hlt := (ho.lt g rfl).2
  refine Own2.made ?_ ⟨hB, hlt⟩
  obtain ⟨p1, p2⟩ := ho
  exact ⟨p1, by rcases p2 with p2 | ⟨g', cap, cur, q1, q2, q3⟩; exact .inl p2; exact .inr ⟨g', cap, cur, q1, Nat.zero_le _, q3⟩⟩

/-- A row of its own is stored into an element. -/
theorem put_ival {t e : TypeId} {k : IntKind} {B E g n j : Nat} {w : World} {u : Value} {zss : List (List Int)} {zs : List Int} (h : Own2 t e k (ival B E) w (.slice (some ⟨g, 0, none⟩) n n) zss) (hu : Own e k E w u zs) (hBE : B ≤ E) (hE : E ≤ w.heap.size) :
    Own2 t e k (ival B (w.setCell ⟨g, j, none⟩ u).heap.size) (w.setCell ⟨g, j, none⟩ u) (.slice (some ⟨g, 0, none⟩) n n) (zss.set j zs) ∧ w.grownBy (w.setCell ⟨g, j, none⟩ u) (some g) ∧ B ≤ g := by
  have hF : ∀ r, u.ownBlock = some r → ¬ ival B E r := fun r hr hi => by
    have := (hu.lt r hr).1
    unfold ival at hi; omega
  have hg : ival B E g := h.in_ g rfl
  obtain ⟨p1, p2⟩ := h.put (j := j) (hu.mono (Nat.zero_le _)) hF
  refine ⟨p1.mono fun b hb => ?_, p2, hg.1⟩
  have es : (w.setCell ⟨g, j, none⟩ u).heap.size = w.heap.size := by simp [World.setCell]
  rw [es]
  rcases hb with hb | hb
  · unfold ival at hb ⊢; omega
  · have := hu.lt b hb
    unfold ival; omega

end Go.Proofs.Ytngdcnocjgibkaa
end

/- Chapter 8's small functions, the program's and the document's: what each gives. No conditions but a size that a machine holds. -/
section
namespace Go.Proofs.Ytngdcnocjgibkaa
open Go Go.RowKit
set_option linter.unusedVariables false
attribute [local irreducible] kh

theorem cell_any {w : World} {a : Option Addr} {n cap : Nat} : Calls Try.prog 66 #[.slice a n cap] w fun e w' => e = .returned (.bool ((n : Int) == 24)) ∧ w' = w := by
  go_enter Try.func66, Try.ntmps66
  go_wp2
  go_ret
  exact ⟨rfl, rfl⟩

theorem vd_of {zss : List (List Int)} (h : zss.length ≤ 64) : vd zss = vrows zss := by unfold vd; rw [decide_eq_true h]; rfl
theorem vd_big {zss : List (List Int)} (h : 64 < zss.length) : vd zss = false := by unfold vd; rw [decide_eq_false (by omega)]; rfl

set_option maxHeartbeats 1000000 in
/-- impl.IsValidDatabase -/
theorem impl_vd {lim : Nat} {w : World} {v : Value} {zss : List (List Int)} (h : Rd2 lim .u8 w v zss) (hlim : lim ≤ w.heap.size) :
    Calls Try.prog 67 #[.agg #[v]] w fun e w' => e = .returned (.bool (vd zss)) ∧ Below w.heap.size w w' := by
  obtain ⟨a, cap, rfl, h1, h2, hc⟩ := h.open
  have HB := Lib.hid ((Below.refl w.heap.size w).alloc (Nat.le_refl _) (.cells #[.slice a zss.length cap] 42))
  unfold maxLen at h2
  have Hc := Lib.hid hc
  obtain ⟨q, hq⟩ : ∃ q, q = vd zss := ⟨_, rfl⟩
  rw [← hq]
  have HQ := Lib.hid hq
  clear h hc hq
  by_cases hbig : 64 < zss.length
  · have e1 : decide ((64 : Int) < (zss.length : Int)) = true := by simp; omega
    have HE : Hid (q = false) := Lib.hid (by rw [HQ.out, vd_big hbig])
    clear hbig
    go_enter Try.func67, Try.ntmps67
    go_wp2_with fail
    go_ret
    exact ⟨by rw [HE.out]; rfl, HB.out⟩
  · have e1 : decide ((64 : Int) < (zss.length : Int)) = false := by simp; omega
    have hn : zss.length ≤ 64 := by omega
    have HV : Hid (q = vrows zss) := Lib.hid (by rw [HQ.out, vd_of hn])
    clear hbig
    go_enter Try.func67, Try.ntmps67
    go_wp2_with fail
    go_loopw [12] (fun i wr => ∃ j : Nat, i = .int .i64 j ∧ j ≤ zss.length ∧ (∀ k, k < j → (zss.getD k []).length = 24) ∧ Below w.heap.size w wr) (fun i _ => zss.length - (intOf i).toNat)
    case atStart => exact ⟨0, rfl, Nat.zero_le _, fun k hk => by omega, HB.out⟩
    case round =>
      obtain ⟨j, rfl, hj, hall, hB⟩ := hrel
      replace HB := Lib.hid hB
      have HA := Lib.hid hall
      clear hB hall
      by_cases hlt : j < zss.length
      · have e2 : decide ((j : Int) < (zss.length : Int)) = true := by simp; omega
        obtain ⟨b, o, rfl, hbl, hcell⟩ := Hc.out (by omega)
        obtain ⟨zs, hzs⟩ : ∃ zs, zss[j]? = some zs := ⟨_, List.getElem?_eq_getElem hlt⟩
        obtain ⟨u, c1, hr⟩ := hcell wr (HB.out.mono hlim) j zs hzs
        obtain ⟨a1, k1, hu, _⟩ := hr.open
        obtain ⟨L, hL⟩ : ∃ L, L = zs.length := ⟨_, rfl⟩
        rw [← hL] at hu
        subst hu
        have HLz : Hid ((zss.getD j []).length = L) := Lib.hid (by rw [getD_of hzs, hL])
        clear hcell hzs hr hL
        by_cases h24 : L = 24
        · have e3 : ((L : Int) == 24) = true := by simp; omega
          have H24 := Lib.hid h24
          clear h24
          go_wp2_with fail
          refine (cell_any).mono ?_
          rw [e3]
          rintro e w2 ⟨rfl, hw2⟩
          subst hw2
          go_wp2_with fail
          go_roundw
          case rel =>
            refine ⟨j + 1, by simp, hlt, fun k hk => ?_, HB.out⟩
            by_cases hkj : k = j
            · rw [hkj, HLz.out, H24.out]
            · exact HA.out k (by omega)
          case measure => simp [intOf]; omega
        · have e3 : ((L : Int) == 24) = false := by rw [beq_eq_false_iff_ne]; omega
          have HE : Hid (q = false) := Lib.hid (by rw [HV.out]; exact vrows_no hlt (by rw [HLz.out]; exact h24))
          clear h24
          go_wp2_with fail
          refine (cell_any).mono ?_
          rw [e3]
          rintro e w2 ⟨rfl, hw2⟩
          subst hw2
          go_wp2_with fail
          go_ret
          exact ⟨by rw [HE.out]; rfl, HB.out⟩
      · have e2 : decide ((j : Int) < (zss.length : Int)) = false := by simp; omega
        have HE : Hid (q = true) := Lib.hid (by rw [HV.out]; exact vrows_iff.2 fun i hi => HA.out i (by omega))
        go_wp2_with fail
        go_ret
        exact ⟨by rw [HE.out]; rfl, HB.out⟩

end Go.Proofs.Ytngdcnocjgibkaa
end
