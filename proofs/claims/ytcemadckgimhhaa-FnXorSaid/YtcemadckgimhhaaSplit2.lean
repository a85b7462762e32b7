/- SplitBytes, the program's: the range over its iterator. No conditions but a length that a machine holds. -/
import Derived.Test.YtcemadckgimhhaaSplit
import Derived.RangeFuncNested
import Derived.RangeFuncBound
import Derived.RangeFuncCalls
import Derived.RangeFuncLeaves
import Derived.RangeFuncBox
import Derived.Shelf.Abstract
import Derived.Shelf.RegionOpen
import Derived.WalkKit
import Derived.OwnWalkIn
import Derived.TacticsInMore
import Derived.LoopNIn
import Derived.LoopIn
namespace Go.Proofs.Ytcemadckgimhhaa
open Go Go.RowKit Go.Shelf
set_option linter.unusedVariables false

attribute [local go_sem] Oper.semAt_some

/-- x[l : l + n], in a fenced walk. -/
theorem slice_rdIn {F : Fence} {m : Nat} {P : Program} (w : World) {ops : Array Oper} {rest : List Oper} {o : Oper} {a : Act} {Q : Exit → Act → World → Prop} (hg : o.guard = none) (t : TypeId) (x lo hi' : Operand)
    (hop : o.op = .slice t x (some lo) (some hi') none) (e : TypeId) (i : TypeInfo) (ht : P.underlying t = some (.slice e)) (hi : P.info? e = some i) (hsz : i.size = 1) {k : IntKind} {lim : Nat} {v : Value} {zs : List Int} {l n : Nat} (hx : a.eval x = v) (hr : Rd lim k w v zs)
    (hlo : a.eval lo = .int .i64 (l : Int)) (hhi : a.eval hi' = .int .i64 ((l + n : Nat) : Int)) (hl : l + n ≤ zs.length)
    (h : ∀ u, Rd lim k w u ((zs.drop l).take n) → wpListIn F m P ops Q rest (a.put o.dst u) w) : wpListIn F m P ops Q (o :: rest) a w := by
  refine wpListIn_plain hg fun K hK => ?_
  have hr0 := hr
  obtain ⟨_, p, cap, rfl, h1, h2, h3⟩ := hr
  unfold Oper.wpIn
  refine ⟨?_, ?_⟩
  · simp [Oper.about, hop]
  · rw [Oper.semAt_plain F _ _ (by rw [hop]; intro c hc'; cases hc')]
    simp only [execOp, hop, Option.map_some, Option.map_none, hx, hlo, hhi]
    simp only [Sem.run_bind, Sem.run_pure, run_sliceAt_slice w t _ _ _ _ (und_elem t e ht), run_slice_lh w t p zs.length cap (und_elem t e ht) .i64 .i64 (l : Int) ((l + n : Nat) : Int) (by omega) (by omega) (by omega), size_elem t e i ht hi hsz, Result.andThen_ok, Int.toNat_natCast]
    exact hK _ _ (h _ (hr0.sliced hl))

/-- append of one row, in a fenced walk. -/
theorem append_rowIn {F : Fence} {m : Nat} {P : Program} (w : World) {ops : Array Oper} {rest : List Oper} {o : Oper} {a : Act} {Q : Exit → Act → World → Prop} (hg : o.guard = none) (s x : Operand) (tt : TypeId)
    (hop : o.op = .call { callee := .builtin .append, args := #[s, x], argTypes := #[tt, tt] }) (t e : TypeId) (i : TypeInfo) (bytes : Nat) (ht : P.underlying tt = some (.slice t)) (hi : P.info? t = some i) (hz : i.zero = some (.slice none 0 0))
    (hsize : i.size = 1) (hby : i.bytes = bytes) (hb1 : 1 ≤ bytes) {k : IntKind} {G : Nat → Prop} {v u : Value} {ad : Addr} {c : Nat} {zss : List (List Int)} {zs : List Int} (hs : a.eval s = v) (hown : Own2 t e k G w v zss) (hlt : ∀ b, G b → b < w.heap.size)
    (hx : a.eval x = .slice (some ad) 1 c) (hc : w.cell? (ad.add 0) = some u) (hu : Own e k 0 w u zs) (hF : ∀ r, u.ownBlock = some r → ¬ G r) (hle : (zss.length + 1) * bytes ≤ 140737488355328)
    (h : ∀ v' w', Own2 t e k (fun b => G b ∨ u.ownBlock = some b ∨ v'.ownBlock = some b) w' v' (zss ++ [zs]) → w.grownBy w' v.ownBlock → (v'.ownBlock = v.ownBlock ∨ v'.ownBlock = some w.heap.size) → (∀ r, v'.ownBlock = some r → r < w'.heap.size) →
      (∃ g cap, v' = .slice (some ⟨g, 0, none⟩) (zss.length + 1) cap) → wpListIn F m P ops Q rest (a.put o.dst v') w') : wpListIn F m P ops Q (o :: rest) a w := by
  obtain ⟨v', w', hr, p1, p2, p3, p4, p5⟩ := run_append_row (P := P) w tt o.type t e i bytes ht hi hz hsize hby hb1 hown hlt hc hu hF hle
  refine wpListIn_plain hg fun K hK => ?_
  unfold Oper.wpIn
  refine ⟨?_, ?_⟩
  · simp [Oper.about, hop, resolve, Target.leads, Sem.run_pure]
  · rw [Oper.semAt_plain F _ _ (by rw [hop]; intro c hc'; cases hc')]
    simp only [execOp, hop, resolve, invoke, builtin, Sem.run_bind, Sem.run_pure, Result.andThen_ok, List.map_toArray, List.map_cons, List.map_nil, hs, hx]
    rw [hr]
    exact hK _ _ (h v' w' p1 p2 p3 p4 p5)

set_option maxRecDepth 100000 in
set_option maxHeartbeats 2000000 in
/-- The iterator: a copy of each piece is yielded, in order. J j: what the caller holds between two rounds, j pieces having come. -/
theorem pieces_in (n l Bb Bs m : Nat) (hn : 3 ≤ n) (a : Option Addr) (cap : Nat) (xs : List Int) (hm : 1 ≤ m ∧ m ≤ 400) (hlen : xs.length ≤ 1048576) (J : Nat → World → Prop)
    (hJ : ∀ j W, J j W → ∃ lim, lim ≤ W.heap.size ∧ W.cell? ⟨Bb, 0, none⟩ = some (.slice a xs.length cap) ∧ W.cell? ⟨Bs, 0, none⟩ = some (.int .i64 (m : Int)) ∧ Rd lim .u8 W (.slice a xs.length cap) xs)
    (hY : ∀ j W W2 x, J j W → j * m < xs.length → Own 5 .u8 W.heap.size W2 x ((xs.drop (j * m)).take m) → Below W.heap.size W W2 → YieldAt Fence.wide (n - 1) Try.prog l #[x] W2 fun e W' => e = .returned (.bool true) ∧ J (j + 1) W')
    (W : World) (h0 : J 0 W) :
    CallsIn Fence.wide n Try.prog 58 #[.func (.yield l) #[] #[], .pointer (some ⟨Bb, 0, none⟩), .pointer (some ⟨Bs, 0, none⟩)] W fun e W' =>
      (∃ v, e = .returned v) ∧ ∃ j, J j W' ∧ xs.length ≤ j * m ∧ (j = 0 ∨ j * m < xs.length + m) := by
  have HJ := Lib.hid hJ
  have HY := Lib.hid hY
  obtain ⟨i0, hi, hz0, hz1, hz2⟩ := info_parts infou8
  have Hhi := Lib.hid hi
  clear hJ hY hi
  refine callsIn_of_wp Try.func58 rfl trivial ?_ rfl
  simp only [Try.ntmps58, List.size_toArray, List.length_cons, List.length_nil, Nat.reduceAdd, Nat.reduceSub, Array.replicate_succ, Array.replicate_zero, List.push_toArray, List.append_toArray, List.nil_append, List.cons_append]
  gi_wp2
  gi_loopw [4] (fun s wr => ∃ j p : Nat, s = .int .i64 p ∧ Hid (p = j * m) ∧ (j = 0 ∨ p < xs.length + m) ∧ p ≤ xs.length + m ∧ Hid (J j wr)) (fun s _ => xs.length + m - (intOf s).toNat)
  case atStart => exact ⟨0, 0, rfl, Lib.hid (by omega), .inl rfl, by omega, Lib.hid h0⟩
  case round =>
    obtain ⟨j, p, rfl, HP, hor, hple, HJr⟩ := hrel
    obtain ⟨lim, hlim, c1, c2, hr⟩ := HJ.out j wr HJr.out
    have HR := Lib.hid hr
    clear hr
    by_cases hlt : p < xs.length
    · have e1 : decide ((p : Int) < (xs.length : Int)) = true := by simp; omega
      obtain ⟨t, ht⟩ : ∃ t, min xs.length (p + m) = p + t := ⟨min xs.length (p + m) - p, by omega⟩
      have Hmn : Hid (mn ((p : Int) + (m : Int)) (xs.length : Int) = ((p + t : Nat) : Int)) := Lib.hid (by
        have := mn_nat (p + m) xs.length
        rw [Nat.min_comm, ht] at this
        rw [← this]; push_cast; rfl)
      have hpt : p + t ≤ xs.length := by omega
      have HPt : Hid ((xs.drop p).take t = (xs.drop (j * m)).take m) := Lib.hid (by
        rw [← HP.out, ← take_min (i := p) (n := m) (by omega), ht, Nat.add_sub_cancel_left])
      have HLt : Hid (((xs.drop p).take t).length ≤ 140737488355328) := Lib.hid (by simp; omega)
      have hjm : Hid (j * m < xs.length) := Lib.hid (by rw [← HP.out]; exact hlt)
      have l1 := World.block_lt_of_cell? _ _ c1
      have l2 := World.block_lt_of_cell? _ _ c2
      have k1 := Lib.hid c1
      clear ht
      gi_wp2_with (first
        | (refine ⟨trivial, fun _ => (by omega), ?_⟩
           gi_at_call 57
           refine (callsIn_wide.2 (impl_mn _ _ _ (wf_i64_of (by omega) (by omega)) (wf_i64_of (by omega) (by omega)))).mono ?_
           rw [Hmn.out]
           rintro e w3 ⟨rfl, hb3⟩
           have HB3 := Lib.hid hb3
           have c3 := (hb3.cell (p := ⟨Bb, 0, none⟩) l1).trans k1.out
           have HR3 := Lib.hid (HR.out.behind (hb3.mono hlim))
           clear hb3)
        | (refine slice_rdIn _ rfl 22 _ _ _ rfl 5 i0 Try.underlying22 Hhi.out hz1 rfl HR3.out rfl (by first | rfl | (simp; done)) hpt ?_
           intro u4 hu4
           have HU4 := Lib.hid hu4
           clear hu4)
        | (refine ⟨trivial, fun _ => (by omega), ?_⟩
           gi_at_call 44
           refine (callsIn_wide.2 (copyBytes_any HU4.out (Nat.le_trans hlim HB3.out.size) HLt.out)).mono ?_
           rintro e w5 ⟨v5, rfl, h5, h6⟩
           rw [HPt.out] at h5
           have HB5 := Lib.hid (HB3.out.trans (h6.mono HB3.out.size))
           obtain ⟨fn, tmps, assign, body, hy, hR⟩ := HY.out j wr w5 v5 HJr.out hjm.out (h5.mono HB3.out.size) HB5.out
           clear h5 h6))
      refine ⟨fun _ => (by omega), hR.mono ?_⟩
      rintro e W3 ⟨rfl, hJ3⟩
      obtain ⟨lim3, hlim3, d1, d2, hr3⟩ := HJ.out (j + 1) W3 hJ3
      have HJ3 := Lib.hid hJ3
      have hlt' := hlt
      clear hJ3 hr3 c1 c2
      gi_wp2
      go_roundw
      case rel => exact ⟨j + 1, p + m, by simp, Lib.hid (by rw [Nat.succ_mul, ← HP.out]), .inr (by omega), by omega, HJ3⟩
      case measure => simp [intOf]; omega
    · have e1 : decide ((p : Int) < (xs.length : Int)) = false := by simp; omega
      gi_wp2
      go_end0
      exact ⟨⟨_, rfl⟩, j, HJr.out, by rw [← HP.out]; omega, by rw [← HP.out]; exact hor⟩

/-- The iterator's maker: the two arguments are boxed; the function value captures the boxes. -/
theorem pieces_mk (a : Option Addr) (len cap : Nat) (n : Int) (w : World) :
    Calls Try.prog 48 #[.slice a len cap, .int .i64 n] w fun e w' =>
      e = .returned (.func (.func 58) #[] #[.pointer (some ⟨w.heap.size, 0, none⟩), .pointer (some ⟨w.heap.size + 1, 0, none⟩)]) ∧
      w' = (w.alloc (.cells #[.slice a len cap] 22)).alloc (.cells #[.int .i64 n] 3) := by
  go_enter Try.func48, Try.ntmps48
  go_wp2
  go_ret
  exact ⟨rfl, rfl⟩

theorem run_resolve_func {P : Program} {a : Act} {g : Operand} {gf l : Nat} {lb : Array Value} (hg : a.eval g = .func (.func gf) #[] lb) (w : World) :
    (resolve a.eval (rangeCall g l) 0).run P w = .ok { target := .fn (.func gf) lb, args := #[.func (.yield l) #[] #[]] } w := by
  simp only [resolve, hg]
  simp [go_sem]
theorem run_invoke_func {P : Program} {gf : Nat} {lb args : Array Value} (eg : ∀ args w, (callFunc gf args).run P w = .ok (.enter gf args) w) (w : World) :
    (invoke (.fn (.func gf) lb) args).run P w = .ok (.enter gf (args ++ lb)) w := by
  simp [invoke, go_sem, eg]
theorem leads_func {P : Program} {w : World} {gf f' : Nat} {lb args : Array Value} (h : Target.leads P w (.fn (.func gf) lb) args = some f') : f' = gf := by
  simp [Target.leads] at h
  exact h.symm
/-- The statement 'for .. := range g', g a function of the program's: what is left to show is the one call. -/
theorem range_calls {F : Fence} {n : Nat} {P : Program} {g : Operand} {ps : Array Tmp} {assign body : Code} {Q : Exit → Act → World → Prop} {a : Act} {w : World} (hro : F.round = none) (h1 : 1 ≤ n) {gf : Nat} {lb : Array Value}
    (hg : a.eval g = .func (.func gf) #[] lb) (hFg : F.fn gf) (eg : ∀ args w, (callFunc gf args).run P w = .ok (.enter gf args) w)
    (h : ∀ r : Loop, F.fn r.fn → r.state = .ready → r.pending = none → r.tmps = a.tmps → r.params = ps → r.assign = assign → r.body = body →
      CallsIn F (n - 1) P gf (#[.func (.yield (w.heap.size + 1)) #[] #[]] ++ lb) ((w.alloc (.deferred (some []))).alloc (.loop r)) (rangePost F n P (w.heap.size + 1) Q { a with defers := { target := .collected w.heap.size, args := #[] } :: a.defers })) :
    (Code.rangeFunc g ps assign body).wpIn F n P Q a w := by
  refine wpIn_rangeFunc fun fn hfn => ?_
  rw [hro]
  obtain ⟨r, hr⟩ : ∃ r : Loop, r = { state := .ready, pending := none, fn, tmps := a.tmps, params := ps, assign, body, defers := w.heap.size } := ⟨_, rfl⟩
  have hent := run_enterLoop_outer (P := P) (w := w) fn a.tmps ps assign body
  rw [← hr] at hent
  have hcall := h r (by rw [hr]; exact hfn) (by rw [hr]) (by rw [hr]) (by rw [hr]) (by rw [hr]) (by rw [hr]) (by rw [hr])
  exact ⟨_, _, _, _, _, _, _, _, hent, run_resolve_func hg _, fun f' hf' => by rw [leads_func hf']; exact hFg, run_invoke_func eg _, fun _ => h1, hcall⟩

/-- What SplitBytes holds between two rounds: B its first block (the list's literal), then the list's box, the iterator's two, the block of deferred calls, the loop's record r. -/
structure Sbj (w : World) (v : Value) (m : Nat) (xs : List Int) (r : Loop) (B : Nat) (j : Nat) (W : World) : Prop where
  loop : W.heap[B + 5]? = some (.loop r)
  defer : W.heap[B + 4]? = some (.deferred (some []))
  bb : Boxed W (B + 2) 22 v
  bs : Boxed W (B + 3) 3 (.int .i64 (m : Int))
  list : ∃ u, Boxed W (B + 1) 29 u ∧ Own2 22 5 .u8 (fun b => b = B ∨ (B + 6 ≤ b ∧ b < W.heap.size)) W u (pcs xs m j)
  below : Below B w W
  size : B + 6 ≤ W.heap.size

theorem KeptF.alloc {F : Nat → Prop} {w w' : World} (h : KeptF F w w') (o : Obj) : KeptF F w (w'.alloc o) := h.trans (KeptF.of_grown (World.grownBy_alloc _ _ none) (fun b e => by cases e))
theorem kept_boxed {F : Nat → Prop} {w w' : World} {B : Nat} {t : TypeId} {v : Value} (h : Boxed w B t v) (hk : KeptF F w w') (hF : ¬ F B) : Boxed w' B t v := (hk.block B h.lt hF).trans h

set_option maxRecDepth 100000 in
set_option maxHeartbeats 2000000 in
/-- impl.SplitBytes, the size in range. -/
theorem impl_sb_in {lim : Nat} {w : World} {a : Option Addr} {cap : Nat} {xs : List Int} {m : Nat} (h : Rd lim .u8 w (.slice a xs.length cap) xs) (hlim : lim ≤ w.heap.size) (hm : 1 ≤ m ∧ m ≤ 400) (hn : xs.length ≤ 1048576) :
    Calls Try.prog 19 #[.slice a xs.length cap, .int .i64 (m : Int)] w fun e w' => ∃ v', e = .returned v' ∧ Own2 22 5 .u8 (ival w.heap.size w'.heap.size) w' v' (sb xs (m : Int)) ∧ Below w.heap.size w w' := by
  obtain ⟨i1, hi', hy0, hy1, hy2⟩ := info_parts infou8s
  have Hhi' := Lib.hid hi'
  have H := Lib.hid h
  have HI := Lib.hid (inR_yes (x := (m : Int)) (a := 1) (b := 400) (by omega))
  clear h hi'
  refine (callsIn_wide (n := 6)).1 ?_
  refine callsIn_of_wp_marks Try.func19 rfl trivial ?_ rfl
  simp only [Try.ntmps19, List.size_toArray, List.length_cons, List.length_nil, Nat.reduceAdd, Nat.reduceSub, Array.replicate_succ, Array.replicate_zero, List.push_toArray, List.append_toArray, List.nil_append, List.cons_append]
  gi_wp2_with (first
    | (refine ⟨trivial, ?_⟩
       gi_at_call 47
       refine (callsIn_wide.2 (impl_in _ _ _ _ (wf_i64_of (by omega) (by omega)))).mono ?_
       rw [HI.out]
       rintro e w2 ⟨rfl, hw2⟩
       subst hw2)
    | (refine ⟨trivial, ?_⟩
       gi_at_call 48
       refine (callsIn_wide.2 (pieces_mk _ _ _ _ _)).mono ?_
       rintro e w3 ⟨rfl, hw3⟩
       subst hw3))
  obtain ⟨B, hB⟩ : ∃ B, B = w.heap.size := ⟨_, rfl⟩
  obtain ⟨W0, hW0⟩ : ∃ W0, W0 = ((((w.alloc (.cells #[] 22)).alloc (.cells #[.slice (some ⟨w.heap.size, 0, none⟩) 0 0] 29)).alloc (.cells #[.slice a xs.length cap] 22)).alloc (.cells #[.int .i64 (m : Int)] 3)) := ⟨_, rfl⟩
  have HBx := Lib.hid (show Boxed W0 (B + 1) 29 (.slice (some ⟨B, 0, none⟩) 0 0) by
    rw [hW0, hB]
    have e := Boxed.new (w.alloc (.cells #[] 22)) 29 (.slice (some ⟨w.heap.size, 0, none⟩) 0 0)
    rw [World.size_alloc] at e
    exact (e.alloc _).alloc _)
  have HB2 := Lib.hid (show Boxed W0 (B + 2) 22 (.slice a xs.length cap) by
    rw [hW0, hB]
    have e := Boxed.new ((w.alloc (.cells #[] 22)).alloc (.cells #[.slice (some ⟨w.heap.size, 0, none⟩) 0 0] 29)) 22 (.slice a xs.length cap)
    rw [World.size_alloc, World.size_alloc] at e
    exact e.alloc _)
  have HB3 := Lib.hid (show Boxed W0 (B + 3) 3 (.int .i64 (m : Int)) by
    rw [hW0, hB]
    have e := Boxed.new (((w.alloc (.cells #[] 22)).alloc (.cells #[.slice (some ⟨w.heap.size, 0, none⟩) 0 0] 29)).alloc (.cells #[.slice a xs.length cap] 22)) 3 (.int .i64 (m : Int))
    rw [World.size_alloc, World.size_alloc, World.size_alloc] at e
    exact e)
  have HO := Lib.hid (show Own2 22 5 .u8 (fun b => b = B) W0 (.slice (some ⟨B, 0, none⟩) 0 0) (pcs xs m 0) by
    rw [hW0, hB]
    exact (((Own2.lit 22 5 .u8 (F := fun b => b = w.heap.size) rfl).alloc _).alloc _).alloc _)
  have hWs : W0.heap.size = B + 4 := by rw [hW0, hB]; simp
  have HL := Lib.hid (show Below B w W0 by
    rw [hW0, hB]
    exact ((((Below.refl _ w).alloc (Nat.le_refl _) _).alloc (by simp) _).alloc (by simp; omega) _).alloc (by simp; omega) _)
  rw [← hW0, ← hB]
  have HW := Lib.hid hW0
  clear hW0
  refine range_calls rfl (by omega) (gf := 58) (lb := #[.pointer (some ⟨B + 1 + 1, 0, none⟩), .pointer (some ⟨B + 1 + 1 + 1, 0, none⟩)]) rfl trivial (enters_of Try.func58 (by kernel_rfl) rfl) ?_
  intro r hfn hst hpe htm hpa has hbo
  rw [hWs]
  have start : Sbj w (.slice a xs.length cap) m xs r B 0 ((W0.alloc (.deferred (some []))).alloc (.loop r)) := by
    have hk : KeptF (fun _ => False) W0 ((W0.alloc (.deferred (some []))).alloc (.loop r)) := ((KeptF.refl _ _).alloc _).alloc _
    have e1 := World.alloc_heap_new W0 (.deferred (some []))
    have e2 := World.alloc_heap_new (W0.alloc (.deferred (some []))) (.loop r)
    rw [hWs] at e1
    rw [World.size_alloc, hWs] at e2
    refine ⟨e2, ?_, kept_boxed HB2.out hk (fun h => h), kept_boxed HB3.out hk (fun h => h), ⟨_, kept_boxed HBx.out hk (fun h => h), ?_⟩, HL.out.trans (hk.below (fun b h => h.elim) (by omega)), by simp; omega⟩
    · exact (Below.heap_alloc _ _ _ (by simp; omega)).trans e1
    · exact (HO.out.keptF hk (fun _ _ h => h)).mono fun b hb => .inl hb
  have Hst := Lib.hid start
  have hlimB : lim ≤ B := by rw [hB]; exact hlim
  have HBe := Lib.hid hB
  clear start HW HBx HB2 HB3 HO HL hB
  simp only [List.append_toArray, List.cons_append, List.nil_append]
  refine (pieces_in 5 (B + 4 + 1) (B + 1 + 1) (B + 1 + 1 + 1) m (by omega) a cap xs hm hn (fun j W => Sbj w (.slice a xs.length cap) m xs r B j W) ?hJ ?hY _ Hst.out).mono ?post
  case hJ => exact fun j W h => ⟨lim, by have := h.size; omega, h.bb.cell, h.bs.cell, H.out.behind (h.below.mono hlimB)⟩
  case hY =>
    intro j W W2 x hJ hlt hx hb
    obtain ⟨u, hu1, hu2⟩ := hJ.list
    have hsz := hJ.size
    have hsz2 := hb.size
    have hl2 : W2.heap[B + 4 + 1]? = some (.loop r) := (hb.block (B + 5) (by omega)).trans hJ.loop
    refine ⟨r.fn, _, r.assign, r.body, run_yield hl2 (by rw [hpa]; rfl), roundIn_of_wpIn trivial ?_⟩
    rw [has, hbo, hpa, htm]
    have Hl2 := Lib.hid hl2
    obtain ⟨rb, hrb⟩ : ∃ rb : Loop, rb = { r with state := .busy } := ⟨_, rfl⟩
    obtain ⟨Wb, hWb⟩ : ∃ Wb, Wb = W2.putObj (B + 4 + 1) (.loop rb) := ⟨_, rfl⟩
    have hbeg : (Instr.beginRound (B + 4 + 1)).run Try.prog W2 = .ok () Wb := by rw [hWb, hrb]; exact run_beginRound hl2 hst
    have hk2 : KeptF (fun b => b = B + 4 + 1) W2 Wb := by rw [hWb]; exact KeptF.of_grown (grownBy_putObj' W2 (B + 4 + 1) _) (fun b e => by cases e; rfl)
    have hkW : KeptF (fun b => b = B + 4 + 1) W Wb := (KeptF.of_below hb).trans hk2
    have hu1b := kept_boxed hu1 hkW (by omega)
    have Hu2 := Lib.hid (hu2.keptF hkW (fun b hb h => by omega))
    have Hx := Lib.hid (hx.keptF hk2 (fun r hr h => by have := (hx.lt r hr).1; omega))
    have hlb : Wb.heap[B + 4 + 1]? = some (.loop rb) := by rw [hWb]; exact World.putObj_heap_same (by omega)
    have Hlb := Lib.hid hlb
    have Hrb := Lib.hid hrb
    have HkW := Lib.hid hkW
    have Hbx := Lib.hid hu1b
    have c1 := hu1b.cell
    have hszb := hkW.size
    have HJ := Lib.hid hJ
    have Hin := Lib.hid hu2.in_
    have HxL := Lib.hid (fun r hr => hx.lt r hr)
    obtain ⟨ax, cx, hxe, _⟩ := hx.open
    obtain ⟨Lx, hLx⟩ : ∃ Lx, ((xs.drop (j * m)).take m).length = Lx := ⟨_, rfl⟩
    rw [hLx] at hxe
    subst hxe
    have hjL : Hid (((pcs xs m j).length + 1) * 24 ≤ 140737488355328) := Lib.hid (by
      rw [pcs_len]
      have : j ≤ j * m := Nat.le_mul_of_pos_right j (by omega)
      omega)
    have Hbeg := Lib.hid hbeg
    have C1 := Lib.hid c1
    have Hlt' := Lib.hid (show ∀ b, (fun b => b = B ∨ (B + 6 ≤ b ∧ b < W.heap.size)) b → b < (Wb.alloc (.cells #[.slice ax Lx cx] 22)).heap.size from fun b hb => by
      have hb' : b = B ∨ (B + 6 ≤ b ∧ b < W.heap.size) := hb
      rw [World.size_alloc]
      omega)
    have HFx := Lib.hid (show ∀ r, (Value.slice ax Lx cx).ownBlock = some r → ¬ (fun b => b = B ∨ (B + 6 ≤ b ∧ b < W.heap.size)) r from fun r hr hb => by
      have hb' : r = B ∨ (B + 6 ≤ r ∧ r < W.heap.size) := hb
      have := (HxL.out r hr).1
      omega)
    clear hl2 hrb hWb hk2 hkW hu1b hu1 hu2 hx hlb hLx hJ hb hbeg c1
    gi_wp2
    refine ⟨_, Hbeg.out, ?_⟩
    have c1 := C1.out
    gi_wp2_with (first
      | (gi_at_builtin; refine append_rowIn _ rfl _ _ 29 rfl 22 5 i1 24 Try.underlying29 Hhi'.out hy0 hy1 hy2 (by omega) rfl (Hu2.out.alloc _) Hlt'.out rfl (cell_one_new _ _ _ 0 _ rfl) ((Hx.out.mono (Nat.zero_le _)).alloc _) HFx.out hjL.out ?_
         intro v3 w3 p1 p2 p3 p4 p5
         rw [pcs_succ] at p1
         obtain ⟨g3, cap3, rfl⟩ := p5
         rw [pcs_len] at p1 p3 p4 ⊢
         have Hb3 := Lib.hid (kept_boxed (F := fun b => b = B ∨ (B + 6 ≤ b ∧ b < W.heap.size)) Hbx.out (((KeptF.refl _ _).alloc _).trans (KeptF.of_grown p2 Hin.out)) (by omega))
         have c3 := Hb3.out.cell
         have f3 := Hb3.out.frozen
         have P1 := Lib.hid p1
         have P2 := Lib.hid p2
         have P3 := Lib.hid p3
         have P4 := Lib.hid p4
         clear p1 p2 p3 p4))
    have q2 : (Wb.alloc (.cells #[.slice ax Lx cx] 22)).grownBy w3 u.ownBlock := P2.out
    obtain ⟨v3, hv3⟩ : ∃ v3 : Value, v3 = .slice (some ⟨g3, 0, none⟩) (j + 1) cap3 := ⟨_, rfl⟩
    have q1 : Own2 22 5 .u8 (fun b => (b = B ∨ (B + 6 ≤ b ∧ b < W.heap.size)) ∨ (Value.slice ax Lx cx).ownBlock = some b ∨ v3.ownBlock = some b) w3 v3 (pcs xs m (j + 1)) := by rw [hv3]; exact P1.out
    have q3 : v3.ownBlock = u.ownBlock ∨ v3.ownBlock = some (Wb.heap.size + 1) := by
      have := P3.out
      rw [World.size_alloc] at this
      rw [hv3]
      exact this
    have q4 : ∀ r, v3.ownBlock = some r → r < w3.heap.size := by rw [hv3]; exact P4.out
    rw [← hv3]
    have hJ := HJ.out
    have hin := Hin.out
    have k3 : KeptF (fun b => b = B ∨ (B + 6 ≤ b ∧ b < W.heap.size)) Wb w3 := ((KeptF.refl _ _).alloc _).trans (KeptF.of_grown q2 hin)
    obtain ⟨W5, hW5⟩ : ∃ W5, W5 = w3.setCell ⟨B + 1, 0, none⟩ v3 := ⟨_, rfl⟩
    have ks : KeptF (fun b => b = B + 1) w3 W5 := by rw [hW5]; exact KeptF.of_grown (grown_set w3 (B + 1) 0 v3) (fun b e => by cases e; rfl)
    have hb5 : Boxed W5 (B + 1) 29 v3 := by rw [hW5]; exact Hb3.out.set v3
    rw [← hW5]
    have hs5 := ks.size
    have hs3 := k3.size
    have hl5 : W5.heap[B + 4 + 1]? = some (.loop rb) := (ks.block _ (by omega) (by omega)).trans ((k3.block _ (by omega) (by omega)).trans Hlb.out)
    have hend := run_endRound (P := Try.prog) none hl5
    have hrr : ({ rb with state := if (none : Option Code).isNone then .ready else .done, pending := none } : Loop) = r := by
      rw [Hrb.out]
      cases r
      simp_all
    rw [hrr] at hend
    obtain ⟨W6, hW6⟩ : ∃ W6, W6 = W5.putObj (B + 4 + 1) (.loop r) := ⟨_, rfl⟩
    rw [← hW6] at hend
    have k6 : KeptF (fun b => b = B + 4 + 1) W5 W6 := by rw [hW6]; exact KeptF.of_grown (grownBy_putObj' W5 (B + 4 + 1) _) (fun b e => by cases e; rfl)
    have hl6 : W6.heap[B + 5]? = some (.loop r) := by rw [hW6]; exact World.putObj_heap_same (by omega)
    have hs6 := k6.size
    have kA : KeptF (fun b => b = B + 4 + 1 ∨ b = B + 1 ∨ b = B ∨ (B + 6 ≤ b ∧ b < W.heap.size)) W W6 :=
      (((HkW.out.mono (fun b h => .inl h)).trans (k3.mono (fun b h => .inr (.inr h)))).trans (ks.mono (fun b h => .inr (.inl h)))).trans (k6.mono (fun b h => .inl h))
    have hxl := HxL.out
    have hxw : ∀ b, (Value.slice ax Lx cx).ownBlock = some b → W.heap.size ≤ b ∧ b < Wb.heap.size := fun b hb => ⟨(hxl b hb).1, (Hx.out.lt b hb).2⟩
    refine ⟨_, _, hend, rfl, ?_⟩
    refine ⟨hl6, (kA.block (B + 4) (by omega) (by omega)).trans hJ.defer, kept_boxed hJ.bb kA (by omega), kept_boxed hJ.bs kA (by omega), ⟨v3, kept_boxed hb5 k6 (by omega), ?_⟩, hJ.below.trans (kA.below (fun b hb => by omega) (by omega)), by omega⟩
    have out : ∀ b, ((b = B ∨ (B + 6 ≤ b ∧ b < W.heap.size)) ∨ (Value.slice ax Lx cx).ownBlock = some b ∨ v3.ownBlock = some b) → b = B ∨ (B + 6 ≤ b ∧ b < W6.heap.size) := by
      intro b hb
      rcases hb with hb | hb | hb
      · omega
      · have := hxw b hb; omega
      · have h4 := q4 b hb
        rcases q3 with q3 | q3
        · have := hin b (q3 ▸ hb); omega
        · rw [q3] at hb; injection hb with hb; omega
    refine ((q1.keptF ks (fun b hb h => ?_)).keptF k6 (fun b hb h => ?_)).mono out
    · have := out b hb; omega
    · have := out b hb; omega
  case post =>
    rintro e W3 ⟨⟨v, rfl⟩, j, hJ, hge, hor⟩
    have hend := run_endLoop (P := Try.prog) hJ.loop (by rw [hst]; simp)
    obtain ⟨u, hu1, hu2⟩ := hJ.list
    obtain ⟨W4, hW4⟩ : ∃ W4, W4 = W3.putObj (B + 5) (.loop { r with state := .exhausted }) := ⟨_, rfl⟩
    rw [← hW4, hpe] at hend
    have k4 : KeptF (fun b => b = B + 5) W3 W4 := by rw [hW4]; exact KeptF.of_grown (grownBy_putObj' W3 (B + 5) _) (fun b e => by cases e; rfl)
    have hb4 := kept_boxed hu1 k4 (by omega)
    have hs3 := hJ.size
    have hs4 := k4.size
    have hd4 : W4.heap[B + 4]? = some (.deferred (some [])) := (k4.block (B + 4) (by omega) (by omega)).trans hJ.defer
    have c4 := hb4.cell
    obtain ⟨W5, hW5⟩ : ∃ W5, W5 = W4.putObj (B + 4) (.deferred none) := ⟨_, rfl⟩
    have k5 : KeptF (fun b => b = B + 4) W4 W5 := by rw [hW5]; exact KeptF.of_grown (grownBy_putObj' W4 (B + 4) _) (fun b e => by cases e; rfl)
    have hs5 := k5.size
    have kA : KeptF (fun b => b = B + 5 ∨ b = B + 4) W3 W5 := (k4.mono (fun b h => .inl h)).trans (k5.mono (fun b h => .inr h))
    have HR := Lib.hid (show Own2 22 5 .u8 (ival w.heap.size W5.heap.size) W5 u (sb xs (m : Int)) by
      rw [sb_end hm hge hor, ← HBe.out]
      refine (hu2.keptF kA (fun b hb h => ?_)).mono fun b hb => ?_
      · omega
      · unfold ival; omega)
    have HBl := Lib.hid (show Below w.heap.size w W5 by
      rw [← HBe.out]
      exact hJ.below.trans (kA.below (fun b hb => by omega) (by omega)))
    have Htk := Lib.hid (show (Instr.takeDeferred (B + 4)).run Try.prog W4 = .ok [] W5 by rw [hW5]; exact run_takeDeferred hd4)
    have Hend := Lib.hid hend
    clear hend hu1 hu2 hW4 k4 hb4 hd4 hW5 k5 kA hJ has hbo htm hpa
    refine ⟨none, W4, Hend.out, ?_⟩
    show Exit.inBlock 0 _ Exit.normal _ W4
    gi_wp2
    refine ⟨by simp, .inl ⟨_, _, rfl, Htk.out, ?_⟩⟩
    exact ⟨u, results_tmp (t := 4) rfl _ _ _, u, rfl, HR.out, HBl.out⟩

set_option maxHeartbeats 1000000 in
/-- impl.SplitBytes. -/
theorem impl_sb {lim : Nat} {w : World} {v : Value} {xs : List Int} {n : Int} (h : Rd lim .u8 w v xs) (hlim : lim ≤ w.heap.size) (hw : (Lit.int .i64 n).wf = true) (hn : xs.length ≤ 1048576) :
    Calls Try.prog 19 #[v, .int .i64 n] w fun e w' => ∃ v', e = .returned v' ∧ Own2 22 5 .u8 (ival w.heap.size w'.heap.size) w' v' (sb xs n) ∧ Below w.heap.size w w' := by
  obtain ⟨a, cap, rfl, _⟩ := h.open
  by_cases hin : 1 ≤ n ∧ n ≤ 400
  · obtain ⟨m, rfl⟩ : ∃ m : Nat, n = (m : Int) := ⟨n.toNat, by omega⟩
    exact impl_sb_in h hlim (by omega) hn
  · have HF := sb_no (xs := xs) hin
    rw [HF]
    have HI := Lib.hid (inR_no hin)
    have HO : Hid (Own2 22 5 .u8 (ival w.heap.size ((w.alloc (.cells #[] 22)).alloc (.cells #[.slice (some ⟨w.heap.size, 0, none⟩) 0 0] 29)).heap.size) ((w.alloc (.cells #[] 22)).alloc (.cells #[.slice (some ⟨w.heap.size, 0, none⟩) 0 0] 29)) (.slice (some ⟨w.heap.size, 0, none⟩) 0 0) []) :=
      Lib.hid ((Own2.lit _ _ _ (by unfold ival; simp; omega)).alloc _)
    clear hin h HF
    go_enter Try.func19, Try.ntmps19
    go_wp2_with fail
    refine (impl_in _ _ _ _ hw).mono ?_
    rw [HI.out]
    rintro e w2 ⟨rfl, hw2⟩
    subst hw2
    go_wp2_with fail
    go_ret
    exact ⟨_, rfl, HO.out, ((Below.refl _ _).alloc (Nat.le_refl _) _).alloc (by simp) _⟩

end Go.Proofs.Ytcemadckgimhhaa
