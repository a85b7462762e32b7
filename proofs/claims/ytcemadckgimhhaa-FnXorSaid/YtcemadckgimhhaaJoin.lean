/- JoinBytes, the program's, by bytes.Join: what it gives. No conditions but a size that a machine holds. -/
import Derived.Test.YtcemadckgimhhaaXor2
import Derived.Test.YtcemadckgimhhaaOwnC
import Derived.Laws.CopyOwn
import Derived.Laws.Externs
import Derived.Lib.MakeNoZero
namespace Go.Proofs.Ytcemadckgimhhaa
open Go Go.RowKit
set_option linter.unusedVariables false

/-- A buffer of N cells at block g whose first cells are acc. -/
def Bufz (e : TypeId) (k : IntKind) (g N : Nat) (w : World) (acc : List Int) : Prop :=
  (∀ z ∈ acc, (Lit.int k z).wf = true) ∧ ∃ cur : List Value, w.heap[g]? = some (.cells cur.toArray e (0, 0)) ∧ N ≤ cur.length ∧ acc.length ≤ N ∧ ∀ i, i < acc.length → cur[i]? = some (.int k (acc.getD i 0))

/-- The buffer from place p on. -/
def bufTail (g N p : Nat) : Value := .slice (if N = p then some ⟨g, 0, none⟩ else some ⟨g, p, none⟩) (N - p) (N - p)
theorem bufTail_zero (g N : Nat) : bufTail g N 0 = .slice (some ⟨g, 0, none⟩) N N := by unfold bufTail; split <;> simp

theorem Bufz.kept {e : TypeId} {k : IntKind} {g N : Nat} {w w' : World} {acc : List Int} {row : Option Nat} (h : Bufz e k g N w acc) (hg : w.grownBy w' row) (hne : row ≠ some g) : Bufz e k g N w' acc := by
  obtain ⟨hw, cur, h1, h2⟩ := h
  exact ⟨hw, cur, (hg.block g (Array.getElem?_eq_some_iff.1 h1).1 (fun e => hne e.symm)).trans h1, h2⟩
theorem Bufz.c {e : TypeId} {k : IntKind} {g N B : Nat} {w : World} {acc : List Int} (h : Bufz e k g N w acc) (hB : B ≤ g) (hN : acc.length = N) (hm : N ≤ maxLen) : OwnC e k B w (.slice (some ⟨g, 0, none⟩) N N) acc := by
  obtain ⟨hw, cur, h1, h2, h3, h4⟩ := h
  have hlt := (Array.getElem?_eq_some_iff.1 h1).1
  exact ⟨hw, by omega, .inr ⟨g, N, cur.toArray, by rw [hN], hB, h1, by omega, hm, by simp; omega, fun i hi => by simpa using h4 i hi⟩⟩

section
variable {P : Program} (w : World) {ops : Array Oper} {rest : List Oper} {o : Oper} {a : Act} {Q : Exit → Act → World → Prop} (hgd : o.guard = none)

include hgd in
/-- b[p :] -/
theorem slice_buf (t e : TypeId) (i : TypeInfo) (ht : P.underlying t = some (.slice e)) (hi : P.info? e = some i) (hsz : i.size = 1) (x lo : Operand) (hop : o.op = .slice t x (some lo) none none) {g N p : Nat} (hx : a.eval x = .slice (some ⟨g, 0, none⟩) N N)
    (hlo : a.eval lo = .int .i64 (p : Int)) (hp : p ≤ N) (h : wpList P ops Q rest (a.put o.dst (bufTail g N p)) w) : wpList P ops Q (o :: rest) a w := by
  refine wpList_plain hgd fun K hK => ?_
  have hu : P.underlying t = some (.slice (P.elem t)) := by
    have : P.elem t = e := by simp [Program.elem, ht]
    rw [this]; exact ht
  have hs : (sizeOf (P.elem t)).run P w = .ok 1 w := by
    have : P.elem t = e := by simp [Program.elem, ht]
    rw [this]
    simp [sizeOf, typeInfo, hi, hsz]
  unfold Oper.wp
  simp only [execOp, hop, Option.map_some, Option.map_none, hx, hlo]
  simp only [Sem.run_bind, Sem.run_pure, run_sliceAt_slice w t _ _ _ _ hu, run_slice_l w t (some ⟨g, 0, none⟩) N N hu .i64 (p : Int) (by omega) (by omega), hs, Result.andThen_ok, Int.toNat_natCast]
  have e : Go.sliced (some ⟨g, 0, none⟩) p N N 1 = bufTail g N p := by
    unfold Go.sliced bufTail
    have : (⟨g, 0, none⟩ : Addr).add (p * 1) = ⟨g, p, none⟩ := by unfold Addr.add; split <;> simp_all
    rw [Option.map_some, this]
  rw [e]
  exact hK _ _ h

include hgd in
/-- copy(b[p :], u), p what the buffer holds. -/
theorem copy_buf (d s : Operand) (dT sT : TypeId) (ho : o.op = .call { callee := .builtin .copy, args := #[d, s], argTypes := #[dT, sT] }) (e : TypeId) (i : TypeInfo) (hu : P.underlying dT = some (.slice e)) (hi : P.info? e = some i) (hsz : i.size = 1)
    {k : IntKind} {g N lim : Nat} {acc ys : List Int} {u : Value} (hd : a.eval d = bufTail g N acc.length) (hs : a.eval s = u) (hr : Rd lim k w u ys) (hb : Bufz e k g N w acc) (hfit : acc.length + ys.length ≤ N)
    (h : ∀ w', Bufz e k g N w' (acc ++ ys) → w.grownBy w' (some g) → wpList P ops Q rest (a.put o.dst (.int .i64 (ys.length : Int))) w') : wpList P ops Q (o :: rest) a w := by
  have hs1 : (P.info? e).map (·.size) = some 1 := by rw [hi]; simp [hsz]
  obtain ⟨hw, cur, c1, c2, c3, c4⟩ := hb
  by_cases h0 : ys.length = 0
  · obtain rfl : ys = [] := List.eq_nil_of_length_eq_zero h0
    obtain ⟨p, cap, rfl, _⟩ := hr.empty rfl
    refine wpList_copy_nothing hgd d s dT sT ho e hu hs1 _ p _ _ 0 cap hd hs (by simp [Nat.min_def]) ?_
    have := h w (by rw [List.append_nil]; exact ⟨hw, cur, c1, c2, c3, c4⟩) (World.grownBy.refl _ _)
    simpa [goInt] using this
  · obtain ⟨b, ofs, cap, rfl, r1, r2, rc, rb⟩ := hr.at (by omega)
    have hne : ¬ N = acc.length := by omega
    have hd' : a.eval d = .slice (some ⟨g, acc.length, none⟩) (N - acc.length) (N - acc.length) := by rw [hd]; unfold bufTail; rw [if_neg hne]
    have hl : (ys.map (Value.int k)).length = ys.length := by simp
    have hcell : ∀ j v, (ys.map (Value.int k))[j]? = some v → w.cell? ((⟨b, ofs, none⟩ : Addr).add j) = some v := by
      intro j v hv
      have hj : j < ys.length := by have := (List.getElem?_eq_some_iff.1 hv).1; simpa using this
      have e1 : (⟨b, ofs, none⟩ : Addr).add j = ⟨b, ofs + j, none⟩ := by unfold Addr.add; split <;> simp_all
      rw [e1, rc j hj]
      rw [List.getElem?_map, List.getElem?_eq_getElem hj] at hv
      simp at hv
      simp [List.getD_eq_getElem?_getD, List.getElem?_eq_getElem hj, hv]
    have hset : (w.setRow g (cur.take acc.length ++ (ys.map (Value.int k) ++ cur.drop (acc.length + ys.length))).toArray).heap[g]? = some (.cells (cur.take acc.length ++ (ys.map (Value.int k) ++ cur.drop (acc.length + ys.length))).toArray e (0, 0)) := setRow_heap w g cur.toArray _ e _ c1
    refine wpList_copy_own hgd d s dT sT ho e hu hs1 g acc.length _ _ ⟨b, ofs, none⟩ ys.length cap hd' hs cur.toArray e c1 (ys.map (Value.int k)) (by rw [hl]; simp [Nat.min_def]; omega) hcell (by rw [hl]; simp; omega) (by intro v hv; obtain ⟨z, _, rfl⟩ := List.mem_map.1 hv; rfl) ?_
    simp only [hl]
    refine h _ ⟨fun z hz => ?_, _, hset, ?_, by simp; omega, fun j hj => ?_⟩ ⟨rfl, rfl, rfl, by simp [World.setRow], fun k _ hk => setRow_other w g k _ (fun e => hk (by rw [e]))⟩
    · rcases List.mem_append.1 hz with h | h
      · exact hw z h
      · exact hr.1 z h
    · simp; omega
    · simp only [List.length_append] at hj
      by_cases hja : j < acc.length
      · rw [List.getElem?_append_left (by simp; omega), List.getElem?_take_of_lt hja, c4 j hja]
        simp [List.getD_eq_getElem?_getD, List.getElem?_append_left hja]
      · rw [List.getElem?_append_right (by simp; omega)]
        have e1 : (cur.take acc.length).length = acc.length := by simp; omega
        rw [e1, List.getElem?_append_left (by simp; omega)]
        simp [List.getD_eq_getElem?_getD, List.getElem?_append_right (Nat.le_of_not_lt hja), List.getElem?_eq_getElem (show j - acc.length < ys.length by omega)]
end

theorem Rd.nil (lim : Nat) (k : IntKind) (w : World) : Rd lim k w (.slice none 0 0) [] := ⟨by simp, none, 0, rfl, by simp, by unfold maxLen; omega, .inl ⟨rfl, rfl⟩⟩

set_option maxHeartbeats 2000000 in
/-- bytes.Join with an empty separator. -/
theorem join_any {lim : Nat} {w : World} {v : Value} {zss : List (List Int)} (h : Rd2 lim .u8 w v zss) (hlim : lim ≤ w.heap.size) (hn : tot zss ≤ 1099511627776) :
    Calls Try.prog 49 #[v, .slice none 0 0] w fun e w' => ∃ v', e = .returned v' ∧ OwnC 5 .u8 w.heap.size w' v' zss.flatten ∧ Below w.heap.size w w' := by
  obtain ⟨i0, hi, hz0, hz1, hz2⟩ := info_parts infou8
  have Hhi := Lib.hid hi
  obtain ⟨a, cap, rfl, h1, h2, hc⟩ := h.open
  have Hc := Lib.hid hc
  have HN := Lib.hid hn
  unfold maxLen at h2
  clear h hc hi hn
  by_cases h0 : zss.length = 0
  · obtain rfl : zss = [] := List.eq_nil_of_length_eq_zero h0
    have f0 : (((0 : Nat) : Int) == 0) = true := by decide
    go_enter Try.func49, Try.ntmps49
    go_wp2
    go_ret
    exact ⟨_, rfl, (Own.lit _ _ (Nat.le_refl _)).c, (Below.refl _ _).alloc (Nat.le_refl _) _⟩
  by_cases h1' : zss.length = 1
  · obtain ⟨zs, rfl⟩ : ∃ zs, zss = [zs] := List.length_eq_one_iff.1 h1'
    obtain ⟨b, o, rfl, hbl, hcell⟩ := Hc.out (by simp)
    obtain ⟨u, c1, hr⟩ := hcell w (Below.refl _ _) 0 zs rfl
    rw [Nat.add_zero] at c1
    have Hr := Lib.hid hr
    have HL : Hid (([] : List Int).length + zs.length ≤ 140737488355328) := Lib.hid (by have := HN.out; unfold tot fl at this; simp at this ⊢; omega)
    have HO := Lib.hid (Own.nil (B := w.heap.size) (w := w) 5 .u8 (Nat.le_refl _))
    clear hcell hr h0 h1'
    go_enter Try.func49, Try.ntmps49
    go_wp2_with (first | (at_builtin; refine append_rd _ rfl _ _ 22 rfl 5 i0 (.int .u8 0) 1 Try.underlying22 Hhi.out hz0 hz1 hz2 rfl (by omega) rfl HO.out rfl Hr.out (by have := HL.out; rw [Nat.mul_one]; exact this) ?_))
    intro v3 w3 h3 h4
    have H3 := Lib.hid h3
    have H4 := Lib.hid (HO.out.below (Nat.le_refl _) h4)
    clear h3 h4
    go_wp2
    go_ret
    exact ⟨_, rfl, by simpa using H3.out.c, H4.out⟩
  · have f0 : ((zss.length : Int) == 0) = false := beq_eq_false_iff_ne.2 (by omega)
    have f1 : ((zss.length : Int) == 1) = false := beq_eq_false_iff_ne.2 (by omega)
    have f2 : 2 ≤ zss.length := by omega
    have hcap1 : ¬ cap = 1 := by omega
    obtain ⟨b, o, rfl, hbl, hcell0⟩ := Hc.out (by omega)
    have HC := Lib.hid hcell0
    clear hcell0 h0 h1'
    go_enter Try.func49, Try.ntmps49
    go_wp2_with fail
    go_loopw [5, 44] (fun s i wr => wr = w ∧ ∃ j : Nat, i = .int .i64 j ∧ j ≤ zss.length ∧ s = .int .i64 (fl (zss.take j) : Nat)) (fun _ i _ => zss.length - (intOf i).toNat)
    case atStart => exact ⟨rfl, 0, rfl, Nat.zero_le _, by simp [fl_nil]⟩
    case round =>
      obtain ⟨hwr, j, rfl, hj, rfl⟩ := hrel
      obtain rfl : w = wr := hwr.symm
      clear hwr
      by_cases hlt : j < zss.length
      · have e1 : decide ((j : Int) < (zss.length : Int)) = true := by simp; omega
        obtain ⟨zs, hzs⟩ : ∃ zs, zss[j]? = some zs := ⟨_, List.getElem?_eq_getElem hlt⟩
        obtain ⟨u, c1, hr⟩ := HC.out _ (Below.refl _ _) j zs hzs
        obtain ⟨a1, cap1, rfl, _⟩ := hr.open
        have t1 := fl_take hzs
        have t3 := fl_at hzs
        have t4 : fl zss ≤ 1099511627776 := by have := HN.out; unfold tot at this; omega
        obtain ⟨f, hf⟩ : ∃ f, f = fl (zss.take j) := ⟨_, rfl⟩
        rw [← hf] at t1 t3 ⊢
        have e2 : decide (9223372036854775807 - (f : Int) < (zs.length : Int)) = false := by simp; omega
        clear hr hzs hf
        go_wp2
        go_roundw
        case rel => exact ⟨by first | rfl | trivial, j + 1, by simp, hlt, by rw [t1]; first | done | rfl | (congr 1; push_cast; omega)⟩
        case measure => simp [intOf]; omega
      · have e1 : decide ((j : Int) < (zss.length : Int)) = false := by simp; omega
        have ej : fl (zss.take j) = fl zss := by rw [show j = zss.length by omega, fl_full]
        obtain ⟨T, hT⟩ : ∃ T, T = fl zss := ⟨_, rfl⟩
        rw [ej, ← hT]
        have hT2 : T ≤ 1099511627776 := by have := HN.out; unfold tot at this; omega
        have HT := Lib.hid hT
        clear ej hT
        obtain ⟨cs, hrunM, hle, _⟩ := Lib.run_makeNoZero (P := Try.prog) w #[3] 22 5 Try.underlying22 T (by omega)
        have hcall : (callFunc 59 #[.int .i64 (T : Int)]).run Try.prog w = .ok (.value (.slice (some ⟨w.heap.size, 0, none⟩) T cs.size)) ((w.alloc (.cells cs 5)).drewN 2) := by
          rw [run_callFunc_extern Try.func59 (by kernel_rfl) (by kernel_rfl) (by kernel_rfl) (e := Extern.BytealgMakeNoZero.makeNoZero #[3] #[22]) (by kernel_rfl), hrunM]
          rfl
        clear hrunM
        have i1 : (T : Int) ≤ (cs.size : Int) := by omega
        have HB0 : Hid (Bufz 5 .u8 w.heap.size T ((w.alloc (.cells cs 5)).drewN 2) []) := Lib.hid ⟨by simp, cs.toList, by
          have := heap_alloc_new w (.cells cs 5)
          simpa using this, by simpa using hle, by simp, fun i hi => by simp at hi⟩
        have HBl := Lib.hid (show Below w.heap.size w ((w.alloc (.cells cs 5)).drewN 2) from ((Below.refl _ _).alloc (Nat.le_refl _) _).trans (below_drewN ⟨2, rfl⟩))
        obtain ⟨z0, hz0'⟩ : ∃ z0, zss[0]? = some z0 := ⟨_, List.getElem?_eq_getElem (show 0 < zss.length by omega)⟩
        obtain ⟨u0, c0, hr0⟩ := HC.out _ (HBl.out.mono hlim) 0 z0 hz0'
        rw [Nat.add_zero] at c0
        have Hr0 := Lib.hid hr0
        have t0 := fl_at hz0'
        have HF0 : Hid (([] : List Int).length + z0.length ≤ T) := Lib.hid (by have := HT.out; simp; omega)
        have HZ0 := Lib.hid hz0'
        have hb0 : Value.slice (some ⟨w.heap.size, 0, none⟩) T T = bufTail w.heap.size T ([] : List Int).length := (bufTail_zero _ _).symm
        have Hb0 := Lib.hid hb0
        clear hr0 hz0' t0 hb0 hle
        go_wp2_with (first | (refine copy_buf _ rfl _ _ 22 22 rfl 5 i0 Try.underlying22 Hhi.out hz1 Hb0.out rfl Hr0.out HB0.out HF0.out ?_))
        intro w1 hb1 hg1
        have HB1 : Hid (Bufz 5 .u8 w.heap.size T w1 z0) := Lib.hid (by simpa using hb1)
        have HL1 := Lib.hid (HBl.out.grown hg1 HBl.out.size (fun k hk => by injection hk with hk; omega))
        have HA1 : Hid (z0 = (zss.take 1).flatten) := Lib.hid (by
          have := flat_take HZ0.out
          simpa using this)
        clear hb1 hg1 hcall
        go_wp2_with fail
        go_loopw [9, 72] (fun s i wr => ∃ (j : Nat) (acc : List Int), i = .int .i64 j ∧ j ≤ zss.length - 1 ∧ Hid (acc = (zss.take (j + 1)).flatten) ∧ s = .int .i64 (acc.length : Int) ∧ Hid (Bufz 5 .u8 w.heap.size T wr acc) ∧ Hid (Below w.heap.size w wr)) (fun _ i _ => zss.length - 1 - (intOf i).toNat)
        case atStart => exact ⟨0, z0, rfl, Nat.zero_le _, HA1, rfl, HB1, HL1⟩
        case round =>
          obtain ⟨j, acc, rfl, hj, HA, rfl, HB, HL⟩ := hrel
          clear HB1 HL1 HA1 HB0 HBl HF0 Hb0
          by_cases hlt : j < zss.length - 1
          · have hjz : (j : Int) < ((zss.length - 1 : Nat) : Int) := by omega
            have hjz' : (j : Int) < (zss.length : Int) - 1 := by omega
            obtain ⟨zs, hzs⟩ : ∃ zs, zss[j + 1]? = some zs := ⟨_, List.getElem?_eq_getElem (show j + 1 < zss.length by omega)⟩
            obtain ⟨u, c1, hr⟩ := HC.out _ (HL.out.mono hlim) (j + 1) zs hzs
            rw [show o + (j + 1) = o + 1 + j by omega] at c1
            have Hr := Lib.hid hr
            have hal : acc.length = fl (zss.take (j + 1)) := by rw [HA.out, ← fl_eq_join]
            have HFit : Hid (acc.length + zs.length ≤ T) := Lib.hid (by have := fl_at hzs; rw [hal, HT.out]; exact this)
            have hft : acc.length + zs.length ≤ T := HFit.out
            have hap : acc.length ≤ T := by have := HFit.out; omega
            have HFit0 : Hid (acc.length + ([] : List Int).length ≤ T) := Lib.hid (by simpa using hap)
            have HS : Hid (acc ++ zs = (zss.take (j + 1 + 1)).flatten) := Lib.hid (by rw [HA.out]; exact flat_take hzs)
            have HN0 := Lib.hid (Rd.nil lim .u8 wr)
            clear hr hzs hal
            go_wp2_with (first
              | (refine slice_buf _ rfl 22 5 i0 Try.underlying22 Hhi.out hz1 _ _ rfl rfl rfl hap ?_)
              | (refine copy_buf _ rfl _ _ 22 22 rfl 5 i0 Try.underlying22 Hhi.out hz1 rfl rfl HN0.out HB.out HFit0.out ?_
                 intro w2 hb2 hg2
                 rw [List.append_nil] at hb2
                 have HB2 := Lib.hid hb2
                 have HL2 := Lib.hid (HL.out.grown hg2 HL.out.size (fun k hk => by injection hk with hk; omega))
                 have HR2 := Lib.hid (Hr.out.behind (((Below.refl w.heap.size wr).grown hg2 HL.out.size (fun k hk => by injection hk with hk; omega)).mono hlim))
                 clear hb2 hg2)
              | (refine copy_buf _ rfl _ _ 22 22 rfl 5 i0 Try.underlying22 Hhi.out hz1 rfl rfl HR2.out HB2.out HFit.out ?_
                 intro w3 hb3 hg3
                 rw [HS.out] at hb3
                 have HB3 := Lib.hid hb3
                 have HL3 := Lib.hid (HL2.out.grown hg3 HL2.out.size (fun k hk => by injection hk with hk; omega))
                 clear hb3 hg3))
            go_roundw
            case rel => exact ⟨j + 1, (zss.take (j + 1 + 1)).flatten, by simp, by omega, Lib.hid rfl, by rw [← HS.out, List.length_append]; first | done | rfl | (congr 1; push_cast; omega), HB3, HL3⟩
            case measure => simp [intOf]; omega
          · have hjz : ¬ ((j : Int) < ((zss.length - 1 : Nat) : Int)) := by omega
            have hjz' : ¬ ((j : Int) < (zss.length : Int) - 1) := by omega
            have HA2 : Hid (acc = zss.flatten) := Lib.hid (by rw [HA.out, List.take_of_length_le (by omega)])
            have HR := Lib.hid (HB.out.c (Nat.le_refl _) (by rw [HA2.out, ← fl_eq_join, HT.out]) (by unfold maxLen; omega))
            go_wp2
            go_ret
            exact ⟨_, rfl, by rw [← HA2.out]; exact HR.out, HL.out⟩

/-- impl.JoinBytes. -/
theorem impl_jb {lim : Nat} {w : World} {v : Value} {zss : List (List Int)} (h : Rd2 lim .u8 w v zss) (hlim : lim ≤ w.heap.size) (hn : tot zss ≤ 1099511627776) :
    Calls Try.prog 20 #[v] w fun e w' => ∃ v', e = .returned v' ∧ OwnC 5 .u8 w.heap.size w' v' zss.flatten ∧ Below w.heap.size w w' := by
  have H := Lib.hid h
  clear h
  go_enter Try.func20, Try.ntmps20
  go_wp2_with fail
  refine (join_any H.out hlim hn).mono ?_
  rintro e w1 ⟨v1, rfl, h1, h2⟩
  have H1 := Lib.hid h1
  have H2 := Lib.hid h2
  clear h1 h2
  go_wp2_with fail
  go_ret
  exact ⟨_, rfl, H1.out, H2.out⟩

end Go.Proofs.Ytcemadckgimhhaa
