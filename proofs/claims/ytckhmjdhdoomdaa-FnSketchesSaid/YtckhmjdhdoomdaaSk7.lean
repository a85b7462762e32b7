/- Checks of writes: the shares of a vector; the program's. No conditions but a length that a machine holds. -/
import Derived.Test.YtckhmjdhdoomdaaSk1
import Derived.Test.YtckhmjdhdoomdaaSh4
import Derived.Test.YtckhmjdhdoomdaaSwap
import Derived.Test.YtckhmjdhdoomdaaCopyL
import Derived.Maps.AppendAt
namespace Go.Proofs.Ytckhmjdhdoomdaa
open Go Go.RowKit
set_option linter.unusedVariables false
attribute [local irreducible] kh kid chl

/-! ### Rows that grow by one -/

/-- The first k rows hold j + 1 components, the others j. -/
def midV (v s : List Int) (N j k : Nat) : List (List Int) := (List.range N).map fun i => vrow v s i (if i < k then j + 1 else j)
theorem midV_len (v s : List Int) (N j k : Nat) : (midV v s N j k).length = N := by simp [midV]
theorem midV_at {v s : List Int} {N j k i : Nat} (hi : i < N) : (midV v s N j k)[i]? = some (vrow v s i (if i < k then j + 1 else j)) := by
  unfold midV
  rw [List.getElem?_map, List.getElem?_range hi]; rfl
theorem midV_get {v s : List Int} {N j k : Nat} (hk : k < N) : (midV v s N j k)[k]? = some (vrow v s k j) := by
  rw [midV_at hk, if_neg (Nat.lt_irrefl _)]
theorem midV_full (v s : List Int) (N j : Nat) : midV v s N j N = midV v s N (j + 1) 0 := by
  refine List.ext_getElem? fun i => ?_
  by_cases hi : i < N
  · rw [midV_at hi, midV_at hi, if_pos hi, if_neg (Nat.not_lt_zero _)]
  · rw [List.getElem?_eq_none (by rw [midV_len]; omega), List.getElem?_eq_none (by rw [midV_len]; omega)]
theorem midV_set {v s : List Int} {N j k : Nat} (hk : k < N) : (midV v s N j k).set k (vrow v s k j ++ [(shN (v.getD j 0) (sds s j)).getD k 0]) = midV v s N j (k + 1) := by
  rw [← vrow_succ]
  refine List.ext_getElem? fun i => ?_
  by_cases hi : i < N
  · rw [midV_at hi]
    by_cases hik : k = i
    · subst hik
      rw [List.getElem?_set_self (by rw [midV_len]; exact hi), if_pos (Nat.lt_succ_self _)]
    · rw [List.getElem?_set_ne hik, midV_at hi]
      by_cases h : i < k
      · rw [if_pos h, if_pos (by omega)]
      · rw [if_neg h, if_neg (by omega)]
  · rw [List.getElem?_eq_none (by rw [List.length_set, midV_len]; omega), List.getElem?_eq_none (by rw [midV_len]; omega)]
theorem midV_start (v s : List Int) (N : Nat) : midV v s N 0 0 = List.replicate N [] := by
  refine List.ext_getElem? fun i => ?_
  by_cases hi : i < N
  · rw [midV_at hi, if_neg (Nat.not_lt_zero _), List.getElem?_replicate, if_pos hi]; rfl
  · rw [List.getElem?_eq_none (by rw [midV_len]; omega), List.getElem?_eq_none (by simp; omega)]
theorem midV_end {v s : List Int} (h : v.length ≤ 64 ∧ 1 ≤ s.length ∧ s.length ≤ 3) : midV v s (s.length + 1) v.length 0 = shV v s := by
  rw [shV_yes h]
  refine List.ext_getElem? fun i => ?_
  by_cases hi : i < s.length + 1
  · rw [midV_at hi, if_neg (Nat.not_lt_zero _), List.getElem?_map, List.getElem?_range hi]; rfl
  · rw [List.getElem?_eq_none (by rw [midV_len]; omega), List.getElem?_eq_none (by simp; omega)]

/-- append of one integer to a row of the call's own: where its block lies. -/
theorem append_one {P : Program} (w : World) {ops : Array Oper} {rest : List Oper} {o : Oper} {a : Act} {Q : Exit → Act → World → Prop} (hg : o.guard = none) (s x : Operand) (t : TypeId)
    (hop : o.op = .call { callee := .builtin .append, args := #[s, x], argTypes := #[t, t] }) (e : TypeId) (i : TypeInfo) (z : Value) (bytes : Nat) (ht : P.underlying t = some (.slice e)) (hi : P.info? e = some i) (hz : i.zero = some z)
    (hsize : i.size = 1) (hby : i.bytes = bytes) (hzs : z.cells.size = 1) (hb1 : 1 ≤ bytes) {k : IntKind} {v : Value} {ad : Addr} {c : Nat} {xs : List Int} {y : Int} (hs : a.eval s = v) (hown : Own e k 0 w v xs) (hx : a.eval x = .slice (some ad) 1 c)
    (hc : w.cell? (ad.add 0) = some (.int k y)) (hy : (Lit.int k y).wf = true) (hle : (xs.length + 1) * bytes ≤ 140737488355328)
    (h : ∀ v' w', Own e k 0 w' v' (xs ++ [y]) → w.grownBy w' v.ownBlock → (v'.ownBlock = v.ownBlock ∨ v'.ownBlock = some w.heap.size) → wpList P ops Q rest (a.put o.dst v') w') : wpList P ops Q (o :: rest) a w := by
  obtain ⟨vw, vB, vo⟩ := hown
  have hm : xs.length + 1 ≤ maxLen := by
    have : (xs.length + 1) * 1 ≤ (xs.length + 1) * bytes := Nat.mul_le_mul_left _ hb1
    unfold maxLen; omega
  obtain ⟨v', w', hr, p1, p2, p4, p3⟩ := run_append_own_at (P := P) w 0 t o.type e i z 1 bytes ht hi hz hsize hby hzs (by decide) v xs.length (xs.map (Value.int k)) vo ad 1 c [.int k y] rfl (fun j u hj => by
      have : j = 0 := by have := (List.getElem?_eq_some_iff.1 hj).1; simpa using this
      subst this
      simp at hj
      subst hj
      exact hc) (fun u hu => by simp at hu; subst hu; rfl) hm hle (Nat.zero_le _)
  refine wpList_plain hg fun K hK => ?_
  unfold Oper.wp
  simp only [execOp, hop, resolve, invoke, builtin, Sem.run_bind, Sem.run_pure, Result.andThen_ok, List.map_toArray, List.map_cons, List.map_nil, hs, hx]
  rw [hr]
  exact hK _ _ (h v' w' ⟨by intro n hn; rcases List.mem_append.1 hn with h | h; exact vw n h; rw [List.mem_singleton.1 h]; exact hy, Nat.zero_le _, by simpa using p1⟩ p2 p3)

theorem sds_wf {ss : List Int} {i j : Nat} (hj : j < ss.length) : (Lit.int .i64 ((sds ss i).getD j 0)).wf = true := by rw [sds_at hj]; exact wrap64_wf _

set_option maxHeartbeats 2000000 in
/-- impl.seedsOfComponent. -/
theorem soc_any {lim : Nat} {w : World} {v : Value} {ss : List Int} {i : Nat} (h : Rd lim .i64 w v ss) (hlim : lim ≤ w.heap.size) (hl : ss.length ≤ 3) (hi : i ≤ 64) :
    Calls Try.prog 39 #[v, .int .i64 i] w fun e w' => ∃ v', e = .returned v' ∧ Own 3 .i64 w.heap.size w' v' (sds ss i) ∧ Below w.heap.size w w' := by
  obtain ⟨i0, hi0, hz0, hz1, hz2⟩ := info_parts infoi64
  have Hhi := Lib.hid hi0
  obtain ⟨n, hn⟩ : ∃ n, n = ss.length := ⟨_, rfl⟩
  have HRl : Hid ((sds ss i).length = n) := Lib.hid (by rw [sds_len, hn])
  have HWf : Hid (∀ j, j < n → (Lit.int .i64 ((sds ss i).getD j 0)).wf = true) := Lib.hid (fun j hj => sds_wf (by omega))
  have HAt : Hid (∀ j, j < n → wrap64 (ss.getD j 0 + 77 * (i : Int)) = (sds ss i).getD j 0) := Lib.hid (fun j hj => (sds_at (by omega)).symm)
  have HV := Lib.hid h
  obtain ⟨a, cap, rfl, h1, h2, hc⟩ := h.open
  have Hc := Lib.hid hc
  unfold maxLen at h2
  obtain ⟨R, hR⟩ : ∃ R, R = sds ss i := ⟨_, rfl⟩
  rw [← hR] at HRl HWf HAt ⊢
  rw [← hn]
  rw [← hn] at Hc
  have hn3 : n ≤ 3 := by omega
  have HN := Lib.hid hn
  clear h hc hi0 hR hn hl h1
  go_enter Try.func39, Try.ntmps39
  go_wp2_with (first | (at_make; refine wpList_make_full _ rfl _ _ 25 rfl w.heap.size 3 i0 (.int .i64 0) 1 Try.underlying25 Hhi.out hz0 hz1 .i64 .i64 _ _ n rfl rfl rfl rfl (by rw [hz2]; omega) (by unfold maxLen; omega) (Nat.le_refl _) ?_))
  intro w2 hown hg
  have hO := own_made hown hg.size (by decide)
  rw [← upt_rep (fun i => R.getD i 0) n] at hO
  have HO := Lib.hid hO
  have HB2 := Lib.hid ((Below.refl w.heap.size w).grown hg (Nat.le_refl _) (fun k hk => by cases hk))
  clear hown hg hO
  go_wp2_with fail
  go_loopw [13] (fun i wr => ∃ j : Nat, i = .int .i64 j ∧ j ≤ n ∧ Own 3 .i64 w.heap.size wr (.slice (some ⟨w.heap.size, 0, none⟩) n n) (upt (fun i => R.getD i 0) (fun _ => 0) j n) ∧ Below w.heap.size w wr) (fun i _ => n - (intOf i).toNat)
  case atStart => exact ⟨0, rfl, Nat.zero_le _, HO.out, HB2.out⟩
  case round =>
    obtain ⟨j, rfl, hj, hO, hB⟩ := hrel
    replace HO := Lib.hid hO
    have HB := Lib.hid hB
    clear hO hB
    by_cases hlt : j < n
    · have e1 : decide ((j : Int) < (n : Int)) = true := by simp; omega
      obtain ⟨bs, os, rfl, hbs, hcell⟩ := Hc.out (by omega)
      have c1 := hcell wr (HB.out.mono hlim) j (by have := HN.out; omega)
      have HRj := Lib.hid (HAt.out j hlt)
      obtain ⟨z, hz⟩ : ∃ z, z = ss.getD j 0 := ⟨_, rfl⟩
      rw [← hz] at c1 HRj
      have hjN : (j : Int) < (n : Int) := by omega
      have c2 := HO.out.cellAt (upt_length _ _ _ _) hlt
      have f2 := HO.out.free (upt_length _ _ _ _) j
      obtain ⟨p1, p2⟩ := HO.out.put (f := fun i => R.getD i 0) (j := j) (HWf.out j hlt)
      have HRj' : Hid (R.getD j 0 = wrap64 (z + 77 * (i : Int))) := Lib.hid HRj.out.symm
      rw [HRj'.out] at p1 p2
      have P1 := Lib.hid p1
      have P2 := Lib.hid p2
      clear hcell hz p1 p2
      go_wp2_with fail
      go_roundw
      case rel => exact ⟨j + 1, by simp, hlt, P1.out, HB.out.grown P2.out HB.out.size (fun k hk => by injection hk with hk; omega)⟩
      case measure => simp [intOf]; omega
    · have e1 : decide ((j : Int) < (n : Int)) = false := by simp; omega
      obtain rfl : j = n := by omega
      have HE : Hid (upt (fun i => R.getD i 0) (fun _ => 0) j j = R) := Lib.hid (by
        have := upt_full (fun i => R.getD i 0) (fun _ => 0) j
        rw [this]
        rw [range_take (by have := HRl.out; omega), List.take_of_length_le (by have := HRl.out; omega)])
      rw [HE.out] at HO
      go_wp2_with fail
      go_ret
      exact ⟨_, rfl, HO.out, HB.out⟩

set_option maxHeartbeats 4000000 in
/-- impl.ShareVector. -/
theorem impl_shV {l1 l2 : Nat} {w : World} {u v : Value} {vs ss : List Int} (hu : Rd l1 .i64 w u vs) (hv : Rd l2 .i64 w v ss) (hl1 : l1 ≤ w.heap.size) (hl2 : l2 ≤ w.heap.size) (hs : ss.length ≤ 1099511627776) :
    Calls Try.prog 14 #[u, v] w fun e w' => ∃ v', e = .returned v' ∧ Own2 25 3 .i64 (ival w.heap.size w'.heap.size) w' v' (shV vs ss) ∧ Below w.heap.size w w' := by
  obtain ⟨i0, hi0, hz0, hz1, hz2⟩ := info_parts infoi64
  have Hhi := Lib.hid hi0
  obtain ⟨i1, hi1, hy0, hy1, hy2⟩ := info_parts infoi64s
  have Hhi' := Lib.hid hi1
  have HU := Lib.hid hu
  have HV := Lib.hid hv
  obtain ⟨a, cap, rfl, h1, h2, hc⟩ := hu.open
  obtain ⟨a', cap', rfl, h1', h2', hc'⟩ := hv.open
  have Hc := Lib.hid hc
  have Hc' := Lib.hid hc'
  unfold maxLen at h2 h2'
  have HW1 : Hid ((Lit.int .i64 ((ss.length : Int) + 1)).wf = true) := Lib.hid (wf_i64_of (by omega) (by omega))
  clear hu hv hc hc' hi0 hi1
  by_cases hvl : vs.length ≤ 64
  · have e0 : decide ((vs.length : Int) > 64) = false := by simp; omega
    by_cases hin : 1 ≤ ss.length ∧ ss.length ≤ 3
    · have hok : vs.length ≤ 64 ∧ 1 ≤ ss.length ∧ ss.length ≤ 3 := ⟨hvl, hin.1, hin.2⟩
      have HE := Lib.hid (midV_end hok)
      obtain ⟨N, hN⟩ : ∃ N, N = ss.length + 1 := ⟨_, rfl⟩
      have hNi : (ss.length : Int) + 1 = (N : Int) := by omega
      have HI : Hid (inR (N : Int) 2 4 = true) := Lib.hid (inR_yes (by omega))
      rw [← hN] at HE
      rw [hNi] at HW1
      have HSt := Lib.hid (midV_start vs ss N)
      have hN4 : N ≤ 4 := by omega
      have HN := Lib.hid hN
      have HShl : Hid (∀ j, (shN (vs.getD j 0) (sds ss j)).length = N) := Lib.hid (fun j => by
        have h' : 1 ≤ (sds ss j).length ∧ (sds ss j).length ≤ 3 := by rw [sds_len]; exact hin
        rw [shN_len_yes h', sds_len, hN])
      have Hin := Lib.hid hin
      have hm1 : (N : Int) ≤ 4 := by omega
      clear hok hN hin
      go_enter Try.func14, Try.ntmps14
      go_wp2_with fail
      refine (impl_in _ _ _ _ HW1.out).mono ?_
      rw [HI.out]
      rintro e w1 ⟨rfl, hw⟩
      subst hw
      go_wp2_with (first | (at_make; refine wpList_make_full _ rfl _ _ 26 rfl w1.heap.size 25 i1 (.slice none 0 0) 1 Try.underlying26 Hhi'.out hy0 hy1 .i64 .i64 _ _ N rfl rfl rfl rfl (by rw [hy2]; omega) (by unfold maxLen; omega) (Nat.le_refl _) ?_))
      intro w2 hown hg
      have HO : Hid (Own2 25 3 .i64 (ival w1.heap.size w2.heap.size) w2 (.slice (some ⟨w1.heap.size, 0, none⟩) N N) (midV vs ss N 0 0)) := Lib.hid (by rw [HSt.out]; exact made_start hown (Nat.le_refl _))
      have HB2 := Lib.hid ((Below.refl w1.heap.size w1).grown hg (Nat.le_refl _) (fun k hk => by cases hk))
      clear hown hg
      go_wp2_with fail
      go_loopw [27] (fun i wr => ∃ j : Nat, i = .int .i64 j ∧ j ≤ vs.length ∧ Own2 25 3 .i64 (ival w1.heap.size wr.heap.size) wr (.slice (some ⟨w1.heap.size, 0, none⟩) N N) (midV vs ss N j 0) ∧ Below w1.heap.size w1 wr) (fun i _ => vs.length - (intOf i).toNat)
      case atStart => exact ⟨0, rfl, Nat.zero_le _, HO.out, HB2.out⟩
      case round =>
        obtain ⟨j, rfl, hj, hO, hB⟩ := hrel
        replace HO := Lib.hid hO
        have HB := Lib.hid hB
        clear hO hB
        by_cases hlt : j < vs.length
        · obtain ⟨wo, hwo⟩ : ∃ x, x = wr := ⟨_, rfl⟩
          subst hwo
          have e1 : decide ((j : Int) < (vs.length : Int)) = true := by simp; omega
          obtain ⟨bs, os, rfl, hbs, hcell⟩ := Hc.out (by omega)
          have c1 := hcell wo (HB.out.mono hl1) j hlt
          have HXw := Lib.hid (HU.out.wf hlt)
          have HSet : Hid (∀ k, k < N → (midV vs ss N j k).set k (vrow vs ss k j ++ [(shN (vs.getD j 0) (sds ss j)).getD k 0]) = midV vs ss N j (k + 1)) := Lib.hid (fun k hk => midV_set hk)
          have HSl := Lib.hid (HShl.out j)
          obtain ⟨x, hx⟩ : ∃ x, x = vs.getD j 0 := ⟨_, rfl⟩
          rw [← hx] at c1 HXw HSet HSl
          have HCs := Lib.hid (soc_any (i := j) (HV.out.behind (HB.out.mono hl2)) (Nat.le_trans hl2 HB.out.size) Hin.out.2 (by omega))
          clear hcell hx
          go_wp2_with fail
          refine HCs.out.mono ?_
          rintro e w3 ⟨v3, rfl, h3, hb3⟩
          have H3 := Lib.hid h3
          have HB3 := Lib.hid hb3
          clear h3 hb3
          go_wp2_with fail
          refine (impl_shN H3.out.rd (Nat.le_refl _) HXw.out (by rw [sds_len]; have := Hin.out.2; omega)).mono ?_
          rintro e w4 ⟨v4, rfl, h4, hb4⟩
          obtain ⟨al, cl, hv4, _⟩ := h4.open
          rw [HSl.out] at hv4
          obtain ⟨R, hR⟩ : ∃ R, R = shN x (sds ss j) := ⟨_, rfl⟩
          rw [← hR] at h4 HSet HSl
          subst hv4
          have HBo : Hid (Below wo.heap.size wo w4) := Lib.hid (HB3.out.trans (hb4.mono HB3.out.size))
          have HL : Hid (Own 3 .i64 wo.heap.size w4 (.slice al N cl) R) := Lib.hid (h4.mono HB3.out.size)
          have HO4 := Lib.hid (HO.out.next HBo.out)
          clear h4 hb4 hR
          go_wp2_with fail
          go_loopw [38] (fun i wr => ∃ (k : Nat) (F : Nat → Prop), i = .int .i64 k ∧ k ≤ N ∧ Own2 25 3 .i64 F wr (.slice (some ⟨w1.heap.size, 0, none⟩) N N) (midV vs ss N j k) ∧ (∀ b, F b → w1.heap.size ≤ b ∧ b < wr.heap.size) ∧ (∀ r, (Value.slice al N cl).ownBlock = some r → ¬ F r) ∧ Own 3 .i64 0 wr (.slice al N cl) R ∧ Below w1.heap.size w1 wr) (fun i _ => N - (intOf i).toNat)
          case atStart =>
            refine ⟨0, ival w1.heap.size wo.heap.size, rfl, Nat.zero_le _, HO4.out, fun b hb => ⟨hb.1, Nat.lt_of_lt_of_le hb.2 HBo.out.size⟩, fun r hr hF => ?_, HL.out.mono (Nat.zero_le _), HB.out.trans (HBo.out.mono HB.out.size)⟩
            have h1 := (HL.out.lt r hr).1
            have h2 := hF.2
            omega
          case round =>
            obtain ⟨k, F, rfl, hk, hO, hF, hD, hL, hB⟩ := hrel
            have HOk := Lib.hid hO
            have HF := Lib.hid hF
            have HD := Lib.hid hD
            have HLk := Lib.hid hL
            have HBk := Lib.hid hB
            clear hO hF hD hL hB
            by_cases hlk : k < N
            · have e2 : decide ((k : Int) < (N : Int)) = true := by simp; omega
              have hlki : (k : Int) < (N : Int) := by omega
              have hR := HSl.out
              obtain ⟨al', cl', hal, hgl⟩ := HLk.out.open
              rw [hR] at hal hgl
              injection hal with q1 q2 q3
              subst q1
              subst q3
              obtain ⟨gl, hgl'⟩ := hgl (by omega)
              subst hgl'
              have c1 := HLk.out.cellAt hR hlk
              have HZw := Lib.hid (HLk.out.rd.wf (i := k) (by rw [hR]; exact hlk))
              obtain ⟨u, cu, hu, hin, hup⟩ := HOk.out.swap (midV_get hlk) (fun b hb => (HF.out b hb).2)
              have HSe := Lib.hid (HSet.out k hlk)
              obtain ⟨z, hz⟩ : ∃ z, z = R.getD k 0 := ⟨_, rfl⟩
              rw [← hz] at c1 HZw HSe
              obtain ⟨au, cu', hue, _⟩ := hu.open
              rw [vrow_len] at hue
              subst hue
              have HUp := Lib.hid hup
              have HIn := Lib.hid hin
              have O1 := Lib.hid (hu.alloc (.cells #[.int .i64 z] 3))
              have hba : Below wr.heap.size wr (wr.alloc (.cells #[.int .i64 z] 3)) := (Below.refl _ _).alloc (Nat.le_refl _) _
              have HBa := Lib.hid hba
              have HCl : Hid ((wr.alloc (.cells #[.int .i64 z] 3)).cell? ((⟨wr.heap.size, 0, none⟩ : Addr).add 0) = some (.int .i64 z)) := Lib.hid (blk_cell (heap_alloc_new wr _) 0)
              have HLb : Hid (((vrow vs ss k j).length + 1) * 8 ≤ 140737488355328) := Lib.hid (by rw [vrow_len]; omega)
              clear hu hup hin hba hz hR hgl q2
              go_wp2_with (first | (at_builtin; refine append_one _ rfl _ _ 25 rfl 3 i0 (.int .i64 0) 8 Try.underlying25 Hhi.out hz0 hz1 hz2 rfl (by omega) rfl O1.out rfl HCl.out HZw.out HLb.out ?_))
              intro v5 w5 h5 h6 h7
              obtain ⟨a5, cp5, hv5, _⟩ := h5.open
              rw [List.length_append, vrow_len, List.length_singleton] at hv5
              subst hv5
              have hk5 : KeptF (fun b => (Value.slice au j cu').ownBlock = some b) wr w5 := (KeptF.of_below HBa.out).trans (KeptF.of_grown h6 (fun b hb => hb))
              obtain ⟨c5, f5, hset⟩ := HUp.out w5 hk5
              obtain ⟨p1, p2⟩ := hset _ _ h5 (by
                rcases h7 with h7 | h7
                · exact .inl h7
                · refine .inr fun r hr => ?_
                  rw [h7] at hr
                  injection hr with hr
                  have := HBa.out.size
                  omega)
              rw [HSe.out] at p1
              have hL5 := HLk.out.keptF hk5 (fun r hr hur => HD.out r hr (HIn.out r hur))
              have P1 := Lib.hid p1
              have P2 := Lib.hid p2
              have HL5 := Lib.hid hL5
              have H5 := Lib.hid h5
              have H7 := Lib.hid h7
              have hB5 : Below w1.heap.size w1 w5 := HBk.out.trans (hk5.below (fun b hb => (HF.out b (HIn.out b hb)).1) HBk.out.size)
              have HB5 := Lib.hid hB5
              have HK5 := Lib.hid hk5.size
              clear c1 cu hset p1 p2 hL5 h5 h6 h7 hk5 hB5
              go_wp2_with fail
              go_roundw
              case rel =>
                have hsz : (w5.setCell ⟨w1.heap.size, k, none⟩ (.slice a5 (j + 1) cp5)).heap.size = w5.heap.size := by simp [World.setCell]
                have hg1 : w1.heap.size < wr.heap.size := ((HF.out _ (HOk.out.in_ w1.heap.size rfl)).2)
                refine ⟨k + 1, _, by simp, hlk, P1.out, fun b hb => ?_, fun r hr hb => ?_, ?_, ?_⟩
                · rw [hsz]
                  rcases hb with hb | hb
                  · have := HF.out b hb
                    have := HK5.out
                    omega
                  · have h1 := (H5.out.lt b hb).2
                    refine ⟨?_, h1⟩
                    rcases H7.out with h7 | h7
                    · rw [h7] at hb
                      exact (HF.out b (HIn.out b hb)).1
                    · rw [h7] at hb
                      injection hb with hb
                      have := HBa.out.size
                      omega
                · rcases hb with hb | hb
                  · exact HD.out r hr hb
                  · have hr2 := (HLk.out.lt r hr).2
                    rcases H7.out with h7 | h7
                    · rw [h7] at hb
                      exact HD.out r hr (HIn.out r hb)
                    · rw [h7] at hb
                      injection hb with hb
                      have := HBa.out.size
                      omega
                · refine HL5.out.kept P2.out (.inr fun e => ?_)
                  exact HD.out w1.heap.size e (HOk.out.in_ w1.heap.size rfl)
                · exact HB5.out.grown P2.out HB5.out.size (fun k hk => by injection hk with hk; omega)
              case measure => simp [intOf]; omega
            · have e2 : decide ((k : Int) < (N : Int)) = false := by simp; omega
              obtain rfl : k = N := by omega
              have HO5 : Hid (Own2 25 3 .i64 (ival w1.heap.size wr.heap.size) wr (.slice (some ⟨w1.heap.size, 0, none⟩) k k) (midV vs ss k (j + 1) 0)) := Lib.hid (by
                rw [← midV_full]
                exact HOk.out.mono fun b hb => HF.out b hb)
              go_wp2_with fail
              go_roundw
              case rel => exact ⟨j + 1, by simp, hlt, HO5.out, HBk.out⟩
              case measure => simp [intOf]; omega
        · have e1 : decide ((j : Int) < (vs.length : Int)) = false := by simp; omega
          obtain rfl : j = vs.length := by omega
          rw [HE.out] at HO
          go_wp2_with fail
          go_ret
          exact ⟨_, rfl, HO.out, HB.out⟩
    · have HNo : Hid (shV vs ss = []) := Lib.hid (shV_no (fun h => hin h.2))
      have HI : Hid (inR ((ss.length : Int) + 1) 2 4 = false) := Lib.hid (by unfold inR; simp; omega)
      rw [HNo.out]
      clear hin
      go_enter Try.func14, Try.ntmps14
      go_wp2_with fail
      refine (impl_in _ _ _ _ HW1.out).mono ?_
      rw [HI.out]
      rintro e w1 ⟨rfl, hw⟩
      subst hw
      go_wp2_with fail
      go_ret
      refine ⟨_, rfl, Own2.lit _ _ _ ?_, (Below.refl _ _).alloc (Nat.le_refl _) _⟩
      unfold ival
      simp
  · have e0 : decide ((vs.length : Int) > 64) = true := by simp; omega
    have HNo : Hid (shV vs ss = []) := Lib.hid (shV_no (fun h => hvl h.1))
    rw [HNo.out]
    clear hvl
    go_enter Try.func14, Try.ntmps14
    go_wp2_with fail
    go_ret
    refine ⟨_, rfl, Own2.lit _ _ _ ?_, (Below.refl _ _).alloc (Nat.le_refl _) _⟩
    unfold ival
    simp

end Go.Proofs.Ytckhmjdhdoomdaa
