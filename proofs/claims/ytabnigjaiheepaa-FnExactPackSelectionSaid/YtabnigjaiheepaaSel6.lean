/- PackSelection, the program's and the document's: what each gives. No conditions. -/
import Derived.Test.YtabnigjaiheepaaSel3
import Derived.Test.YtabnigjaiheepaaCopyByte
import Derived.IntWalk
import Derived.StillTailTactics
namespace Go.Proofs.Ytabnigjaiheepaa
open Go Go.RowKit
set_option linter.unusedVariables false

theorem wrapU8' (x : Int) : IntKind.u8.wrap x = x % 256 := by
  have e1 : IntKind.u8.min = 0 := rfl
  simp [IntKind.wrap, e1, IntKind.bits, IntKind.signed]

/-- The number of elements, then the first k bytes. -/
def packT (n M k : Nat) : List Int := (n : Int) :: (List.range k).map (byt M)
theorem packT_succ (n M k : Nat) : packT n M k ++ [byt M k] = packT n M (k + 1) := by simp [packT, List.range_succ]
theorem packT_len (n M k : Nat) : (packT n M k).length = k + 1 := by simp [packT]

theorem u64_byte {M : Nat} {p k : Nat} (hp : p = 8 * k) : (M : Int) / 2 ^ p % 256 = byt M k := by
  rw [shr_cast, hp]
  unfold byt
  omega

set_option maxHeartbeats 1000000 in
/-- impl.PackSelection. -/
theorem impl_pk {lim : Nat} {w : World} {v : Value} {zs : List Int} (h : Rd lim .i64 w v zs) (hlim : lim ≤ w.heap.size) :
    Calls Try.prog 15 #[v] w fun e w' => ∃ v', e = .returned v' ∧ Own 5 .u8 w.heap.size w' v' (packV zs) ∧ Below w.heap.size w w' := by
  have H := Lib.hid h
  obtain ⟨i0, hi, hz0, hz1, hz2⟩ := info_parts infou8
  have Hhi := Lib.hid hi
  clear h hi
  by_cases hs : isel zs (zs.length : Int) = true
  · have HS := Lib.hid hs
    obtain ⟨hb, _, hn⟩ := isel_iff.1 hs
    have HE : Hid (packV zs = packT zs.length (bnat zs) ((zs.length + 7) / 8)) := Lib.hid (by unfold packV packs packT; rw [if_pos hs])
    obtain ⟨n, hn'⟩ : ∃ n, n = zs.length := ⟨_, rfl⟩
    have hlt := bnat_lt hb
    have hM : bnat zs < 18446744073709551616 := by
      have e64 : (2 : Nat) ^ 64 = 18446744073709551616 := by decide
      have : 2 ^ zs.length ≤ 2 ^ 64 := Nat.pow_le_pow_right (by decide) (by omega)
      omega
    have HC := fun (w : World) (h : Rd lim .i64 w v zs) (hl : lim ≤ w.heap.size) => so_yes h hl hs
    obtain ⟨M, hM'⟩ : ∃ M, M = bnat zs := ⟨_, rfl⟩
    rw [← hM'] at hM HE HC
    rw [← hn'] at hn HE HC
    have C := Lib.hid HC
    have HML := Lib.hid hM
    clear hs hb hlt hM' hn' HC hM
    go_enter Try.func15, Try.ntmps15
    go_wp2_with fail
    refine (C.out w H.out hlim).mono ?_
    rintro e w1 ⟨rfl, hb1⟩
    have HB1 := Lib.hid (hb1.alloc hb1.size (.cells #[.int .i64 (n : Int), .int .u64 (M : Int)] 53))
    have HS1 := Lib.hid hb1.size
    clear hb1
    have HA : Hid (((w1.alloc (.cells #[.int .i64 (n : Int), .int .u64 (M : Int)] 53)).alloc (.cells #[.int .u8 (n : Int)] 5)).heap[w1.heap.size]? = some (.cells #[.int .i64 (n : Int), .int .u64 (M : Int)] 53)) := Lib.hid ((heap_alloc_old _ _ (by simp)).trans (heap_alloc_new w1 _))
    have hO : Own 5 .u8 (w1.heap.size + 1) ((w1.alloc (.cells #[.int .i64 (n : Int), .int .u64 (M : Int)] 53)).alloc (.cells #[.int .u8 (n : Int)] 5)) (.slice (some ⟨w1.heap.size + 1, 0, none⟩) 1 1) [(n : Int)] := by
      have := Own.one (B := w1.heap.size + 1) (w := w1.alloc (.cells #[.int .i64 (n : Int), .int .u64 (M : Int)] 53)) (z := (n : Int)) 5 .u8 (by simp) (wf_u8_of (by omega) (by omega))
      rwa [World.size_alloc] at this
    have HO := Lib.hid hO
    have HB := Lib.hid (HB1.out.alloc HB1.out.size (.cells #[.int .u8 (n : Int)] 5))
    clear hO HB1
    go_wp2_with fail
    go_loopw [5, 6] (fun s i wr => ∃ p k : Nat, i = .int .i64 p ∧ p = 8 * k ∧ k ≤ (n + 7) / 8 ∧ Own 5 .u8 (w1.heap.size + 1) wr s (packT n M k) ∧ wr.heap[w1.heap.size]? = some (.cells #[.int .i64 (n : Int), .int .u64 (M : Int)] 53) ∧ Below w.heap.size w wr) (fun _ i _ => 72 - (intOf i).toNat)
    case atStart => exact ⟨0, 0, rfl, rfl, Nat.zero_le _, HO.out, HA.out, HB.out⟩
    case round =>
      obtain ⟨p, k, rfl, hp, hk, hO, hA, hB⟩ := hrel
      replace HO := Lib.hid hO
      replace HA := Lib.hid hA
      replace HB := Lib.hid hB
      have c0 := blk_cell hA 0
      have c1 := blk_cell hA 1
      rw [two0] at c0
      rw [two1] at c1
      clear hO hA hB
      by_cases hlt : p < n
      · have e1 : decide ((p : Int) < (n : Int)) = true := by simp; omega
        have hv := u64_byte (M := M) hp
        have hby := byt_u8 M k
        have hT := packT_succ n M k
        obtain ⟨x, hx⟩ : ∃ x, x = byt M k := ⟨_, rfl⟩
        rw [← hx] at hv hby hT
        have HT := Lib.hid hT
        have HP := Lib.hid hp
        have hkn : k + 1 ≤ (n + 7) / 8 ∧ p + 8 ≤ 72 := by omega
        have HKn := Lib.hid hkn
        have O1 := Lib.hid (HO.out.alloc (.cells #[.int .u8 x] 5))
        have B1 := Lib.hid (HB.out.alloc HB.out.size (.cells #[.int .u8 x] 5))
        have A1 : Hid ((wr.alloc (.cells #[.int .u8 x] 5)).heap[w1.heap.size]? = some (.cells #[.int .i64 (n : Int), .int .u64 (M : Int)] 53)) := Lib.hid ((heap_alloc_old _ _ (lt_of_block HA.out)).trans HA.out)
        have R1 := Lib.hid (Rd.one 5 .u8 wr x (wf_u8_of (by omega) (by omega)))
        have HLn : Hid ((packT n M k).length ≤ 100) := Lib.hid (by rw [packT_len]; omega)
        clear hx hT hp hkn
        go_wp2_with (first | (at_builtin; refine append_rd _ rfl _ _ 22 rfl 5 i0 (.int .u8 0) 1 Try.underlying22 Hhi.out hz0 hz1 hz2 rfl (by omega) rfl O1.out rfl R1.out (by have := HLn.out; simp only [List.length_singleton]; omega) ?_))
        intro v5 w5 h5 h6
        rw [HT.out] at h5
        have H5 := Lib.hid h5
        have B5 := Lib.hid (B1.out.trans (O1.out.below (C := w.heap.size) (by have := HS1.out; omega) h6))
        have A5 : Hid (w5.heap[w1.heap.size]? = some (.cells #[.int .i64 (n : Int), .int .u64 (M : Int)] 53)) := Lib.hid ((h6.block w1.heap.size (lt_of_block A1.out) (fun e => by have := (O1.out.lt _ e.symm).1; omega)).trans A1.out)
        clear h5 h6
        go_wp2
        go_roundw
        case rel => exact ⟨p + 8, k + 1, by simp, by have := HP.out; omega, HKn.out.1, H5.out, A5.out, B5.out⟩
        case measure => have := HKn.out; simp [intOf]; omega
      · have e1 : decide ((p : Int) < (n : Int)) = false := by simp; omega
        have hkk : k = (n + 7) / 8 := by omega
        have HR : Hid (packV zs = packT n M k) := Lib.hid (by rw [HE.out, hkk])
        have HO2 := Lib.hid (HO.out.mono (B' := w.heap.size) (by have := HS1.out; omega))
        clear hkk hp
        go_wp2
        go_ret
        exact ⟨_, rfl, by rw [HR.out]; exact HO2.out, HB.out⟩
  · have HS : Hid (isel zs (zs.length : Int) = false) := Lib.hid (by simpa using hs)
    have HE : Hid (packV zs = []) := Lib.hid (by unfold packV; rw [if_neg hs])
    clear hs
    go_enter Try.func15, Try.ntmps15
    go_wp2_with fail
    refine (so_no H.out hlim HS.out).mono ?_
    rintro e w1 ⟨rfl, hb1⟩
    have HB1 := Lib.hid (hb1.alloc hb1.size (.cells #[.int .i64 0, .int .u64 0] 53))
    have HS1 := Lib.hid hb1.size
    clear hb1
    go_wp2_with fail
    go_ret
    exact ⟨_, rfl, by rw [HE.out]; exact Own.lit2 _ HS1.out, HB1.out.alloc HB1.out.size _⟩

theorem ix_tdiv {j k : Nat} (h : k = j / 8) : (j : Int).tdiv 8 = (k : Int) := by
  rw [Int.tdiv_eq_ediv_of_nonneg (by omega)]; omega
theorem ix_div {j k : Nat} (h : k = j / 8) : (j : Int) / 8 = (k : Int) := by omega
theorem ix_tmod {j k : Nat} (h : k = j % 8) : (j : Int).tmod 8 = (k : Int) := by
  rw [Int.tmod_eq_emod_of_nonneg (by omega)]; omega
theorem ix_mod {j k : Nat} (h : k = j % 8) : (j : Int) % 8 = (k : Int) := by omega
theorem ix_wrap {d k : Nat} (h : d = 1 + k) (hk : k ≤ 1000) : IntKind.i64.wrap (1 + (k : Int)) = (d : Int) := by
  rw [IntWalk.i64_in _ (by omega)]; omega
theorem ix_wrap0 {k : Nat} (hk : k ≤ 1000) : IntKind.i64.wrap (k : Int) = (k : Int) := by
  rw [IntWalk.i64_in _ (by omega)]
theorem ix_add {d k : Nat} (h : d = 1 + k) : 1 + (k : Int) = (d : Int) := by omega
theorem bv8 (a : Nat) (ha : a < 256) : (BitVec.ofInt 8 (a : Int)).toNat = a := by
  have e8 : (2 : Nat) ^ 8 = 256 := by decide
  rw [BitVec.toNat_ofInt]
  have : ((a : Int) % ((2 ^ 8 : Nat) : Int)) = a := by rw [e8]; omega
  rw [this]; rfl
theorem u8_or (a b : Nat) (ha : a < 256) (hb : b < 256) : bits .or .u8 (a : Int) (b : Int) = ((a ||| b : Nat) : Int) := by
  have e8 : (2 : Nat) ^ 8 = 256 := by decide
  show IntKind.u8.wrap ((BitVec.ofInt 8 (a : Int) ||| BitVec.ofInt 8 (b : Int)).toNat : Nat) = _
  rw [BitVec.toNat_or, bv8 a ha, bv8 b hb, wrapU8']
  have h : a ||| b < 2 ^ 8 := Nat.or_lt_two_pow (by omega) (by omega)
  omega
theorem u8_add {M j : Nat} {z : Int} {k : Nat} (hM : M < 2 ^ j) (hz : 0 ≤ z ∧ z ≤ 1) (hk : k = j / 8) : ∃ A q : Nat, byt M k = (A : Int) ∧ z * 2 ^ (j % 8) = (q : Int) ∧ q ≤ 255 ∧ bits .or .u8 (A : Int) (q : Int) = byt (M + z.toNat * 2 ^ j) k := by
  obtain ⟨g1, g2, g3, g4⟩ := byt_low (z := z.toNat) hM (by omega) hk
  refine ⟨M / 2 ^ (8 * k), z.toNat * 2 ^ (j % 8), g1, ?_, Nat.le_trans (Nat.le_add_left _ _) g4, ?_⟩
  · rw [Int.natCast_mul, Int.toNat_of_nonneg hz.1]; simp
  · rw [u8_or _ _ (Nat.lt_succ_of_le (Nat.le_trans (Nat.le_add_right _ _) g4)) (Nat.lt_succ_of_le (Nat.le_trans (Nat.le_add_left _ _) g4)), or_high g2, g3]

set_option maxHeartbeats 400000 in
/-- spec.PackSelection. -/
theorem spec_pk {lim : Nat} {w : World} {v : Value} {zs : List Int} (h : Rd lim .i64 w v zs) (hlim : lim ≤ w.heap.size) :
    Calls Try.prog 39 #[v] w fun e w' => ∃ v', e = .returned v' ∧ Own 5 .u8 w.heap.size w' v' (packV zs) ∧ Below w.heap.size w w' := by
  have H := Lib.hid h
  obtain ⟨i0, hi, hz0, hz1, hz2⟩ := info_parts infou8
  have Hhi := Lib.hid hi
  have hlenz := h.len
  unfold maxLen at hlenz
  have Hlw : Hid ((Lit.int .i64 (zs.length : Int)).wf = true) := Lib.hid (wf_i64_of (by omega) (by omega))
  obtain ⟨a, cap, rfl, h1, h2, hc⟩ := h.open
  have Hc := Lib.hid hc
  unfold maxLen at h2
  clear h hi hc
  by_cases hs : isel zs (zs.length : Int) = true
  · have HS := Lib.hid hs
    obtain ⟨hb, _, hn⟩ := isel_iff.1 hs
    have HB01 := Lib.hid hb
    have HE : Hid (packV zs = packJ zs zs.length) := Lib.hid (by unfold packV; rw [if_pos hs, packJ_full])
    clear hs hb
    go_enter Try.func39, Try.ntmps39
    go_wp2_with fail
    refine (spec_is H.out Hlw.out).mono ?_
    rw [HS.out]
    rintro e w1 ⟨rfl, hw1⟩
    subst hw1
    obtain ⟨m, hm⟩ : ∃ m, m = 1 + (zs.length + 7) / 8 := ⟨_, rfl⟩
    have hmi : 1 + ((zs.length : Int) + 7) / 8 = (m : Int) := by omega
    have hm0 : 0 < m := by omega
    have hm1 : m ≤ 9 := by omega
    have HMm := Lib.hid hm
    clear hm
    go_wp2_with (first | (at_make; refine wpList_make_full _ rfl _ _ 22 rfl w1.heap.size 5 i0 (.int .u8 0) 1 Try.underlying22 Hhi.out hz0 hz1 .i64 .i64 _ _ m rfl rfl rfl rfl (by rw [hz2]; omega) (by unfold maxLen; omega) (Nat.le_refl _) ?_))
    intro w2 hown hg
    have HO := Lib.hid (own_made hown hg.size (by decide))
    have HB := Lib.hid ((Below.refl w1.heap.size w1).grown hg (Nat.le_refl _) (fun k hk => by cases hk))
    have c1 := HO.out.cellAt (List.length_replicate ..) hm0
    have f1 := HO.out.free (List.length_replicate ..) 0
    clear hown hg hmi
    go_wp2_with fail
    have q := HO.out
    have e : (Value.slice (some ⟨w1.heap.size, 0, none⟩) m m) = .slice (some ⟨w1.heap.size, 0, none⟩) (List.replicate m (0 : Int)).length m := by rw [List.length_replicate]
    rw [e] at q
    obtain ⟨p1, p2⟩ := q.set (x := (zs.length : Int)) (wf_u8_of (by omega) (by omega)) 0
    rw [← e, HMm.out, packJ_zero, ← HMm.out] at p1
    have HO2 := Lib.hid p1
    have HB2 := Lib.hid (HB.out.grown p2 HB.out.size (fun k hk => by injection hk with hk; omega))
    clear q e p1 p2 HO HB c1 f1
    go_loopw [4] (fun i wr => ∃ j : Nat, i = .int .i64 j ∧ j ≤ zs.length ∧ Own 5 .u8 w1.heap.size wr (.slice (some ⟨w1.heap.size, 0, none⟩) m m) (packJ zs j) ∧ Below w1.heap.size w1 wr) (fun i _ => zs.length - (intOf i).toNat)
    case atStart => exact ⟨0, rfl, Nat.zero_le _, HO2.out, HB2.out⟩
    case round =>
      obtain ⟨j, rfl, hj, hO, hB⟩ := hrel
      have HO := Lib.hid hO
      have HB := Lib.hid hB
      clear hO hB HO2 HB2
      by_cases hlt : j < zs.length
      · have e1 : decide ((j : Int) < (zs.length : Int)) = true := by simp; omega
        obtain ⟨b, o, rfl, hbl, hcell⟩ := Hc.out (by omega)
        have c1 := hcell wr (HB.out.mono hlim) j hlt
        have hz := HB01.out j hlt
        obtain ⟨d, hd⟩ : ∃ d, d = 1 + j / 8 := ⟨_, rfl⟩
        have hdm : d < m := by have := HMm.out; omega
        have c2 := HO.out.cellAt (by rw [packJ_len, ← HMm.out]) hdm
        have f2 := HO.out.free (by rw [packJ_len, ← HMm.out]) d
        rw [hd, packJ_get _ _ _ (by omega), ← hd] at c2
        have hM := bnat_take_lt (zs := zs) (j := j) (fun i hi => HB01.out i (by omega))
        obtain ⟨A, q, g1, g2, g3, g4⟩ := u8_add hM hz (k := j / 8) rfl
        rw [← bnat_take hlt] at g4
        rw [g1] at c2
        have HS4 := Lib.hid (packJ_step hlt HB01.out)
        have Hd := Lib.hid hd
        obtain ⟨z, hz'⟩ : ∃ z, z = zs.getD j 0 := ⟨_, rfl⟩
        rw [← hz'] at c1 hz g2
        have G4 := Lib.hid g4
        have G2 := Lib.hid g2
        obtain ⟨k, hk⟩ : ∃ k, k = j / 8 := ⟨_, rfl⟩
        obtain ⟨r, hr⟩ : ∃ r, r = j % 8 := ⟨_, rfl⟩
        have i9 := ix_wrap0 (k := k) (by omega)
        have i10 : IntKind.i64.wrap (z * 2 ^ r) = (q : Int) := by
          have e := g2
          rw [← hr] at e
          rw [e]
          exact ix_wrap0 (by omega)
        have i11 : IntKind.u8.wrap (q : Int) = (q : Int) := by rw [wrapU8']; omega
        have i12 := ix_wrap0 (k := d) (by omega)
        have i5 := ix_wrap (d := d) (k := k) (by omega) (by omega)
        have i6 := ix_add (d := d) (k := k) (by omega)
        have i1 := ix_tdiv hk
        have i2 := ix_div hk
        have i3 := ix_tmod hr
        have i4 := ix_mod hr
        have i7 : (0 : Int) ≤ (d : Int) := Int.natCast_nonneg _
        have i8 : (d : Int) < (m : Int) := Int.ofNat_lt.2 hdm
        clear hcell hz' hd hM g1 g2 g4 hk hr
        go_wp2_with fail
        go_still_tail 20, (by kernel_rfl)
        change wpList _ _ _ _ _ wr.drew
        clear i1 i2 i3 i4 i5 i6 i7 i8 i9 i10 i11 i12
        rw [G4.out]
        have HO3 := Lib.hid HO.out.drew
        have HB3 := Lib.hid HB.out.drew
        have f3 : wr.drew.frozen? ⟨w1.heap.size, d, none⟩ = false := f2
        have c3 : wr.drew.cell? ⟨w1.heap.size, d, none⟩ = some (.int .u8 (A : Int)) := c2
        clear c1 c2 f2 HO HB
        generalize wr.drew = w3 at *
        have hby := byt_u8 (bnat (zs.take (j + 1))) (j / 8)
        have hb1 := HO3.out
        have e : (Value.slice (some ⟨w1.heap.size, 0, none⟩) m m) = .slice (some ⟨w1.heap.size, 0, none⟩) (packJ zs j).length m := by rw [packJ_len, ← HMm.out]
        rw [e] at hb1
        obtain ⟨p1, p2⟩ := hb1.set (x := byt (bnat (zs.take (j + 1))) (j / 8)) (wf_u8_of hby.1 hby.2) d
        rw [← e, Hd.out, HS4.out, ← Hd.out] at p1
        have P1 := Lib.hid p1
        have P2 := Lib.hid (HB3.out.grown p2 HB3.out.size (fun k hk => by injection hk with hk; omega))
        obtain ⟨x, hx⟩ : ∃ x, x = byt (bnat (zs.take (j + 1))) (j / 8) := ⟨_, rfl⟩
        rw [← hx] at P1 P2 ⊢
        clear e p1 p2 hb1 hx hby
        go_wp2
        go_roundw
        case rel => exact ⟨j + 1, by simp, hlt, P1.out, P2.out⟩
        case measure => simp [intOf]; omega
      · have e1 : decide ((j : Int) < (zs.length : Int)) = false := by simp; omega
        have ej : j = zs.length := by omega
        have HR : Hid (packV zs = packJ zs j) := Lib.hid (by rw [HE.out, ej])
        clear ej
        go_wp2
        go_ret
        exact ⟨_, rfl, by rw [HR.out]; exact HO.out, HB.out⟩
  · have HS : Hid (isel zs (zs.length : Int) = false) := Lib.hid (by simpa using hs)
    have HE : Hid (packV zs = []) := Lib.hid (by unfold packV; rw [if_neg hs])
    clear hs
    go_enter Try.func39, Try.ntmps39
    go_wp2_with fail
    refine (spec_is H.out Hlw.out).mono ?_
    rw [HS.out]
    rintro e w1 ⟨rfl, hw1⟩
    subst hw1
    go_wp2_with fail
    go_ret
    exact ⟨_, rfl, by rw [HE.out]; exact Own.lit _ _ (Nat.le_refl _), (Below.refl _ _).alloc (Nat.le_refl _) _⟩

end Go.Proofs.Ytabnigjaiheepaa
