/- The stream cipher of the document: what each function gives. No conditions but a length that a machine holds. -/
import Derived.Test.YtjbkhbbchacooaaGreatDoorBcC
import Derived.Test.YtjbkhbbchacooaaGreatDoorBa2
import Derived.Deep.RegionHeld3
namespace Go.Proofs.YtjbkhbbchacooaaGreatDoor
open Go Go.RowKit
set_option maxRecDepth 20000
set_option linter.unusedVariables false

/-- The bytes up to j, a stream's bytes added. -/
def addsTo (f : Nat → Int) (zs : List Int) (j : Nat) : List Int := (List.range j).map fun i => (zs.getD i 0 + f i) % 256
theorem i64w {x : Int} (h0 : -9223372036854775808 ≤ x) (h1 : x ≤ 9223372036854775807) : IntKind.i64.wrap x = x := by rw [IntKind.wrap_i64]; omega
theorem addsTo_full (f : Nat → Int) (zs : List Int) : addsTo f zs zs.length = adds f zs := rfl
theorem addsTo_succ (f : Nat → Int) (zs : List Int) (j : Nat) : addsTo f zs (j + 1) = addsTo f zs j ++ [(zs.getD j 0 + f j) % 256] := by
  unfold addsTo; rw [List.range_succ, List.map_append]; rfl
theorem addsTo_len (f : Nat → Int) (zs : List Int) (j : Nat) : (addsTo f zs j).length = j := by simp [addsTo]

set_option maxRecDepth 20000 in
set_option maxHeartbeats 1000000 in
/-- spec.Decrypt. -/
theorem spec_de {lim : Nat} {w : World} {v : Value} {zs : List Int} {k : Int} (h : Rd lim .u8 w v zs) (hlim : lim ≤ w.heap.size) (hk : (Lit.int .i64 k).wf = true) (hn : zs.length ≤ 1099511627776) :
    Calls Tryz.prog 69 #[.int .i64 k, v] w fun e w' => ∃ v', e = .returned v' ∧ Own 5 .u8 w.heap.size w' v' (dez k zs) ∧ Below w.heap.size w w' := by
  obtain ⟨i0, hi, hz0, hz1, hz2⟩ := info_parts infou8
  obtain ⟨p, cap, rfl, h1, h2, hc⟩ := h.open
  have Hhi := Lib.hid hi
  have Hc := Lib.hid hc
  have H := Lib.hid h
  have HK := Lib.hid hk
  have hl := h.len
  have HB := Lib.hid ((Below.refl w.heap.size w).alloc (Nat.le_refl _) (.cells #[] 5))
  have HO : Hid (Own 5 .u8 w.heap.size (w.alloc (.cells #[] 5)) (.slice (some ⟨w.heap.size, 0, none⟩) 0 0) (addsTo (nks k) zs 0)) := Lib.hid (Own.lit _ _ (Nat.le_refl _))
  unfold maxLen at h2 hl
  clear h hc hi hk
  go_enter Tryz.func69, Tryz.ntmps69
  go_wp2_with fail
  go_loopw [5, 6] (fun s i wr => ∃ j : Nat, i = .int .i64 j ∧ j ≤ zs.length ∧ Own 5 .u8 w.heap.size wr s (addsTo (nks k) zs j) ∧ Below w.heap.size w wr) (fun _ i _ => zs.length - (intOf i).toNat)
  case atStart => exact ⟨0, rfl, Nat.zero_le _, HO.out, HB.out⟩
  case round =>
    obtain ⟨j, rfl, hj, hO, hB⟩ := hrel
    have HO' := Lib.hid hO
    have HB' := Lib.hid hB
    clear hO hB HO HB
    by_cases hlt : j < zs.length
    · have e1 : decide ((j : Int) < (zs.length : Int)) = true := by simp; omega
      have hlt' : (j : Int) < (zs.length : Int) := by omega
      obtain ⟨b, o, rfl, hb, hcell⟩ := Hc.out (by omega)
      have c1 := hcell _ (HB'.out.mono hlim) j hlt
      have hw := wf_u8 (H.out.wf hlt)
      have hq := kh_bound k [(j : Int)]
      obtain ⟨z, hz⟩ : ∃ z, z = zs.getD j 0 := ⟨_, rfl⟩
      obtain ⟨q, hq'⟩ : ∃ q, q = kh k [(j : Int)] := ⟨_, rfl⟩
      have HC : Hid (∀ w', Below lim w w' → w'.cell? ⟨b, o + j, none⟩ = some (.int .u8 z)) := Lib.hid (by rw [hz]; exact fun w' hb' => hcell w' hb' j hlt)
      rw [← hz] at c1 hw
      rw [← hq'] at hq
      have HQ := Lib.hid hq'
      have HT : Hid (addsTo (nks k) zs j ++ [(z - q % 256) % 256] = addsTo (nks k) zs (j + 1)) := Lib.hid (by
        rw [addsTo_succ, hz, hq']
        have e : (zs.getD j 0 + nks k j) % 256 = (zs.getD j 0 - kh k [(j : Int)] % 256) % 256 := by unfold nks ks; omega
        rw [e])
      have HM : Hid (IntKind.i64.wrap (IntKind.i64.wrap z - q.tmod 256) = z - q % 256) := Lib.hid (by
        rw [Int.tmod_eq_emod_of_nonneg hq.1, i64w (x := z) (by omega) (by omega), i64w (by omega) (by omega)])
      obtain ⟨m, hm⟩ : ∃ m, m = (z - q % 256) % 256 := ⟨_, rfl⟩
      have hmb : 0 ≤ m ∧ m ≤ 255 := by omega
      have HV : Hid (modV (z - q % 256) 256 = m) := Lib.hid (by unfold modV; rw [if_pos (by omega), hm])
      have HE : Hid (IntKind.u8.wrap m = m) := Lib.hid (by rw [wrapU8]; omega)
      rw [← hm] at HT
      clear hm
      have R1 := Lib.hid ((Rd.one 3 .i64 wr (j : Int) (wf_i64_of (by omega) (by omega))).drew)
      have O1 := Lib.hid ((HO'.out.alloc (.cells #[.int .i64 (j : Int)] 3)).drew)
      have B1 := Lib.hid ((HB'.out.alloc HO'.out.2.1 (.cells #[.int .i64 (j : Int)] 3)).drew)
      have HL := Lib.hid (addsTo_len (nks k) zs j)
      clear hcell hz hq'
      go_wp2_with fail
      go_region_held3 (fun w' => w'.cell? ⟨b, o + j, none⟩ = some (.int .u8 z)) (first | assumption | go_keep) ((first
        | (go_at_call 91
           go_loud (refine (spec_kh R1.out (by simp) HK.out (by simp)).mono ?_
                    rintro e' w4 ⟨he, hb4⟩
                    rw [← HQ.out] at he
                    subst he
                    have c4 := HC.out _ ((B1.out.trans (hb4.mono B1.out.size)).mono hlim)
                    have O3 := Lib.hid (O1.out.next hb4)
                    have B3 := Lib.hid (B1.out.trans (hb4.mono B1.out.size))
                    clear hb4))
        | (go_at_call 92
           go_loud (rw [HM.out]
                    refine (spec_mod (z - q % 256) 256 _ (by omega) (by omega)).mono ?_
                    rintro e' w5 ⟨he, hw5⟩
                    rw [HV.out] at he
                    subst he
                    subst hw5
                    have O4 := Lib.hid (O3.out.alloc (.cells #[.int .u8 (IntKind.u8.wrap m)] 5))
                    have B4 := Lib.hid (B3.out.alloc O3.out.2.1 (.cells #[.int .u8 (IntKind.u8.wrap m)] 5))
                    have R4 := Lib.hid (Rd.one 5 .u8 w5 (IntKind.u8.wrap m) (by rw [HE.out]; exact wf_u8_of hmb.1 hmb.2))))
        | (go_loud (refine step_append_rd _ (by rfl) _ _ 22 (by rfl) 5 i0 (.int .u8 0) 1 Tryz.underlying22 Hhi.out hz0 hz1 hz2 rfl (by omega) (by rfl) O4.out (by rfl) R4.out (by have := HL.out; simp only [List.length_singleton]; omega) ?_
                    intro v5 w5 h5 h6
                    rw [HE.out, HT.out] at h5
                    have H5 := Lib.hid h5
                    have B5 := Lib.hid (B4.out.trans (O4.out.below (Nat.le_refl _) h6))
                    have c5 := HC.out _ (B5.out.mono hlim)
                    clear h5 h6))))
      go_wp2_with fail
      go_roundw
      case rel => exact ⟨j + 1, by simp, hlt, H5.out, B5.out⟩
      case measure => simp [intOf]; omega
    · have e1 : decide ((j : Int) < (zs.length : Int)) = false := by simp; omega
      have ej : j = zs.length := by omega
      have HE : Hid (addsTo (nks k) zs j = dez k zs) := Lib.hid (by rw [ej]; rfl)
      clear ej
      go_wp2
      go_ret
      exact ⟨_, rfl, by rw [← HE.out]; exact HO'.out, HB'.out⟩

end Go.Proofs.YtjbkhbbchacooaaGreatDoor
