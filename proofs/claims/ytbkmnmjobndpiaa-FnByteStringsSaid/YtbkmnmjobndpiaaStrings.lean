/- FnByteStrings: the walk. No conditions. -/
import Derived.Test.YtbkmnmjobndpiaaVarints
import Derived.Test.YtbkmnmjobndpiaaSameInt
namespace Go.Proofs.Ytbkmnmjobndpiaa
open Go Go.RowKit
set_option linter.unusedVariables false

theorem rb_back (bs ds : List Int) (hd : ds.length ≤ 1000000) : rb (bs ++ (uvz (ds.length : Int) ++ ds)) (bs.length : Int) (ds.length : Int) = some (ds, bs.length + (uvz (ds.length : Int)).length + ds.length) ∧
    rb (bs ++ (uvz (ds.length : Int) ++ ds)) (bs.length : Int) ((ds.length : Int) - 1) = none := by
  have h := rdv_uvz (bs ++ (uvz (ds.length : Int) ++ ds)) ds bs.length (ds.length : Int) (by omega) (by omega) (by simp)
  rw [Int.toNat_natCast] at h
  have hl : (bs ++ (uvz (ds.length : Int) ++ ds)).length = bs.length + (uvz (ds.length : Int)).length + ds.length := by simp [Nat.add_assoc]
  have hd2 : (bs ++ (uvz (ds.length : Int) ++ ds)).drop (bs.length + (uvz (ds.length : Int)).length) = ds := by
    rw [← List.append_assoc, ← List.length_append]
    exact List.drop_left
  constructor
  · unfold rb
    rw [h]
    simp only [hl, hd2]
    rw [if_pos (by omega), List.take_length]
  · unfold rb
    rw [h]
    simp only [hl, hd2]
    rw [if_neg (by omega)]

theorem diGo_enc (zs : List Int) : ∀ (ls : List Int) (p : Nat) (acc : List Int), (∀ z ∈ ls, 0 ≤ z ∧ z ≤ 1000000000000) → zs.drop p = enc ls → p ≤ zs.length →
    diGo zs ls.length (p : Int) acc = some (acc ++ ls, (zs.length : Int)) ∧ diGo zs (ls.length + 1) (p : Int) acc = none
  | [], p, acc, h, hd, hp => by
    have hpl : p = zs.length := by
      have := congrArg List.length hd
      simp [enc] at this
      omega
    subst hpl
    refine ⟨by simp [diGo], ?_⟩
    show diGo zs (0 + 1) _ _ = none
    rw [diGo_none (rdv_end zs)]
  | z :: ls, p, acc, h, hd, hp => by
    have hz := h z (List.mem_cons_self ..)
    have he : enc (z :: ls) = uvz z ++ enc ls := by simp [enc]
    rw [he] at hd
    have hr := rdv_uvz zs (enc ls) p z hz.1 hz.2 hd
    have hb := rdv_bound hr
    have hd2 : zs.drop (p + (uvz z).length) = enc ls := by
      rw [← List.drop_drop, hd]
      exact List.drop_left
    obtain ⟨h1, h2⟩ := diGo_enc zs ls (p + (uvz z).length) (acc ++ [z]) (fun y hy => h y (List.mem_cons_of_mem _ hy)) hd2 hb.2.2.2
    have e : ((z.toNat : Nat) : Int) = z := by omega
    rw [List.length_cons]
    constructor
    · rw [diGo_some hr, e, h1]; simp
    · rw [diGo_some hr, e, h2]

theorem di_back (ls : List Int) (h : ∀ z ∈ ls, 0 ≤ z ∧ z ≤ 1000000000000) (hl : ls.length ≤ 50) :
    di (enc ls) 0 (ls.length : Int) = some (ls, ((enc ls).length : Int)) ∧ di (enc ls) 0 ((ls.length : Int) + 1) = none := by
  obtain ⟨h1, h2⟩ := diGo_enc (enc ls) ls 0 [] h rfl (Nat.zero_le _)
  constructor
  · unfold di
    rw [if_pos (by omega), Int.toNat_natCast]
    simpa using h1
  · unfold di
    rw [if_pos (by omega), show ((ls.length : Int) + 1).toNat = ls.length + 1 by omega]
    exact h2

/-- laws.at. -/
def atv (s : List Int) (i : Nat) : Int := if i < s.length then s.getD i 0 else ((i * 31 + s.length * 7 : Nat) : Int) % 256
theorem at_any {lim : Nat} {w : World} {v : Value} {s : List Int} (h : Rd lim .u8 w v s) (i : Nat) (hi : i ≤ 1000) (hs : s.length ≤ 1048576) :
    Calls Try.prog 22 #[v, .int .i64 i] w fun e w' => (e = .returned (.int .i64 (atv s i)) ∧ 0 ≤ atv s i ∧ atv s i ≤ 255) ∧ w' = w := by
  have hwf : Hid (∀ i, i < s.length → (Lit.int .u8 (s.getD i 0)).wf = true) := Lib.hid fun i hi => h.wf hi
  obtain ⟨a, cap, rfl, h1, h2, hc⟩ := h.open
  by_cases hlt : i < s.length
  · have e1 : decide ((i : Int) < (s.length : Int)) = true := by simp; omega
    obtain ⟨b, o, rfl, hb, hcell⟩ := hc (by omega)
    have c1 := hcell w (Below.refl _ _) i hlt
    have hw := wf_u8 (hwf.out i hlt)
    have ha : atv s i = s.getD i 0 := by unfold atv; rw [if_pos hlt]
    rw [ha]
    obtain ⟨z, hz⟩ : ∃ z, z = s.getD i 0 := ⟨_, rfl⟩
    rw [← hz] at c1 hw ⊢
    have hlt' : (i : Int) < (s.length : Int) := by omega
    clear h hc hcell ha hz h2 hwf
    go_enter Try.func22, Try.ntmps22
    go_wp2
    go_ret
    exact ⟨⟨rfl, hw⟩, rfl⟩
  · have e1 : decide ((i : Int) < (s.length : Int)) = false := by simp; omega
    have ha : atv s i = ((i : Int) * 31 + (s.length : Int) * 7) % 256 := by unfold atv; rw [if_neg hlt]; simp
    have hb : 0 ≤ ((i : Int) * 31 + (s.length : Int) * 7) % 256 ∧ ((i : Int) * 31 + (s.length : Int) * 7) % 256 ≤ 255 := by omega
    rw [ha]
    have h9 : 0 ≤ (i : Int) * 31 + (s.length : Int) * 7 := by omega
    have HB := Lib.hid hb
    clear h hc ha h2 hwf hb
    go_enter Try.func22, Try.ntmps22
    go_wp2
    go_ret
    exact ⟨⟨rfl, HB.out⟩, rfl⟩

set_option maxHeartbeats 4000000 in
set_option maxRecDepth 20000 in
theorem strings_walk (a : Option Addr) (len cap : Nat) (zs : List Int) (w : World) (hrow : IsRow .u8 w a len cap zs) :
    Calls Try.prog 4 #[.slice a len cap] w fun e w' => e = .returned (.bool true) ∧ Below w.heap.size w w' := by
  obtain ⟨hr, hl⟩ := row_own hrow
  obtain ⟨s, A, l⟩ : ∃ s, Rd w.heap.size .u8 w (.slice a len cap) s ∧ len = s.length := ⟨zs.take len, hrow.rd, hrow.rd.len_eq⟩
  subst l
  have HR := Lib.hid hr
  have HL := Lib.hid hl
  have hl' : s.length ≤ 9223372036854775807 := by unfold maxLen at hl; omega
  replace A := Lib.hid A
  clear hr hrow hl
  by_cases hbig : 1048576 < s.length
  · have e0 : decide ((1048576 : Int) < (s.length : Int)) = true := by simp; omega
    go_enter Try.func4, Try.ntmps4
    go_wp2_with fail
    refine (big_is a s.length cap _ hl').mono ?_
    rw [e0]
    rintro e w0 ⟨rfl, rfl⟩
    go_wp2_with fail
    go_ret
    exact ⟨rfl, Below.refl _ _⟩
  · have e0 : decide ((1048576 : Int) < (s.length : Int)) = false := by simp; omega
    have hs : s.length ≤ 1048576 := by omega
    go_enter Try.func4, Try.ntmps4
    go_wp2_with fail
    refine (big_is a s.length cap _ hl').mono ?_
    rw [e0]
    rintro e w0 ⟨rfl, rfl⟩
    go_wp2_with fail
    refine (draw_ab a s.length cap zs _ HR.out HL.out).mono ?_
    rintro e w1 ⟨v, u, bs, ds, rfl, hO, hU, hbs, hds, hb⟩
    have HO := Lib.hid hO
    have HU := Lib.hid hU
    have HB := Lib.hid hb
    replace A := Lib.hid (A.out.behind hb)
    have hux := uvz_len (ds.length : Int)
    clear hO hU hb HR
    obtain ⟨av, cv, rfl, _⟩ := HO.out.open
    obtain ⟨au, cu, rfl, _⟩ := HU.out.open
    go_wp2_with fail
    refine (impl_ab HO.out.rd HU.out.rd (Nat.le_refl _) (Nat.le_refl _) (by omega)).mono ?_
    rintro e w2 ⟨x, rfl, hX, hb⟩
    obtain ⟨X, hXe⟩ : ∃ X, X = bs ++ (uvz (ds.length : Int) ++ ds) := ⟨_, rfl⟩
    rw [← hXe] at hX
    have hxl : X.length ≤ 20 := by rw [hXe, List.length_append, List.length_append]; omega
    have hXL : X.length = bs.length + (uvz (ds.length : Int)).length + ds.length := by rw [hXe, List.length_append, List.length_append, Nat.add_assoc]
    obtain ⟨k1, k2⟩ := rb_back bs ds (by omega)
    rw [← hXe, ← hXL] at k1
    rw [← hXe] at k2
    have K1 := Lib.hid k1
    have K2 := Lib.hid k2
    have HX := Lib.hid hX
    replace HO := Lib.hid (HO.out.next hb)
    replace HU := Lib.hid (HU.out.next hb)
    replace A := Lib.hid (A.out.behind (hb.mono HB.out.size))
    replace HB := Lib.hid (HB.out.trans (hb.mono HB.out.size))
    clear hX hb hXe hXL k1 k2
    obtain ⟨ax, cx, rfl, _⟩ := HX.out.open
    go_wp2_with fail
    refine (impl_rb HX.out.rd (Nat.le_refl _) (wf_i64_of (by omega) (by omega)) (wf_i64_of (by omega) (by omega)) (by omega)).mono ?_
    rw [K1.out]
    rintro e w3 ⟨y, rfl, hY, hb⟩
    have r1 : rbE (some (ds, X.length)) = (X.length : Int) := rfl
    have r2 : rbB (some (ds, X.length)) = true := rfl
    rw [r1, r2]
    have HY : Hid (Own 5 .u8 w2.heap.size w3 y ds) := Lib.hid hY
    replace HO := Lib.hid (HO.out.next hb)
    replace HU := Lib.hid (HU.out.next hb)
    replace HX := Lib.hid (HX.out.next hb)
    replace A := Lib.hid (A.out.behind (hb.mono HB.out.size))
    replace HB := Lib.hid (HB.out.trans (hb.mono HB.out.size))
    clear hY hb r1 r2
    go_wp2_with fail
    refine (impl_rb HX.out.rd (Nat.le_refl _) (wf_i64_of (by omega) (by omega)) (wf_i64_of (by omega) (by omega)) (by omega)).mono ?_
    rw [K2.out]
    rintro e w4 ⟨y2, rfl, hY2, hb⟩
    have r1 : rbE (none : Option (List Int × Nat)) = 0 := rfl
    have r2 : rbB (none : Option (List Int × Nat)) = false := rfl
    rw [r1, r2]
    replace HY := Lib.hid (HY.out.next hb)
    replace HU := Lib.hid (HU.out.next hb)
    replace A := Lib.hid (A.out.behind (hb.mono HB.out.size))
    replace HB := Lib.hid (HB.out.trans (hb.mono HB.out.size))
    clear hY2 hb r1 r2 HO HX
    go_wp2_with fail
    refine (sameBytes_same HY.out.rd HU.out.rd (Nat.le_refl _) (Nat.le_refl _)).mono ?_
    rintro e w5 ⟨rfl, hb⟩
    replace A := Lib.hid (A.out.behind (hb.mono HB.out.size))
    replace HB := Lib.hid (HB.out.trans (hb.mono HB.out.size))
    clear hb HY HU
    obtain ⟨i0, hi, hz0, hz1, hz2⟩ := info_parts infoi64
    have Hhi := Lib.hid hi
    clear hi
    go_wp2_with fail
    go_loopw [12, 13] (fun t i wr => ∃ (j : Nat) (ls : List Int), i = .int .i64 j ∧ j ≤ 5 ∧ ls.length = j ∧ (∀ z ∈ ls, 0 ≤ z ∧ z ≤ 1000000000000) ∧ Own 3 .i64 w0.heap.size wr t ls ∧ Below w0.heap.size w0 wr ∧ Rd w0.heap.size .u8 wr (.slice a s.length cap) s) (fun _ i _ => 6 - (intOf i).toNat)
    case atStart => exact ⟨0, [], rfl, by omega, rfl, by simp, Own.lit _ _ HB.out.size, HB.out.alloc HB.out.size _, A.out.behind ((Below.refl _ _).alloc HB.out.size _)⟩
    case round =>
      obtain ⟨j, ls, rfl, hj, hlen, hall, hO, hB, hA⟩ := hrel
      have HO := Lib.hid hO
      have HB' := Lib.hid hB
      have HA := Lib.hid hA
      have HLN := Lib.hid hlen
      have HAL := Lib.hid hall
      have hll : ls.length ≤ 5 := by omega
      clear hO hB hA hlen hall HB A
      go_wp2_with fail
      refine (at_any HA.out 0 (by omega) hs).mono ?_
      rintro e w6 ⟨⟨rfl, q0, q1⟩, hw6⟩
      subst hw6
      obtain ⟨t0, ht0⟩ : ∃ t : Int, t = atv s 0 := ⟨_, rfl⟩
      rw [← ht0] at q0 q1 ⊢
      clear ht0
      by_cases hlt : (j : Int) < t0 % 6
      · have e1 : decide ((j : Int) < t0 % 6) = true := by simp [hlt]
        have hj4 : (j : Int) ≤ 4 := by omega
        go_wp2_with fail
        refine (at_any HA.out (j + 1) (by omega) hs).mono ?_
        rintro e w7 ⟨⟨rfl, p0, p1⟩, hw7⟩
        subst hw7
        obtain ⟨t1, ht1⟩ : ∃ t : Int, t = atv s (j + 1) := ⟨_, rfl⟩
        rw [← ht1] at p0 p1 ⊢
        clear ht1
        go_wp2_with fail
        refine (at_any HA.out (j + 2) (by omega) hs).mono ?_
        rintro e w8 ⟨⟨rfl, p2, p3⟩, hw8⟩
        subst hw8
        obtain ⟨t2, ht2⟩ : ∃ t : Int, t = atv s (j + 2) := ⟨_, rfl⟩
        rw [← ht2] at p2 p3 ⊢
        clear ht2
        have p4 : 0 ≤ t1 * t2 := Int.mul_nonneg p0 p2
        have p5 : t1 * t2 ≤ 65025 := Int.le_trans (Int.mul_le_mul p1 p3 p2 (by omega)) (by omega)
        go_wp2_with fail
        refine (at_any HA.out (j + 3) (by omega) hs).mono ?_
        rintro e w9 ⟨⟨rfl, p6, p7⟩, hw9⟩
        subst hw9
        obtain ⟨t3, ht3⟩ : ∃ t : Int, t = atv s (j + 3) := ⟨_, rfl⟩
        rw [← ht3] at p6 p7 ⊢
        clear ht3
        have p8 : 0 ≤ t1 * t2 * t3 := Int.mul_nonneg p4 p6
        have p9 : t1 * t2 * t3 ≤ 16581375 := Int.le_trans (Int.mul_le_mul p5 p7 p6 (by omega)) (by omega)
        go_wp2_with (first | (at_builtin; go_loud (refine append_rd _ rfl _ _ 35 rfl 3 i0 (.int .i64 0) 8 Try.underlying35 Hhi.out hz0 hz1 hz2 rfl (by omega) rfl (HO.out.alloc _) rfl (Rd.one _ _ _ _ (wf_i64_of (by omega) (by omega))) (by simp; omega) ?_)))
        intro v3 w10 h3 h4
        have H3 := Lib.hid h3
        have H4 := Lib.hid (HB'.out.trans ((((Below.refl w0.heap.size w9).alloc HB'.out.size _).trans ((HO.out.alloc _).below (Nat.le_refl _) h4))))
        have HA2 := Lib.hid (HA.out.behind ((((Below.refl w0.heap.size w9).alloc HB'.out.size _).trans ((HO.out.alloc _).below (Nat.le_refl _) h4))))
        have P := Lib.hid (And.intro p8 p9)
        clear h3 h4
        go_wp2_with fail
        go_roundw
        case rel =>
          refine ⟨j + 1, ls ++ [t1 * t2 * t3], by simp, by omega, by simp [HLN.out], ?_, H3.out, H4.out, HA2.out⟩
          intro z hz
          rcases List.mem_append.1 hz with h | h
          · exact HAL.out z h
          · have := P.out
            simp at h
            subst h
            omega
        case measure => simp [intOf]; omega
      · have e1 : decide ((j : Int) < t0 % 6) = false := by simp; omega
        obtain ⟨at_, ct, hv, _⟩ := HO.out.open
        subst hv
        have hel := enc_len ls
        obtain ⟨k1, k2⟩ := di_back ls HAL.out (by omega)
        have K3 := Lib.hid k1
        have K4 := Lib.hid k2
        clear k1 k2
        go_wp2_with fail
        refine (impl_ei HO.out.rd (Nat.le_refl _) (by omega)).mono ?_
        rintro e w7 ⟨z, rfl, hZ, hb⟩
        obtain ⟨E, hE⟩ : ∃ E, E = enc ls := ⟨_, rfl⟩
        have hEl : E.length ≤ 100 := by rw [hE]; omega
        rw [← hE] at hZ
        have K3' : Hid (di E 0 (ls.length : Int) = some (ls, (E.length : Int))) := Lib.hid (by rw [hE]; exact K3.out)
        have K4' : Hid (di E 0 ((ls.length : Int) + 1) = none) := Lib.hid (by rw [hE]; exact K4.out)
        have HZ := Lib.hid hZ
        replace HO := Lib.hid (HO.out.next hb)
        replace HB' := Lib.hid (HB'.out.trans (hb.mono HB'.out.size))
        clear hZ hb hE K3 K4
        obtain ⟨az, cz, hv, _⟩ := HZ.out.open
        subst hv
        go_wp2_with fail
        refine (impl_di HZ.out.rd (Nat.le_refl _) (wf_i64_of (by omega) (by omega)) (wf_i64_of (by omega) (by omega))).mono ?_
        rw [K3'.out]
        rintro e w8 ⟨m, rfl, hM, hb⟩
        have r1 : diE (some (ls, (E.length : Int))) = (E.length : Int) := rfl
        have r2 : diB (some (ls, (E.length : Int))) = true := rfl
        rw [r1, r2]
        have HM : Hid (Own 3 .i64 w7.heap.size w8 m ls) := Lib.hid hM
        replace HO := Lib.hid (HO.out.next hb)
        replace HZ := Lib.hid (HZ.out.next hb)
        replace HB' := Lib.hid (HB'.out.trans (hb.mono HB'.out.size))
        clear hM hb r1 r2
        go_wp2_with fail
        refine (impl_di HZ.out.rd (Nat.le_refl _) (wf_i64_of (by omega) (by omega)) (wf_i64_of (by omega) (by omega))).mono ?_
        rw [K4'.out]
        rintro e w9 ⟨m2, rfl, hM2, hb⟩
        have r1 : diE (none : Option (List Int × Int)) = 0 := rfl
        have r2 : diB (none : Option (List Int × Int)) = false := rfl
        rw [r1, r2]
        replace HO := Lib.hid (HO.out.next hb)
        replace HM := Lib.hid (HM.out.next hb)
        replace HB' := Lib.hid (HB'.out.trans (hb.mono HB'.out.size))
        clear hM2 hb r1 r2 HZ
        go_wp2_with fail
        refine (sameInts_same HM.out.rd HO.out.rd (Nat.le_refl _) (Nat.le_refl _)).mono ?_
        rintro e w10 ⟨rfl, hb⟩
        replace HB' := Lib.hid (HB'.out.trans (hb.mono HB'.out.size))
        clear hb HM HO
        go_wp2_with fail
        go_ret
        exact ⟨rfl, HB'.out⟩

end Go.Proofs.Ytbkmnmjobndpiaa
