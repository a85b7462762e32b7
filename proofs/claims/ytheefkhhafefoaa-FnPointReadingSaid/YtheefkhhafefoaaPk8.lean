/- MakePointKeys, the document's. No conditions but numbers that a machine holds. -/
import Derived.Test.YtheefkhhafefoaaPk4
namespace Go.Proofs.Ytheefkhhafefoaa
open Go Go.RowKit
set_option linter.unusedVariables false
attribute [local irreducible] kh

/-- Corrections in their cells. -/
def corE : Enc Cor where
  sz := 3
  en c := [.int .i64 c.1, .int .i64 c.2.1, .int .i64 c.2.2]
  ok := cok
  pos := by decide
  len _ := rfl
  one c u hu := by simp at hu; rcases hu with rfl | rfl | rfl <;> rfl
theorem cor_flat : FlatAs tyCorrection corE := by
  refine ⟨rfl, fun l w cs x => ⟨fun h => ?_, fun h => ?_⟩, fun F w cs x => ⟨fun h => ?_, fun h => ?_⟩⟩
  · obtain ⟨rfl, h1, h2, h3⟩ := rd_Correction h
    exact ⟨rfl, h1, h2, h3⟩
  · obtain ⟨rfl, h1, h2, h3⟩ := h
    exact rd_mkCorrection h1 h2 h3
  · obtain ⟨rfl, h1, h2, h3⟩ := own_Correction h
    exact ⟨rfl, h1, h2, h3⟩
  · obtain ⟨rfl, h1, h2, h3⟩ := h
    exact own_mkCorrection h1 h2 h3

theorem pk_no {d p ra rb : Int} (h : pkOk d p ra rb = false) : pcs d p ra rb = [] ∧ ∀ r, prt d p ra rb r = 0 := by
  unfold pcs prt; rw [h]; exact ⟨rfl, fun _ => rfl⟩
theorem pk_yes {D I : Nat} {ra rb : Int} (h : pkOk (D : Int) (I : Int) ra rb = true) : pcs (D : Int) (I : Int) ra rb = mkc D I (ra, 0) (rb, 1) ∧ ∀ r, prt (D : Int) (I : Int) ra rb r = r := by
  unfold pcs prt; rw [h]; exact ⟨rfl, fun _ => rfl⟩
theorem bt01 (i L : Nat) : bt i L = 0 ∨ bt i L = 1 := by unfold bt; omega
theorem mkc_succ (d p : Nat) (a b : Int × Int) : mkc (d + 1) p a b = cor1 a.1 b.1 (bt p d) :: mkc d p (evN a.1 a.2 (bt p d) (cor1 a.1 b.1 (bt p d))) (evN b.1 b.2 (bt p d) (cor1 a.1 b.1 (bt p d))) := rfl
theorem lits1 {B : Nat} {w : World} {c : Cor} (hB : B ≤ w.heap.size) (hc : cok c) : OwnS corE 52 B (w.alloc (.cells #[.int .i64 c.1, .int .i64 c.2.1, .int .i64 c.2.2] 52)) (.slice (some ⟨w.heap.size, 0, none⟩) 1 1) [c] :=
  OwnS.lits corE _ hB (by intro x hx; simp at hx; subst hx; exact hc) (by simp [corE]) rfl (by unfold maxLen; omega)

/-- The correction as the document makes it. -/
theorem cor1_0 (a b : Int) : cor1 a b 0 = (bits .xor .i64 (kid a 1) (kid b 1), bits .xor .i64 (bits .xor .i64 (ctl a 0) (ctl b 0)) 1, bits .xor .i64 (ctl a 1) (ctl b 1)) := by
  unfold cor1
  rw [show xo (xo (ctl a 1) (ctl b 1)) 0 = xo (ctl a 1) (ctl b 1) from xo_zero (xo_wf _ _)]
  rfl
theorem cor1_1 (a b : Int) : cor1 a b 1 = (bits .xor .i64 (kid a 0) (kid b 0), bits .xor .i64 (ctl a 0) (ctl b 0), bits .xor .i64 (bits .xor .i64 (ctl a 1) (ctl b 1)) 1) := by
  unfold cor1
  rw [show xo (xo (ctl a 0) (ctl b 0)) (1 - 1) = xo (ctl a 0) (ctl b 0) from xo_zero (xo_wf _ _)]
  rfl

set_option maxRecDepth 100000 in
set_option maxHeartbeats 8000000 in
/-- spec.MakePointKeys -/
theorem spec_mk {w : World} {d p ra rb : Int} (hd : (Lit.int .i64 d).wf = true) (hp : (Lit.int .i64 p).wf = true) (hra : (Lit.int .i64 ra).wf = true) (hrb : (Lit.int .i64 rb).wf = true) :
    Calls Try.prog 32 #[.int .i64 d, .int .i64 p, .int .i64 ra, .int .i64 rb] w fun e w' => ∃ v1 v2, e = .returned (.tuple #[.agg #[.int .i64 (prt d p ra rb ra), .int .i64 0, v1], .agg #[.int .i64 (prt d p ra rb rb), .int .i64 (prt d p ra rb 1), v2], .bool (pkOk d p ra rb)]) ∧ OwnS corE 52 w.heap.size w' v1 (pcs d p ra rb) ∧ OwnS corE 52 w.heap.size w' v2 (pcs d p ra rb) ∧ Apart v1 v2 ∧ Below w.heap.size w w' := by
  have HD := Lib.hid hd
  have HP := Lib.hid hp
  have HRA := Lib.hid hra
  have HRB := Lib.hid hrb
  have HB := Lib.hid (((Below.refl w.heap.size w).alloc (Nat.le_refl _) (.cells #[.int .i64 0, .int .i64 0, .slice none 0 0] 27)).alloc (by simp) (.cells #[.int .i64 0, .int .i64 0, .slice none 0 0] 27))
  have K := blocks2T w (.cells #[.int .i64 0, .int .i64 0, .slice none 0 0] 27) (.cells #[.int .i64 0, .int .i64 0, .slice none 0 0] 27)
  have K1 := Lib.hid K.1
  have K2 := Lib.hid K.2
  clear hd hp hra hrb K
  by_cases h1 : 1 ≤ d ∧ d ≤ 6
  case neg =>
    have H1 : Hid (false = inR d 1 6) := Lib.hid (inR_no h1).symm
    have HE0 : Hid (pkOk d p ra rb = false) := Lib.hid (by
      rw [← Bool.not_eq_true, pkOk_iff]
      rintro ⟨D, I, rfl, rfl, h2, h3, _⟩
      omega)
    have HE1 := Lib.hid (pk_no HE0.out)
    rw [HE0.out]
    clear h1
    go_enter Try.func32, Try.ntmps32
    go_wp2_with fail
    refine (spec_in _ _ _ _ HD.out).mono ?_
    rw [← H1.out]
    rintro e w1 ⟨rfl, hw⟩
    subst hw
    go_wp2_with fail
    rw [HE1.out.1, HE1.out.2, HE1.out.2, HE1.out.2]
    exact bodyPost_ret (v := .tuple #[.agg #[.int .i64 0, .int .i64 0, .slice none 0 0], .agg #[.int .i64 0, .int .i64 0, .slice none 0 0], .bool false]) (by simp [results, Try.results32, go_sem]) rfl ⟨_, _, rfl, OwnS.nil _ _ HB.out.size, OwnS.nil _ _ HB.out.size, Apart.nil _, HB.out⟩
  have H1 : Hid (true = inR d 1 6) := Lib.hid (inR_yes h1).symm
  obtain ⟨D, rfl⟩ : ∃ D : Nat, d = (D : Int) := ⟨d.toNat, by omega⟩
  have hD1 : 1 ≤ D := by omega
  have hD6 : D ≤ 6 := by omega
  have hpw := pow_le6 hD6
  have hp1 : 1 ≤ (2 : Int) ^ D ∧ (2 : Int) ^ D ≤ 64 := by
    rw [show (2 : Int) ^ D = ((2 ^ D : Nat) : Int) by simp]
    omega
  obtain ⟨hp2, hp3⟩ := hp1
  clear h1 hpw
  obtain ⟨v2, hv2⟩ : ∃ v, v = inR p 0 (2 ^ D - 1) := ⟨_, rfl⟩
  obtain ⟨v3, hv3⟩ : ∃ v, v = inR ra 0 2147483646 := ⟨_, rfl⟩
  obtain ⟨v4, hv4⟩ : ∃ v, v = inR rb 0 2147483646 := ⟨_, rfl⟩
  have HV : Hid (pkOk (D : Int) p ra rb = (v2 && v3 && v4)) := Lib.hid (by
    unfold pkOk leafOk
    rw [show inR (D : Int) 0 6 = true from inR_yes (by omega), Int.toNat_natCast, ← hv2, ← hv3, ← hv4, show decide (1 ≤ (D : Int)) = true from decide_eq_true (by omega)]
    simp)
  have H2 := Lib.hid hv2
  have H3 := Lib.hid hv3
  have H4 := Lib.hid hv4
  clear hv2 hv3 hv4
  cases v2 with
  | false =>
    have HE0 : Hid (pkOk (D : Int) p ra rb = false) := Lib.hid (by rw [HV.out]; simp)
    have HE1 := Lib.hid (pk_no HE0.out)
    rw [HE0.out]
    go_enter Try.func32, Try.ntmps32
    go_wp2_with fail
    refine (spec_in _ _ _ _ HD.out).mono ?_
    rw [← H1.out]
    rintro e w1 ⟨rfl, hw⟩
    subst hw
    go_wp2_with fail
    refine (spec_in _ _ _ _ HP.out).mono ?_
    rw [← H2.out]
    rintro e w1 ⟨rfl, hw⟩
    subst hw
    go_wp2_with fail
    rw [HE1.out.1, HE1.out.2, HE1.out.2, HE1.out.2]
    exact bodyPost_ret (v := .tuple #[.agg #[.int .i64 0, .int .i64 0, .slice none 0 0], .agg #[.int .i64 0, .int .i64 0, .slice none 0 0], .bool false]) (by simp [results, Try.results32, go_sem]) rfl ⟨_, _, rfl, OwnS.nil _ _ HB.out.size, OwnS.nil _ _ HB.out.size, Apart.nil _, HB.out⟩
  | true =>
  cases v3 with
  | false =>
    have HE0 : Hid (pkOk (D : Int) p ra rb = false) := Lib.hid (by rw [HV.out]; simp)
    have HE1 := Lib.hid (pk_no HE0.out)
    rw [HE0.out]
    go_enter Try.func32, Try.ntmps32
    go_wp2_with fail
    refine (spec_in _ _ _ _ HD.out).mono ?_
    rw [← H1.out]
    rintro e w1 ⟨rfl, hw⟩
    subst hw
    go_wp2_with fail
    refine (spec_in _ _ _ _ HP.out).mono ?_
    rw [← H2.out]
    rintro e w1 ⟨rfl, hw⟩
    subst hw
    go_wp2_with fail
    refine (spec_in _ _ _ _ HRA.out).mono ?_
    rw [← H3.out]
    rintro e w1 ⟨rfl, hw⟩
    subst hw
    go_wp2_with fail
    rw [HE1.out.1, HE1.out.2, HE1.out.2, HE1.out.2]
    exact bodyPost_ret (v := .tuple #[.agg #[.int .i64 0, .int .i64 0, .slice none 0 0], .agg #[.int .i64 0, .int .i64 0, .slice none 0 0], .bool false]) (by simp [results, Try.results32, go_sem]) rfl ⟨_, _, rfl, OwnS.nil _ _ HB.out.size, OwnS.nil _ _ HB.out.size, Apart.nil _, HB.out⟩
  | true =>
  cases v4 with
  | false =>
    have HE0 : Hid (pkOk (D : Int) p ra rb = false) := Lib.hid (by rw [HV.out]; simp)
    have HE1 := Lib.hid (pk_no HE0.out)
    rw [HE0.out]
    go_enter Try.func32, Try.ntmps32
    go_wp2_with fail
    refine (spec_in _ _ _ _ HD.out).mono ?_
    rw [← H1.out]
    rintro e w1 ⟨rfl, hw⟩
    subst hw
    go_wp2_with fail
    refine (spec_in _ _ _ _ HP.out).mono ?_
    rw [← H2.out]
    rintro e w1 ⟨rfl, hw⟩
    subst hw
    go_wp2_with fail
    refine (spec_in _ _ _ _ HRA.out).mono ?_
    rw [← H3.out]
    rintro e w1 ⟨rfl, hw⟩
    subst hw
    go_wp2_with fail
    refine (spec_in _ _ _ _ HRB.out).mono ?_
    rw [← H4.out]
    rintro e w1 ⟨rfl, hw⟩
    subst hw
    go_wp2_with fail
    rw [HE1.out.1, HE1.out.2, HE1.out.2, HE1.out.2]
    exact bodyPost_ret (v := .tuple #[.agg #[.int .i64 0, .int .i64 0, .slice none 0 0], .agg #[.int .i64 0, .int .i64 0, .slice none 0 0], .bool false]) (by simp [results, Try.results32, go_sem]) rfl ⟨_, _, rfl, OwnS.nil _ _ HB.out.size, OwnS.nil _ _ HB.out.size, Apart.nil _, HB.out⟩
  | true =>
  have hok : pkOk (D : Int) p ra rb = true := by rw [HV.out]; rfl
  obtain ⟨D', I, hDe, rfl, _, _, hI, _, _⟩ := pkOk_iff.1 hok
  obtain rfl : D = D' := by omega
  have hI63 : I ≤ 63 := by have := (pow_le6 hD6).2; omega
  have HE0 := Lib.hid hok
  have HE1 := Lib.hid (pk_yes hok)
  rw [HE0.out, HE1.out.1, HE1.out.2, HE1.out.2, HE1.out.2]
  obtain ⟨i0, hi, hz0, hz1, hz2⟩ := info_parts infoCorrection
  have Hhi := Lib.hid hi
  have hO0 : OwnS corE 52 (w.heap.size + 2) (((w.alloc (.cells #[.int .i64 0, .int .i64 0, .slice none 0 0] 27)).alloc (.cells #[.int .i64 0, .int .i64 0, .slice none 0 0] 27)).alloc (.cells #[] 52)) (.slice (some ⟨w.heap.size + 1 + 1, 0, none⟩) 0 0) [] := by
    have := OwnS.lit (w := (w.alloc (.cells #[.int .i64 0, .int .i64 0, .slice none 0 0] 27)).alloc (.cells #[.int .i64 0, .int .i64 0, .slice none 0 0] 27)) (B := w.heap.size + 2) corE 52 (by simp)
    rwa [World.size_alloc, World.size_alloc] at this
  have K' := blocks3T w (.cells #[.int .i64 0, .int .i64 0, .slice none 0 0] 27) (.cells #[.int .i64 0, .int .i64 0, .slice none 0 0] 27) (.cells #[] 52)
  have hB0 := HB.out.alloc HB.out.size (.cells #[] 52)
  have HO := Lib.hid hO0
  replace K1 := Lib.hid K'.1
  replace K2 := Lib.hid K'.2.1
  replace HB := Lib.hid hB0
  clear hok hI hDe hi hO0 hB0 K'
  go_enter Try.func32, Try.ntmps32
  go_wp2_with fail
  refine (spec_in _ _ _ _ HD.out).mono ?_
  rw [← H1.out]
  rintro e w1 ⟨rfl, hw⟩
  subst hw
  go_wp2_with fail
  refine (spec_in _ _ _ _ HP.out).mono ?_
  rw [← H2.out]
  rintro e w1 ⟨rfl, hw⟩
  subst hw
  go_wp2_with fail
  refine (spec_in _ _ _ _ HRA.out).mono ?_
  rw [← H3.out]
  rintro e w1 ⟨rfl, hw⟩
  subst hw
  go_wp2_with fail
  refine (spec_in _ _ _ _ HRB.out).mono ?_
  rw [← H4.out]
  rintro e w1 ⟨rfl, hw⟩
  subst hw
  go_wp2_with fail
  go_loopw [11, 12, 13, 14, 15, 16] (fun l a b ta tb k wr => ∃ (m : Nat) (x : Int) (A B : Int × Int) (dn : List Cor), k = .int .i64 x ∧ x + 1 = m ∧ a = .int .i64 A.1 ∧ b = .int .i64 B.1 ∧ ta = .int .i64 A.2 ∧ tb = .int .i64 B.2 ∧ m ≤ D ∧ dn.length + m = D ∧ dn ++ mkc m I A B = mkc D I (ra, 0) (rb, 1) ∧ (Lit.int .i64 A.1).wf = true ∧ (Lit.int .i64 B.1).wf = true ∧ OwnS corE 52 (w.heap.size + 2) wr l dn ∧ wr.heap[w.heap.size]? = some (.cells #[.int .i64 0, .int .i64 0, .slice none 0 0] 27) ∧ wr.heap[w.heap.size + 1]? = some (.cells #[.int .i64 0, .int .i64 0, .slice none 0 0] 27) ∧ Below w.heap.size w wr) (fun _ _ _ _ _ k _ => (intOf k + 1).toNat)
  case atStart => exact ⟨D, (D : Int) - 1, (ra, 0), (rb, 1), [], rfl, by omega, rfl, rfl, rfl, rfl, Nat.le_refl _, by simp, rfl, HRA.out, HRB.out, HO.out, K1.out, K2.out, HB.out⟩
  case round =>
    obtain ⟨m, x, A, B, dn, rfl, hxm, rfl, rfl, rfl, rfl, hmD, hdn, hmk, hA, hBw, hO, hK1, hK2, hB⟩ := hrel
    replace HO := Lib.hid hO
    replace K1 := Lib.hid hK1
    replace K2 := Lib.hid hK2
    replace HB := Lib.hid hB
    have HA := Lib.hid hA
    have HBw := Lib.hid hBw
    have HMK := Lib.hid hmk
    have HDN := Lib.hid hdn
    have hdl : dn.length ≤ 6 := by omega
    have HDL := Lib.hid hdl
    clear hO hK1 hK2 hB hA hBw hmk hdn hdl
    cases m with
    | zero =>
      obtain rfl : x = -1 := by omega
      have HMK2 : Hid (dn = mkc D I (ra, 0) (rb, 1)) := Lib.hid (by
        have := HMK.out
        rwa [mkc, List.append_nil] at this)
      clear hxm
      obtain ⟨cs, hcs⟩ : ∃ cs, cs = mkc D I (ra, 0) (rb, 1) := ⟨_, rfl⟩
      rw [← hcs] at HMK2
      have HCS := Lib.hid hcs
      have HO' : Hid (OwnS corE 52 (w.heap.size + 2) wr u11 cs) := Lib.hid (HMK2.out ▸ HO.out)
      have hcl : cs.length ≤ 6 := by have := HDL.out; rw [HMK2.out] at this; exact this
      obtain ⟨aO, cO, hu, _⟩ := HO'.out.open
      obtain ⟨L, hL⟩ : ∃ L, L = cs.length := ⟨_, rfl⟩
      rw [← hL] at hu
      subst hu
      have HL := Lib.hid hL
      have HCl := Lib.hid hcl
      have O1 := Lib.hid (OwnS.lit (w := wr) (B := wr.heap.size) corE 52 (Nat.le_refl _))
      have R1 := Lib.hid ((HO'.out.alloc (.cells #[] 52)).rd)
      have B1 := Lib.hid (HB.out.alloc HB.out.size (.cells #[] 52))
      have L1 := Lib.hid ((heap_alloc_old wr (.cells #[] 52) (lt_of_block K1.out)).trans K1.out)
      have L2 := Lib.hid ((heap_alloc_old wr (.cells #[] 52) (lt_of_block K2.out)).trans K2.out)
      have HO2 := Lib.hid (HO'.out.alloc (.cells #[] 52))
      have HLt := Lib.hid HO'.out.lt
      clear hcs hL hcl HO
      go_wp2_with (first | (at_builtin; refine append_rds _ rfl _ _ 25 rfl 52 i0 (.agg #[.int .i64 0, .int .i64 0, .int .i64 0]) 24 Try.underlying25 Hhi.out hz0 hz1 hz2 rfl (by omega) rfl O1.out rfl R1.out (by have := HCl.out; simp only [List.length_nil]; omega) ?_))
      intro v8 w8 h8 hg8
      have hbk : ∀ b, b < wr.heap.size → w8.heap[b]? = (wr.alloc (.cells #[] 52)).heap[b]? := fun b hb => hg8.block b (by simp; omega) (fun e => by have := O1.out.lt _ e.symm; omega)
      have M1 := (hbk _ (lt_of_block K1.out)).trans L1.out
      have M2 := (hbk _ (lt_of_block K2.out)).trans L2.out
      have HO3 := HO2.out.kept hg8 (by
        cases hv : Value.ownBlock (.slice aO L cO) with
        | none => exact .inl rfl
        | some r =>
          right
          intro e
          have h1 := HLt.out r hv
          have h2 := O1.out.lt r e.symm
          omega)
      have B8 := B1.out.trans (O1.out.below (C := w.heap.size) HB.out.size hg8)
      obtain ⟨a8, c8, hu8, _⟩ := h8.open
      rw [← HL.out] at hu8
      subst hu8
      have H8 := Lib.hid h8
      have HO4 := Lib.hid HO3
      have HB8 := Lib.hid B8
      have N1 := Lib.hid M1
      have N2 := Lib.hid M2
      have a0 := blk_cell M1 0
      have a1 := blk_cell M1 1
      have a2 := blk_cell M1 2
      have b0 := blk_cell M2 0
      have b1 := blk_cell M2 1
      have b2 := blk_cell M2 2
      have fa0 := blk_free M1 0
      have fa1 := blk_free M1 1
      have fa2 := blk_free M1 2
      have fb0 := blk_free M2 0
      have fb1 := blk_free M2 1
      have fb2 := blk_free M2 2
      rw [th0] at a0 b0
      rw [th1] at a1 b1
      rw [th2] at a2 b2
      clear h8 hg8 hbk HO3 B8 M1 M2
      go_wp2_with fail
      obtain ⟨p1, p2⟩ := put3 N1.out (.int .i64 ra) (.int .i64 0) (.slice a8 L c8)
      have N2' := (p2.block _ (lt_of_block N2.out) (by omega)).trans N2.out
      obtain ⟨q1, q2⟩ := put3 N2' (.int .i64 rb) (.int .i64 1) (.slice aO L cO)
      have p1' := (q2.block _ (lt_of_block p1) (by omega)).trans p1
      have pq := (p2.mono (G := fun c => c = w.heap.size ∨ c = w.heap.size + 1) (fun b hb => .inl hb)).trans (q2.mono (fun b hb => .inr hb))
      have Q1 := Lib.hid ((H8.out.keptF pq (fun r hr he => by have := (H8.out.lt r hr).1; have := lt_of_block K2.out; omega)).mono (B' := w.heap.size) HB.out.size)
      have Q2 := Lib.hid ((HO4.out.keptF pq (fun r hr he => by have := (HO4.out.lt r hr).1; omega)).mono (B' := w.heap.size) (by omega))
      have Q3 := Lib.hid (HB8.out.trans (pq.below (B := w.heap.size) (fun b hb => by omega) HB8.out.size))
      have Q4 : Hid (Apart (.slice a8 L c8) (.slice aO L cO)) := Lib.hid (fun r hr he => by have := (H8.out.lt r hr).1; have := (HLt.out r he).2; omega)
      obtain ⟨W5, hW5⟩ : ∃ W5, W5 = (((((w8.setCell ⟨w.heap.size, 0, none⟩ (.int .i64 ra)).setCell ⟨w.heap.size, 1, none⟩ (.int .i64 0)).setCell ⟨w.heap.size, 2, none⟩ (.slice a8 L c8)).setCell ⟨w.heap.size + 1, 0, none⟩ (.int .i64 rb)).setCell ⟨w.heap.size + 1, 1, none⟩ (.int .i64 1)).setCell ⟨w.heap.size + 1, 2, none⟩ (.slice aO L cO) := ⟨_, rfl⟩
      rw [← hW5] at p1' q1 Q1 Q2 Q3 ⊢
      have r0 := blk_cell p1' 0
      have r1 := blk_cell p1' 1
      have r2 := blk_cell p1' 2
      have s0 := blk_cell q1 0
      have s1 := blk_cell q1 1
      have s2 := blk_cell q1 2
      rw [th0] at r0 s0
      rw [th1] at r1 s1
      rw [th2] at r2 s2
      clear a0 a1 a2 b0 b1 b2 fa0 fa1 fa2 fb0 fb1 fb2 hW5 p1 p2 q1 q2 p1' pq N2'
      exact bodyPost_ret (v := .tuple #[.agg #[.int .i64 ra, .int .i64 0, .slice a8 L c8], .agg #[.int .i64 rb, .int .i64 1, .slice aO L cO], .bool true]) (by simp [results, Try.results32, go_sem, r0, r1, r2, s0, s1, s2]) rfl ⟨_, _, rfl, HCS.out ▸ Q1.out, HCS.out ▸ Q2.out, Q4.out, Q3.out⟩
    | succ m =>
      obtain rfl : x = (m : Int) := by omega
      have hm6 : m ≤ 6 := by omega
      have hmD' : m ≤ D := by omega
      have HMD := Lib.hid hmD
      obtain ⟨sd, hsd⟩ : ∃ sd, sd = bt I m := ⟨_, rfl⟩
      have hbt : bits .and .i64 ((I : Int) / 2 ^ m) 1 = sd := by rw [i64_and1, hsd, bt_of_mod]; simp
      have h01 : sd = 0 ∨ sd = 1 := by rw [hsd]; exact bt01 _ _
      obtain ⟨c, hc⟩ : ∃ c, c = cor1 A.1 B.1 sd := ⟨_, rfl⟩
      have HSt : Hid (dn ++ [c] ++ mkc m I (evN A.1 A.2 sd c) (evN B.1 B.2 sd c) = mkc D I (ra, 0) (rb, 1)) := Lib.hid (by
        rw [← HMK.out, mkc_succ, hc, hsd]
        simp)
      have HCk : Hid (cok c) := Lib.hid (by rw [hc]; exact cor1_ok _ _ _)
      have HC := Lib.hid hc
      clear hc hsd hxm hmD
      rcases h01 with rfl | rfl
      · obtain ⟨k1, hk1⟩ : ∃ k, k = kid A.1 1 := ⟨_, rfl⟩
        obtain ⟨k2, hk2⟩ : ∃ k, k = kid B.1 1 := ⟨_, rfl⟩
        obtain ⟨q1, hq1⟩ : ∃ k, k = ctl A.1 0 := ⟨_, rfl⟩
        obtain ⟨q2, hq2⟩ : ∃ k, k = ctl B.1 0 := ⟨_, rfl⟩
        obtain ⟨q3, hq3⟩ : ∃ k, k = ctl A.1 1 := ⟨_, rfl⟩
        obtain ⟨q4, hq4⟩ : ∃ k, k = ctl B.1 1 := ⟨_, rfl⟩
        have HCe : Hid (c = (bits .xor .i64 k1 k2, bits .xor .i64 (bits .xor .i64 q1 q2) 1, bits .xor .i64 q3 q4)) := Lib.hid (by rw [HC.out, cor1_0, hk1, hk2, hq1, hq2, hq3, hq4])
        have G1 := Lib.hid hk1
        have G2 := Lib.hid hk2
        have G3 := Lib.hid hq1
        have G4 := Lib.hid hq2
        have G5 := Lib.hid hq3
        have G6 := Lib.hid hq4
        clear hk1 hk2 hq1 hq2 hq3 hq4
        go_wp2_with fail
        refine (spec_cs HA.out (by decide)).mono ?_
        rw [← G1.out]
        rintro e w1 ⟨rfl, hb⟩
        replace K1 := Lib.hid ((hb.block _ (lt_of_block K1.out)).trans K1.out)
        replace K2 := Lib.hid ((hb.block _ (lt_of_block K2.out)).trans K2.out)
        replace HO := Lib.hid (HO.out.next hb)
        replace HB := Lib.hid (HB.out.trans (hb.mono HB.out.size))
        clear hb
        go_wp2_with fail
        refine (spec_cs HBw.out (by decide)).mono ?_
        rw [← G2.out]
        rintro e w2 ⟨rfl, hb⟩
        replace K1 := Lib.hid ((hb.block _ (lt_of_block K1.out)).trans K1.out)
        replace K2 := Lib.hid ((hb.block _ (lt_of_block K2.out)).trans K2.out)
        replace HO := Lib.hid (HO.out.next hb)
        replace HB := Lib.hid (HB.out.trans (hb.mono HB.out.size))
        clear hb
        go_wp2_with fail
        refine (spec_cb HA.out (by decide)).mono ?_
        rw [← G3.out]
        rintro e w3 ⟨rfl, hb⟩
        replace K1 := Lib.hid ((hb.block _ (lt_of_block K1.out)).trans K1.out)
        replace K2 := Lib.hid ((hb.block _ (lt_of_block K2.out)).trans K2.out)
        replace HO := Lib.hid (HO.out.next hb)
        replace HB := Lib.hid (HB.out.trans (hb.mono HB.out.size))
        clear hb
        go_wp2_with fail
        refine (spec_cb HBw.out (by decide)).mono ?_
        rw [← G4.out]
        rintro e w4 ⟨rfl, hb⟩
        replace K1 := Lib.hid ((hb.block _ (lt_of_block K1.out)).trans K1.out)
        replace K2 := Lib.hid ((hb.block _ (lt_of_block K2.out)).trans K2.out)
        replace HO := Lib.hid (HO.out.next hb)
        replace HB := Lib.hid (HB.out.trans (hb.mono HB.out.size))
        clear hb
        go_wp2_with fail
        refine (spec_cb HA.out (by decide)).mono ?_
        rw [← G5.out]
        rintro e w5 ⟨rfl, hb⟩
        replace K1 := Lib.hid ((hb.block _ (lt_of_block K1.out)).trans K1.out)
        replace K2 := Lib.hid ((hb.block _ (lt_of_block K2.out)).trans K2.out)
        replace HO := Lib.hid (HO.out.next hb)
        replace HB := Lib.hid (HB.out.trans (hb.mono HB.out.size))
        clear hb
        go_wp2_with fail
        refine (spec_cb HBw.out (by decide)).mono ?_
        rw [← G6.out]
        rintro e w6 ⟨rfl, hb⟩
        replace K1 := Lib.hid ((hb.block _ (lt_of_block K1.out)).trans K1.out)
        replace K2 := Lib.hid ((hb.block _ (lt_of_block K2.out)).trans K2.out)
        replace HO := Lib.hid (HO.out.next hb)
        replace HB := Lib.hid (HB.out.trans (hb.mono HB.out.size))
        clear hb
        obtain ⟨x1, x2, x3⟩ := c
        have hx := HCe.out
        simp only [Prod.mk.injEq] at hx
        obtain ⟨hx1, hx2, hx3⟩ := hx
        have j1 := hx1.symm
        have j2 := hx2.symm
        have j3 := hx3.symm
        clear hx1 hx2 hx3
        have HLt := Lib.hid HO.out.lt
        have O1 := Lib.hid ((HO.out.alloc (.cells #[.int .i64 x1, .int .i64 x2, .int .i64 x3] 52)).alloc (.cells #[.int .i64 x1, .int .i64 x2, .int .i64 x3] 52))
        have R1 : Hid (RdS corE (w6.heap.size + 1 + 1) ((w6.alloc (.cells #[.int .i64 x1, .int .i64 x2, .int .i64 x3] 52)).alloc (.cells #[.int .i64 x1, .int .i64 x2, .int .i64 x3] 52)) (.slice (some ⟨w6.heap.size + 1, 0, none⟩) 1 1) [(x1, x2, x3)]) := Lib.hid (by
          have := (lits1 (B := 0) (w := w6.alloc (.cells #[.int .i64 x1, .int .i64 x2, .int .i64 x3] 52)) (c := (x1, x2, x3)) (Nat.zero_le _) HCk.out).rd
          rwa [World.size_alloc, World.size_alloc] at this)
        have B1 := Lib.hid ((HB.out.alloc HB.out.size (.cells #[.int .i64 x1, .int .i64 x2, .int .i64 x3] 52)).alloc (by have := HB.out.size; simp; omega) (.cells #[.int .i64 x1, .int .i64 x2, .int .i64 x3] 52))
        have KC := Lib.hid (blocks2T w6 (.cells #[.int .i64 x1, .int .i64 x2, .int .i64 x3] 52) (.cells #[.int .i64 x1, .int .i64 x2, .int .i64 x3] 52)).1
        have L1 := Lib.hid ((heap_alloc_old _ (.cells #[.int .i64 x1, .int .i64 x2, .int .i64 x3] 52) (by have := lt_of_block K1.out; simp; omega)).trans ((heap_alloc_old w6 (.cells #[.int .i64 x1, .int .i64 x2, .int .i64 x3] 52) (lt_of_block K1.out)).trans K1.out))
        have L2 := Lib.hid ((heap_alloc_old _ (.cells #[.int .i64 x1, .int .i64 x2, .int .i64 x3] 52) (by have := lt_of_block K2.out; simp; omega)).trans ((heap_alloc_old w6 (.cells #[.int .i64 x1, .int .i64 x2, .int .i64 x3] 52) (lt_of_block K2.out)).trans K2.out))
        have HLn := Lib.hid HDL.out
        go_wp2_with (first | (at_builtin; refine append_rds _ rfl _ _ 25 rfl 52 i0 (.agg #[.int .i64 0, .int .i64 0, .int .i64 0]) 24 Try.underlying25 Hhi.out hz0 hz1 hz2 rfl (by omega) rfl O1.out rfl R1.out (by have := HLn.out; simp only [List.length_cons, List.length_nil]; omega) ?_))
        intro v8 w8 h8 hg8
        have H8 := Lib.hid h8
        have KC8 := Lib.hid ((hg8.block w6.heap.size (by simp; omega) (fun e => by have := HLt.out _ e.symm; omega)).trans KC.out)
        have M1 := Lib.hid ((hg8.block w.heap.size (by have := lt_of_block L1.out; exact this) (fun e => by have := O1.out.lt _ e.symm; omega)).trans L1.out)
        have M2 := Lib.hid ((hg8.block (w.heap.size + 1) (by have := lt_of_block L2.out; exact this) (fun e => by have := O1.out.lt _ e.symm; omega)).trans L2.out)
        have B8 := Lib.hid (B1.out.trans (O1.out.below (C := w.heap.size) (by omega) hg8))
        have cc0 := blk_cell KC8.out 0
        have cc1 := blk_cell KC8.out 1
        have cc2 := blk_cell KC8.out 2
        rw [th0] at cc0
        rw [th1] at cc1
        rw [th2] at cc2
        clear h8 hg8 j1 j2 j3
        go_wp2_with fail
        refine (spec_ev (c := (x1, x2, x3)) HA.out (by decide)).mono ?_
        obtain ⟨A', hA'⟩ : ∃ z, z = evN A.1 A.2 0 (x1, x2, x3) := ⟨_, rfl⟩
        rw [← hA']
        have HA' := Lib.hid hA'
        clear hA' cc0 cc1 cc2
        rintro e w9 ⟨rfl, hb⟩
        replace KC8 := Lib.hid ((hb.block _ (lt_of_block KC8.out)).trans KC8.out)
        replace M1 := Lib.hid ((hb.block _ (lt_of_block M1.out)).trans M1.out)
        replace M2 := Lib.hid ((hb.block _ (lt_of_block M2.out)).trans M2.out)
        replace H8 := Lib.hid (H8.out.next hb)
        replace B8 := Lib.hid (B8.out.trans (hb.mono B8.out.size))
        clear hb
        have cc0 := blk_cell KC8.out 0
        have cc1 := blk_cell KC8.out 1
        have cc2 := blk_cell KC8.out 2
        rw [th0] at cc0
        rw [th1] at cc1
        rw [th2] at cc2
        go_wp2_with fail
        refine (spec_ev (c := (x1, x2, x3)) HBw.out (by decide)).mono ?_
        obtain ⟨B', hB'⟩ : ∃ z, z = evN B.1 B.2 0 (x1, x2, x3) := ⟨_, rfl⟩
        rw [← hB']
        have HB' := Lib.hid hB'
        clear hB' cc0 cc1 cc2
        rintro e w10 ⟨rfl, hb⟩
        replace M1 := Lib.hid ((hb.block _ (lt_of_block M1.out)).trans M1.out)
        replace M2 := Lib.hid ((hb.block _ (lt_of_block M2.out)).trans M2.out)
        replace H8 := Lib.hid (H8.out.next hb)
        replace B8 := Lib.hid (B8.out.trans (hb.mono B8.out.size))
        clear hb
        go_wp2_with fail
        go_roundw
        case rel => exact ⟨m, (m : Int) - 1, A', B', dn ++ [(x1, x2, x3)], rfl, by omega, rfl, rfl, rfl, rfl, Nat.le_of_succ_le HMD.out, by rw [List.length_append]; have := HDN.out; simp; omega, by rw [HA'.out, HB'.out]; exact HSt.out, by rw [HA'.out]; exact evN_wf1 _ _ _ _, by rw [HB'.out]; exact evN_wf1 _ _ _ _, H8.out, M1.out, M2.out, B8.out⟩
        case measure => simp [intOf]
      · obtain ⟨k1, hk1⟩ : ∃ k, k = kid A.1 0 := ⟨_, rfl⟩
        obtain ⟨k2, hk2⟩ : ∃ k, k = kid B.1 0 := ⟨_, rfl⟩
        obtain ⟨q1, hq1⟩ : ∃ k, k = ctl A.1 0 := ⟨_, rfl⟩
        obtain ⟨q2, hq2⟩ : ∃ k, k = ctl B.1 0 := ⟨_, rfl⟩
        obtain ⟨q3, hq3⟩ : ∃ k, k = ctl A.1 1 := ⟨_, rfl⟩
        obtain ⟨q4, hq4⟩ : ∃ k, k = ctl B.1 1 := ⟨_, rfl⟩
        have HCe : Hid (c = (bits .xor .i64 k1 k2, bits .xor .i64 q1 q2, bits .xor .i64 (bits .xor .i64 q3 q4) 1)) := Lib.hid (by rw [HC.out, cor1_1, hk1, hk2, hq1, hq2, hq3, hq4])
        have G1 := Lib.hid hk1
        have G2 := Lib.hid hk2
        have G3 := Lib.hid hq1
        have G4 := Lib.hid hq2
        have G5 := Lib.hid hq3
        have G6 := Lib.hid hq4
        clear hk1 hk2 hq1 hq2 hq3 hq4
        go_wp2_with fail
        refine (spec_cs HA.out (by decide)).mono ?_
        rw [← G1.out]
        rintro e w1 ⟨rfl, hb⟩
        replace K1 := Lib.hid ((hb.block _ (lt_of_block K1.out)).trans K1.out)
        replace K2 := Lib.hid ((hb.block _ (lt_of_block K2.out)).trans K2.out)
        replace HO := Lib.hid (HO.out.next hb)
        replace HB := Lib.hid (HB.out.trans (hb.mono HB.out.size))
        clear hb
        go_wp2_with fail
        refine (spec_cs HBw.out (by decide)).mono ?_
        rw [← G2.out]
        rintro e w2 ⟨rfl, hb⟩
        replace K1 := Lib.hid ((hb.block _ (lt_of_block K1.out)).trans K1.out)
        replace K2 := Lib.hid ((hb.block _ (lt_of_block K2.out)).trans K2.out)
        replace HO := Lib.hid (HO.out.next hb)
        replace HB := Lib.hid (HB.out.trans (hb.mono HB.out.size))
        clear hb
        go_wp2_with fail
        refine (spec_cb HA.out (by decide)).mono ?_
        rw [← G3.out]
        rintro e w3 ⟨rfl, hb⟩
        replace K1 := Lib.hid ((hb.block _ (lt_of_block K1.out)).trans K1.out)
        replace K2 := Lib.hid ((hb.block _ (lt_of_block K2.out)).trans K2.out)
        replace HO := Lib.hid (HO.out.next hb)
        replace HB := Lib.hid (HB.out.trans (hb.mono HB.out.size))
        clear hb
        go_wp2_with fail
        refine (spec_cb HBw.out (by decide)).mono ?_
        rw [← G4.out]
        rintro e w4 ⟨rfl, hb⟩
        replace K1 := Lib.hid ((hb.block _ (lt_of_block K1.out)).trans K1.out)
        replace K2 := Lib.hid ((hb.block _ (lt_of_block K2.out)).trans K2.out)
        replace HO := Lib.hid (HO.out.next hb)
        replace HB := Lib.hid (HB.out.trans (hb.mono HB.out.size))
        clear hb
        go_wp2_with fail
        refine (spec_cb HA.out (by decide)).mono ?_
        rw [← G5.out]
        rintro e w5 ⟨rfl, hb⟩
        replace K1 := Lib.hid ((hb.block _ (lt_of_block K1.out)).trans K1.out)
        replace K2 := Lib.hid ((hb.block _ (lt_of_block K2.out)).trans K2.out)
        replace HO := Lib.hid (HO.out.next hb)
        replace HB := Lib.hid (HB.out.trans (hb.mono HB.out.size))
        clear hb
        go_wp2_with fail
        refine (spec_cb HBw.out (by decide)).mono ?_
        rw [← G6.out]
        rintro e w6 ⟨rfl, hb⟩
        replace K1 := Lib.hid ((hb.block _ (lt_of_block K1.out)).trans K1.out)
        replace K2 := Lib.hid ((hb.block _ (lt_of_block K2.out)).trans K2.out)
        replace HO := Lib.hid (HO.out.next hb)
        replace HB := Lib.hid (HB.out.trans (hb.mono HB.out.size))
        clear hb
        obtain ⟨x1, x2, x3⟩ := c
        have hx := HCe.out
        simp only [Prod.mk.injEq] at hx
        obtain ⟨hx1, hx2, hx3⟩ := hx
        have j1 := hx1.symm
        have j2 := hx2.symm
        have j3 := hx3.symm
        clear hx1 hx2 hx3
        have HLt := Lib.hid HO.out.lt
        have O1 := Lib.hid ((HO.out.alloc (.cells #[.int .i64 x1, .int .i64 x2, .int .i64 x3] 52)).alloc (.cells #[.int .i64 x1, .int .i64 x2, .int .i64 x3] 52))
        have R1 : Hid (RdS corE (w6.heap.size + 1 + 1) ((w6.alloc (.cells #[.int .i64 x1, .int .i64 x2, .int .i64 x3] 52)).alloc (.cells #[.int .i64 x1, .int .i64 x2, .int .i64 x3] 52)) (.slice (some ⟨w6.heap.size + 1, 0, none⟩) 1 1) [(x1, x2, x3)]) := Lib.hid (by
          have := (lits1 (B := 0) (w := w6.alloc (.cells #[.int .i64 x1, .int .i64 x2, .int .i64 x3] 52)) (c := (x1, x2, x3)) (Nat.zero_le _) HCk.out).rd
          rwa [World.size_alloc, World.size_alloc] at this)
        have B1 := Lib.hid ((HB.out.alloc HB.out.size (.cells #[.int .i64 x1, .int .i64 x2, .int .i64 x3] 52)).alloc (by have := HB.out.size; simp; omega) (.cells #[.int .i64 x1, .int .i64 x2, .int .i64 x3] 52))
        have KC := Lib.hid (blocks2T w6 (.cells #[.int .i64 x1, .int .i64 x2, .int .i64 x3] 52) (.cells #[.int .i64 x1, .int .i64 x2, .int .i64 x3] 52)).1
        have L1 := Lib.hid ((heap_alloc_old _ (.cells #[.int .i64 x1, .int .i64 x2, .int .i64 x3] 52) (by have := lt_of_block K1.out; simp; omega)).trans ((heap_alloc_old w6 (.cells #[.int .i64 x1, .int .i64 x2, .int .i64 x3] 52) (lt_of_block K1.out)).trans K1.out))
        have L2 := Lib.hid ((heap_alloc_old _ (.cells #[.int .i64 x1, .int .i64 x2, .int .i64 x3] 52) (by have := lt_of_block K2.out; simp; omega)).trans ((heap_alloc_old w6 (.cells #[.int .i64 x1, .int .i64 x2, .int .i64 x3] 52) (lt_of_block K2.out)).trans K2.out))
        have HLn := Lib.hid HDL.out
        go_wp2_with (first | (at_builtin; refine append_rds _ rfl _ _ 25 rfl 52 i0 (.agg #[.int .i64 0, .int .i64 0, .int .i64 0]) 24 Try.underlying25 Hhi.out hz0 hz1 hz2 rfl (by omega) rfl O1.out rfl R1.out (by have := HLn.out; simp only [List.length_cons, List.length_nil]; omega) ?_))
        intro v8 w8 h8 hg8
        have H8 := Lib.hid h8
        have KC8 := Lib.hid ((hg8.block w6.heap.size (by simp; omega) (fun e => by have := HLt.out _ e.symm; omega)).trans KC.out)
        have M1 := Lib.hid ((hg8.block w.heap.size (by have := lt_of_block L1.out; exact this) (fun e => by have := O1.out.lt _ e.symm; omega)).trans L1.out)
        have M2 := Lib.hid ((hg8.block (w.heap.size + 1) (by have := lt_of_block L2.out; exact this) (fun e => by have := O1.out.lt _ e.symm; omega)).trans L2.out)
        have B8 := Lib.hid (B1.out.trans (O1.out.below (C := w.heap.size) (by omega) hg8))
        have cc0 := blk_cell KC8.out 0
        have cc1 := blk_cell KC8.out 1
        have cc2 := blk_cell KC8.out 2
        rw [th0] at cc0
        rw [th1] at cc1
        rw [th2] at cc2
        clear h8 hg8 j1 j2 j3
        go_wp2_with fail
        refine (spec_ev (c := (x1, x2, x3)) HA.out (by decide)).mono ?_
        obtain ⟨A', hA'⟩ : ∃ z, z = evN A.1 A.2 1 (x1, x2, x3) := ⟨_, rfl⟩
        rw [← hA']
        have HA' := Lib.hid hA'
        clear hA' cc0 cc1 cc2
        rintro e w9 ⟨rfl, hb⟩
        replace KC8 := Lib.hid ((hb.block _ (lt_of_block KC8.out)).trans KC8.out)
        replace M1 := Lib.hid ((hb.block _ (lt_of_block M1.out)).trans M1.out)
        replace M2 := Lib.hid ((hb.block _ (lt_of_block M2.out)).trans M2.out)
        replace H8 := Lib.hid (H8.out.next hb)
        replace B8 := Lib.hid (B8.out.trans (hb.mono B8.out.size))
        clear hb
        have cc0 := blk_cell KC8.out 0
        have cc1 := blk_cell KC8.out 1
        have cc2 := blk_cell KC8.out 2
        rw [th0] at cc0
        rw [th1] at cc1
        rw [th2] at cc2
        go_wp2_with fail
        refine (spec_ev (c := (x1, x2, x3)) HBw.out (by decide)).mono ?_
        obtain ⟨B', hB'⟩ : ∃ z, z = evN B.1 B.2 1 (x1, x2, x3) := ⟨_, rfl⟩
        rw [← hB']
        have HB' := Lib.hid hB'
        clear hB' cc0 cc1 cc2
        rintro e w10 ⟨rfl, hb⟩
        replace M1 := Lib.hid ((hb.block _ (lt_of_block M1.out)).trans M1.out)
        replace M2 := Lib.hid ((hb.block _ (lt_of_block M2.out)).trans M2.out)
        replace H8 := Lib.hid (H8.out.next hb)
        replace B8 := Lib.hid (B8.out.trans (hb.mono B8.out.size))
        clear hb
        go_wp2_with fail
        go_roundw
        case rel => exact ⟨m, (m : Int) - 1, A', B', dn ++ [(x1, x2, x3)], rfl, by omega, rfl, rfl, rfl, rfl, Nat.le_of_succ_le HMD.out, by rw [List.length_append]; have := HDN.out; simp; omega, by rw [HA'.out, HB'.out]; exact HSt.out, by rw [HA'.out]; exact evN_wf1 _ _ _ _, by rw [HB'.out]; exact evN_wf1 _ _ _ _, H8.out, M1.out, M2.out, B8.out⟩
        case measure => simp [intOf]

end Go.Proofs.Ytheefkhhafefoaa
