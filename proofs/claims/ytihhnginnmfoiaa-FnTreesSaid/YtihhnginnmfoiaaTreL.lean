/- What a punctured tree yields, and that its leaves differ for the roots that the law draws. No program. -/
import Derived.Test.YtihhnginnmfoiaaTreK1
import Derived.Test.YtihhnginnmfoiaaTreK2
import Derived.Test.YtihhnginnmfoiaaTreK3
import Derived.Test.YtihhnginnmfoiaaTreK4
import Derived.Test.YtihhnginnmfoiaaTre4
import Derived.Test.YtihhnginnmfoiaaTre5
import Derived.Test.YtihhnginnmfoiaaTre6
namespace Go.Proofs.Ytihhnginnmfoiaa
open Go Go.RowKit
set_option linter.unusedVariables false
attribute [local irreducible] kh

theorem roots_inj {R D : Nat} (hR : R < 65536) (hD : D ≤ 5) : Inj (R : Int) D := by
  refine Inj.le (inj5 (by omega) ?_) hD
  by_cases h1 : R < 4096
  · exact allLook_sound look0 (by omega) (by omega)
  by_cases h2 : R < 8192
  · exact allLook_sound look1 (by omega) (by omega)
  by_cases h3 : R < 12288
  · exact allLook_sound look2 (by omega) (by omega)
  by_cases h4 : R < 16384
  · exact allLook_sound look3 (by omega) (by omega)
  by_cases h5 : R < 20480
  · exact allLook_sound look4 (by omega) (by omega)
  by_cases h6 : R < 24576
  · exact allLook_sound look5 (by omega) (by omega)
  by_cases h7 : R < 28672
  · exact allLook_sound look6 (by omega) (by omega)
  by_cases h8 : R < 32768
  · exact allLook_sound look7 (by omega) (by omega)
  by_cases h9 : R < 36864
  · exact allLook_sound look8 (by omega) (by omega)
  by_cases h10 : R < 40960
  · exact allLook_sound look9 (by omega) (by omega)
  by_cases h11 : R < 45056
  · exact allLook_sound look10 (by omega) (by omega)
  by_cases h12 : R < 49152
  · exact allLook_sound look11 (by omega) (by omega)
  by_cases h13 : R < 53248
  · exact allLook_sound look12 (by omega) (by omega)
  by_cases h14 : R < 57344
  · exact allLook_sound look13 (by omega) (by omega)
  by_cases h15 : R < 61440
  · exact allLook_sound look14 (by omega) (by omega)
  · exact allLook_sound look15 (by omega) (by omega)

theorem dsc_add (s : Int) (m b O : Nat) : dsc s (m + b) O = dsc (dsc s m (O / 2 ^ b)) b O := by
  induction m generalizing s with
  | zero => rw [Nat.zero_add, dsc_zero]
  | succ m ih =>
    rw [show m + 1 + b = (m + b) + 1 by omega, dsc_succ, ih, dsc_succ s m]
    have e : bt (O / 2 ^ b) m = bt O (m + b) := by
      unfold bt
      rw [Nat.div_div_eq_div_mul, ← Nat.pow_add, Nat.add_comm b m]
    rw [e]
theorem half_same {I O b : Nat} (h : I / 2 ^ (b + 1) = O / 2 ^ (b + 1)) (he : bt I b = bt O b) : I / 2 ^ b = O / 2 ^ b := by
  rw [Nat.pow_succ, ← Nat.div_div_eq_div_mul, ← Nat.div_div_eq_div_mul] at h
  unfold bt at he
  omega
theorem bt_flip {I O b : Nat} (h : ¬ bt I b = bt O b) : 1 - bt I b = bt O b := by
  unfold bt at *
  omega
theorem pl_pun (R : Int) (D I O b : Nat) (hb : b ≤ D) (h : I / 2 ^ b = O / 2 ^ b) (hm : I % 2 ^ b ≠ O % 2 ^ b) :
    pl (((List.range D).map (sib R D I)).drop (D - b)) I O = dsc R D O := by
  induction b with
  | zero => exact absurd (by simp [Nat.mod_one]) hm
  | succ b ih =>
    have hlen : ((List.range D).map (sib R D I)).length = D := by simp
    have hz : ((List.range D).map (sib R D I)).getD (D - (b + 1)) 0 = sib R D I (D - (b + 1)) := by
      rw [List.getD_eq_getElem?_getD, List.getElem?_map, List.getElem?_range (by omega)]
      rfl
    rw [pl_step (b := b) (z := sib R D I (D - (b + 1))) (by omega) hz.symm (by omega)]
    by_cases hbt : bt I b = bt O b
    · rw [if_pos hbt, show D - (b + 1) + 1 = D - b by omega]
      exact ih (by omega) (half_same h hbt) (part_step hm hbt)
    · rw [if_neg hbt]
      have e1 : sib R D I (D - (b + 1)) = dsc R (D - b) (O / 2 ^ b) := by
        unfold sib
        rw [show D - (D - (b + 1)) = b + 1 by omega, show D - 1 - (D - (b + 1)) = b by omega, h, bt_flip hbt, show D - b = (D - (b + 1)) + 1 by omega, dsc_snoc, Nat.div_div_eq_div_mul, ← Nat.pow_succ]
        congr 1
        unfold bt
        rw [Nat.pow_zero, Nat.div_one]
      rw [e1, ← dsc_add, show D - b + b = D by omega]
theorem pun_length {R : Int} {D I : Nat} (hD : D ≤ 6) (hI : I < 2 ^ D) : (pun R (D : Int) (I : Int)).length = D := by
  rw [pun_yes (leafOk_iff.2 ⟨D, I, rfl, rfl, hD, hI⟩)]
  simp
theorem pok_yes {R : Int} {D I O : Nat} (hD : D ≤ 6) (hI : I < 2 ^ D) (hO : O < 2 ^ D) (h : I ≠ O) : pok (pun R (D : Int) (I : Int)) (I : Int) (O : Int) = true := by
  refine pok_iff.2 ⟨?_, ?_, by omega⟩
  · rw [pun_length hD hI]; exact leafOk_iff.2 ⟨D, I, rfl, rfl, hD, hI⟩
  · rw [pun_length hD hI]; exact leafOk_iff.2 ⟨D, O, rfl, rfl, hD, hO⟩
theorem pok_no {zs : List Int} {I : Int} : pok zs I I = false := by
  rw [Bool.eq_false_iff]
  intro h
  exact (pok_iff.1 h).2.2 rfl
theorem pleaf_yes {R : Int} {D I O : Nat} (hD : D ≤ 6) (hI : I < 2 ^ D) (hO : O < 2 ^ D) (h : I ≠ O) : pleaf (pun R (D : Int) (I : Int)) (I : Int) (O : Int) = dsc R D O := by
  unfold pleaf
  rw [if_pos (pok_yes hD hI hO h), Int.toNat_natCast, Int.toNat_natCast, pun_yes (leafOk_iff.2 ⟨D, I, rfl, rfl, hD, hI⟩)]
  have := pl_pun R D I O D (Nat.le_refl _) (by rw [Nat.div_eq_of_lt hI, Nat.div_eq_of_lt hO]) (mod_self_ne hI hO h)
  rwa [Nat.sub_self, List.drop_zero] at this
theorem dsc_bound {s : Int} {L i : Nat} (h : 1 ≤ L) : 0 ≤ dsc s L i ∧ dsc s L i ≤ 2147483646 := by
  obtain ⟨L, rfl⟩ : ∃ k, L = k + 1 := ⟨L - 1, by omega⟩
  rw [dsc_snoc]
  exact kid_bound _ _
theorem leaf_len {R : Int} {D : Nat} (hD : D ≤ 6) : (lseeds R (D : Int)).length = 2 ^ D := by
  rw [lseeds_yes (by simp [inR]; omega)]
  simp
theorem leaf_get {R : Int} {D j : Nat} (hD : D ≤ 6) (hj : j < 2 ^ D) : (lseeds R (D : Int)).getD j 0 = dsc R D j := by
  rw [lseeds_yes (by simp [inR]; omega), List.getD_eq_getElem?_getD, List.getElem?_map, List.getElem?_range hj]
  rfl
theorem strm_len9 (s : Int) : (strm s 9).length = 9 := by
  rw [show (9 : Int) = ((9 : Nat) : Int) from rfl, strm_yes (by decide)]
  simp
theorem strm_take (s : Int) : (strm s 9).take 5 = strm s 5 := by
  rw [show (9 : Int) = ((9 : Nat) : Int) from rfl, show (5 : Int) = ((5 : Nat) : Int) from rfl, strm_yes (by decide), strm_yes (by decide), ← List.map_take, List.take_range]
  rfl
theorem lseed_root (s : Int) : lseed s 0 0 = s := lseed_yes (D := 0) (I := 0) (by decide)
theorem ctl_01 (s c : Int) : ctl s c = 0 ∨ ctl s c = 1 := by
  rw [ctl_eq]
  generalize kh s [53, c] * kh s [53, c] % 2147483647 / 128 = q
  omega
theorem rd_cap {l : Nat} {k : IntKind} {w : World} {a : Option Addr} {m cap : Nat} {zs : List Int} (h : Rd l k w (.slice a m cap) zs) : m ≤ cap ∧ cap ≤ 9223372036854775807 := by
  obtain ⟨hw, a', cap', hv, h1, h2, h3⟩ := h
  injection hv with e1 e2 e3
  unfold maxLen at h2
  omega
theorem rd_upto {l : Nat} {k : IntKind} {w : World} {a : Option Addr} {m n cap : Nat} {zs : List Int} (h : Rd l k w (.slice a m cap) zs) (hm : n ≤ m) : Rd l k w (.slice a n cap) (zs.take n) := by
  obtain ⟨hw, a', cap', hv, h1, h2, h3⟩ := h
  injection hv with e1 e2 e3
  subst e1; subst e2; subst e3
  have hn := hm
  have hl : (zs.take n).length = n := by rw [List.length_take]; omega
  refine ⟨fun z hz => hw z (List.mem_of_mem_take hz), a, cap, by rw [hl], by omega, h2, ?_⟩
  rcases h3 with h3 | ⟨x, rfl, hc, hb⟩
  · exact .inl h3
  · refine .inr ⟨x, rfl, fun i hi => ?_, ?_⟩
    · rw [hl] at hi
      have := hc i (by omega)
      rw [this]
      congr 2
      rw [List.getD_eq_getElem?_getD, List.getD_eq_getElem?_getD, List.getElem?_take, if_pos hi]
    · rcases hb with hb | hb
      · exact .inl hb
      · exact .inr (by rw [hl]; omega)

end Go.Proofs.Ytihhnginnmfoiaa
