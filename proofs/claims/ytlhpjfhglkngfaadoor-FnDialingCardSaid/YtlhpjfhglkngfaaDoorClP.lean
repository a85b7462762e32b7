/- Sealed cells, pure: a sealed cell is opened with its key and counter, and with no other; a changed byte closes it. No conditions but those that are named. -/
import Derived.Test.YtlhpjfhglkngfaaDoorClN
import Derived.Test.YtlhpjfhglkngfaaDoorKhP
namespace Go.Proofs.YtlhpjfhglkngfaaDoor
open Go Go.RowKit
set_option linter.unusedVariables false

theorem sok_all {k n d : Int} {b : List Int} (h : sok k n d b = true) : (1 ≤ k ∧ k ≤ 2147483646) ∧ (0 ≤ n ∧ n ≤ 1000000000000) ∧ (0 ≤ d ∧ d ≤ 3) ∧ b.length ≤ 14 := by
  unfold sok okPlain inR at h
  simp only [Bool.and_eq_true, decide_eq_true_eq] at h
  exact ⟨h.1, h.2.1, h.2.2.1, h.2.2.2⟩
theorem sealL_len24 {k n d : Int} {b : List Int} (h : sok k n d b = true) : (sealL k n d b).length = 24 := by
  rw [sealL_yes h, List.length_append, encL_len k n d (sok_all h).2.2.2, le4_len]
theorem sealL_take {k n d : Int} {b : List Int} (h : sok k n d b = true) : (sealL k n d b).take 20 = encL k n d b := by
  rw [sealL_yes h, List.take_append_of_le_length (by rw [encL_len k n d (sok_all h).2.2.2]; omega), List.take_of_length_le (by rw [encL_len k n d (sok_all h).2.2.2]; omega)]
theorem sealL_drop {k n d : Int} {b : List Int} (h : sok k n d b = true) : (sealL k n d b).drop 20 = le4 (chkv k n (encL k n d b)) := by
  have hl := encL_len k n d (sok_all h).2.2.2
  rw [sealL_yes h, List.drop_append_of_le_length (by omega), List.drop_of_length_le (by omega), List.nil_append]
theorem plnL_u8 {k n d : Int} {b : List Int} (hd : 0 ≤ d ∧ d ≤ 3) (hl : b.length ≤ 14) (hb : U8s b) : U8s (plnL k n d b) := by
  intro z hz
  unfold plnL at hz
  rcases List.mem_append.1 hz with h | h
  · rcases List.mem_cons.1 h with rfl | h
    · exact wf_u8_of (by omega) (by omega)
    · rcases List.mem_cons.1 h with rfl | h
      · exact wf_u8_of (by omega) (by omega)
      · exact hb z h
  · exact padL_u8 _ _ z (List.mem_of_mem_drop h)
theorem decL_seal {k n d : Int} {b : List Int} (h : sok k n d b = true) (hb : U8s b) : decL k n (sealL k n d b) = plnL k n d b := by
  unfold decL
  rw [sealL_take h]
  unfold encL
  exact de_en _ _ (plnL_u8 (sok_all h).2.2.1 (sok_all h).2.2.2 hb)
theorem inR_ofC {x a b : Int} (h : a ≤ x ∧ x ≤ b) : inR x a b = true := inR_yes h
/-- A sealed cell is opened with its key and counter. -/
theorem ook_seal {k n d : Int} {b : List Int} (h : sok k n d b = true) (hb : U8s b) : ook k n (sealL k n d b) = true := by
  obtain ⟨h1, h2, h3, h4⟩ := sok_all h
  have e5 : okc k n (sealL k n d b) = true := by
    unfold okc
    rw [sealL_take h, sealL_drop h]
    exact beq_self_eq_true _
  have e6 : okp (decL k n (sealL k n d b)) = true := by
    rw [decL_seal h hb]
    unfold okp plnL
    have e1 : ((d :: (b.length : Int) :: b) ++ (padL k n).drop b.length).getD 0 0 = d := rfl
    have e2 : ((d :: (b.length : Int) :: b) ++ (padL k n).drop b.length).getD 1 0 = (b.length : Int) := rfl
    rw [e1, e2, decide_eq_true h3.2, decide_eq_true (show (b.length : Int) ≤ 14 by omega)]
    rfl
  unfold ook
  rw [inR_ofC h1, inR_ofC h2, e5, e6, decide_eq_true (sealL_len24 h)]
  rfl
theorem ocK_seal {k n d : Int} {b : List Int} (h : sok k n d b = true) (hb : U8s b) : ocK k n (sealL k n d b) = d := by
  unfold ocK
  rw [if_pos (ook_seal h hb), decL_seal h hb]
  rfl
theorem ocB_seal {k n d : Int} {b : List Int} (h : sok k n d b = true) (hb : U8s b) : ocB k n (sealL k n d b) = b := by
  unfold ocB
  rw [if_pos (ook_seal h hb), decL_seal h hb]
  have e2 : (plnL k n d b).getD 1 0 = (b.length : Int) := rfl
  rw [e2, Int.toNat_natCast]
  show (b ++ (padL k n).drop b.length).take b.length = b
  rw [List.take_append_of_le_length (Nat.le_refl _), List.take_length]
/-- The check values' bytes tell them apart. -/
theorem le4_inj {x y : Int} (hx : 0 ≤ x ∧ x ≤ 2147483646) (hy : 0 ≤ y ∧ y ≤ 2147483646) (h : le4 x = le4 y) : x = y := by
  rw [le4_eq, le4_eq] at h
  simp only [List.cons.injEq, and_true] at h
  omega
theorem ook_off {k n : Int} {c : List Int} (h : okc k n c = false) : ook k n c = false := by unfold ook; rw [h]; simp
theorem okc_false {k n x : Int} {c e : List Int} (h1 : c.take 20 = e) (h2 : c.drop 20 = le4 x) (hx : 0 ≤ x ∧ x ≤ 2147483646) (hne : chkv k n e ≠ x) : okc k n c = false := by
  unfold okc
  rw [h1, h2]
  exact beq_eq_false_iff_ne.2 (fun h => hne (le4_inj (chkv_bound _ _ _) hx h))
/-- .. and with no other counter .. -/
theorem ook_counter {k n m d : Int} {b : List Int} (h : sok k n d b = true) (hne : m % 2147483647 ≠ n % 2147483647) : ook k m (sealL k n d b) = false := by
  refine ook_off (okc_false (sealL_take h) (sealL_drop h) (chkv_bound _ _ _) ?_)
  unfold chkv
  have e : 71 :: m :: encL k n d b = (71 :: n :: encL k n d b).set 1 m := rfl
  rw [e]
  exact kh_set_ne (by simp) hne
/-- .. and with no other key. -/
theorem ook_key {k l n d : Int} {b : List Int} (h : sok k n d b = true) (hl : 1 ≤ l ∧ l ≤ 2147483646) (hne : l ≠ k) : ook l n (sealL k n d b) = false := by
  refine ook_off (okc_false (sealL_take h) (sealL_drop h) (chkv_bound _ _ _) ?_)
  unfold chkv
  exact kh_key_ne (by simp only [List.length_cons]; rw [encL_len k n d (sok_all h).2.2.2]) hl (sok_all h).1 hne
/-- A byte that was changed closes it. -/
theorem ook_changed {k n d v : Int} {b : List Int} {i : Nat} (h : sok k n d b = true) (hi : i < 24) (hv : 0 ≤ v ∧ v ≤ 255) (hne : v ≠ (sealL k n d b).getD i 0) : ook k n ((sealL k n d b).set i v) = false := by
  have hlen := sealL_len24 h
  have hel := encL_len k n d (sok_all h).2.2.2
  by_cases h20 : i < 20
  · have e1 : ((sealL k n d b).set i v).take 20 = (encL k n d b).set i v := by rw [List.take_set, sealL_take h]
    have e2 : ((sealL k n d b).set i v).drop 20 = le4 (chkv k n (encL k n d b)) := by rw [List.drop_set_of_lt (by omega), sealL_drop h]
    have e3 : (sealL k n d b).getD i 0 = (encL k n d b).getD i 0 := by
      rw [sealL_yes h, List.getD_eq_getElem?_getD, List.getD_eq_getElem?_getD, List.getElem?_append_left (by omega)]
    have hu := wf_u8 (enz_u8 (ckey k n) (plnL k n d b) ((encL k n d b).getD i 0) (by
      show (encL k n d b).getD i 0 ∈ encL k n d b
      rw [List.getD_eq_getElem?_getD, List.getElem?_eq_getElem (by omega)]; simp))
    refine ook_off (okc_false e1 e2 (chkv_bound _ _ _) ?_)
    unfold chkv
    have e : 71 :: n :: (encL k n d b).set i v = (71 :: n :: encL k n d b).set (i + 2) v := rfl
    rw [e]
    refine kh_set_ne (by simp only [List.length_cons]; omega) ?_
    have e4 : (71 :: n :: encL k n d b).getD (i + 2) 0 = (encL k n d b).getD i 0 := rfl
    rw [e4]
    rw [e3] at hne
    omega
  · have e1 : ((sealL k n d b).set i v).take 20 = encL k n d b := by rw [List.take_set_of_le (by omega), sealL_take h]
    refine ook_off ?_
    unfold okc
    rw [e1]
    refine beq_eq_false_iff_ne.2 (fun hc => hne ?_)
    have e2 : ((sealL k n d b).set i v).drop 20 = (sealL k n d b).drop 20 := by rw [← hc, sealL_drop h]
    have e3 : ((sealL k n d b).set i v).getD i 0 = v := by
      rw [List.getD_eq_getElem?_getD, List.getElem?_set_self (by omega)]; rfl
    have e4 : ∀ c : List Int, c.getD i 0 = (c.drop 20).getD (i - 20) 0 := fun c => by
      rw [List.getD_eq_getElem?_getD, List.getD_eq_getElem?_getD, List.getElem?_drop, show 20 + (i - 20) = i by omega]
    rw [← e3, e4, e2, ← e4]

end Go.Proofs.YtlhpjfhglkngfaaDoor
