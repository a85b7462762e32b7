/- Keyed hashes and the cipher, pure: a step of the hash loses nothing, one value changed changes the hash, another key changes it, decryption inverts encryption. No conditions but those that are named. -/
import Derived.Test.YtlbijjifeaimjaaBcC
namespace Go.Proofs.Ytlbijjifeaimjaa
open Go Go.RowKit
set_option linter.unusedVariables false

/-- A step of the hash loses nothing of what was folded so far. -/
theorem hstep_inj {a b v : Int} (ha : 0 ≤ a ∧ a ≤ 2147483646) (hb : 0 ≤ b ∧ b ≤ 2147483646) (h : hstep a v = hstep b v) : a = b := by
  unfold hstep at h
  obtain ⟨m, hm⟩ : ∃ m, m = v % 2147483647 := ⟨_, rfl⟩
  rw [← hm] at h
  clear hm
  have h3 := Int.emod_eq_emod_iff_emod_sub_eq_zero.1 h
  clear h
  obtain ⟨t, ht⟩ := Int.dvd_of_emod_eq_zero h3
  clear h3
  have e : a - b = 2147483647 * (t * 1523789695 - (a - b) * 709572) := by omega
  obtain ⟨s, hs⟩ : ∃ s, s = t * 1523789695 - (a - b) * 709572 := ⟨_, rfl⟩
  rw [← hs] at e
  clear hs ht
  omega
theorem hfold_inj {a b : Int} (zs : List Int) (ha : 0 ≤ a ∧ a ≤ 2147483646) (hb : 0 ≤ b ∧ b ≤ 2147483646) (h : hfold a zs = hfold b zs) : a = b := by
  induction zs generalizing a b with
  | nil => exact h
  | cons z zs ih => exact hstep_inj ha hb (ih (hstep_bound a z) (hstep_bound b z) h)
/-- Two values that differ modulo 2147483647 give two hashes. -/
theorem hstep_ne {a u v : Int} (h : u % 2147483647 ≠ v % 2147483647) : hstep a u ≠ hstep a v := by
  unfold hstep; omega
theorem kh_set_ne {k : Int} {zs : List Int} {i : Nat} {v : Int} (hi : i < zs.length) (h : v % 2147483647 ≠ zs.getD i 0 % 2147483647) : kh k (zs.set i v) ≠ kh k zs := by
  intro e
  have e1 : zs = zs.take i ++ zs.getD i 0 :: zs.drop (i + 1) := by
    conv => lhs; rw [← List.take_append_drop i zs, drop_getD hi]
  have e2 : zs.set i v = zs.take i ++ v :: zs.drop (i + 1) := List.set_eq_take_append_cons_drop.trans (if_pos hi)
  have key : ∀ u, kh k (zs.take i ++ u :: zs.drop (i + 1)) = hfold (hstep (hfold 11 (k :: zs.take i)) u) (zs.drop (i + 1) ++ [k]) := by
    intro u
    unfold kh
    rw [show k :: (zs.take i ++ u :: zs.drop (i + 1) ++ [k]) = (k :: zs.take i) ++ ([u] ++ (zs.drop (i + 1) ++ [k])) by simp, hfold_append, hfold_append]
    rfl
  rw [e2, key] at e
  have e3 : kh k zs = hfold (hstep (hfold 11 (k :: zs.take i)) (zs.getD i 0)) (zs.drop (i + 1) ++ [k]) := by
    conv => lhs; rw [e1]
    exact key _
  rw [e3] at e
  exact hstep_ne h (hfold_inj _ (hstep_bound _ _) (hstep_bound _ _) e)

theorem adds_get (f : Nat → Int) (zs : List Int) {i : Nat} (h : i < zs.length) : (adds f zs).getD i 0 = (zs.getD i 0 + f i) % 256 := by
  unfold adds
  rw [List.getD_eq_getElem?_getD, List.getElem?_map, List.getElem?_range h]; rfl
theorem adds_back (f g : Nat → Int) (zs : List Int) (hz : ∀ z ∈ zs, (Lit.int .u8 z).wf = true) (hfg : ∀ i z, 0 ≤ z → z ≤ 255 → ((z + f i) % 256 + g i) % 256 = z) : adds g (adds f zs) = zs := by
  have e : adds g (adds f zs) = (List.range zs.length).map fun i => zs.getD i 0 := by
    show (List.range (adds f zs).length).map (fun i => ((adds f zs).getD i 0 + g i) % 256) = _
    rw [adds_len]
    apply List.map_congr_left
    intro i hi
    have hi' := List.mem_range.1 hi
    have hm : zs.getD i 0 ∈ zs := by rw [List.getD_eq_getElem?_getD, List.getElem?_eq_getElem hi']; simp
    have hb := wf_u8 (hz _ hm)
    rw [adds_get f zs hi']
    exact hfg i _ hb.1 hb.2
  rw [e, range_getD]
theorem de_en (k : Int) (zs : List Int) (hz : ∀ z ∈ zs, (Lit.int .u8 z).wf = true) : dez k (enz k zs) = zs :=
  adds_back (ks k) (nks k) zs hz (fun i z h0 h1 => by unfold nks; have := ks_bound k i; omega)
theorem en_de (k : Int) (zs : List Int) (hz : ∀ z ∈ zs, (Lit.int .u8 z).wf = true) : enz k (dez k zs) = zs :=
  adds_back (nks k) (ks k) zs hz (fun i z h0 h1 => by unfold nks; have := ks_bound k i; omega)

/-- A hash is linear in what was folded before. -/
theorem hfold_lin (zs : List Int) : ∀ (a b : Int), ∃ t : Int, hfold a zs - hfold b zs = (a - b) * 1000003 ^ zs.length + 2147483647 * t := by
  induction zs with
  | nil => intro a b; exact ⟨0, by show a - b = (a - b) * 1000003 ^ 0 + 2147483647 * 0; simp⟩
  | cons z zs ih =>
    intro a b
    obtain ⟨t, ht⟩ := ih (hstep a z) (hstep b z)
    obtain ⟨s, hs⟩ : ∃ s : Int, hstep a z - hstep b z = (a - b) * 1000003 + 2147483647 * s := by
      refine ⟨(b * 1000003 + z % 2147483647 + 13) / 2147483647 - (a * 1000003 + z % 2147483647 + 13) / 2147483647, ?_⟩
      unfold hstep
      omega
    refine ⟨s * 1000003 ^ zs.length + t, ?_⟩
    show hfold (hstep a z) zs - hfold (hstep b z) zs = _
    rw [ht, hs, List.length_cons, Int.pow_succ]
    grind
theorem khl1 {A B d s t : Int} (ht : A - B = (d + 2147483647 * s) * (1135908413 + 2147483647 * 465692022137685493906124910862426348423702814236496974789126068795153873260722643469427665632302198585574104008358684725668) + 2147483647 * t) : ∃ t' : Int, A - B = d * 1135908413 + 2147483647 * t' := by
  refine ⟨d * 465692022137685493906124910862426348423702814236496974789126068795153873260722643469427665632302198585574104008358684725668 + s * (1135908413 + 2147483647 * 465692022137685493906124910862426348423702814236496974789126068795153873260722643469427665632302198585574104008358684725668) + t, ?_⟩
  rw [ht, Int.add_mul, Int.mul_add]
  simp only [Int.mul_add, Int.mul_assoc, Int.mul_left_comm, Int.mul_comm, Int.add_assoc, Int.add_left_comm, Int.add_comm]
theorem khl0 (P C U V d q : Int) (h1 : d * C = P * q) (h2 : C * U = 1 + P * V) : d = P * (q * U - d * V) := by
  have h3 : d * (C * U) = P * q * U := by rw [← Int.mul_assoc, h1]
  rw [h2, Int.mul_add, Int.mul_one, Int.mul_left_comm] at h3
  rw [Int.mul_sub, ← Int.mul_assoc]
  omega
theorem khl6 (P M K d t r : Int) (hr : (d * M + P * t) * K + d = P * r) : d * (M * K + 1) = P * (r - K * t) := by
  rw [Int.mul_sub, Int.mul_add, Int.mul_one, ← Int.mul_assoc]
  rw [Int.add_mul, Int.mul_assoc P t K, Int.mul_comm t K] at hr
  omega
theorem khl7 : ((1135908413 : Int) * 1000003 + 1) * 927054385 = 1 + 2147483647 * 490365566158217 := by kernel_rfl
theorem khl2 {d r t : Int} (hr : (d * 1135908413 + 2147483647 * t) * 1000003 + d = 2147483647 * r) : ∃ x : Int, d = 2147483647 * x :=
  ⟨(r - 1000003 * t) * 927054385 - d * 490365566158217, khl0 2147483647 (1135908413 * 1000003 + 1) 927054385 490365566158217 d (r - 1000003 * t) (khl6 2147483647 1135908413 1000003 d t r hr) khl7⟩
theorem khl3 {k l x : Int} (hk : 1 ≤ k ∧ k ≤ 2147483646) (hl : 1 ≤ l ∧ l ≤ 2147483646) (hne : k ≠ l) (h : k - l = 2147483647 * x) : False := by omega
theorem khl4 (k l : Int) : ∃ s : Int, hstep 11 k - hstep 11 l = k - l + 2147483647 * s := by
  refine ⟨(k / 2147483647 - l / 2147483647) * (-1) + ((11 * 1000003 + l % 2147483647 + 13) / 2147483647 - (11 * 1000003 + k % 2147483647 + 13) / 2147483647), ?_⟩
  unfold hstep
  omega
theorem khl5 {A B k l : Int} (e : hstep A k = hstep B l) : ∃ r : Int, (A - B) * 1000003 + (k - l) = 2147483647 * r := by
  refine ⟨(k / 2147483647 - l / 2147483647) + ((A * 1000003 + k % 2147483647 + 13) / 2147483647 - (B * 1000003 + l % 2147483647 + 13) / 2147483647), ?_⟩
  unfold hstep at e
  omega
theorem khpow : (1000003 : Int) ^ 22 = 1135908413 + 2147483647 * 465692022137685493906124910862426348423702814236496974789126068795153873260722643469427665632302198585574104008358684725668 := by kernel_rfl
theorem kh_key_ne {k l : Int} {zs : List Int} (hz : zs.length = 22) (hk : 1 ≤ k ∧ k ≤ 2147483646) (hl : 1 ≤ l ∧ l ≤ 2147483646) (hne : k ≠ l) : kh k zs ≠ kh l zs := by
  intro e
  have e1 : ∀ x, kh x zs = hstep (hfold (hstep 11 x) zs) x := by
    intro x
    unfold kh
    rw [← List.cons_append, hfold_append]
    rfl
  rw [e1, e1] at e
  obtain ⟨t, ht⟩ := hfold_lin zs (hstep 11 k) (hstep 11 l)
  rw [hz] at ht
  obtain ⟨A, hA⟩ : ∃ A, A = hfold (hstep 11 k) zs := ⟨_, rfl⟩
  obtain ⟨B, hB⟩ : ∃ B, B = hfold (hstep 11 l) zs := ⟨_, rfl⟩
  rw [← hA, ← hB] at ht e
  clear hA hB e1 hz
  obtain ⟨s, hs⟩ := khl4 k l
  obtain ⟨r, hr⟩ := khl5 e
  rw [hs, khpow] at ht
  obtain ⟨t', ht'⟩ := khl1 ht
  rw [ht'] at hr
  obtain ⟨x, hx⟩ := khl2 hr
  exact khl3 hk hl hne hx

end Go.Proofs.Ytlbijjifeaimjaa
