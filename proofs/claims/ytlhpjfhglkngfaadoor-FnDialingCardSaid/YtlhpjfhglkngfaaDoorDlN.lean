/- Dialing as numbers and lists: identities, shared keys, rows of invitations, invitations made and opened, safety numbers. Pure. No conditions but those that are named. -/
import Derived.Test.YtlhpjfhglkngfaaDoorBcP
import Derived.Test.YtlhpjfhglkngfaaDoorClN
import Derived.Test.YtlhpjfhglkngfaaDoorClP
import Derived.Test.YtlhpjfhglkngfaaDoorMbN
import Derived.Test.YtlhpjfhglkngfaaDoorBcX
namespace Go.Proofs.YtlhpjfhglkngfaaDoor
open Go Go.RowKit
set_option linter.unusedVariables false
set_option maxRecDepth 20000
attribute [local irreducible] kh kid pwm tcm pw

/-- NewIdentity: the secret and the public key. -/
def idS (s : Int) : Int := s % 1019
def idP (s : Int) : Int := if s % 1019 = 0 then 0 else pwG 4 (s % 1019)
/-- IsValidIdentity. -/
def okId (s p : Int) : Bool := inR s 1 1018 && (p == pwG 4 s)
/-- SharedKey. -/
def skq (s p : Int) : Bool := isG p && (!(p == 1) && nz s)
def skey (s p : Int) : Int := if skq s p = true then mx (kh (pwG p s) [107]) 1 else 0
/-- DialRow. -/
def drow (p r n : Int) : Int := if rowq r n = true then kid (kh p [109, r]) 0 % n else -1
/-- The body of an invitation. -/
def ibody (p : Int) : List Int := [p % 256, p / 256 % 256]
/-- MakeInvitation. -/
def iok (s p c r : Int) : Bool := okId s p && (!(skey s c == 0) && sok (skey s c) r 2 (ibody p))
def icell (s p c r : Int) : List Int := if iok s p c r = true then sealL (skey s c) r 2 (ibody p) else []
/-- OpenInvitation: whether a contact's key opens it; the first that does. -/
def oq (s r : Int) (b : List Int) (c : Int) : Bool := ook (skey s c) r b && (ocK (skey s c) r b == 2 && (ocB (skey s c) r b == ibody c))
def ofn (s r : Int) (b cs : List Int) : Nat := (cs.takeWhile (fun c => !oq s r b c)).length
def opB (s p : Int) (cs : List Int) (r : Int) (b : List Int) : Bool := okId s p && decide (ofn s r b cs < cs.length)
def opI (s p : Int) (cs : List Int) (r : Int) (b : List Int) : Int := if opB s p cs r b = true then (ofn s r b cs : Int) else -1
def opK (s p : Int) (cs : List Int) (r : Int) (b : List Int) : Int := if opB s p cs r b = true then skey s (cs.getD (ofn s r b cs) 0) else 0
/-- SafetyNumber. -/
def safe (a b : Int) : Int := kh 113 [mn a b, mx a b] % 1000000

theorem ofn_le (s r : Int) (b cs : List Int) : ofn s r b cs ≤ cs.length := List.Sublist.length_le (List.takeWhile_sublist _)
/-- The first that succeeds, as a loop finds it. -/
theorem ofn_is {s r : Int} {b cs : List Int} {j : Nat} (hj : j ≤ cs.length) (h1 : ∀ i, i < j → oq s r b (cs.getD i 0) = false) (h2 : j < cs.length → oq s r b (cs.getD j 0) = true) : ofn s r b cs = j := by
  induction cs generalizing j with
  | nil =>
    have : j = 0 := Nat.le_zero.1 hj
    subst this; rfl
  | cons c cs ih =>
    cases j with
    | zero =>
      have h := h2 (by simp)
      have hc : oq s r b c = true := h
      unfold ofn
      rw [List.takeWhile_cons, hc]
      rfl
    | succ j =>
      have hc : oq s r b c = false := h1 0 (by omega)
      have hr := ih (j := j) (by simpa using hj) (fun i hi => h1 (i + 1) (by omega)) (fun h => h2 (by simpa using h))
      unfold ofn at hr ⊢
      rw [List.takeWhile_cons, hc]
      simp [hr]
theorem op_no {s p r : Int} {cs b : List Int} (h : opB s p cs r b = false) : opI s p cs r b = -1 ∧ opK s p cs r b = 0 := ⟨if_neg (by rw [h]; decide), if_neg (by rw [h]; decide)⟩
theorem op_yes {s p r : Int} {cs b : List Int} (h : opB s p cs r b = true) : opI s p cs r b = (ofn s r b cs : Int) ∧ opK s p cs r b = skey s (cs.getD (ofn s r b cs) 0) := ⟨if_pos h, if_pos h⟩
theorem op_bad {s p : Int} (h : okId s p = false) (r : Int) (cs b : List Int) : opB s p cs r b = false := by unfold opB; rw [h]; rfl
theorem op_none {s p r : Int} {cs b : List Int} (h : ∀ i, i < cs.length → oq s r b (cs.getD i 0) = false) : opB s p cs r b = false := by
  have := ofn_is (s := s) (r := r) (b := b) (cs := cs) (j := cs.length) (Nat.le_refl _) h (fun h => absurd h (by omega))
  unfold opB
  rw [this, decide_eq_false (by omega), Bool.and_false]
theorem op_found {s p r : Int} {cs b : List Int} {j : Nat} (hv : okId s p = true) (hj : j < cs.length) (h1 : ∀ i, i < j → oq s r b (cs.getD i 0) = false) (h2 : oq s r b (cs.getD j 0) = true) :
    opB s p cs r b = true ∧ opI s p cs r b = (j : Int) ∧ opK s p cs r b = skey s (cs.getD j 0) := by
  have h := ofn_is (s := s) (r := r) (b := b) (cs := cs) (j := j) (by omega) h1 (fun _ => h2)
  have hB : opB s p cs r b = true := by unfold opB; rw [hv, h, decide_eq_true hj]; rfl
  obtain ⟨h3, h4⟩ := op_yes hB
  rw [h] at h3 h4
  exact ⟨hB, h3, h4⟩
theorem ic_no {s p c r : Int} (h : iok s p c r = false) : icell s p c r = [] := if_neg (by rw [h]; decide)
theorem ic_yes {s p c r : Int} (h : iok s p c r = true) : icell s p c r = sealL (skey s c) r 2 (ibody p) := if_pos h
theorem icell_len (s p c r : Int) : (icell s p c r).length ≤ 24 := by
  unfold icell; split
  · exact sealL_len _ _ _ _
  · simp
theorem sk_no {s p : Int} (h : skq s p = false) : skey s p = 0 := if_neg (by rw [h]; decide)
theorem sk_yes {s p : Int} (h : skq s p = true) : skey s p = mx (kh (pwG p s) [107]) 1 := if_pos h
theorem skey_bound (s p : Int) : 0 ≤ skey s p ∧ skey s p ≤ 2147483646 := by
  have := kh_bound (pwG p s) [107]
  unfold skey
  split
  · unfold mx; split <;> omega
  · omega
theorem skey_pos {s p : Int} (h : skq s p = true) : 1 ≤ skey s p ∧ skey s p ≤ 2147483646 := by
  have := kh_bound (pwG p s) [107]
  rw [sk_yes h]
  unfold mx; split <;> omega
theorem skey_wf (s p : Int) : (Lit.int .i64 (skey s p)).wf = true := by
  have := skey_bound s p
  exact wf_i64_of (by omega) (by omega)
theorem drow_yes {p r n : Int} (h : rowq r n = true) : drow p r n = kid (kh p [109, r]) 0 % n := if_pos h
theorem drow_no {p r n : Int} (h : rowq r n = false) : drow p r n = -1 := if_neg (by rw [h]; decide)
theorem drow_in {p r n : Int} (h : rowq r n = true) : 0 ≤ drow p r n ∧ drow p r n < n := by
  obtain ⟨⟨h1, _⟩, _⟩ := rowq_iff.1 h
  rw [drow_yes h]
  exact ⟨Int.emod_nonneg _ (by omega), Int.emod_lt_of_pos _ (by omega)⟩
theorem idS_bound (s : Int) : 0 ≤ idS s ∧ idS s ≤ 1018 := by unfold idS; omega
theorem idP_bound (s : Int) : 0 ≤ idP s ∧ idP s ≤ 2038 := by
  have := pwG_bound 4 (s % 1019)
  unfold idP; split <;> omega
theorem ibody_u8 (p : Int) : U8s (ibody p) := by
  intro z hz
  unfold ibody at hz
  simp only [List.mem_cons, List.not_mem_nil, or_false] at hz
  rcases hz with rfl | rfl
  · exact wf_u8_of (by omega) (by omega)
  · exact wf_u8_of (by omega) (by omega)
theorem ibody_inj {p q : Int} (hp : 0 ≤ p ∧ p ≤ 65535) (hq : 0 ≤ q ∧ q ≤ 65535) (h : ibody p = ibody q) : p = q := by
  unfold ibody at h
  simp only [List.cons.injEq, and_true] at h
  omega
theorem safe_turn (a b : Int) : safe a b = safe b a := by
  unfold safe
  have h1 : mn a b = mn b a := by unfold mn; split <;> split <;> omega
  have h2 : mx a b = mx b a := by unfold mx; split <;> split <;> omega
  rw [h1, h2]
theorem safe_bound (a b : Int) : 0 ≤ safe a b ∧ safe a b < 1000000 := by
  have := kh_bound 113 [mn a b, mx a b]
  unfold safe; omega

/-! ### Two persons -/
theorem okId_new {s : Int} (h : 1 ≤ s ∧ s ≤ 1018) : okId s (pwG 4 s) = true := by
  unfold okId inR
  rw [beq_self_eq_true]
  simp [h.1, h.2]
theorem idP_new {s : Int} (h : 1 ≤ s ∧ s ≤ 1018) : idS s = s ∧ idP s = pwG 4 s := by
  have : s % 1019 = s := by omega
  unfold idS idP
  rw [this, if_neg (by omega)]
  exact ⟨rfl, rfl⟩
theorem pub_ok {s : Int} (h : 1 ≤ s ∧ s ≤ 1018) : isG (pwG 4 s) = true ∧ pwG 4 s ≠ 1 := ⟨pwG_el isG_four s, pwG_ne1 isG_four (by omega) (by omega)⟩
theorem skq_two {a b : Int} (ha : 1 ≤ a ∧ a ≤ 1018) (hb : 1 ≤ b ∧ b ≤ 1018) : skq a (pwG 4 b) = true := by
  obtain ⟨h1, h2⟩ := pub_ok hb
  unfold skq nz
  rw [h1, beq_eq_false_iff_ne.2 h2, beq_eq_false_iff_ne.2 (show a % 1019 ≠ 0 by omega)]
  rfl
/-- Both compute the same key. -/
theorem skey_comm {a b : Int} (ha : 1 ≤ a ∧ a ≤ 1018) (hb : 1 ≤ b ∧ b ≤ 1018) : skey a (pwG 4 b) = skey b (pwG 4 a) := by
  rw [sk_yes (skq_two ha hb), sk_yes (skq_two hb ha), pwG_mul isG_four, pwG_mul isG_four, Int.mul_comm]
theorem pub_inj {a b : Int} (ha : 1 ≤ a ∧ a ≤ 1018) (hb : 1 ≤ b ∧ b ≤ 1018) (h : pwG 4 a = pwG 4 b) : a = b := by
  rw [pwG_yes isG_four, pwG_yes isG_four] at h
  have := pw_inj isG_four (by omega) (a := (a % 1019).toNat) (b := (b % 1019).toNat) (by omega) (by omega) h
  omega
/-- An invitation between two persons. -/
theorem iok_two {a b r : Int} (ha : 1 ≤ a ∧ a ≤ 1018) (hb : 1 ≤ b ∧ b ≤ 1018) (hr : 0 ≤ r ∧ r ≤ 1000000000000) : iok a (pwG 4 a) (pwG 4 b) r = true ∧ sok (skey a (pwG 4 b)) r 2 (ibody (pwG 4 a)) = true := by
  have hk := skey_pos (skq_two ha hb)
  have hs : sok (skey a (pwG 4 b)) r 2 (ibody (pwG 4 a)) = true := by
    unfold sok okPlain inR
    simp only [Bool.and_eq_true, decide_eq_true_eq]
    exact ⟨hk, hr, by omega, show (2 : Nat) ≤ 14 by decide⟩
  refine ⟨?_, hs⟩
  unfold iok
  rw [okId_new ha, hs, beq_eq_false_iff_ne.2 (by omega)]
  rfl
theorem oq_one (s r : Int) (b : List Int) : oq s r b 1 = false := by
  unfold oq
  have h : skey s 1 = 0 := sk_no (by unfold skq; simp)
  rw [h]
  have : ook 0 r b = false := by unfold ook inR; simp
  rw [this]; rfl
/-- The callee finds the caller. -/
theorem oq_caller {a b r : Int} (ha : 1 ≤ a ∧ a ≤ 1018) (hb : 1 ≤ b ∧ b ≤ 1018) (hr : 0 ≤ r ∧ r ≤ 1000000000000) : oq b r (icell a (pwG 4 a) (pwG 4 b) r) (pwG 4 a) = true := by
  obtain ⟨h1, h2⟩ := iok_two ha hb hr
  have hu := ibody_u8 (pwG 4 a)
  unfold oq
  rw [ic_yes h1, ← skey_comm ha hb, ook_seal h2 hu, ocK_seal h2 hu, ocB_seal h2 hu]
  simp
/-- Nobody else is found. -/
theorem oq_stranger {a b c r : Int} (ha : 1 ≤ a ∧ a ≤ 1018) (hb : 1 ≤ b ∧ b ≤ 1018) (hc : 1 ≤ c ∧ c ≤ 1018) (hne : c ≠ a) (hr : 0 ≤ r ∧ r ≤ 1000000000000) : oq b r (icell a (pwG 4 a) (pwG 4 b) r) (pwG 4 c) = false := by
  obtain ⟨h1, h2⟩ := iok_two ha hb hr
  have hu := ibody_u8 (pwG 4 a)
  unfold oq
  rw [ic_yes h1]
  by_cases hk : skey b (pwG 4 c) = skey a (pwG 4 b)
  · rw [hk, ocB_seal h2 hu]
    have h3 : (ibody (pwG 4 a) == ibody (pwG 4 c)) = false := beq_eq_false_iff_ne.2 (fun h => by
      have b1 := pwG_bound 4 a
      have b2 := pwG_bound 4 c
      exact hne (pub_inj hc ha (ibody_inj (by omega) (by omega) h).symm))
    rw [h3]; simp
  · rw [ook_key h2 (skey_pos (skq_two hb hc)) hk]; rfl
/-- In another round it is not opened. -/
theorem oq_late {a b c r : Int} (ha : 1 ≤ a ∧ a ≤ 1018) (hb : 1 ≤ b ∧ b ≤ 1018) (hr : 0 ≤ r ∧ r ≤ 1000) : oq b (r + 1) (icell a (pwG 4 a) (pwG 4 b) r) (pwG 4 a) = false := by
  obtain ⟨h1, h2⟩ := iok_two ha hb (r := r) (by omega)
  unfold oq
  rw [ic_yes h1, ← skey_comm ha hb, ook_counter h2 (by omega)]
  rfl

end Go.Proofs.YtlhpjfhglkngfaaDoor
