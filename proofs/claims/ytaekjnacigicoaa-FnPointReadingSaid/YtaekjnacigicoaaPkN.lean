/- Point keys, as lists and numbers. No program. -/
import Derived.Test.YtaekjnacigicoaaBbR
import Derived.Test.YtaekjnacigicoaaBa1
namespace Go.Proofs.Ytaekjnacigicoaa
open Go Go.RowKit
set_option linter.unusedVariables false
attribute [local irreducible] kh

/-- Exclusive or of two integers. -/
def xo (a b : Int) : Int := bits .xor .i64 a b
theorem xo_eq (a b : Int) : xo a b = wrap64 ((BitVec.ofInt 64 a ^^^ BitVec.ofInt 64 b).toNat : Nat) := by
  show IntKind.i64.wrap ((BitVec.ofInt 64 a ^^^ BitVec.ofInt 64 b).toNat : Nat) = _
  rw [IntKind.wrap_i64]
  generalize ((BitVec.ofInt 64 a ^^^ BitVec.ofInt 64 b).toNat : Int) = z
  unfold wrap64
  omega
theorem ofInt_wrap (x : Int) : BitVec.ofInt 64 (wrap64 x) = BitVec.ofInt 64 x := by
  apply BitVec.eq_of_toNat_eq
  rw [BitVec.toNat_ofInt, BitVec.toNat_ofInt]
  unfold wrap64
  have e64 : ((2 ^ 64 : Nat) : Int) = 18446744073709551616 := by decide
  rw [e64]
  omega
theorem ofInt_toNat (v : BitVec 64) : BitVec.ofInt 64 ((v.toNat : Nat) : Int) = v := by
  apply BitVec.eq_of_toNat_eq
  rw [BitVec.toNat_ofInt]
  have := v.isLt
  have e64 : ((2 ^ 64 : Nat) : Int) = 18446744073709551616 := by decide
  have e64' : (2 ^ 64 : Nat) = 18446744073709551616 := by decide
  rw [e64]
  omega
theorem xo_bv (a b : Int) : BitVec.ofInt 64 (xo a b) = BitVec.ofInt 64 a ^^^ BitVec.ofInt 64 b := by
  rw [xo_eq, ofInt_wrap, ofInt_toNat]
theorem xo_wf (a b : Int) : (Lit.int .i64 (xo a b)).wf = true := by
  rw [xo_eq]
  refine wf_i64_of ?_ ?_ <;> unfold wrap64 <;> omega
theorem bv_inj {a b : Int} (ha : (Lit.int .i64 a).wf = true) (hb : (Lit.int .i64 b).wf = true) (h : BitVec.ofInt 64 a = BitVec.ofInt 64 b) : a = b := by
  have h1 := congrArg BitVec.toNat h
  rw [BitVec.toNat_ofInt, BitVec.toNat_ofInt] at h1
  have e64 : ((2 ^ 64 : Nat) : Int) = 18446744073709551616 := by decide
  rw [e64] at h1
  have := wf_i64 ha
  have := wf_i64 hb
  omega
theorem xo_zero {a : Int} (ha : (Lit.int .i64 a).wf = true) : xo a 0 = a := by
  refine bv_inj (xo_wf _ _) ha ?_
  rw [xo_bv]
  simp
/-- What was added is taken away. -/
theorem xo_back {a b : Int} (ha : (Lit.int .i64 a).wf = true) : xo b (xo a b) = a := by
  refine bv_inj (xo_wf _ _) ha ?_
  rw [xo_bv, xo_bv, BitVec.xor_comm (BitVec.ofInt 64 a), ← BitVec.xor_assoc]
  simp
theorem xo_back' {a b : Int} (hb : (Lit.int .i64 b).wf = true) : xo a (xo a b) = b := by
  refine bv_inj (xo_wf _ _) hb ?_
  rw [xo_bv, xo_bv, ← BitVec.xor_assoc]
  simp
theorem xo_bit {a b : Int} (ha : a = 0 ∨ a = 1) (hb : b = 0 ∨ b = 1) : xo a b = if a = b then 0 else 1 := by
  rcases ha with rfl | rfl <;> rcases hb with rfl | rfl <;> decide
theorem xo_bit01 {a b : Int} (ha : a = 0 ∨ a = 1) (hb : b = 0 ∨ b = 1) : xo a b = 0 ∨ xo a b = 1 := by
  rw [xo_bit ha hb]
  split
  · exact .inl rfl
  · exact .inr rfl
theorem xo_lt {a b : Int} (ha : 0 ≤ a ∧ a ≤ 2147483647) (hb : 0 ≤ b ∧ b ≤ 2147483647) : 0 ≤ xo a b ∧ xo a b ≤ 2147483647 := by
  obtain ⟨m, rfl⟩ : ∃ m : Nat, a = m := ⟨a.toNat, by omega⟩
  obtain ⟨n, rfl⟩ : ∃ n : Nat, b = n := ⟨b.toNat, by omega⟩
  have h : m ^^^ n < 2 ^ 31 := Nat.xor_lt_two_pow (by omega) (by omega)
  have e : (BitVec.ofInt 64 (m : Int) ^^^ BitVec.ofInt 64 (n : Int)).toNat = m ^^^ n := by
    rw [BitVec.toNat_xor, BitVec.toNat_ofInt, BitVec.toNat_ofInt]
    congr 1 <;> omega
  rw [xo_eq, e]
  have e31 : (2 : Nat) ^ 31 = 2147483648 := by decide
  unfold wrap64
  omega

/-! ### Corrections, nodes, leaves -/

/-- A correction: its seed, its left and its right bit. -/
abbrev Cor := Int × Int × Int
def cok (c : Cor) : Prop := (Lit.int .i64 c.1).wf = true ∧ (Lit.int .i64 c.2.1).wf = true ∧ (Lit.int .i64 c.2.2).wf = true

def evN (s t sd : Int) (c : Cor) : Int × Int :=
  if inR sd 0 1 = true then
    if t = 1 then (xo (kid s sd) c.1, xo (ctl s sd) (if sd = 0 then c.2.1 else c.2.2)) else (kid s sd, ctl s sd)
  else (0, 0)

theorem ctl_bit (s c : Int) : ctl s c = 0 ∨ ctl s c = 1 := by rw [ctl_eq]; omega
theorem ctl_wf (s c : Int) : (Lit.int .i64 (ctl s c)).wf = true := by
  rcases ctl_bit s c with h | h <;> rw [h] <;> decide
theorem evN_wf1 (s t sd : Int) (c : Cor) : (Lit.int .i64 (evN s t sd c).1).wf = true := by
  unfold evN
  split
  · split
    · exact xo_wf _ _
    · exact kid_wf _ _
  · decide
theorem evN_wf2 (s t sd : Int) (c : Cor) : (Lit.int .i64 (evN s t sd c).2).wf = true := by
  unfold evN
  split
  · split
    · exact xo_wf _ _
    · exact ctl_wf _ _
  · decide

/-- The node at a leaf, from a node with all the corrections below it. -/
def lf : Int × Int → List Cor → Nat → Int × Int
  | st, [], _ => st
  | st, c :: cs, i => lf (evN st.1 st.2 (bt i cs.length) c) cs i
theorem lf_nil (st : Int × Int) (i : Nat) : lf st [] i = st := rfl
theorem lf_cons (st : Int × Int) (c : Cor) (cs : List Cor) (i : Nat) : lf st (c :: cs) i = lf (evN st.1 st.2 (bt i cs.length) c) cs i := rfl
/-- One step of a loop over the corrections. -/
theorem lf_step {st : Int × Int} {cs : List Cor} {j : Nat} {c : Cor} (h : cs[j]? = some c) (i : Nat) : lf st (cs.drop j) i = lf (evN st.1 st.2 (bt i (cs.length - 1 - j)) c) (cs.drop (j + 1)) i := by
  have hj := (List.getElem?_eq_some_iff.1 h).1
  have e : cs.drop j = c :: cs.drop (j + 1) := by
    rw [List.drop_eq_getElem_cons hj]
    congr 1
    rw [List.getElem?_eq_getElem hj] at h
    exact Option.some.inj h
  rw [e, lf_cons, List.length_drop]
  congr 3
  omega

/-- Valid keys. -/
def vcor (c : Cor) : Bool := inR c.1 0 4294967295 && inR c.2.1 0 1 && inR c.2.2 0 1
def vk (r b : Int) (cs : List Cor) : Bool := inR r 0 2147483646 && (inR b 0 1 && (inR (cs.length : Int) 1 6 && cs.all vcor))
theorem vk_len {r b : Int} {cs : List Cor} (h : vk r b cs = true) : 1 ≤ cs.length ∧ cs.length ≤ 6 := by
  unfold vk inR at h
  simp at h
  omega

def ept (r b : Int) (cs : List Cor) (i : Int) : Int := if (vk r b cs && leafOk cs.length i) = true then (lf (r, b) cs i.toNat).2 else 0
def eall (r b : Int) (cs : List Cor) : List Int := if vk r b cs = true then (List.range (2 ^ cs.length)).map (fun i => (lf (r, b) cs i).2) else []
def cints (cs : List Cor) : List Int := cs.flatMap fun c => [c.1, c.2.1, c.2.2]
def pkInts (r b : Int) (cs : List Cor) : List Int := [r, b, (cs.length : Int)] ++ cints cs
theorem cints_take {cs : List Cor} {j : Nat} {c : Cor} (h : cs[j]? = some c) : cints (cs.take (j + 1)) = cints (cs.take j) ++ [c.1, c.2.1, c.2.2] := by
  have hj := (List.getElem?_eq_some_iff.1 h).1
  rw [List.take_add_one, h]
  simp [cints]
theorem cints_len (cs : List Cor) : (cints cs).length = 3 * cs.length := by
  induction cs with
  | nil => rfl
  | cons c l ih => simp [cints] at ih ⊢; omega
def sav (d : Int) : Int := if inR d 1 6 = true then 2 ^ d.toNat - (2 + 3 * d) else 0

/-- The correction for two nodes. -/
def cor1 (a b sd : Int) : Cor := (xo (kid a (1 - sd)) (kid b (1 - sd)), xo (xo (ctl a 0) (ctl b 0)) (1 - sd), xo (xo (ctl a 1) (ctl b 1)) sd)
theorem cor1_ok (a b sd : Int) : cok (cor1 a b sd) := ⟨xo_wf _ _, xo_wf _ _, xo_wf _ _⟩
/-- The corrections of d levels. -/
def mkc : Nat → Nat → Int × Int → Int × Int → List Cor
  | 0, _, _, _ => []
  | d + 1, p, a, b => cor1 a.1 b.1 (bt p d) :: mkc d p (evN a.1 a.2 (bt p d) (cor1 a.1 b.1 (bt p d))) (evN b.1 b.2 (bt p d) (cor1 a.1 b.1 (bt p d)))
theorem mkc_len (d p : Nat) (a b : Int × Int) : (mkc d p a b).length = d := by
  induction d generalizing a b with
  | zero => rfl
  | succ d ih => rw [mkc, List.length_cons, ih]
theorem mkc_ok (d p : Nat) (a b : Int × Int) : ∀ c ∈ mkc d p a b, cok c := by
  induction d generalizing a b with
  | zero => intro c hc; simp [mkc] at hc
  | succ d ih =>
    intro c hc
    rw [mkc] at hc
    rcases List.mem_cons.1 hc with rfl | hc
    · exact cor1_ok _ _ _
    · exact ih _ _ c hc

def pkOk (d p ra rb : Int) : Bool := decide (1 ≤ d) && leafOk d p && inR ra 0 2147483646 && inR rb 0 2147483646
theorem pkOk_iff {d p ra rb : Int} : pkOk d p ra rb = true ↔ ∃ D I : Nat, d = D ∧ p = I ∧ 1 ≤ D ∧ D ≤ 6 ∧ I < 2 ^ D ∧ (0 ≤ ra ∧ ra ≤ 2147483646) ∧ (0 ≤ rb ∧ rb ≤ 2147483646) := by
  unfold pkOk
  rw [Bool.and_eq_true, Bool.and_eq_true, Bool.and_eq_true, leafOk_iff]
  simp only [decide_eq_true_eq, inR, Bool.and_eq_true]
  constructor
  · rintro ⟨⟨⟨h1, D, I, rfl, rfl, h2, h3⟩, h4⟩, h5⟩
    exact ⟨D, I, rfl, rfl, by omega, h2, h3, h4, h5⟩
  · rintro ⟨D, I, rfl, rfl, h1, h2, h3, h4, h5⟩
    exact ⟨⟨⟨by omega, D, I, rfl, rfl, h2, h3⟩, h4⟩, h5⟩
def pcs (d p ra rb : Int) : List Cor := if pkOk d p ra rb = true then mkc d.toNat p.toNat (ra, 0) (rb, 1) else []
def prt (d p ra rb r : Int) : Int := if pkOk d p ra rb = true then r else 0

end Go.Proofs.Ytaekjnacigicoaa
