/- What the properties of point keys need: their leaves differ at the point alone. No program. -/
import Derived.Test.YtaekjnacigicoaaPkN
import Derived.Test.YtaekjnacigicoaaSelN
import Derived.Test.YtaekjnacigicoaaEnc2
namespace Go.Proofs.Ytaekjnacigicoaa
open Go Go.RowKit
set_option linter.unusedVariables false
attribute [local irreducible] kh

/-- A bit. -/
def is01 (x : Int) : Prop := x = 0 ∨ x = 1
theorem inR_01 {x : Int} : inR x 0 1 = true ↔ is01 x := by
  unfold inR is01
  rw [Bool.and_eq_true, decide_eq_true_eq, decide_eq_true_eq]
  omega
theorem bt_01 (i L : Nat) : is01 (bt i L) := by have := bt_bound i L; unfold is01; omega
theorem bt_ne {i j L : Nat} (h : bt i L ≠ bt j L) : bt i L = 1 - bt j L := by have := bt_bound i L; have := bt_bound j L; omega

theorem z01 : ((0 : Int) = 1) = False := by decide
theorem zne : (0 : Int) ≠ 1 := by decide
theorem z10 : ((1 : Int) = 0) = False := by decide

/-- On the point's side the bits differ. -/
theorem ev_on {a b : Int × Int} {sd : Int} (h : is01 sd) (ha : is01 a.2) (hb : is01 b.2) (hd : a.2 ≠ b.2) : (evN a.1 a.2 sd (cor1 a.1 b.1 sd)).2 ≠ (evN b.1 b.2 sd (cor1 a.1 b.1 sd)).2 := by
  obtain ⟨s, t⟩ := a
  obtain ⟨s', t'⟩ := b
  simp only at ha hb hd ⊢
  unfold evN
  rw [if_pos (inR_01.2 h), if_pos (inR_01.2 h)]
  unfold cor1
  simp only
  rcases h with rfl | rfl <;> rcases ha with rfl | rfl <;> rcases hb with rfl | rfl <;> simp only [ne_eq, not_true_eq_false, z01, z10, if_true, if_false] at hd ⊢
  · rcases ctl_bit s 0 with h1 | h1 <;> rcases ctl_bit s' 0 with h2 | h2 <;> rw [h1, h2] <;> decide
  · rcases ctl_bit s 0 with h1 | h1 <;> rcases ctl_bit s' 0 with h2 | h2 <;> rw [h1, h2] <;> decide
  · rcases ctl_bit s 1 with h1 | h1 <;> rcases ctl_bit s' 1 with h2 | h2 <;> rw [h1, h2] <;> decide
  · rcases ctl_bit s 1 with h1 | h1 <;> rcases ctl_bit s' 1 with h2 | h2 <;> rw [h1, h2] <;> decide

/-- On the other side the nodes are equal. -/
theorem ev_off {a b : Int × Int} {sd : Int} (h : is01 sd) (ha : is01 a.2) (hb : is01 b.2) (hd : a.2 ≠ b.2) : evN a.1 a.2 (1 - sd) (cor1 a.1 b.1 sd) = evN b.1 b.2 (1 - sd) (cor1 a.1 b.1 sd) := by
  obtain ⟨s, t⟩ := a
  obtain ⟨s', t'⟩ := b
  simp only at ha hb hd ⊢
  have h' : is01 (1 - sd) := by unfold is01 at h ⊢; omega
  unfold evN
  rw [if_pos (inR_01.2 h'), if_pos (inR_01.2 h')]
  unfold cor1
  simp only
  rcases h with rfl | rfl
  · rw [show (1 : Int) - 0 = 1 from rfl]
    have e0 : xo (xo (ctl s 1) (ctl s' 1)) 0 = xo (ctl s 1) (ctl s' 1) := xo_zero (xo_wf _ _)
    rcases ha with rfl | rfl <;> rcases hb with rfl | rfl <;> simp only [ne_eq, not_true_eq_false, z01, z10, if_true, if_false] at hd ⊢
    · rw [e0, xo_back (kid_wf _ _), xo_back (ctl_wf _ _)]
    · rw [e0, xo_back' (kid_wf _ _), xo_back' (ctl_wf _ _)]
  · rw [show (1 : Int) - 1 = 0 from rfl]
    have e0 : xo (xo (ctl s 0) (ctl s' 0)) 0 = xo (ctl s 0) (ctl s' 0) := xo_zero (xo_wf _ _)
    rcases ha with rfl | rfl <;> rcases hb with rfl | rfl <;> simp only [ne_eq, not_true_eq_false, z01, z10, if_true, if_false] at hd ⊢
    · rw [e0, xo_back (kid_wf _ _), xo_back (ctl_wf _ _)]
    · rw [e0, xo_back' (kid_wf _ _), xo_back' (ctl_wf _ _)]

/-- Corrections whose bits are bits. -/
def cb (c : Cor) : Prop := is01 c.2.1 ∧ is01 c.2.2
theorem cor1_cb (a b : Int) {sd : Int} (h : is01 sd) : cb (cor1 a b sd) := by
  have h' : is01 (1 - sd) := by unfold is01 at h ⊢; omega
  exact ⟨xo_bit01 (xo_bit01 (ctl_bit _ _) (ctl_bit _ _)) h', xo_bit01 (xo_bit01 (ctl_bit _ _) (ctl_bit _ _)) h⟩
theorem ev_01 (s t sd : Int) {c : Cor} (h : cb c) : is01 (evN s t sd c).2 := by
  unfold evN
  split
  · split
    · refine xo_bit01 (ctl_bit _ _) ?_
      split
      · exact h.1
      · exact h.2
    · exact ctl_bit _ _
  · exact .inl rfl
theorem mkc_cb (d p : Nat) (a b : Int × Int) : ∀ c ∈ mkc d p a b, cb c := by
  induction d generalizing a b with
  | zero => intro c hc; simp [mkc] at hc
  | succ d ih =>
    intro c hc
    rw [mkc] at hc
    rcases List.mem_cons.1 hc with rfl | hc
    · exact cor1_cb _ _ (bt_01 _ _)
    · exact ih _ _ c hc
theorem mkc_seed (d p : Nat) (a b : Int × Int) : ∀ c ∈ mkc d p a b, 0 ≤ c.1 ∧ c.1 ≤ 2147483647 := by
  induction d generalizing a b with
  | zero => intro c hc; simp [mkc] at hc
  | succ d ih =>
    intro c hc
    rw [mkc] at hc
    rcases List.mem_cons.1 hc with rfl | hc
    · have h1 := kid_bound a.1 (1 - bt p d)
      have h2 := kid_bound b.1 (1 - bt p d)
      exact xo_lt (by omega) (by omega)
    · exact ih _ _ c hc
theorem lf_01 {cs : List Cor} (h : ∀ c ∈ cs, cb c) {st : Int × Int} (hs : is01 st.2) (i : Nat) : is01 (lf st cs i).2 := by
  induction cs generalizing st with
  | nil => exact hs
  | cons c cs ih =>
    rw [lf_cons]
    exact ih (fun x hx => h x (List.mem_cons_of_mem _ hx)) (ev_01 _ _ _ (h c (List.mem_cons_self ..)))
/-- At the point. -/
theorem lf_on {d p : Nat} {a b : Int × Int} (ha : is01 a.2) (hb : is01 b.2) (hd : a.2 ≠ b.2) : (lf a (mkc d p a b) p).2 ≠ (lf b (mkc d p a b) p).2 := by
  induction d generalizing a b with
  | zero => exact hd
  | succ d ih =>
    have hc := cor1_cb a.1 b.1 (bt_01 p d)
    rw [mkc, lf_cons, lf_cons, mkc_len]
    exact ih (ev_01 _ _ _ hc) (ev_01 _ _ _ hc) (ev_on (bt_01 _ _) ha hb hd)
/-- Elsewhere. -/
theorem lf_off {d p i : Nat} {a b : Int × Int} (ha : is01 a.2) (hb : is01 b.2) (hd : a.2 ≠ b.2) (h : i % 2 ^ d ≠ p % 2 ^ d) : lf a (mkc d p a b) i = lf b (mkc d p a b) i := by
  induction d generalizing a b with
  | zero => rw [Nat.pow_zero, Nat.mod_one, Nat.mod_one] at h; exact absurd rfl h
  | succ d ih =>
    have hc := cor1_cb a.1 b.1 (bt_01 p d)
    rw [mkc, lf_cons, lf_cons, mkc_len]
    by_cases he : bt i d = bt p d
    · rw [he]
      exact ih (ev_01 _ _ _ hc) (ev_01 _ _ _ hc) (ev_on (bt_01 _ _) ha hb hd) (part_step h he)
    · rw [bt_ne he, ev_off (bt_01 _ _) ha hb hd]

/-! ### Two keys -/

section
variable {D I : Nat} {ra rb : Int}
theorem pk_ok (h1 : 1 ≤ D) (h6 : D ≤ 6) (hI : I < 2 ^ D) (ha : 0 ≤ ra ∧ ra ≤ 2147483646) (hb : 0 ≤ rb ∧ rb ≤ 2147483646) : pkOk (D : Int) (I : Int) ra rb = true := pkOk_iff.2 ⟨D, I, rfl, rfl, h1, h6, hI, ha, hb⟩
theorem vk_mk (h1 : 1 ≤ D) (h6 : D ≤ 6) (p : Nat) (a b : Int × Int) {r t : Int} (hr : 0 ≤ r ∧ r ≤ 2147483646) (ht : is01 t) : vk r t (mkc D p a b) = true := by
  unfold vk
  rw [mkc_len, inR_01.2 ht, Bool.true_and]
  have e1 : inR r 0 2147483646 = true := by unfold inR; rw [decide_eq_true hr.1, decide_eq_true hr.2]; rfl
  have e2 : inR (D : Int) 1 6 = true := by unfold inR; rw [decide_eq_true (by omega), decide_eq_true (by omega)]; rfl
  rw [e1, e2, Bool.true_and, Bool.true_and, List.all_eq_true]
  intro c hc
  have hs := mkc_seed D p a b c hc
  have hb := mkc_cb D p a b c hc
  unfold vcor
  rw [inR_01.2 hb.1, inR_01.2 hb.2]
  unfold inR
  rw [decide_eq_true (by omega), decide_eq_true (by omega)]; rfl
theorem eall_mk {r t : Int} {cs : List Cor} (h : vk r t cs = true) : eall r t cs = (List.range (2 ^ cs.length)).map (fun i => (lf (r, t) cs i).2) := if_pos h
theorem eall_len {r t : Int} {cs : List Cor} (h : vk r t cs = true) : (eall r t cs).length = 2 ^ cs.length := by rw [eall_mk h]; simp
theorem eall_get {r t : Int} {cs : List Cor} (h : vk r t cs = true) {i : Nat} (hi : i < 2 ^ cs.length) : (eall r t cs).getD i 0 = (lf (r, t) cs i).2 := by
  rw [eall_mk h, List.getD_eq_getElem?_getD, List.getElem?_map, List.getElem?_range hi]; rfl
/-- The bits of the keys are selections. -/
theorem eall_sel (h1 : 1 ≤ D) (h6 : D ≤ 6) (p : Nat) (a b : Int × Int) {r t : Int} (hr : 0 ≤ r ∧ r ≤ 2147483646) (ht : is01 t) : isel (eall r t (mkc D p a b)) ((2 ^ D : Nat) : Int) = true := by
  have hv := vk_mk h1 h6 p a b hr ht
  have hl := eall_len hv
  rw [mkc_len] at hl
  have h64 := (pow_le6 h6).2
  refine isel_iff.2 ⟨fun i hi => ?_, by rw [hl], by omega⟩
  rw [hl] at hi
  rw [eall_get hv (by rw [mkc_len]; exact hi)]
  have := lf_01 (mkc_cb D p a b) (st := (r, t)) ht i
  unfold is01 at this
  omega
theorem bx_01 {x y : Int} (hx : is01 x) (hy : is01 y) (h : x ≠ y) : bx x y = 1 := by
  rcases hx with rfl | rfl <;> rcases hy with rfl | rfl <;> first | exact absurd rfl h | rfl
/-- They differ at the point alone. -/
theorem eall_xor (h1 : 1 ≤ D) (h6 : D ≤ 6) (hI : I < 2 ^ D) (ha : 0 ≤ ra ∧ ra ≤ 2147483646) (hb : 0 ≤ rb ∧ rb ≤ 2147483646) :
    xors (eall ra 0 (mkc D I (ra, 0) (rb, 1))) (eall rb 1 (mkc D I (ra, 0) (rb, 1))) = (List.replicate (2 ^ D) 0).set I 1 := by
  have va := vk_mk h1 h6 I (ra, 0) (rb, 1) ha (.inl rfl)
  have vb := vk_mk h1 h6 I (ra, 0) (rb, 1) hb (.inr rfl)
  have la := eall_len va
  rw [mkc_len] at la
  refine list_eq (by rw [xors_len, la]; simp) fun i hi => ?_
  rw [xors_len, la] at hi
  rw [xors_getD (by rw [la]; exact hi), eall_get va (by rw [mkc_len]; exact hi), eall_get vb (by rw [mkc_len]; exact hi)]
  by_cases hiI : i = I
  · subst hiI
    rw [bx_01 (lf_01 (mkc_cb _ _ _ _) (.inl rfl) _) (lf_01 (mkc_cb _ _ _ _) (.inr rfl) _) (lf_on (a := (ra, 0)) (b := (rb, 1)) (.inl rfl) (.inr rfl) zne)]
    simp [List.getD_eq_getElem?_getD, hi]
  · rw [lf_off (a := (ra, 0)) (b := (rb, 1)) (.inl rfl) (.inr rfl) zne (mod_self_ne hi hI hiI), bx_self]
    rw [List.getD_eq_getElem?_getD, List.getElem?_set_ne (by omega), List.getElem?_replicate, if_pos hi]; rfl
theorem eall_xs2 (h1 : 1 ≤ D) (h6 : D ≤ 6) (hI : I < 2 ^ D) (ha : 0 ≤ ra ∧ ra ≤ 2147483646) (hb : 0 ≤ rb ∧ rb ≤ 2147483646) :
    xs2 (eall ra 0 (mkc D I (ra, 0) (rb, 1))) (eall rb 1 (mkc D I (ra, 0) (rb, 1))) = unitV ((2 ^ D : Nat) : Int) (I : Int) := by
  have la := eall_len (vk_mk h1 h6 I (ra, 0) (rb, 1) ha (.inl rfl))
  rw [mkc_len] at la
  unfold xs2
  rw [la, if_pos ⟨eall_sel h1 h6 _ _ _ ha (.inl rfl), eall_sel h1 h6 _ _ _ hb (.inr rfl)⟩, eall_xor h1 h6 hI ha hb]
  have h64 := pow_le6 h6
  unfold unitV
  rw [if_pos (by omega)]
  rfl
theorem ept_ne (h1 : 1 ≤ D) (h6 : D ≤ 6) (hI : I < 2 ^ D) (ha : 0 ≤ ra ∧ ra ≤ 2147483646) (hb : 0 ≤ rb ∧ rb ≤ 2147483646) :
    ept ra 0 (mkc D I (ra, 0) (rb, 1)) (I : Int) ≠ ept rb 1 (mkc D I (ra, 0) (rb, 1)) (I : Int) := by
  have hl : leafOk ((mkc D I (ra, 0) (rb, 1)).length : Int) (I : Int) = true := leafOk_iff.2 ⟨D, I, by rw [mkc_len], rfl, h6, hI⟩
  unfold ept
  rw [vk_mk h1 h6 I (ra, 0) (rb, 1) ha (.inl rfl), vk_mk h1 h6 I (ra, 0) (rb, 1) hb (.inr rfl), hl, if_pos (by decide), if_pos (by decide), Int.toNat_natCast]
  exact lf_on (a := (ra, 0)) (b := (rb, 1)) (.inl rfl) (.inr rfl) zne
theorem enc_ge {r t : Int} {cs : List Cor} (h : vk r t cs = true) : 3 ≤ (enc (pkInts r t cs)).length := by
  have h6 := vk_len h
  have hr : 0 ≤ r ∧ r ≤ 1000000000000 := by
    unfold vk inR at h
    rw [Bool.and_eq_true, Bool.and_eq_true, decide_eq_true_eq, decide_eq_true_eq] at h
    omega
  have ht : 0 ≤ t ∧ t ≤ 1000000000000 := by
    unfold vk at h
    rw [Bool.and_eq_true, Bool.and_eq_true] at h
    have := inR_01.1 h.2.1
    unfold is01 at this
    omega
  have hp : ∀ n : Int, 0 ≤ n ∧ n ≤ 1000000000000 → 1 ≤ (uvz n).length := fun n hn => by unfold uvz; rw [if_pos hn]; exact uv_pos _
  unfold enc pkInts
  rw [List.flatMap_append, List.length_append, List.flatMap_cons, List.flatMap_cons, List.flatMap_cons, List.length_append, List.length_append, List.length_append]
  have e1 := hp r hr
  have e2 := hp t ht
  have e3 := hp (cs.length : Int) (by omega)
  omega
theorem sav_eq (h1 : 1 ≤ D) (h6 : D ≤ 6) : sav (D : Int) = ((2 ^ D : Nat) : Int) - 2 - 3 * (D : Int) := by
  unfold sav inR
  rw [if_pos (by rw [decide_eq_true (by omega), decide_eq_true (by omega)]; rfl), Int.toNat_natCast, Int.natCast_pow]
  show (2 : Int) ^ D - _ = _
  have : ((2 : Nat) : Int) = 2 := rfl
  rw [this]
  omega
end

end Go.Proofs.Ytaekjnacigicoaa
