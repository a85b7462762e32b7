/- What the properties of queries need: sums come back to what was divided. No program. -/
import Derived.Test.YtaekjnacigicoaaQuN
namespace Go.Proofs.Ytaekjnacigicoaa
open Go Go.RowKit
set_option linter.unusedVariables false
attribute [local irreducible] kh

theorem bx_nonneg (x y : Int) : 0 ≤ bx x y := by unfold bx; omega
/-- A number of each, added up. -/
def bxf (f : List Int → Int) (x : Int) (l : List (List Int)) : Int := l.foldl (fun a z => bx a (f z)) x
theorem bxf_cons (f : List Int → Int) (x : Int) (z : List Int) (l : List (List Int)) : bxf f x (z :: l) = bxf f (bx x (f z)) l := rfl
theorem bxf_split (f : List Int → Int) {x : Int} (hx : 0 ≤ x) (l : List (List Int)) : bxf f x l = bx x (bxf f 0 l) := by
  induction l generalizing x with
  | nil => exact (bx_zero hx).symm
  | cons z l ih =>
    rw [bxf_cons, bxf_cons, ih (bx_nonneg x (f z)), ih (bx_nonneg 0 (f z)), ← bx_assoc, ← bx_assoc, bx_zero hx]
theorem bxf_snoc (f : List Int → Int) (x : Int) (l : List (List Int)) (z : List Int) : bxf f x (l ++ [z]) = bx (bxf f x l) (f z) := by
  unfold bxf; rw [List.foldl_append]; rfl
theorem bxf_back (f : List Int → Int) {u : Int} (hu : 0 ≤ u) {l : List (List Int)} {z : List Int} (hz : f z = bxf f u l) : bxf f 0 (l ++ [z]) = u := by
  rw [bxf_snoc, hz, bxf_split f hu, bx_comm, bx_bx hu]
theorem bxf_eq {f g : List Int → Int} {l : List (List Int)} (h : ∀ z ∈ l, f z = g z) (x : Int) : bxf f x l = bxf g x l := by
  induction l generalizing x with
  | nil => rfl
  | cons z l ih =>
    rw [bxf_cons, bxf_cons, h z (List.mem_cons_self ..)]
    exact ih (fun y hy => h y (List.mem_cons_of_mem _ hy)) _

theorem xsAll_getD {n : Nat} {u : List Int} {l : List (List Int)} (h : Sel n u) (hl : ∀ z ∈ l, isel z (n : Int) = true) :
    Sel n (xsAll u l) ∧ ∀ i, i < n → (xsAll u l).getD i 0 = bxf (fun z => z.getD i 0) (u.getD i 0) l := by
  induction l generalizing u with
  | nil => exact ⟨h, fun _ _ => rfl⟩
  | cons z l ih =>
    obtain ⟨e, hs⟩ := xs2_yes h (hl z (List.mem_cons_self ..))
    have h2 := ih hs (fun y hy => hl y (List.mem_cons_of_mem _ hy))
    rw [xsAll_cons, e]
    refine ⟨h2.1, fun i hi => ?_⟩
    rw [h2.2 i hi, xors_getD (by rw [h.1]; exact hi)]
    rfl

theorem getD_zero_mem {l : List (List Int)} (h : 0 < l.length) : l.getD 0 [] ∈ l := by
  rw [List.getD_eq_getElem?_getD, List.getElem?_eq_getElem h]
  exact List.getElem_mem h

/-- Selections and the one that is missing join to what was divided. -/
theorem jnq_back {n : Nat} {u : List Int} {l : List (List Int)} (hn : (n : Int) ≤ 64) (h : Sel n u) (hl : ∀ z ∈ l, isel z (n : Int) = true) :
    jnq (l ++ [xsAll u l]) = u ∧ ∀ z ∈ l ++ [xsAll u l], isel z (n : Int) = true := by
  obtain ⟨hs, hg⟩ := xsAll_getD h hl
  have hm : ∀ z ∈ l ++ [xsAll u l], isel z (n : Int) = true := fun z hz => by
    rcases List.mem_append.1 hz with hz | hz
    · exact hl z hz
    · rw [List.mem_singleton.1 hz]; exact hs.is hn
  refine ⟨?_, hm⟩
  have hpos : 0 < (l ++ [xsAll u l]).length := by simp
  have hlen : ((l ++ [xsAll u l]).getD 0 []).length = n := by
    have := (isel_len (hm _ (getD_zero_mem hpos))).1
    omega
  rw [jnq_yes hpos, hlen]
  obtain ⟨s, g⟩ := xsAll_getD (zeros_sel n) hm
  refine list_eq (by rw [s.1, h.1]) fun i hi => ?_
  rw [s.1] at hi
  have hz : (List.replicate n (0 : Int)).getD i 0 = 0 := by simp [List.getD_eq_getElem?_getD, hi]
  rw [g i hi, hz]
  exact bxf_back _ (h.2 i (by rw [h.1]; exact hi)).1 (hg i hi)

theorem rsl_sel {n : Nat} (hn : n ≤ 64) (s : Int) : isel (rsl s (n : Int)) (n : Int) = true := by
  have e : rsl s (n : Int) = (List.range n).map (rsb s) := by unfold rsl; rw [if_pos (by omega), Int.toNat_natCast]
  rw [e]
  refine isel_iff.2 ⟨fun i hi => ?_, by simp, by omega⟩
  have hi' : i < n := by simpa using hi
  have : ((List.range n).map (rsb s)).getD i 0 = rsb s i := by simp [List.getD_eq_getElem?_getD, hi']
  rw [this]
  exact rsb_bit s i
theorem rnds_sel {n : Nat} (hn : n ≤ 64) (s : List Int) : ∀ z ∈ rnds (n : Int) s, isel z (n : Int) = true := fun z hz => by
  unfold rnds at hz
  obtain ⟨x, _, rfl⟩ := List.mem_map.1 hz
  exact rsl_sel hn x

/-- A query joins to the unit selection, and all of it are selections. -/
theorem mkq_join {n : Nat} {x : Int} {s : List Int} (h : (unitV (n : Int) x).length ≠ 0 ∧ 1 ≤ s.length ∧ s.length ≤ 3) :
    jnq (mkq (n : Int) x s) = unitV (n : Int) x ∧ ∀ z ∈ mkq (n : Int) x s, isel z (n : Int) = true := by
  obtain ⟨hs, h1, h2, _, _⟩ := unitV_sel h.1
  rw [Int.toNat_natCast] at hs
  rw [mkq_yes h]
  exact jnq_back h2 hs (rnds_sel (by omega) s)

theorem chosen_one {zss : List (List Int)} : ∀ {n I : Nat}, zss.length = n → I < n → chosen zss ((List.replicate n 0).set I 1) = [zss.getD I []] := by
  induction zss with
  | nil => intro n I h1 h2; simp at h1; omega
  | cons z zss ih =>
    intro n I h1 h2
    cases n with
    | zero => omega
    | succ n =>
      have hl : zss.length = n := by simpa using h1
      cases I with
      | zero =>
        rw [List.replicate_succ, List.set_cons_zero]
        have : ∀ (m : Nat) (l : List (List Int)), chosen l (List.replicate m 0) = [] := by
          intro m l
          induction l generalizing m with
          | nil => exact chosen_nil _
          | cons y l ih2 =>
            cases m with
            | zero => exact chosen_nil' _
            | succ m => rw [List.replicate_succ]; unfold chosen; rw [if_neg (by decide)]; exact ih2 m
        unfold chosen
        rw [if_pos rfl, this]
        rfl
      | succ I =>
        rw [List.replicate_succ, List.set_cons_succ]
        unfold chosen
        rw [if_neg (by decide), ih hl (by omega)]
        rfl
theorem sx_one {d : List (List Int)} {n k : Nat} (hd : ∀ z ∈ d, U8s z) (hl : d.length = n) (h2 : n ≤ 64) (hk : k < n) : sx d (unitV (n : Int) (k : Int)) = d.getD k [] := by
  have e : unitV (n : Int) (k : Int) = (List.replicate n (0 : Int)).set k 1 := by
    unfold unitV; rw [if_pos (by omega), Int.toNat_natCast, Int.toNat_natCast]
  unfold sx
  rw [e, chosen_one hl hk]
  show xorl [] (d.getD k []) = d.getD k []
  refine xorl_nil ?_
  have hk' : k < d.length := by omega
  rw [List.getD_eq_getElem?_getD, List.getElem?_eq_getElem hk']
  exact hd _ (List.getElem_mem hk')

theorem xorAll_bxf (l : List (List Int)) (acc : List Int) (i : Nat) : (l.foldl xorl acc).getD i 0 = bxf (fun z => z.getD i 0) (acc.getD i 0) l := by
  induction l generalizing acc with
  | nil => rfl
  | cons z l ih => rw [List.foldl_cons, ih, xorl_getD]; rfl

theorem sx_u8 {d : List (List Int)} (hd : ∀ z ∈ d, U8s z) (v : List Int) : U8s (sx d v) := xorAll_u8 (chosen_mem hd)
theorem bx_cancel {x y z : Int} (hx : 0 ≤ x) (hz : 0 ≤ z) (hy : 0 ≤ y) (h : bx (bx x y) z = 0) : z = bx x y := by
  have h1 : bx (bx (bx x y) z) z = bx x y := bx_bx (bx_nonneg _ _) z
  rw [h, zero_bx hz] at h1
  exact h1

theorem ans_getD {d : List (List Int)} {v : List Int} (hd : ∀ z ∈ d, U8s z) (hv : vd d = true) (h : isel v (d.length : Int) = true) (i : Nat) : (ans d v).getD i 0 = (sx d v).getD i 0 := by
  rw [ans_yes (by unfold ansK; rw [hv, h]; rfl), xorl_getD]
  have e : (List.replicate 24 (0 : Int)).getD i 0 = 0 := by
    rw [List.getD_eq_getElem?_getD, List.getElem?_replicate]; split <;> rfl
  rw [e, zero_bx ((sx_u8 hd v).get i).1]
theorem sx_sum {d : List (List Int)} (hd : ∀ z ∈ d, U8s z) {n : Nat} {u : List Int} {l : List (List Int)} (h : Sel n u) (hl : ∀ z ∈ l, isel z (n : Int) = true) (i : Nat) :
    (sx d (xsAll u l)).getD i 0 = bxf (fun v => (sx d v).getD i 0) ((sx d u).getD i 0) l := by
  induction l generalizing u with
  | nil => rfl
  | cons z l ih =>
    have hz := hl z (List.mem_cons_self ..)
    obtain ⟨e, hs⟩ := xs2_yes h hz
    have hzb := isel_iff.1 hz
    have hx := sx_xor hd h.2 hzb.1 (by have := h.1; omega) i
    have hc := bx_cancel ((sx_u8 hd u).get i).1 ((sx_u8 hd (xors u z)).get i).1 ((sx_u8 hd z).get i).1 hx
    rw [xsAll_cons, e, ih hs (fun y hy => hl y (List.mem_cons_of_mem _ hy)), hc]
    rfl

/-- What is read is the row. -/
theorem rp_back {d : List (List Int)} {x : Int} {s : List Int} (hd : ∀ z ∈ d, U8s z) (h : rpK d x s = true) :
    ∃ k : Nat, x = (k : Int) ∧ k < d.length ∧ rp d x s = d.getD k [] ∧ jnq (mkq (d.length : Int) x s) = unitV (d.length : Int) x := by
  unfold rpK at h
  have hc : (unitV (d.length : Int) x).length ≠ 0 ∧ 1 ≤ s.length ∧ s.length ≤ 3 := by
    refine Classical.byContradiction fun hn => ?_
    have e : rpL d x s = [] := by unfold rpL; rw [mkq_no hn]; rfl
    rw [e] at h
    revert h
    decide
  obtain ⟨hs, h1, h2, h3, h4⟩ := unitV_sel hc.1
  rw [Int.toNat_natCast] at hs
  obtain ⟨k, rfl⟩ : ∃ k : Nat, x = (k : Int) := ⟨x.toNat, by omega⟩
  have hk : k < d.length := by omega
  obtain ⟨hj, hm⟩ := mkq_join hc
  have hv24 : vrows (rpL d (k : Int) s) = true := by
    unfold caK at h
    rw [Bool.and_eq_true] at h
    exact h.2
  have hall : ∀ z ∈ rpL d (k : Int) s, z.length = 24 := fun z hz => by
    have := List.all_eq_true.1 hv24 z hz
    simpa using this
  have hq0 : 0 < (mkq (d.length : Int) (k : Int) s).length := by rw [mkq_yes hc]; simp
  have hvd : vd d = true := by
    have hz := getD_zero_mem hq0
    have h24 := hall (ans d ((mkq (d.length : Int) (k : Int) s).getD 0 [])) (List.mem_map_of_mem hz)
    cases hvd : vd d
    · rw [ans_no (by unfold ansK; rw [hvd]; rfl)] at h24
      simp at h24
    · rfl
  refine ⟨k, rfl, hk, ?_, hj⟩
  have hne : rpL d (k : Int) s ≠ [] := fun e => by
    have := answers_len d (mkq (d.length : Int) (k : Int) s)
    unfold rpL at e
    rw [e] at this
    simp at this
    omega
  have h24 : (d.getD k []).length = 24 := by
    unfold vd at hvd
    rw [Bool.and_eq_true] at hvd
    exact vrows_iff.1 hvd.2 k hk
  unfold rp
  rw [ca_yes h]
  refine list_eq (by rw [xorAll_len_same hall hne, h24]) fun i hi => ?_
  have e1 : (xorAll (rpL d (k : Int) s)).getD i 0 = bxf (fun z => z.getD i 0) 0 (rpL d (k : Int) s) := by
    unfold xorAll
    rw [xorAll_bxf]
    rfl
  have e2 : bxf (fun z => z.getD i 0) 0 (rpL d (k : Int) s) = bxf (fun v => (ans d v).getD i 0) 0 (mkq (d.length : Int) (k : Int) s) := by
    unfold rpL answers bxf
    rw [List.foldl_map]
  have e3 : bxf (fun v => (ans d v).getD i 0) 0 (mkq (d.length : Int) (k : Int) s) = bxf (fun v => (sx d v).getD i 0) 0 (mkq (d.length : Int) (k : Int) s) :=
    bxf_eq (fun z hz => ans_getD hd hvd (hm z hz) i) 0
  rw [e1, e2, e3, mkq_yes hc]
  have hu := sx_one hd rfl (by omega) hk
  rw [show (d.getD k []).getD i 0 = (sx d (unitV (d.length : Int) (k : Int))).getD i 0 by rw [hu]]
  exact bxf_back _ ((sx_u8 hd _).get i).1 (sx_sum hd hs (rnds_sel (by omega) s) i)

end Go.Proofs.Ytaekjnacigicoaa
