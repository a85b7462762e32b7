/- Writes as lists of rows: what is divided comes back, and writes add up. No program. -/
import Derived.Test.YtdipignajccdcaaWrN
import Derived.Test.YtdipignajccdcaaWrA
import Derived.Test.YtdipignajccdcaaWrB
namespace Go.Proofs.Ytdipignajccdcaa
open Go Go.RowKit
set_option linter.unusedVariables false
attribute [local irreducible] kh

/-- A byte of a database. -/
def col (i k : Nat) (D : List (List Int)) : Int := (D.getD i []).getD k 0
/-- A valid database of n rows of bytes. -/
def Vn (n : Nat) (D : List (List Int)) : Prop := D.length = n ∧ n ≤ 64 ∧ ∀ z ∈ D, z.length = 24 ∧ U8s z
/-- A fold of exclusive or. -/
def bxg (f : List (List Int) → Int) (x : Int) (l : List (List (List Int))) : Int := l.foldl (fun a z => bx a (f z)) x
theorem bxg_cons (f : List (List Int) → Int) (x : Int) (z : List (List Int)) (l : List (List (List Int))) : bxg f x (z :: l) = bxg f (bx x (f z)) l := rfl
theorem bxg_snoc (f : List (List Int) → Int) (x : Int) (l : List (List (List Int))) (z : List (List Int)) : bxg f x (l ++ [z]) = bx (bxg f x l) (f z) := by
  unfold bxg; rw [List.foldl_append]; rfl
theorem bx_nn (x y : Int) : 0 ≤ bx x y := by unfold bx; omega
theorem bxg_nn {f : List (List Int) → Int} {x : Int} (hx : 0 ≤ x) (l : List (List (List Int))) : 0 ≤ bxg f x l := by
  induction l generalizing x with
  | nil => exact hx
  | cons z l ih => rw [bxg_cons]; exact ih (bx_nn _ _)
theorem bxg_split (f : List (List Int) → Int) {x : Int} (hx : 0 ≤ x) (l : List (List (List Int))) : bxg f x l = bx x (bxg f 0 l) := by
  induction l generalizing x with
  | nil => exact (bx_zero hx).symm
  | cons z l ih =>
    rw [bxg_cons, bxg_cons, ih (bx_nn _ _), ih (bx_nn 0 (f z)), ← bx_assoc, ← bx_assoc]
    congr 1
    rw [bx_zero hx]
theorem bxg_back (f : List (List Int) → Int) {u : Int} (hu : 0 ≤ u) {l : List (List (List Int))} {z : List (List Int)} (hz : f z = bxg f u l) : bxg f 0 (l ++ [z]) = u := by
  rw [bxg_snoc, hz, bxg_split f hu, bx_comm u, ← bx_assoc, bx_self, zero_bx hu]

theorem U8s_getD {z : List Int} (h : U8s z) (k : Nat) : 0 ≤ z.getD k 0 ∧ z.getD k 0 ≤ 255 := h.get k
theorem Vn.row {n i : Nat} {D : List (List Int)} (h : Vn n D) (hi : i < n) : ∃ z, D[i]? = some z ∧ D.getD i [] = z ∧ z.length = 24 ∧ U8s z := by
  have hl : i < D.length := by rw [h.1]; exact hi
  exact ⟨D[i], List.getElem?_eq_getElem hl, by rw [List.getD_eq_getElem?_getD, List.getElem?_eq_getElem hl]; rfl, h.2.2 _ (List.getElem_mem hl)⟩
theorem Vn.out {n i : Nat} {D : List (List Int)} (h : Vn n D) (hi : ¬ i < n) : D.getD i [] = [] := by
  rw [List.getD_eq_getElem?_getD, List.getElem?_eq_none (by rw [h.1]; omega)]; rfl
theorem Vn.nn {n : Nat} {D : List (List Int)} (h : Vn n D) (i k : Nat) : 0 ≤ col i k D := by
  unfold col
  by_cases hi : i < n
  · obtain ⟨z, _, e, _, hz⟩ := h.row hi
    rw [e]; exact (U8s_getD hz k).1
  · rw [h.out hi]; simp
theorem Vn.vd {n : Nat} {D : List (List Int)} (h : Vn n D) : vd D = true := vd_of_rows (by rw [h.1]; exact h.2.1) fun z hz => (h.2.2 z hz).1
theorem Vn.k {n : Nat} {a b : List (List Int)} (ha : Vn n a) (hb : Vn n b) : xdK a b = true := xdK_yes ha.vd hb.vd (by rw [ha.1, hb.1])
theorem Vn.xd {n : Nat} {a b : List (List Int)} (ha : Vn n a) (hb : Vn n b) : Vn n (xd a b) ∧ ∀ i k, col i k (xd a b) = bx (col i k a) (col i k b) := by
  rw [xd_yes (ha.k hb)]
  have hg : ∀ i, i < n → (xdL a b)[i]? = some (xorl (a.getD i []) (b.getD i [])) := fun i hi => xdL_get (by rw [ha.1]; exact hi)
  have hv : Vn n (xdL a b) := by
    refine ⟨by rw [xdL_len, ha.1], ha.2.1, fun z hz => ?_⟩
    obtain ⟨i, hi⟩ := List.mem_iff_getElem?.1 hz
    have hlt := (List.getElem?_eq_some_iff.1 hi).1
    rw [xdL_len, ha.1] at hlt
    rw [hg i hlt] at hi
    injection hi with hi
    obtain ⟨z1, _, e1, l1, u1⟩ := ha.row hlt
    obtain ⟨z2, _, e2, l2, u2⟩ := hb.row hlt
    rw [e1, e2] at hi
    subst hi
    exact ⟨by rw [xorl_len, l1, l2]; rfl, xorl_u8 u1 u2⟩
  refine ⟨hv, fun i k => ?_⟩
  unfold col
  by_cases hi : i < n
  · rw [show (xdL a b).getD i [] = xorl (a.getD i []) (b.getD i []) by rw [List.getD_eq_getElem?_getD, hg i hi]; rfl, xorl_getD]
  · rw [hv.out hi, ha.out hi, hb.out hi]; simp; exact (bx_self 0).symm
theorem Vn.adF {n : Nat} {u : List (List Int)} {l : List (List (List Int))} (hu : Vn n u) (hl : ∀ z ∈ l, Vn n z) : adK u l = true ∧ Vn n (adF u l) ∧ ∀ i k, col i k (adF u l) = bxg (col i k) (col i k u) l := by
  induction l generalizing u with
  | nil => exact ⟨rfl, hu, fun _ _ => rfl⟩
  | cons z l ih =>
    have hz := hl z List.mem_cons_self
    obtain ⟨v1, c1⟩ := hu.xd hz
    obtain ⟨k2, v2, c2⟩ := ih v1 fun y hy => hl y (List.mem_cons_of_mem _ hy)
    refine ⟨by rw [adK, hu.k hz, k2]; rfl, v2, fun i k => ?_⟩
    have e : Go.Proofs.Ytdipignajccdcaa.adF u (z :: l) = Go.Proofs.Ytdipignajccdcaa.adF (Go.Proofs.Ytdipignajccdcaa.xd u z) l := rfl
    rw [e, c2, c1, bxg_cons]
theorem Vn.ext {n : Nat} {a b : List (List Int)} (ha : Vn n a) (hb : Vn n b) (h : ∀ i k, col i k a = col i k b) : a = b := by
  apply List.ext_getElem?
  intro i
  by_cases hi : i < n
  · obtain ⟨z1, g1, e1, l1, u1⟩ := ha.row hi
    obtain ⟨z2, g2, e2, l2, u2⟩ := hb.row hi
    rw [g1, g2]
    congr 1
    apply List.ext_getElem (by rw [l1, l2])
    intro k hk hk2
    have := h i k
    unfold col at this
    rwa [e1, e2, List.getD_eq_getElem?_getD, List.getD_eq_getElem?_getD, List.getElem?_eq_getElem hk, List.getElem?_eq_getElem hk2] at this
  · rw [List.getElem?_eq_none (by rw [ha.1]; omega), List.getElem?_eq_none (by rw [hb.1]; omega)]

/-- All shares together. -/
theorem jw_cols {n : Nat} {l : List (List (List Int))} (hl : ∀ z ∈ l, Vn n z) (h2 : 2 ≤ l.length) (h4 : l.length ≤ 4) : jwK l = true ∧ Vn n (jw l) ∧ ∀ i k, col i k (jw l) = bxg (col i k) 0 l := by
  cases l with
  | nil => simp at h2
  | cons z r =>
    obtain ⟨k1, v1, c1⟩ := (hl z List.mem_cons_self).adF fun y hy => hl y (List.mem_cons_of_mem _ hy)
    have hk : jwK (z :: r) = true := by
      unfold jwK
      rw [inR_yes (by omega)]
      exact k1
    rw [jw_yes hk]
    exact ⟨hk, v1, fun i k => by rw [bxg_cons, zero_bx ((hl z List.mem_cons_self).nn i k)]; exact c1 i k⟩
theorem whole_Vn {r x : Int} {c : List Int} (h : rowOk r x c = true) (hc : U8s c) : Vn r.toNat (whole r x c) := by
  have h' := rowOk_iff.1 h
  refine ⟨whole_len h, by omega, fun z hz => ?_⟩
  unfold whole newR at hz
  rw [if_pos (by omega)] at hz
  rcases List.mem_or_eq_of_mem_set hz with hz | hz
  · rw [List.eq_of_mem_replicate hz]
    exact ⟨by simp, fun y hy => by rw [List.eq_of_mem_replicate hy]; decide⟩
  · rw [hz]; exact ⟨h'.2.2, hc⟩
theorem sdb_Vn {r : Int} (h0 : 0 ≤ r) (h : r ≤ 64) (s : Int) : Vn r.toNat (sdb s r) := by
  refine ⟨sdb_len s r, by omega, fun z hz => ?_⟩
  simp only [sdb, List.mem_map] at hz
  obtain ⟨i, _, rfl⟩ := hz
  exact ⟨srow_len _ _, strm_u8 _ _⟩
theorem sdbs_Vn {r : Int} (h0 : 0 ≤ r) (h : r ≤ 64) (ss : List Int) : ∀ z ∈ sdbs r ss, Vn r.toNat z := fun z hz => by
  simp only [sdbs, List.mem_map] at hz
  obtain ⟨s, _, rfl⟩ := hz
  exact sdb_Vn h0 h s
/-- The databases of a write: all valid, and they join to the one with the cell. -/
theorem mkw_all {r x : Int} {c ss : List Int} (h : mkwK r x c ss = true) (hc : U8s c) :
    (mkw r x c ss).length = ss.length + 1 ∧ 1 ≤ ss.length ∧ ss.length ≤ 3 ∧ (∀ z ∈ mkw r x c ss, Vn r.toNat z) ∧ jwK (mkw r x c ss) = true ∧ jw (mkw r x c ss) = whole r x c := by
  have h' := h
  unfold mkwK at h'
  rw [Bool.and_eq_true] at h'
  have hrow := rowOk_iff.1 h'.1
  have hs : 1 ≤ ss.length ∧ ss.length ≤ 3 := by
    have := h'.2
    unfold inR at this
    simp only [Bool.and_eq_true, decide_eq_true_eq] at this
    omega
  have hw := whole_Vn h'.1 hc
  have hd := sdbs_Vn (r := r) (by omega) (by omega) ss
  obtain ⟨_, v1, c1⟩ := hw.adF hd
  have hlen : (mkw r x c ss).length = ss.length + 1 := by rw [mkw_yes h, List.length_append, sdbs_len]; rfl
  have hall : ∀ z ∈ mkw r x c ss, Vn r.toNat z := fun z hz => by
    rw [mkw_yes h] at hz
    rcases List.mem_append.1 hz with hz | hz
    · exact hd z hz
    · rw [List.mem_singleton.1 hz]; exact v1
  obtain ⟨k2, v2, c2⟩ := jw_cols hall (by omega) (by omega)
  refine ⟨hlen, hs.1, hs.2, hall, k2, v2.ext hw fun i k => ?_⟩
  rw [c2, mkw_yes h, bxg_back (col i k) (hw.nn i k) (c1 i k)]
/-- The database that is missing completes the others. -/
theorem exw_all {r x : Int} {c : List Int} {l : List (List (List Int))} (h : rowOk r x c = true) (hc : U8s c) (hl : ∀ z ∈ l, Vn r.toNat z) (h1 : 1 ≤ l.length) (h3 : l.length ≤ 3) :
    exwK l r x c = true ∧ Vn r.toNat (exw l r x c) ∧ jwK (l ++ [exw l r x c]) = true ∧ jw (l ++ [exw l r x c]) = whole r x c := by
  have hw := whole_Vn h hc
  obtain ⟨k1, v1, c1⟩ := hw.adF hl
  have hk : exwK l r x c = true := by unfold exwK; rw [h, decide_eq_true (by omega), k1]; rfl
  rw [exw_yes hk]
  have hall : ∀ z ∈ l ++ [adF (whole r x c) l], Vn r.toNat z := fun z hz => by
    rcases List.mem_append.1 hz with hz | hz
    · exact hl z hz
    · rw [List.mem_singleton.1 hz]; exact v1
  obtain ⟨k2, v2, c2⟩ := jw_cols hall (by simp; omega) (by simp; omega)
  refine ⟨hk, v1, k2, v2.ext hw fun i k => ?_⟩
  rw [c2, bxg_back (col i k) (hw.nn i k) (c1 i k)]
/-- Writes add up. -/
theorem bxg_zip {f : List (List Int) → Int} {g : List (List Int) → List (List Int) → List (List Int)} {l m : List (List (List Int))} (hf : ∀ z ∈ l, ∀ y ∈ m, f (g z y) = bx (f z) (f y)) (h : l.length = m.length) (a b : Int) :
    bxg f (bx a b) (List.zipWith g l m) = bx (bxg f a l) (bxg f b m) := by
  induction l generalizing m a b with
  | nil =>
    cases m with
    | nil => rfl
    | cons y m => simp at h
  | cons z l ih =>
    cases m with
    | nil => simp at h
    | cons y m =>
      rw [List.zipWith_cons_cons, bxg_cons, bxg_cons, bxg_cons, hf z List.mem_cons_self y List.mem_cons_self]
      have e : bx (bx a b) (bx (f z) (f y)) = bx (bx a (f z)) (bx b (f y)) := by
        rw [bx_assoc, bx_assoc, ← bx_assoc b, bx_comm b (f z), bx_assoc (f z)]
      rw [e]
      exact ih (fun z hz y hy => hf z (List.mem_cons_of_mem _ hz) y (List.mem_cons_of_mem _ hy)) (by simpa using h) _ _
theorem zip_mem {n : Nat} {l m : List (List (List Int))} (hl : ∀ z ∈ l, Vn n z) (hm : ∀ z ∈ m, Vn n z) : ∀ z ∈ List.zipWith xd l m, Vn n z := fun z hz => by
  obtain ⟨i, hi⟩ := List.mem_iff_getElem?.1 hz
  rw [List.getElem?_zipWith] at hi
  cases h1 : l[i]? with
  | none => rw [h1] at hi; simp at hi
  | some a =>
    cases h2 : m[i]? with
    | none => rw [h1, h2] at hi; simp at hi
    | some b =>
      rw [h1, h2] at hi
      simp at hi
      rw [← hi]
      exact ((hl a (List.mem_of_getElem? h1)).xd (hm b (List.mem_of_getElem? h2))).1
theorem jw_zip {n : Nat} {l m : List (List (List Int))} (hl : ∀ z ∈ l, Vn n z) (hm : ∀ z ∈ m, Vn n z) (h : l.length = m.length) (h2 : 2 ≤ l.length) (h4 : l.length ≤ 4) :
    jwK (List.zipWith xd l m) = true ∧ xdK (jw l) (jw m) = true ∧ jw (List.zipWith xd l m) = xd (jw l) (jw m) ∧ Vn n (jw m) ∧ jwK m = true := by
  have hz := zip_mem hl hm
  have hzl : (List.zipWith xd l m).length = l.length := by rw [List.length_zipWith]; omega
  obtain ⟨_, v1, c1⟩ := jw_cols hl h2 h4
  obtain ⟨k2, v2, c2⟩ := jw_cols hm (by omega) (by omega)
  obtain ⟨k3, v3, c3⟩ := jw_cols hz (by omega) (by omega)
  obtain ⟨v4, c4⟩ := v1.xd v2
  refine ⟨k3, v1.k v2, v3.ext v4 fun i k => ?_, v2, k2⟩
  rw [c3, c4, c1, c2, ← bxg_zip (f := col i k) (g := xd) (fun z hz y hy => ((hl z hz).xd (hm y hy)).2 i k) h 0 0]
  rfl
/-- One row at most is written. -/
theorem set_count {p : List Int → Bool} {z c : List Int} (hp : p z = false) : ∀ n k : Nat, (((List.replicate n z).set k c).filter p).length ≤ 1
  | 0, k => by simp
  | n + 1, 0 => by
    rw [List.replicate_succ, List.set_cons_zero, List.filter_cons]
    have h0 : (List.replicate n z).filter p = [] := List.filter_eq_nil_iff.2 fun y hy => by rw [List.eq_of_mem_replicate hy, hp]; decide
    split <;> simp [h0]
  | n + 1, k + 1 => by
    rw [List.replicate_succ, List.set_cons_succ, List.filter_cons, hp]
    simpa using set_count hp n k
theorem whole_crw {r x : Int} {c : List Int} (h : rowOk r x c = true) : crw (whole r x c) ≤ 1 := by
  have h' := rowOk_iff.1 h
  unfold crw whole newR
  rw [if_pos (by omega)]
  exact set_count (by decide) _ _
theorem whole_at {r : Int} {k : Nat} {c : List Int} (h : rowOk r (k : Int) c = true) : (whole r (k : Int) c)[k]? = some c := by
  have h' := rowOk_iff.1 h
  unfold whole
  rw [Int.toNat_natCast, List.getElem?_set_self (by rw [newR_len (by omega)]; omega)]
theorem xorl_same {c : List Int} : xorl c c = List.replicate c.length 0 := by
  apply List.ext_getElem (by rw [xorl_len]; simp)
  intro i h1 h2
  have h3 : i < c.length := by simpa using h2
  have e := xorl_get c c (i := i) (by omega)
  rw [List.getElem?_eq_getElem h1] at e
  injection e with e
  rw [e, bx_self]
  simp
theorem Vn.tot {n : Nat} {D : List (List Int)} (h : Vn n D) : tot D ≤ 1600 := vd_fl h.vd
theorem Vn_totL {n : Nat} {l : List (List (List Int))} (h : ∀ z ∈ l, Vn n z) : totL tyDatabase l ≤ 1601 * l.length := by
  induction l with
  | nil => exact Nat.le_refl _
  | cons z l ih =>
    have h1 := (h z List.mem_cons_self).tot
    have h2 : tyDatabase.tot z = Go.Proofs.Ytdipignajccdcaa.tot z := totL2 _ _ _ _ _
    have h3 := ih fun y hy => h y (List.mem_cons_of_mem _ hy)
    unfold totL at h3 ⊢
    simp only [List.map_cons, List.sum_cons, List.length_cons] at h3 ⊢
    omega
end Go.Proofs.Ytdipignajccdcaa
