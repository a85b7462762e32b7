/- Blocks of one cell. No program. Databases as lists of rows. No program. Chapter 8's small functions, the program's and the document's: what each gives. No conditions but a size that a machine holds. ReadRow, the program's and the document's: what each gives. No conditions but a size that a machine holds. -/
import Derived.Test.YtdipignajccdcaaBa6
import Derived.Test.YtdipignajccdcaaBa5
import Derived.Test.YtdipignajccdcaaEnc
import Derived.Test.YtdipignajccdcaaBa7
import Derived.Test.YtdipignajccdcaaXor2
import Derived.Test.YtdipignajccdcaaBa9
import Derived.Test.YtdipignajccdcaaBbC
import Derived.Test.YtdipignajccdcaaCopyL

/-! DbB -/
namespace Go.Proofs.Ytdipignajccdcaa
open Go Go.RowKit
set_option linter.unusedVariables false

theorem one0 (x : Value) : (#[x] : Array Value)[0]? = some x := rfl

theorem blocks2 (w : World) (o1 o2 : Obj) : ((w.alloc o1).alloc o2).heap[w.heap.size]? = some o1 ∧ ((w.alloc o1).alloc o2).heap[w.heap.size + 1]? = some o2 := by
  refine ⟨(heap_alloc_old _ _ (by simp)).trans (heap_alloc_new w _), ?_⟩
  have := heap_alloc_new (w.alloc o1) o2
  rwa [World.size_alloc] at this
theorem blocks3 (w : World) (o1 o2 o3 : Obj) : (((w.alloc o1).alloc o2).alloc o3).heap[w.heap.size]? = some o1 ∧ (((w.alloc o1).alloc o2).alloc o3).heap[w.heap.size + 1]? = some o2 ∧ (((w.alloc o1).alloc o2).alloc o3).heap[w.heap.size + 1 + 1]? = some o3 := by
  have h1 := blocks2 w o1 o2
  refine ⟨(heap_alloc_old _ _ (by simp; omega)).trans h1.1, (heap_alloc_old _ _ (by simp)).trans h1.2, ?_⟩
  have := heap_alloc_new ((w.alloc o1).alloc o2) o3
  rwa [World.size_alloc, World.size_alloc] at this

theorem World.setCell_size (w : World) (p : Addr) (u : Value) : (w.setCell p u).heap.size = w.heap.size := by simp [World.setCell]

/-- A block of one cell, written. -/
theorem store1 {w : World} {b : Nat} {y : Value} {t : TypeId} (h : w.heap[b]? = some (.cells #[y] t (0, 0))) (x : Value) :
    (w.setCell ⟨b, 0, none⟩ x).heap[b]? = some (.cells #[x] t (0, 0)) ∧ (w.setCell ⟨b, 0, none⟩ x).cell? ⟨b, 0, none⟩ = some x ∧ KeptF (fun c => c = b) w (w.setCell ⟨b, 0, none⟩ x) := by
  have h1 : (w.setCell ⟨b, 0, none⟩ x).heap[b]? = some (.cells #[x] t (0, 0)) := blk_set h 0 x
  exact ⟨h1, blk_cell h1 0, KeptF.of_grown (grown_set w b 0 x) (fun c hc => by injection hc with hc; exact hc.symm)⟩
/-- Two blocks of one cell, written one after the other. -/
theorem store2 {w : World} {b c : Nat} {y : Value} {t : TypeId} (h : w.heap[b]? = some (.cells #[y] t (0, 0))) (hne : b ≠ c) (x z : Value) :
    ((w.setCell ⟨c, 0, none⟩ z).setCell ⟨b, 0, none⟩ x).cell? ⟨b, 0, none⟩ = some x ∧ KeptF (fun d => d = b ∨ d = c) w ((w.setCell ⟨c, 0, none⟩ z).setCell ⟨b, 0, none⟩ x) := by
  have g := grown_set w c 0 z
  have h1 := (g.block b (lt_of_block h) (fun e => hne (by injection e))).trans h
  obtain ⟨_, q2, q3⟩ := store1 h1 x
  exact ⟨q2, (KeptF.of_grown (F := fun d => d = b ∨ d = c) g (fun d hd => by injection hd with hd; exact .inr hd.symm)).trans (q3.mono fun d hd => .inl hd)⟩

end Go.Proofs.Ytdipignajccdcaa


/-! DbN -/
namespace Go.Proofs.Ytdipignajccdcaa
open Go Go.RowKit
set_option linter.unusedVariables false

/-- Whether there is such a row. -/
def hasR (zss : List (List Int)) (i : Int) : Bool := inR i 0 ((zss.length : Int) - 1)
/-- Whether all rows are cells. -/
def vrows (zss : List (List Int)) : Bool := zss.all fun r => r.length == 24
/-- Whether it is a database. -/
def vd (zss : List (List Int)) : Bool := decide (zss.length ≤ 64) && vrows zss
def newR (n : Int) : List (List Int) := if 0 ≤ n ∧ n ≤ 64 then List.replicate n.toNat (List.replicate 24 0) else []
def rdR (zss : List (List Int)) (i : Int) : List Int := if hasR zss i = true then zss.getD i.toNat [] else []
def repK (zss : List (List Int)) (i : Int) (c : List Int) : Bool := hasR zss i && decide (c.length = 24)
def rep (zss : List (List Int)) (i : Int) (c : List Int) : List (List Int) := if repK zss i c = true then zss.set i.toNat c else zss
def xrK (zss : List (List Int)) (i : Int) (c : List Int) : Bool := hasR zss i && decide ((zss.getD i.toNat []).length = 24) && decide (c.length = 24)
def xr (zss : List (List Int)) (i : Int) (c : List Int) : List (List Int) := if xrK zss i c = true then zss.set i.toNat (xorl (zss.getD i.toNat []) c) else zss
def xdK (a b : List (List Int)) : Bool := vd a && vd b && decide (a.length = b.length)
def xdL (a b : List (List Int)) : List (List Int) := (List.range a.length).map fun i => xorl (a.getD i []) (b.getD i [])
def xd (a b : List (List Int)) : List (List Int) := if xdK a b = true then xdL a b else a
/-- What the digest is the hash of. -/
def digL (zss : List (List Int)) : List Int := (zss.length : Int) :: (zss.map bti).flatten
def dig (zss : List (List Int)) : Int := hsh (digL zss)

theorem hasR_iff {zss : List (List Int)} {i : Int} : hasR zss i = true ↔ ∃ k : Nat, i = (k : Int) ∧ k < zss.length := by
  unfold hasR inR
  simp only [Bool.and_eq_true, decide_eq_true_eq]
  constructor
  · intro ⟨h1, h2⟩
    exact ⟨i.toNat, by omega, by omega⟩
  · rintro ⟨k, rfl, h⟩
    omega
theorem hasR_yes {zss : List (List Int)} {k : Nat} (h : k < zss.length) : hasR zss (k : Int) = true := hasR_iff.2 ⟨k, rfl, h⟩
theorem inR_hasR (zss : List (List Int)) (i : Int) : inR i 0 ((zss.length : Int) - 1) = hasR zss i := rfl
theorem rdR_yes {zss : List (List Int)} {k : Nat} (h : k < zss.length) : rdR zss (k : Int) = zss.getD k [] := by unfold rdR; rw [if_pos (hasR_yes h)]; rfl
theorem rdR_no {zss : List (List Int)} {i : Int} (h : hasR zss i = false) : rdR zss i = [] := by unfold rdR; rw [if_neg (by rw [h]; exact Bool.false_ne_true)]
theorem vrows_iff {zss : List (List Int)} : vrows zss = true ↔ ∀ i, i < zss.length → (zss.getD i []).length = 24 := by
  unfold vrows
  rw [List.all_eq_true]
  constructor
  · intro h i hi
    have := h _ (List.getElem_mem hi)
    rw [List.getD_eq_getElem?_getD, List.getElem?_eq_getElem hi]
    simpa using this
  · intro h x hx
    obtain ⟨i, hi, rfl⟩ := List.mem_iff_getElem.1 hx
    have := h i hi
    rw [List.getD_eq_getElem?_getD, List.getElem?_eq_getElem hi] at this
    simpa using this
theorem vrows_no {zss : List (List Int)} {i : Nat} (hi : i < zss.length) (h : (zss.getD i []).length ≠ 24) : vrows zss = false := by
  cases hv : vrows zss
  · rfl
  · exact absurd (vrows_iff.1 hv i hi) h
theorem xdL_len (a b : List (List Int)) : (xdL a b).length = a.length := by simp [xdL]
theorem xdL_get {a b : List (List Int)} {i : Nat} (hi : i < a.length) : (xdL a b)[i]? = some (xorl (a.getD i []) (b.getD i [])) := by simp [xdL, hi]
theorem xdL_snoc {a b : List (List Int)} {j : Nat} (hj : j < a.length) : (xdL a b).take j ++ [xorl (a.getD j []) (b.getD j [])] = (xdL a b).take (j + 1) := by
  rw [List.take_add_one, xdL_get hj]; rfl
theorem newR_no {n : Int} (h : ¬ (0 ≤ n ∧ n ≤ 64)) : newR n = [] := if_neg h
theorem newR_yes {n : Nat} (h : n ≤ 64) : newR (n : Int) = List.replicate n (List.replicate 24 0) := by unfold newR; rw [if_pos (by omega)]; rfl
theorem fl_replicate (n : Nat) (r : List Int) : fl (List.replicate n r) = n * r.length := by unfold fl; simp
theorem newR_fl (n : Int) : fl (newR n) ≤ 1536 := by
  unfold newR
  split
  · rw [fl_replicate, List.length_replicate]; omega
  · simp [fl]
theorem digL_take {zss : List (List Int)} {j : Nat} {zs : List Int} (h : zss[j]? = some zs) : ((zss.take j).map bti).flatten ++ bti zs = ((zss.take (j + 1)).map bti).flatten := by
  rw [List.take_add_one, h]; simp
theorem digL_len (zss : List (List Int)) : ((zss.map bti).flatten).length = tot zss := by
  unfold tot
  induction zss with
  | nil => simp [fl]
  | cons x r ih =>
    simp only [List.map_cons, List.flatten_cons, List.length_append, List.length_cons, bti_len, ih, fl_cons]
    omega
theorem fl_set (zss : List (List Int)) (i : Nat) (c : List Int) : fl (zss.set i c) ≤ fl zss + c.length := by
  induction zss generalizing i with
  | nil => simp [fl]
  | cons x r ih =>
    cases i with
    | zero => simp [fl_cons]; omega
    | succ i => have := ih i; simp [fl_cons]; omega
theorem fl_getD (zss : List (List Int)) (i : Nat) : (zss.getD i []).length ≤ fl zss := by
  rcases h : zss[i]? with _ | zs
  · rw [List.getD_eq_getElem?_getD, h]; simp
  · rw [getD_of h]; have := fl_at h; omega
theorem rep_fl (zss : List (List Int)) (i : Int) (c : List Int) : fl (rep zss i c) ≤ fl zss + c.length := by
  unfold rep
  split
  · exact fl_set _ _ _
  · omega
theorem rdR_len (zss : List (List Int)) (i : Int) : (rdR zss i).length ≤ fl zss := by
  unfold rdR
  split
  · exact fl_getD _ _
  · simp
theorem xr_fl (zss : List (List Int)) (i : Int) (c : List Int) : fl (xr zss i c) ≤ 2 * fl zss + c.length := by
  unfold xr
  split
  · have h1 := fl_set zss i.toNat (xorl (zss.getD i.toNat []) c)
    have h2 := xorl_len_le (zss.getD i.toNat []) c
    have h3 := fl_getD zss i.toNat
    omega
  · omega
theorem fl_map_le (l : List Nat) (f g h : Nat → List Int) (hf : ∀ i, (f i).length ≤ (g i).length + (h i).length) : fl (l.map f) ≤ fl (l.map g) + fl (l.map h) := by
  induction l with
  | nil => simp [fl]
  | cons x r ih => have := hf x; simp only [List.map_cons, fl_cons]; omega
theorem map_getD (zss : List (List Int)) : (List.range zss.length).map (fun i => zss.getD i []) = zss := by
  refine List.ext_getElem (by simp) fun i h1 h2 => ?_
  simp [List.getD_eq_getElem?_getD, h2]
theorem map_getD_le (n : Nat) (zss : List (List Int)) : fl ((List.range n).map (fun i => zss.getD i [])) ≤ fl zss := by
  induction n generalizing zss with
  | zero => simp [fl]
  | succ n ih =>
    rw [List.range_succ_eq_map, List.map_cons, fl_cons, List.map_map]
    cases zss with
    | nil => have := ih []; simpa [Function.comp_def, fl] using this
    | cons x r => have := ih r; simp only [Function.comp_def, List.getD_cons_succ, List.getD_cons_zero, fl_cons] at *; omega
theorem xd_fl (a b : List (List Int)) : fl (xd a b) ≤ fl a + fl b := by
  unfold xd
  split
  · have h1 := fl_map_le (List.range a.length) (fun i => xorl (a.getD i []) (b.getD i [])) (fun i => a.getD i []) (fun i => b.getD i []) (fun i => xorl_len_le _ _)
    have h2 := map_getD_le a.length a
    have h3 := map_getD_le a.length b
    unfold xdL
    omega
  · omega
theorem hsh_digL (zss : List (List Int)) : hsh (digL zss) = dig zss := rfl
theorem dig_bound (zss : List (List Int)) : 0 ≤ dig zss ∧ dig zss ≤ 2147483646 := hsh_bound _

end Go.Proofs.Ytdipignajccdcaa


/-! Db1 -/
namespace Go.Proofs.Ytdipignajccdcaa
open Go Go.RowKit
set_option linter.unusedVariables false
attribute [local irreducible] kh

theorem cell_any {w : World} {a : Option Addr} {n cap : Nat} : Calls Try.prog 83 #[.slice a n cap] w fun e w' => e = .returned (.bool ((n : Int) == 24)) ∧ w' = w := by
  go_enter Try.func83, Try.ntmps83
  go_wp2
  go_ret
  exact ⟨rfl, rfl⟩

theorem hasRow_any {w : World} {a : Option Addr} {cap : Nat} {zss : List (List Int)} {i : Int} (hi : (Lit.int .i64 i).wf = true) (hn : zss.length ≤ 140737488355328) :
    Calls Try.prog 82 #[.agg #[.slice a zss.length cap], .int .i64 i] w fun e w' => e = .returned (.bool (hasR zss i)) ∧ Below w.heap.size w w' := by
  have HB := Lib.hid ((Below.refl w.heap.size w).alloc (Nat.le_refl _) (.cells #[.slice a zss.length cap] 39))
  have Hi := Lib.hid hi
  have e1 : wrap64 ((zss.length : Int) - 1) = (zss.length : Int) - 1 := by unfold wrap64; omega
  clear hi
  go_enter Try.func82, Try.ntmps82
  go_wp2_with fail
  refine (impl_in _ _ _ _ Hi.out).mono ?_
  rw [inR_hasR]
  rintro e w1 ⟨rfl, hw⟩
  subst hw
  go_wp2_with fail
  go_ret
  exact ⟨rfl, HB.out⟩

set_option maxHeartbeats 1000000 in
/-- impl.copyDatabase -/
theorem copyDb_any {lim : Nat} {w : World} {v : Value} {zss : List (List Int)} (h : Rd2 lim .u8 w v zss) (hlim : lim ≤ w.heap.size) (hn : tot zss ≤ 1099511627776) :
    Calls Try.prog 87 #[.agg #[v]] w fun e w' => ∃ v', e = .returned (.agg #[v']) ∧ Own2 22 5 .u8 (ival w.heap.size w'.heap.size) w' v' zss ∧ Below w.heap.size w w' := by
  obtain ⟨a, cap, rfl, _⟩ := h.open
  have HB := Lib.hid (((Below.refl w.heap.size w).alloc (Nat.le_refl _) (.cells #[.slice a zss.length cap] 39)).alloc (by simp) (.cells #[.slice none 0 0] 39))
  have HU := Lib.hid (h.behind (HB.out.mono hlim))
  clear h
  go_enter Try.func87, Try.ntmps87
  go_wp2_with fail
  refine (copyList_any HU.out (Nat.le_trans hlim HB.out.size) hn).mono ?_
  rintro e w3 ⟨v3, rfl, h3, hb3⟩
  obtain ⟨a3, c3, rfl, _⟩ := h3.open
  have hb3' := hb3
  rw [World.size_alloc, World.size_alloc] at hb3'
  obtain ⟨_, q1⟩ := blocks2 w (.cells #[.slice a zss.length cap] 39) (.cells #[.slice none 0 0] 39)
  have B1 := (hb3'.block (w.heap.size + 1) (by omega)).trans q1
  have HB1 := Lib.hid B1
  have f1 := blk_free B1 0
  have c1 := blk_cell B1 0
  rw [one0] at c1
  have H3 := Lib.hid h3
  have HB3 := Lib.hid (HB.out.trans (hb3.mono HB.out.size))
  have HS3 := Lib.hid hb3'.size
  clear h3 hb3 hb3' q1 B1
  go_wp2_with fail
  have g1 := HS3.out
  obtain ⟨_, r0, k0⟩ := store1 HB1.out (.slice a3 zss.length c3)
  obtain ⟨W5, hW5⟩ : ∃ W5, W5 = w3.setCell ⟨w.heap.size + 1, 0, none⟩ (.slice a3 zss.length c3) := ⟨_, rfl⟩
  rw [← hW5] at r0 k0 ⊢
  have hs5 : W5.heap.size = w3.heap.size := by rw [hW5, World.setCell_size]
  have Q1 := Lib.hid ((H3.out.keptF k0 (fun b hb => by unfold ival at hb; rw [World.size_alloc, World.size_alloc] at hb; omega)).mono (G := ival w.heap.size W5.heap.size) (fun b hb => by unfold ival at hb ⊢; rw [World.size_alloc, World.size_alloc] at hb; omega))
  have Q2 := Lib.hid (HB3.out.trans (k0.below (B := w.heap.size) (fun b hb => by omega) HB3.out.size))
  clear f1 c1 k0 hW5 hs5 g1
  exact bodyPost_ret (v := .agg #[.slice a3 zss.length c3]) (by simp [results, Try.results87, go_sem, r0]) rfl ⟨_, rfl, Q1.out, Q2.out⟩

set_option maxHeartbeats 1000000 in
/-- spec.l8Copy -/
theorem l8Copy_any {lim : Nat} {w : World} {v : Value} {zss : List (List Int)} (h : Rd2 lim .u8 w v zss) (hlim : lim ≤ w.heap.size) (hn : tot zss ≤ 1099511627776) :
    Calls Try.prog 64 #[.agg #[v]] w fun e w' => ∃ v', e = .returned (.agg #[v']) ∧ Own2 22 5 .u8 (ival w.heap.size w'.heap.size) w' v' zss ∧ Below w.heap.size w w' := by
  obtain ⟨a, cap, rfl, _⟩ := h.open
  have HB := Lib.hid (((Below.refl w.heap.size w).alloc (Nat.le_refl _) (.cells #[.slice a zss.length cap] 39)).alloc (by simp) (.cells #[.slice none 0 0] 39))
  have HU := Lib.hid (h.behind (HB.out.mono hlim))
  clear h
  go_enter Try.func64, Try.ntmps64
  go_wp2_with fail
  refine (l4Copy_any HU.out (Nat.le_trans hlim HB.out.size) hn).mono ?_
  rintro e w3 ⟨v3, rfl, h3, hb3⟩
  obtain ⟨a3, c3, rfl, _⟩ := h3.open
  have hb3' := hb3
  rw [World.size_alloc, World.size_alloc] at hb3'
  obtain ⟨_, q1⟩ := blocks2 w (.cells #[.slice a zss.length cap] 39) (.cells #[.slice none 0 0] 39)
  have B1 := (hb3'.block (w.heap.size + 1) (by omega)).trans q1
  have HB1 := Lib.hid B1
  have f1 := blk_free B1 0
  have c1 := blk_cell B1 0
  rw [one0] at c1
  have H3 := Lib.hid h3
  have HB3 := Lib.hid (HB.out.trans (hb3.mono HB.out.size))
  have HS3 := Lib.hid hb3'.size
  clear h3 hb3 hb3' q1 B1
  go_wp2_with fail
  have g1 := HS3.out
  obtain ⟨_, r0, k0⟩ := store1 HB1.out (.slice a3 zss.length c3)
  obtain ⟨W5, hW5⟩ : ∃ W5, W5 = w3.setCell ⟨w.heap.size + 1, 0, none⟩ (.slice a3 zss.length c3) := ⟨_, rfl⟩
  rw [← hW5] at r0 k0 ⊢
  have hs5 : W5.heap.size = w3.heap.size := by rw [hW5, World.setCell_size]
  have Q1 := Lib.hid ((H3.out.keptF k0 (fun b hb => by unfold ival at hb; rw [World.size_alloc, World.size_alloc] at hb; omega)).mono (G := ival w.heap.size W5.heap.size) (fun b hb => by unfold ival at hb ⊢; rw [World.size_alloc, World.size_alloc] at hb; omega))
  have Q2 := Lib.hid (HB3.out.trans (k0.below (B := w.heap.size) (fun b hb => by omega) HB3.out.size))
  clear f1 c1 k0 hW5 hs5 g1
  exact bodyPost_ret (v := .agg #[.slice a3 zss.length c3]) (by simp [results, Try.results64, go_sem, r0]) rfl ⟨_, rfl, Q1.out, Q2.out⟩

theorem vd_of {zss : List (List Int)} (h : zss.length ≤ 64) : vd zss = vrows zss := by unfold vd; rw [decide_eq_true h]; rfl
theorem vd_big {zss : List (List Int)} (h : 64 < zss.length) : vd zss = false := by unfold vd; rw [decide_eq_false (by omega)]; rfl

set_option maxHeartbeats 1000000 in
/-- impl.IsValidDatabase -/
theorem impl_vd {lim : Nat} {w : World} {v : Value} {zss : List (List Int)} (h : Rd2 lim .u8 w v zss) (hlim : lim ≤ w.heap.size) :
    Calls Try.prog 88 #[.agg #[v]] w fun e w' => e = .returned (.bool (vd zss)) ∧ Below w.heap.size w w' := by
  obtain ⟨a, cap, rfl, h1, h2, hc⟩ := h.open
  have HB := Lib.hid ((Below.refl w.heap.size w).alloc (Nat.le_refl _) (.cells #[.slice a zss.length cap] 39))
  unfold maxLen at h2
  have Hc := Lib.hid hc
  obtain ⟨q, hq⟩ : ∃ q, q = vd zss := ⟨_, rfl⟩
  rw [← hq]
  have HQ := Lib.hid hq
  clear h hc hq
  by_cases hbig : 64 < zss.length
  · have e1 : decide ((64 : Int) < (zss.length : Int)) = true := by simp; omega
    have HE : Hid (q = false) := Lib.hid (by rw [HQ.out, vd_big hbig])
    clear hbig
    go_enter Try.func88, Try.ntmps88
    go_wp2_with fail
    go_ret
    exact ⟨by rw [HE.out]; rfl, HB.out⟩
  · have e1 : decide ((64 : Int) < (zss.length : Int)) = false := by simp; omega
    have hn : zss.length ≤ 64 := by omega
    have HV : Hid (q = vrows zss) := Lib.hid (by rw [HQ.out, vd_of hn])
    clear hbig
    go_enter Try.func88, Try.ntmps88
    go_wp2_with fail
    go_loopw [12] (fun i wr => ∃ j : Nat, i = .int .i64 j ∧ j ≤ zss.length ∧ (∀ k, k < j → (zss.getD k []).length = 24) ∧ Below w.heap.size w wr) (fun i _ => zss.length - (intOf i).toNat)
    case atStart => exact ⟨0, rfl, Nat.zero_le _, fun k hk => by omega, HB.out⟩
    case round =>
      obtain ⟨j, rfl, hj, hall, hB⟩ := hrel
      replace HB := Lib.hid hB
      have HA := Lib.hid hall
      clear hB hall
      by_cases hlt : j < zss.length
      · have e2 : decide ((j : Int) < (zss.length : Int)) = true := by simp; omega
        obtain ⟨b, o, rfl, hbl, hcell⟩ := Hc.out (by omega)
        obtain ⟨zs, hzs⟩ : ∃ zs, zss[j]? = some zs := ⟨_, List.getElem?_eq_getElem hlt⟩
        obtain ⟨u, c1, hr⟩ := hcell wr (HB.out.mono hlim) j zs hzs
        obtain ⟨a1, k1, hu, _⟩ := hr.open
        obtain ⟨L, hL⟩ : ∃ L, L = zs.length := ⟨_, rfl⟩
        rw [← hL] at hu
        subst hu
        have HLz : Hid ((zss.getD j []).length = L) := Lib.hid (by rw [getD_of hzs, hL])
        clear hcell hzs hr hL
        by_cases h24 : L = 24
        · have e3 : ((L : Int) == 24) = true := by simp; omega
          have H24 := Lib.hid h24
          clear h24
          go_wp2_with fail
          refine (cell_any).mono ?_
          rw [e3]
          rintro e w2 ⟨rfl, hw2⟩
          subst hw2
          go_wp2_with fail
          go_roundw
          case rel =>
            refine ⟨j + 1, by simp, hlt, fun k hk => ?_, HB.out⟩
            by_cases hkj : k = j
            · rw [hkj, HLz.out, H24.out]
            · exact HA.out k (by omega)
          case measure => simp [intOf]; omega
        · have e3 : ((L : Int) == 24) = false := by rw [beq_eq_false_iff_ne]; omega
          have HE : Hid (q = false) := Lib.hid (by rw [HV.out]; exact vrows_no hlt (by rw [HLz.out]; exact h24))
          clear h24
          go_wp2_with fail
          refine (cell_any).mono ?_
          rw [e3]
          rintro e w2 ⟨rfl, hw2⟩
          subst hw2
          go_wp2_with fail
          go_ret
          exact ⟨by rw [HE.out]; rfl, HB.out⟩
      · have e2 : decide ((j : Int) < (zss.length : Int)) = false := by simp; omega
        have HE : Hid (q = true) := Lib.hid (by rw [HV.out]; exact vrows_iff.2 fun i hi => HA.out i (by omega))
        go_wp2_with fail
        go_ret
        exact ⟨by rw [HE.out]; rfl, HB.out⟩

set_option maxHeartbeats 1000000 in
/-- spec.IsValidDatabase -/
theorem spec_vd {lim : Nat} {w : World} {v : Value} {zss : List (List Int)} (h : Rd2 lim .u8 w v zss) (hlim : lim ≤ w.heap.size) :
    Calls Try.prog 63 #[.agg #[v]] w fun e w' => e = .returned (.bool (vd zss)) ∧ Below w.heap.size w w' := by
  obtain ⟨a, cap, rfl, h1, h2, hc⟩ := h.open
  have HB := Lib.hid ((Below.refl w.heap.size w).alloc (Nat.le_refl _) (.cells #[.slice a zss.length cap] 39))
  have HBk := Lib.hid (heap_alloc_new w (.cells #[.slice a zss.length cap] 39))
  unfold maxLen at h2
  have Hc := Lib.hid hc
  obtain ⟨q, hq⟩ : ∃ q, q = vd zss := ⟨_, rfl⟩
  rw [← hq]
  have HQ := Lib.hid hq
  clear h hc hq
  go_enter Try.func63, Try.ntmps63
  go_wp2_with fail
  go_loopw [3] (fun i wr => ∃ j : Nat, i = .int .i64 j ∧ j ≤ zss.length ∧ (∀ k, k < j → (zss.getD k []).length = 24) ∧ wr.heap[w.heap.size]? = some (.cells #[.slice a zss.length cap] 39) ∧ Below w.heap.size w wr) (fun i _ => zss.length - (intOf i).toNat)
  case atStart => exact ⟨0, rfl, Nat.zero_le _, fun k hk => by omega, HBk.out, HB.out⟩
  case round =>
    obtain ⟨j, rfl, hj, hall, hK, hB⟩ := hrel
    replace HB := Lib.hid hB
    have HA := Lib.hid hall
    have HK := Lib.hid hK
    have cD := blk_cell hK 0
    rw [one0] at cD
    clear hB hall hK
    by_cases hlt : j < zss.length
    · have e2 : decide ((j : Int) < (zss.length : Int)) = true := by simp; omega
      have hlt' : (j : Int) < (zss.length : Int) := by omega
      obtain ⟨b, o, rfl, hbl, hcell⟩ := Hc.out (by omega)
      obtain ⟨zs, hzs⟩ : ∃ zs, zss[j]? = some zs := ⟨_, List.getElem?_eq_getElem hlt⟩
      obtain ⟨u, c1, hr⟩ := hcell wr (HB.out.mono hlim) j zs hzs
      obtain ⟨a1, k1, hu, _⟩ := hr.open
      obtain ⟨L, hL⟩ : ∃ L, L = zs.length := ⟨_, rfl⟩
      rw [← hL] at hu
      subst hu
      have HLz : Hid ((zss.getD j []).length = L) := Lib.hid (by rw [getD_of hzs, hL])
      clear hcell hzs hr hL
      by_cases h24 : L = 24
      · have e3 : ((L : Int) != 24) = false := by simp; omega
        have H24 := Lib.hid h24
        clear h24
        go_wp2_with fail
        go_roundw
        case rel =>
          refine ⟨j + 1, by simp, hlt, fun k hk => ?_, HK.out, HB.out⟩
          by_cases hkj : k = j
          · rw [hkj, HLz.out, H24.out]
          · exact HA.out k (by omega)
        case measure => simp [intOf]; omega
      · have e3 : ((L : Int) != 24) = true := by simp; omega
        have HE : Hid (q = false) := Lib.hid (by
          rw [HQ.out]; unfold vd
          rw [vrows_no hlt (by rw [HLz.out]; exact h24), Bool.and_false])
        clear h24
        go_wp2_with fail
        go_ret
        exact ⟨by rw [HE.out]; rfl, HB.out⟩
    · have e2 : decide ((j : Int) < (zss.length : Int)) = false := by simp; omega
      have HE : Hid (q = decide ((zss.length : Int) ≤ 64)) := Lib.hid (by
        rw [HQ.out]; unfold vd
        rw [vrows_iff.2 fun i hi => HA.out i (by omega), Bool.and_true]
        exact decide_eq_decide.2 (by omega))
      go_wp2_with fail
      go_ret
      exact ⟨by rw [HE.out]; rfl, HB.out⟩

end Go.Proofs.Ytdipignajccdcaa


/-! Db4 -/
namespace Go.Proofs.Ytdipignajccdcaa
open Go Go.RowKit
set_option linter.unusedVariables false
attribute [local irreducible] kh

theorem row_fl {zss : List (List Int)} (hn : tot zss ≤ 1099511627776) {j : Nat} {zs : List Int} (h : zss[j]? = some zs) : zs.length ≤ 1099511627776 := by
  have := tot_at h; omega

end Go.Proofs.Ytdipignajccdcaa
