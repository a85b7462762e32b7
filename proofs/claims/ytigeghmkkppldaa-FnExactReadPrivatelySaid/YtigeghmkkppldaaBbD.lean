/- Blocks of one cell. No program. Databases as lists of rows. No program. Chapter 8's small functions, the program's and the document's: what each gives. No conditions but a size that a machine holds. ReadRow, the program's and the document's: what each gives. No conditions but a size that a machine holds. -/
import Derived.Test.YtigeghmkkppldaaBa6
import Derived.Test.YtigeghmkkppldaaBa5
import Derived.Test.YtigeghmkkppldaaEnc
import Derived.Test.YtigeghmkkppldaaBa7
import Derived.Test.YtigeghmkkppldaaXor2
import Derived.Test.YtigeghmkkppldaaBa9
import Derived.Test.YtigeghmkkppldaaBbC
import Derived.Test.YtigeghmkkppldaaCopyL

/-! DbB -/
namespace Go.Proofs.Ytigeghmkkppldaa
open Go Go.RowKit
set_option linter.unusedVariables false

theorem one0 (x : Value) : (#[x] : Array Value)[0]? = some x := rfl

theorem blocks2 (w : World) (o1 o2 : Obj) : ((w.alloc o1).alloc o2).heap[w.heap.size]? = some o1 ∧ ((w.alloc o1).alloc o2).heap[w.heap.size + 1]? = some o2 := by
  refine ⟨(heap_alloc_old _ _ (by simp)).trans (heap_alloc_new w _), ?_⟩
  have := heap_alloc_new (w.alloc o1) o2
  rwa [World.size_alloc] at this
theorem blocks3 (w : World) (o1 o2 o3 : Obj) : (((w.alloc o1).alloc o2).alloc o3).heap[w.heap.size]? = some o1 ∧ (((w.alloc o1).alloc o2).alloc o3).heap[w.heap.size + 1]? = some o2 ∧ (((w.alloc o1).alloc o2).alloc o3).heap[w.heap.size + 1 + 1]? = some o3 := by
  have h1 := blocks2 w o1 o2
  refine ⟨(heap_alloc_old _ _ (by simp; omega)).trans h1.1, (heap_alloc_old _ _ (by simp)).trans h1.2, ?_⟩
  have := heap_alloc_new ((w.alloc o1).alloc o2) o3
  rwa [World.size_alloc, World.size_alloc] at this

theorem World.setCell_size (w : World) (p : Addr) (u : Value) : (w.setCell p u).heap.size = w.heap.size := by simp [World.setCell]

/-- A block of one cell, written. -/
theorem store1 {w : World} {b : Nat} {y : Value} {t : TypeId} (h : w.heap[b]? = some (.cells #[y] t (0, 0))) (x : Value) :
    (w.setCell ⟨b, 0, none⟩ x).heap[b]? = some (.cells #[x] t (0, 0)) ∧ (w.setCell ⟨b, 0, none⟩ x).cell? ⟨b, 0, none⟩ = some x ∧ KeptF (fun c => c = b) w (w.setCell ⟨b, 0, none⟩ x) := by
  have h1 : (w.setCell ⟨b, 0, none⟩ x).heap[b]? = some (.cells #[x] t (0, 0)) := blk_set h 0 x
  exact ⟨h1, blk_cell h1 0, KeptF.of_grown (grown_set w b 0 x) (fun c hc => by injection hc with hc; exact hc.symm)⟩
/-- Two blocks of one cell, written one after the other. -/
theorem store2 {w : World} {b c : Nat} {y : Value} {t : TypeId} (h : w.heap[b]? = some (.cells #[y] t (0, 0))) (hne : b ≠ c) (x z : Value) :
    ((w.setCell ⟨c, 0, none⟩ z).setCell ⟨b, 0, none⟩ x).cell? ⟨b, 0, none⟩ = some x ∧ KeptF (fun d => d = b ∨ d = c) w ((w.setCell ⟨c, 0, none⟩ z).setCell ⟨b, 0, none⟩ x) := by
  have g := grown_set w c 0 z
  have h1 := (g.block b (lt_of_block h) (fun e => hne (by injection e))).trans h
  obtain ⟨_, q2, q3⟩ := store1 h1 x
  exact ⟨q2, (KeptF.of_grown (F := fun d => d = b ∨ d = c) g (fun d hd => by injection hd with hd; exact .inr hd.symm)).trans (q3.mono fun d hd => .inl hd)⟩

end Go.Proofs.Ytigeghmkkppldaa


/-! DbN -/
namespace Go.Proofs.Ytigeghmkkppldaa
open Go Go.RowKit
set_option linter.unusedVariables false

/-- Whether there is such a row. -/
def hasR (zss : List (List Int)) (i : Int) : Bool := inR i 0 ((zss.length : Int) - 1)
/-- Whether all rows are cells. -/
def vrows (zss : List (List Int)) : Bool := zss.all fun r => r.length == 24
/-- Whether it is a database. -/
def vd (zss : List (List Int)) : Bool := decide (zss.length ≤ 64) && vrows zss
def newR (n : Int) : List (List Int) := if 0 ≤ n ∧ n ≤ 64 then List.replicate n.toNat (List.replicate 24 0) else []
def rdR (zss : List (List Int)) (i : Int) : List Int := if hasR zss i = true then zss.getD i.toNat [] else []
def repK (zss : List (List Int)) (i : Int) (c : List Int) : Bool := hasR zss i && decide (c.length = 24)
def rep (zss : List (List Int)) (i : Int) (c : List Int) : List (List Int) := if repK zss i c = true then zss.set i.toNat c else zss
def xrK (zss : List (List Int)) (i : Int) (c : List Int) : Bool := hasR zss i && decide ((zss.getD i.toNat []).length = 24) && decide (c.length = 24)
def xr (zss : List (List Int)) (i : Int) (c : List Int) : List (List Int) := if xrK zss i c = true then zss.set i.toNat (xorl (zss.getD i.toNat []) c) else zss
def xdK (a b : List (List Int)) : Bool := vd a && vd b && decide (a.length = b.length)
def xdL (a b : List (List Int)) : List (List Int) := (List.range a.length).map fun i => xorl (a.getD i []) (b.getD i [])
def xd (a b : List (List Int)) : List (List Int) := if xdK a b = true then xdL a b else a
/-- What the digest is the hash of. -/
def digL (zss : List (List Int)) : List Int := (zss.length : Int) :: (zss.map bti).flatten
def dig (zss : List (List Int)) : Int := hsh (digL zss)

theorem hasR_iff {zss : List (List Int)} {i : Int} : hasR zss i = true ↔ ∃ k : Nat, i = (k : Int) ∧ k < zss.length := by
  unfold hasR inR
  simp only [Bool.and_eq_true, decide_eq_true_eq]
  constructor
  · intro ⟨h1, h2⟩
    exact ⟨i.toNat, by omega, by omega⟩
  · rintro ⟨k, rfl, h⟩
    omega
theorem hasR_yes {zss : List (List Int)} {k : Nat} (h : k < zss.length) : hasR zss (k : Int) = true := hasR_iff.2 ⟨k, rfl, h⟩
theorem inR_hasR (zss : List (List Int)) (i : Int) : inR i 0 ((zss.length : Int) - 1) = hasR zss i := rfl
theorem rdR_yes {zss : List (List Int)} {k : Nat} (h : k < zss.length) : rdR zss (k : Int) = zss.getD k [] := by unfold rdR; rw [if_pos (hasR_yes h)]; rfl
theorem rdR_no {zss : List (List Int)} {i : Int} (h : hasR zss i = false) : rdR zss i = [] := by unfold rdR; rw [if_neg (by rw [h]; exact Bool.false_ne_true)]
theorem vrows_iff {zss : List (List Int)} : vrows zss = true ↔ ∀ i, i < zss.length → (zss.getD i []).length = 24 := by
  unfold vrows
  rw [List.all_eq_true]
  constructor
  · intro h i hi
    have := h _ (List.getElem_mem hi)
    rw [List.getD_eq_getElem?_getD, List.getElem?_eq_getElem hi]
    simpa using this
  · intro h x hx
    obtain ⟨i, hi, rfl⟩ := List.mem_iff_getElem.1 hx
    have := h i hi
    rw [List.getD_eq_getElem?_getD, List.getElem?_eq_getElem hi] at this
    simpa using this
theorem vrows_no {zss : List (List Int)} {i : Nat} (hi : i < zss.length) (h : (zss.getD i []).length ≠ 24) : vrows zss = false := by
  cases hv : vrows zss
  · rfl
  · exact absurd (vrows_iff.1 hv i hi) h
theorem xdL_len (a b : List (List Int)) : (xdL a b).length = a.length := by simp [xdL]
theorem xdL_get {a b : List (List Int)} {i : Nat} (hi : i < a.length) : (xdL a b)[i]? = some (xorl (a.getD i []) (b.getD i [])) := by simp [xdL, hi]
theorem xdL_snoc {a b : List (List Int)} {j : Nat} (hj : j < a.length) : (xdL a b).take j ++ [xorl (a.getD j []) (b.getD j [])] = (xdL a b).take (j + 1) := by
  rw [List.take_add_one, xdL_get hj]; rfl
theorem newR_no {n : Int} (h : ¬ (0 ≤ n ∧ n ≤ 64)) : newR n = [] := if_neg h
theorem newR_yes {n : Nat} (h : n ≤ 64) : newR (n : Int) = List.replicate n (List.replicate 24 0) := by unfold newR; rw [if_pos (by omega)]; rfl
theorem fl_replicate (n : Nat) (r : List Int) : fl (List.replicate n r) = n * r.length := by unfold fl; simp
theorem newR_fl (n : Int) : fl (newR n) ≤ 1536 := by
  unfold newR
  split
  · rw [fl_replicate, List.length_replicate]; omega
  · simp [fl]
theorem digL_take {zss : List (List Int)} {j : Nat} {zs : List Int} (h : zss[j]? = some zs) : ((zss.take j).map bti).flatten ++ bti zs = ((zss.take (j + 1)).map bti).flatten := by
  rw [List.take_add_one, h]; simp
theorem digL_len (zss : List (List Int)) : ((zss.map bti).flatten).length = tot zss := by
  unfold tot
  induction zss with
  | nil => simp [fl]
  | cons x r ih =>
    simp only [List.map_cons, List.flatten_cons, List.length_append, List.length_cons, bti_len, ih, fl_cons]
    omega
theorem fl_set (zss : List (List Int)) (i : Nat) (c : List Int) : fl (zss.set i c) ≤ fl zss + c.length := by
  induction zss generalizing i with
  | nil => simp [fl]
  | cons x r ih =>
    cases i with
    | zero => simp [fl_cons]; omega
    | succ i => have := ih i; simp [fl_cons]; omega
theorem fl_getD (zss : List (List Int)) (i : Nat) : (zss.getD i []).length ≤ fl zss := by
  rcases h : zss[i]? with _ | zs
  · rw [List.getD_eq_getElem?_getD, h]; simp
  · rw [getD_of h]; have := fl_at h; omega
theorem rep_fl (zss : List (List Int)) (i : Int) (c : List Int) : fl (rep zss i c) ≤ fl zss + c.length := by
  unfold rep
  split
  · exact fl_set _ _ _
  · omega
theorem rdR_len (zss : List (List Int)) (i : Int) : (rdR zss i).length ≤ fl zss := by
  unfold rdR
  split
  · exact fl_getD _ _
  · simp
theorem xr_fl (zss : List (List Int)) (i : Int) (c : List Int) : fl (xr zss i c) ≤ 2 * fl zss + c.length := by
  unfold xr
  split
  · have h1 := fl_set zss i.toNat (xorl (zss.getD i.toNat []) c)
    have h2 := xorl_len_le (zss.getD i.toNat []) c
    have h3 := fl_getD zss i.toNat
    omega
  · omega
theorem fl_map_le (l : List Nat) (f g h : Nat → List Int) (hf : ∀ i, (f i).length ≤ (g i).length + (h i).length) : fl (l.map f) ≤ fl (l.map g) + fl (l.map h) := by
  induction l with
  | nil => simp [fl]
  | cons x r ih => have := hf x; simp only [List.map_cons, fl_cons]; omega
theorem map_getD (zss : List (List Int)) : (List.range zss.length).map (fun i => zss.getD i []) = zss := by
  refine List.ext_getElem (by simp) fun i h1 h2 => ?_
  simp [List.getD_eq_getElem?_getD, h2]
theorem map_getD_le (n : Nat) (zss : List (List Int)) : fl ((List.range n).map (fun i => zss.getD i [])) ≤ fl zss := by
  induction n generalizing zss with
  | zero => simp [fl]
  | succ n ih =>
    rw [List.range_succ_eq_map, List.map_cons, fl_cons, List.map_map]
    cases zss with
    | nil => have := ih []; simpa [Function.comp_def, fl] using this
    | cons x r => have := ih r; simp only [Function.comp_def, List.getD_cons_succ, List.getD_cons_zero, fl_cons] at *; omega
theorem xd_fl (a b : List (List Int)) : fl (xd a b) ≤ fl a + fl b := by
  unfold xd
  split
  · have h1 := fl_map_le (List.range a.length) (fun i => xorl (a.getD i []) (b.getD i [])) (fun i => a.getD i []) (fun i => b.getD i []) (fun i => xorl_len_le _ _)
    have h2 := map_getD_le a.length a
    have h3 := map_getD_le a.length b
    unfold xdL
    omega
  · omega
theorem hsh_digL (zss : List (List Int)) : hsh (digL zss) = dig zss := rfl
theorem dig_bound (zss : List (List Int)) : 0 ≤ dig zss ∧ dig zss ≤ 2147483646 := hsh_bound _

end Go.Proofs.Ytigeghmkkppldaa


/-! Db1 -/
namespace Go.Proofs.Ytigeghmkkppldaa
open Go Go.RowKit
set_option linter.unusedVariables false
attribute [local irreducible] kh

theorem cell_any {w : World} {a : Option Addr} {n cap : Nat} : Calls Try.prog 64 #[.slice a n cap] w fun e w' => e = .returned (.bool ((n : Int) == 24)) ∧ w' = w := by
  go_enter Try.func64, Try.ntmps64
  go_wp2
  go_ret
  exact ⟨rfl, rfl⟩

theorem vd_of {zss : List (List Int)} (h : zss.length ≤ 64) : vd zss = vrows zss := by unfold vd; rw [decide_eq_true h]; rfl
theorem vd_big {zss : List (List Int)} (h : 64 < zss.length) : vd zss = false := by unfold vd; rw [decide_eq_false (by omega)]; rfl

set_option maxHeartbeats 1000000 in
/-- impl.IsValidDatabase -/
theorem impl_vd {lim : Nat} {w : World} {v : Value} {zss : List (List Int)} (h : Rd2 lim .u8 w v zss) (hlim : lim ≤ w.heap.size) :
    Calls Try.prog 60 #[.agg #[v]] w fun e w' => e = .returned (.bool (vd zss)) ∧ Below w.heap.size w w' := by
  obtain ⟨a, cap, rfl, h1, h2, hc⟩ := h.open
  have HB := Lib.hid ((Below.refl w.heap.size w).alloc (Nat.le_refl _) (.cells #[.slice a zss.length cap] 26))
  unfold maxLen at h2
  have Hc := Lib.hid hc
  obtain ⟨q, hq⟩ : ∃ q, q = vd zss := ⟨_, rfl⟩
  rw [← hq]
  have HQ := Lib.hid hq
  clear h hc hq
  by_cases hbig : 64 < zss.length
  · have e1 : decide ((64 : Int) < (zss.length : Int)) = true := by simp; omega
    have HE : Hid (q = false) := Lib.hid (by rw [HQ.out, vd_big hbig])
    clear hbig
    go_enter Try.func60, Try.ntmps60
    go_wp2_with fail
    go_ret
    exact ⟨by rw [HE.out]; rfl, HB.out⟩
  · have e1 : decide ((64 : Int) < (zss.length : Int)) = false := by simp; omega
    have hn : zss.length ≤ 64 := by omega
    have HV : Hid (q = vrows zss) := Lib.hid (by rw [HQ.out, vd_of hn])
    clear hbig
    go_enter Try.func60, Try.ntmps60
    go_wp2_with fail
    go_loopw [12] (fun i wr => ∃ j : Nat, i = .int .i64 j ∧ j ≤ zss.length ∧ (∀ k, k < j → (zss.getD k []).length = 24) ∧ Below w.heap.size w wr) (fun i _ => zss.length - (intOf i).toNat)
    case atStart => exact ⟨0, rfl, Nat.zero_le _, fun k hk => by omega, HB.out⟩
    case round =>
      obtain ⟨j, rfl, hj, hall, hB⟩ := hrel
      replace HB := Lib.hid hB
      have HA := Lib.hid hall
      clear hB hall
      by_cases hlt : j < zss.length
      · have e2 : decide ((j : Int) < (zss.length : Int)) = true := by simp; omega
        obtain ⟨b, o, rfl, hbl, hcell⟩ := Hc.out (by omega)
        obtain ⟨zs, hzs⟩ : ∃ zs, zss[j]? = some zs := ⟨_, List.getElem?_eq_getElem hlt⟩
        obtain ⟨u, c1, hr⟩ := hcell wr (HB.out.mono hlim) j zs hzs
        obtain ⟨a1, k1, hu, _⟩ := hr.open
        obtain ⟨L, hL⟩ : ∃ L, L = zs.length := ⟨_, rfl⟩
        rw [← hL] at hu
        subst hu
        have HLz : Hid ((zss.getD j []).length = L) := Lib.hid (by rw [getD_of hzs, hL])
        clear hcell hzs hr hL
        by_cases h24 : L = 24
        · have e3 : ((L : Int) == 24) = true := by simp; omega
          have H24 := Lib.hid h24
          clear h24
          go_wp2_with fail
          refine (cell_any).mono ?_
          rw [e3]
          rintro e w2 ⟨rfl, hw2⟩
          subst hw2
          go_wp2_with fail
          go_roundw
          case rel =>
            refine ⟨j + 1, by simp, hlt, fun k hk => ?_, HB.out⟩
            by_cases hkj : k = j
            · rw [hkj, HLz.out, H24.out]
            · exact HA.out k (by omega)
          case measure => simp [intOf]; omega
        · have e3 : ((L : Int) == 24) = false := by rw [beq_eq_false_iff_ne]; omega
          have HE : Hid (q = false) := Lib.hid (by rw [HV.out]; exact vrows_no hlt (by rw [HLz.out]; exact h24))
          clear h24
          go_wp2_with fail
          refine (cell_any).mono ?_
          rw [e3]
          rintro e w2 ⟨rfl, hw2⟩
          subst hw2
          go_wp2_with fail
          go_ret
          exact ⟨by rw [HE.out]; rfl, HB.out⟩
      · have e2 : decide ((j : Int) < (zss.length : Int)) = false := by simp; omega
        have HE : Hid (q = true) := Lib.hid (by rw [HV.out]; exact vrows_iff.2 fun i hi => HA.out i (by omega))
        go_wp2_with fail
        go_ret
        exact ⟨by rw [HE.out]; rfl, HB.out⟩

set_option maxHeartbeats 1000000 in
/-- spec.IsValidDatabase -/
theorem spec_vd {lim : Nat} {w : World} {v : Value} {zss : List (List Int)} (h : Rd2 lim .u8 w v zss) (hlim : lim ≤ w.heap.size) :
    Calls Try.prog 72 #[.agg #[v]] w fun e w' => e = .returned (.bool (vd zss)) ∧ Below w.heap.size w w' := by
  obtain ⟨a, cap, rfl, h1, h2, hc⟩ := h.open
  have HB := Lib.hid ((Below.refl w.heap.size w).alloc (Nat.le_refl _) (.cells #[.slice a zss.length cap] 26))
  have HBk := Lib.hid (heap_alloc_new w (.cells #[.slice a zss.length cap] 26))
  unfold maxLen at h2
  have Hc := Lib.hid hc
  obtain ⟨q, hq⟩ : ∃ q, q = vd zss := ⟨_, rfl⟩
  rw [← hq]
  have HQ := Lib.hid hq
  clear h hc hq
  go_enter Try.func72, Try.ntmps72
  go_wp2_with fail
  go_loopw [3] (fun i wr => ∃ j : Nat, i = .int .i64 j ∧ j ≤ zss.length ∧ (∀ k, k < j → (zss.getD k []).length = 24) ∧ wr.heap[w.heap.size]? = some (.cells #[.slice a zss.length cap] 26) ∧ Below w.heap.size w wr) (fun i _ => zss.length - (intOf i).toNat)
  case atStart => exact ⟨0, rfl, Nat.zero_le _, fun k hk => by omega, HBk.out, HB.out⟩
  case round =>
    obtain ⟨j, rfl, hj, hall, hK, hB⟩ := hrel
    replace HB := Lib.hid hB
    have HA := Lib.hid hall
    have HK := Lib.hid hK
    have cD := blk_cell hK 0
    rw [one0] at cD
    clear hB hall hK
    by_cases hlt : j < zss.length
    · have e2 : decide ((j : Int) < (zss.length : Int)) = true := by simp; omega
      have hlt' : (j : Int) < (zss.length : Int) := by omega
      obtain ⟨b, o, rfl, hbl, hcell⟩ := Hc.out (by omega)
      obtain ⟨zs, hzs⟩ : ∃ zs, zss[j]? = some zs := ⟨_, List.getElem?_eq_getElem hlt⟩
      obtain ⟨u, c1, hr⟩ := hcell wr (HB.out.mono hlim) j zs hzs
      obtain ⟨a1, k1, hu, _⟩ := hr.open
      obtain ⟨L, hL⟩ : ∃ L, L = zs.length := ⟨_, rfl⟩
      rw [← hL] at hu
      subst hu
      have HLz : Hid ((zss.getD j []).length = L) := Lib.hid (by rw [getD_of hzs, hL])
      clear hcell hzs hr hL
      by_cases h24 : L = 24
      · have e3 : ((L : Int) != 24) = false := by simp; omega
        have H24 := Lib.hid h24
        clear h24
        go_wp2_with fail
        go_roundw
        case rel =>
          refine ⟨j + 1, by simp, hlt, fun k hk => ?_, HK.out, HB.out⟩
          by_cases hkj : k = j
          · rw [hkj, HLz.out, H24.out]
          · exact HA.out k (by omega)
        case measure => simp [intOf]; omega
      · have e3 : ((L : Int) != 24) = true := by simp; omega
        have HE : Hid (q = false) := Lib.hid (by
          rw [HQ.out]; unfold vd
          rw [vrows_no hlt (by rw [HLz.out]; exact h24), Bool.and_false])
        clear h24
        go_wp2_with fail
        go_ret
        exact ⟨by rw [HE.out]; rfl, HB.out⟩
    · have e2 : decide ((j : Int) < (zss.length : Int)) = false := by simp; omega
      have HE : Hid (q = decide ((zss.length : Int) ≤ 64)) := Lib.hid (by
        rw [HQ.out]; unfold vd
        rw [vrows_iff.2 fun i hi => HA.out i (by omega), Bool.and_true]
        exact decide_eq_decide.2 (by omega))
      go_wp2_with fail
      go_ret
      exact ⟨by rw [HE.out]; rfl, HB.out⟩

end Go.Proofs.Ytigeghmkkppldaa


/-! Db4 -/
namespace Go.Proofs.Ytigeghmkkppldaa
open Go Go.RowKit
set_option linter.unusedVariables false
attribute [local irreducible] kh

theorem row_fl {zss : List (List Int)} (hn : tot zss ≤ 1099511627776) {j : Nat} {zs : List Int} (h : zss[j]? = some zs) : zs.length ≤ 1099511627776 := by
  have := tot_at h; omega

end Go.Proofs.Ytigeghmkkppldaa
