/- Rows compared as arrays: what cellAt gives, when two arrays are equal. No conditions but a length that a machine holds. -/
import Derived.Test.YtdipignajccdcaaBbD
import Derived.Test.YtdipignajccdcaaBa8
import Derived.Test.YtdipignajccdcaaHeldL
import Derived.Laws.CopyOwn
import Derived.Laws.Rows
import Derived.Deep.MidRow
import Derived.ChangeKeysEq
import Derived.Laws.StructEq
namespace Go.Proofs.Ytdipignajccdcaa
open Go Go.RowKit
set_option linter.unusedVariables false
attribute [local irreducible] kh

/-- The 24 bytes from s on, filled up with zeros. -/
def c24 (zs : List Int) (s : Nat) : List Int := (zs.drop s).take 24 ++ List.replicate (24 - (zs.length - s)) 0
theorem c24_len (zs : List Int) (s : Nat) : (c24 zs s).length = 24 := by unfold c24; simp; omega
/-- As an array. -/
def arr (xs : List Int) : Array Value := (xs.map (Value.int .u8)).toArray
theorem arr_size (xs : List Int) : (arr xs).size = xs.length := by simp [arr]
theorem arr_get {xs : List Int} {i : Nat} (h : i < xs.length) : (arr xs)[i]? = some (.int .u8 (xs.getD i 0)) := by
  simp [arr, List.getD_eq_getElem?_getD, h]

theorem eq_items {w : World} {x y : List Int} : ∀ is : List Nat, (∀ i ∈ is, i < x.length ∧ i < y.length) →
    (Op.eqItems 9999 5 1 (arr x) (arr y) is).run Try.prog w = .ok (is.all fun i => x.getD i 0 == y.getD i 0) w
  | [], _ => by simp [Op.eqItems]
  | i :: is, h => by
    obtain ⟨h1, h2⟩ := h i (by simp)
    have p1 := run_part_plain (P := Try.prog) w (e := 5) (by kernel_rfl) (arr_get h1)
    have p2 := run_part_plain (P := Try.prog) w (e := 5) (by kernel_rfl) (arr_get h2)
    have p3 := run_equalIn_int (P := Try.prog) w 9998 5 .u8 .u8 (x.getD i 0) (y.getD i 0) Try.underlying5
    have ih := eq_items (w := w) is (fun j hj => h j (by simp [hj]))
    simp only [Op.eqItems, Sem.run_bind, Nat.mul_one, p1, p2, p3, Result.andThen_ok, List.all_cons]
    cases hb : (x.getD i 0 == y.getD i 0)
    · simp
    · simpa using ih

theorem eq_arr {w : World} {x y : List Int} (hx : x.length = 24) (hy : y.length = 24) : (Op.equalIn 10000 93 (.agg (arr x)) (.agg (arr y))).run Try.prog w = .ok (decide (x = y)) w := by
  obtain ⟨i0, hi, hz0, hz1, hz2⟩ := info_parts infou8
  rw [run_equalIn_array (P := Try.prog) w 9999 (arr x) (arr y) Try.underlying93 hi, show Program.cellsOf Try.prog 5 = 1 by kernel_rfl, eq_items _ (fun i hi => by have := List.mem_range.1 hi; omega)]
  congr 1
  rw [Bool.eq_iff_iff, List.all_eq_true, decide_eq_true_eq]
  constructor
  · intro h
    exact list_eq (by omega) (fun i hi => by simpa using h i (List.mem_range.2 (by omega)))
  · rintro rfl i _
    simp

theorem Rd.tail {lim : Nat} {k : IntKind} {w : World} {a : Option Addr} {cap : Nat} {zs : List Int} (h : Rd lim k w (.slice a zs.length cap) zs) {s : Nat} (hs : s ≤ zs.length) : Rd lim k w (Go.sliced a s zs.length cap 1) (zs.drop s) := by
  have h1 := h.sliced (l := s) (n := zs.length - s) (by omega)
  rw [show s + (zs.length - s) = zs.length by omega, List.take_of_length_le (by simp)] at h1
  exact h1

/-- A whole array, stored into a variable of its own. -/
theorem wpList_store_row {P : Program} {ops : Array Oper} {rest : List Oper} {o : Oper} {a : Act} {w : World} {Q : Exit → Act → World → Prop} (hgd : o.guard = none) (ty : TypeId) (x y : Operand) (ho : o.op = .store ty x y)
    (g : Nat) {cs cur : Array Value} (hx : a.eval x = .pointer (some ⟨g, 0, none⟩)) (hy : a.eval y = .agg cs) (t : TypeId) (hg : w.heap[g]? = some (.cells cur t (0, 0))) (hi : (P.info? ty).map (·.size) = some cs.size) (hsz : cur.size = cs.size)
    (h1 : cs.all (·.oneCell') = true) (h : wpList P ops Q rest (a.put o.dst undef) (w.setRow g cs)) : wpList P ops Q (o :: rest) a w :=
  wpList_plain hgd fun K hK => by
    have hrun := run_storeVar_row (P := P) w g t ty cur cs hg hi hsz h1
    unfold Oper.wp execOp
    simp only [ho, hx, hy, Instr.storeAt, Instr.sureAddr, Sem.run_bind, Sem.run_pure, Result.andThen_ok, hrun]
    exact hK _ _ h

set_option maxRecDepth 20000 in
set_option maxHeartbeats 2000000 in
/-- impl.cellAt -/
theorem cellAt_any {lim : Nat} {w : World} {v : Value} {zs : List Int} {s : Nat} (h : Rd lim .u8 w v zs) (hlim : lim ≤ w.heap.size) (hs : s ≤ zs.length) :
    Calls Try.prog 96 #[v, .int .i64 (s : Int)] w fun e w' => e = .returned (.agg (arr (c24 zs s))) ∧ Below w.heap.size w w' := by
  obtain ⟨i0, hi0, hz0, hz1, hz2⟩ := info_parts infou8
  have Hhi := Lib.hid hi0
  have hs1 : (Try.prog.info? 5).map (·.size) = some 1 := by rw [hi0]; simp [hz1]
  have HS1 := Lib.hid hs1
  have hu85 : Try.prog.underlying 93 = some (.array 24 5) := Try.underlying93
  have hi85 : (Try.prog.info? 93).map (·.size) = some 24 := by kernel_rfl
  have HI85 := Lib.hid hi85
  have HU85 := Lib.hid hu85
  obtain ⟨a, cap, rfl, h1, h2, hc⟩ := h.open
  have HX := Lib.hid h
  unfold maxLen at h2
  clear h hc hi0 hs1 hi85 hu85
  go_enter Try.func96, Try.ntmps96
  go_wp2_with fail
  have hbl := blocks2 w (.cells (List.replicate 24 (Value.int .u8 0)).toArray 93) (.cells (List.replicate 24 (Value.int .u8 0)).toArray 93)
  have hB2 : Below w.heap.size w ((w.alloc (.cells (List.replicate 24 (Value.int .u8 0)).toArray 93)).alloc (.cells (List.replicate 24 (Value.int .u8 0)).toArray 93)) := ((Below.refl w.heap.size w).alloc (Nat.le_refl _) _).alloc (by simp) _
  obtain ⟨w2, hw2⟩ : ∃ w2, w2 = (w.alloc (.cells #[.int .u8 0, .int .u8 0, .int .u8 0, .int .u8 0, .int .u8 0, .int .u8 0, .int .u8 0, .int .u8 0, .int .u8 0, .int .u8 0, .int .u8 0, .int .u8 0, .int .u8 0, .int .u8 0, .int .u8 0, .int .u8 0, .int .u8 0, .int .u8 0, .int .u8 0, .int .u8 0, .int .u8 0, .int .u8 0, .int .u8 0, .int .u8 0] 93)).alloc (.cells #[.int .u8 0, .int .u8 0, .int .u8 0, .int .u8 0, .int .u8 0, .int .u8 0, .int .u8 0, .int .u8 0, .int .u8 0, .int .u8 0, .int .u8 0, .int .u8 0, .int .u8 0, .int .u8 0, .int .u8 0, .int .u8 0, .int .u8 0, .int .u8 0, .int .u8 0, .int .u8 0, .int .u8 0, .int .u8 0, .int .u8 0, .int .u8 0] 93) := ⟨_, rfl⟩
  have hw2' : (w.alloc (.cells (List.replicate 24 (Value.int .u8 0)).toArray 93)).alloc (.cells (List.replicate 24 (Value.int .u8 0)).toArray 93) = w2 := hw2.symm
  rw [← hw2]
  rw [hw2'] at hbl hB2
  have HR := Lib.hid hbl.1
  have HD := Lib.hid hbl.2
  have HB := Lib.hid hB2
  have HX2 := Lib.hid (HX.out.behind (hB2.mono hlim))
  clear hw2 hw2' hbl hB2
  have HT := Lib.hid (HX2.out.drew.tail hs)
  obtain ⟨u1, hu1⟩ : ∃ u, u = Go.sliced a s zs.length cap 1 := ⟨_, rfl⟩
  rw [← hu1] at HT
  obtain ⟨a1, k1, hv1, _, _, hc1⟩ := HT.out.open
  rw [List.length_drop] at hv1
  have HC1 := Lib.hid hc1
  clear hc1
  refine region_till (fun _ => True) 4 (by kernel_rfl) ?_
  apply Till.take (i := 0) (v := .slice (some ⟨w.heap.size + 1, 0, none⟩) 24 24) [0, 4]
  · simp only [List.getElem?_toArray, List.getElem?_cons_zero]
    rfl
  · kernel_rfl
  · kernel_rfl
  · kernel_rfl
  · kernel_rfl
  · exact fun _ _ _ h => h
  · first
      | exact Or.inr ⟨by rfl, rfl⟩
      | (refine Or.inl ⟨by rfl, fun wq hwq => ?_⟩
         go_simp
         first
           | done
           | rfl)
  · trivial
  simp only [Act.put, List.setIfInBounds_toArray, List.set_cons_zero, List.set_cons_succ]
  apply Till.take (i := 1) [1, 3, 4]
  · simp only [List.getElem?_toArray, List.getElem?_cons_succ, List.getElem?_cons_zero]
    rfl
  · kernel_rfl
  · kernel_rfl
  · kernel_rfl
  · kernel_rfl
  · exact fun _ _ _ h => h
  · first
      | exact Or.inr ⟨by rfl, rfl⟩
      | (refine Or.inl ⟨by rfl, fun wq hwq => ?_⟩
         go_simp
         first
           | done
           | rfl)
  · trivial
  simp only [Act.put, List.setIfInBounds_toArray, List.set_cons_zero, List.set_cons_succ]
  apply Till.take (i := 2) [2, 3, 4]
  · simp only [List.getElem?_toArray, List.getElem?_cons_succ, List.getElem?_cons_zero]
    rfl
  · kernel_rfl
  · kernel_rfl
  · kernel_rfl
  · kernel_rfl
  · exact fun _ _ _ h => h
  · first
      | exact Or.inr ⟨by rfl, rfl⟩
      | (refine Or.inl ⟨by rfl, fun wq hwq => ?_⟩
         go_simp
         first
           | done
           | rfl)
  · trivial
  simp only [Act.put, List.setIfInBounds_toArray, List.set_cons_zero, List.set_cons_succ]
  apply Till.take (i := 3) (v := Go.sliced a s zs.length cap 1) [3, 4]
  · simp only [List.getElem?_toArray, List.getElem?_cons_succ, List.getElem?_cons_zero]
    rfl
  · kernel_rfl
  · kernel_rfl
  · kernel_rfl
  · kernel_rfl
  · exact fun _ _ _ h => h
  · refine Or.inl ⟨by rfl, fun _ _ => ?_⟩
    exact run_slice_op_l _ 22 _ 5 i0 Try.underlying22 Hhi.out hz1 (n := s) _ rfl rfl rfl hs
  · trivial
  simp only [Act.put, List.setIfInBounds_toArray, List.set_cons_zero, List.set_cons_succ]
  rw [← hu1, hv1]
  clear hu1 hv1
  apply Till.one (i := 4)
  · kernel_rfl
  · simp only [List.getElem?_toArray, List.getElem?_cons_succ, List.getElem?_cons_zero]
    rfl
  intro K hK
  refine step_copy_splice (by rfl) _ _ 22 22 (by rfl) 5 Try.underlying22 HS1.out (some ⟨w.heap.size + 1, 0, none⟩) a1 24 24 (zs.length - s) k1 (by rfl) (by rfl) (w.heap.size + 1) 0 (List.replicate 24 (Value.int .u8 0)) 93 HD.out (((zs.drop s).take 24).map (Value.int .u8)) (by simp [Nat.min_def]; split <;> split <;> omega) ?_ (by simp; omega) (fun v hv => by obtain ⟨z, _, rfl⟩ := List.mem_map.1 hv; rfl) (w.heap.size + 1) w2.drew (Below.refl _ _) (Nat.le_refl _) ?_
  · intro hp
    rw [List.length_map, List.length_take, List.length_drop] at hp
    refine ⟨rfl, ?_⟩
    obtain ⟨b, o, rfl, hb, hcell⟩ := HC1.out (by rw [List.length_drop]; omega)
    refine ⟨⟨b, o, none⟩, rfl, fun j v hv => ?_⟩
    have hj := (List.getElem?_eq_some_iff.1 hv).1
    rw [List.length_map, List.length_take, List.length_drop] at hj
    rw [add_off', hcell w2.drew (Below.refl _ _) j (by rw [List.length_drop]; omega)]
    rw [List.getElem?_map, List.getElem?_take_of_lt (by omega), List.getElem?_eq_getElem (by rw [List.length_drop]; omega)] at hv
    rw [List.getD_eq_getElem?_getD, List.getElem?_eq_getElem (by rw [List.length_drop]; omega)]
    simpa using hv
  intro w5 hd5 hb5
  have eC : splice (List.replicate 24 (Value.int .u8 0)) 0 (((zs.drop s).take 24).map (Value.int .u8)) = (c24 zs s).map (Value.int .u8) := by
    unfold splice c24
    rw [List.take_zero, List.nil_append, Nat.zero_add, List.drop_replicate, List.map_append, List.map_replicate]
    congr 2
    rw [List.length_map, List.length_take, List.length_drop]
    omega
  have hd5' := hd5.out
  rw [eC] at hd5'
  have HD5 := Lib.hid hd5'
  have HR5 := Lib.hid ((hb5.block w.heap.size (by omega)).trans HR.out)
  have HB5 := Lib.hid (HB.out.drew.trans (hb5.mono (by omega)))
  clear hd5 hb5 eC hd5'
  refine hK.out _ _ (Or.inl (by rfl)) ?_
  clear hK K
  try simp only [Act.put, List.setIfInBounds_toArray, List.set_cons_zero, List.set_cons_succ]
  refine Till.done (by kernel_rfl) ?_ _
  obtain ⟨C, hC⟩ : ∃ C, C = arr (c24 zs s) := ⟨_, rfl⟩
  have HD6 : Hid (w5.heap[w.heap.size + 1]? = some (.cells C 93 (0, 0))) := Lib.hid (by rw [hC]; exact HD5.out)
  have HCs : Hid (C.size = 24) := Lib.hid (by rw [hC, arr_size, c24_len])
  have HC1 : Hid (C.all (·.oneCell') = true) := Lib.hid (by rw [hC]; exact all_oneCell_toArray (fun v hv => by obtain ⟨z, _, rfl⟩ := List.mem_map.1 hv; rfl))
  have HCe := Lib.hid hC
  have HB6 : Hid (Below w.heap.size w (w5.setRow w.heap.size C)) := Lib.hid (HB5.out.trans ⟨rfl, rfl, rfl, by simp, fun b hb => setRow_other w5 w.heap.size b C (by omega)⟩)
  have HR6 : Hid ((w5.setRow w.heap.size C).heap[w.heap.size]? = some (.cells C 93 (0, 0))) := Lib.hid (setRow_heap w5 w.heap.size _ C _ _ HR5.out)
  clear HD5 hC
  go_wp2_with (first
    | (refine wpList_load_row rfl 93 _ rfl (w.heap.size + 1) rfl 93 C (0, 0) _ HD6.out HU85.out rfl (by rw [HI85.out, HCs.out]) ?_)
    | (refine wpList_store_row rfl 93 _ _ rfl w.heap.size rfl rfl 93 HR5.out (by rw [HI85.out, HCs.out]) (by rw [HCs.out]; simp) HC1.out ?_))
  obtain ⟨W7, hW7⟩ : ∃ W7, W7 = w5.setRow w.heap.size C := ⟨_, rfl⟩
  rw [← hW7] at HB6 HR6 ⊢
  clear hW7
  refine bodyPost_ret (v := .agg C) ?_ rfl ⟨by rw [HCe.out], HB6.out⟩
  exact results_cell_row Try.results96 _ W7 w.heap.size 93 C (0, 0) _ rfl HR6.out HU85.out rfl (by rw [HI85.out, HCs.out])

end Go.Proofs.Ytdipignajccdcaa
