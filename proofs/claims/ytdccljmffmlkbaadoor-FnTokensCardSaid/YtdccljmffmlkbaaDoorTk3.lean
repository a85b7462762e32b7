/- Blind tokens: the program's steps of issuing (functions in a slice), its requests and its finished tokens. No conditions but numbers that a machine holds. -/
import Derived.Test.YtdccljmffmlkbaaDoorBcT
import Derived.Laws.EntriesVeiled
import Derived.Deep.DeepCutAuto
namespace Go.Proofs.YtdccljmffmlkbaaDoor
open Go Go.RowKit
set_option linter.unusedVariables false
set_option maxRecDepth 20000
attribute [local irreducible] kh kid pwm tcm pw chl

/-- A block of seven cells. -/
theorem p70 (a b c d e f g : Value) : (#[a, b, c, d, e, f, g] : Array Value)[0]? = some a ∧ (#[a, b, c, d, e, f, g] : Array Value)[1]? = some b ∧ (#[a, b, c, d, e, f, g] : Array Value)[2]? = some c ∧ (#[a, b, c, d, e, f, g] : Array Value)[3]? = some d ∧ (#[a, b, c, d, e, f, g] : Array Value)[4]? = some e ∧ (#[a, b, c, d, e, f, g] : Array Value)[5]? = some f ∧ (#[a, b, c, d, e, f, g] : Array Value)[6]? = some g := ⟨rfl, rfl, rfl, rfl, rfl, rfl, rfl⟩
theorem pc7 {w : World} {n : Nat} {a b c d e f g : Value} {t : TypeId} (h : w.heap[n]? = some (.cells #[a, b, c, d, e, f, g] t (0, 0))) : w.cell? ⟨n, 0, none⟩ = some a ∧ w.cell? ⟨n, 1, none⟩ = some b ∧ w.cell? ⟨n, 2, none⟩ = some c ∧ w.cell? ⟨n, 3, none⟩ = some d ∧ w.cell? ⟨n, 4, none⟩ = some e ∧ w.cell? ⟨n, 5, none⟩ = some f ∧ w.cell? ⟨n, 6, none⟩ = some g := by
  obtain ⟨h0, h1, h2, h3, h4, h5, h6⟩ := p70 a b c d e f g
  exact ⟨(blk_cell h 0).trans h0, (blk_cell h 1).trans h1, (blk_cell h 2).trans h2, (blk_cell h 3).trans h3, (blk_cell h 4).trans h4, (blk_cell h 5).trans h5, (blk_cell h 6).trans h6⟩
theorem pf7 {w : World} {n : Nat} {a b c d e f g : Value} {t : TypeId} (h : w.heap[n]? = some (.cells #[a, b, c, d, e, f, g] t (0, 0))) : w.frozen? ⟨n, 0, none⟩ = false ∧ w.frozen? ⟨n, 1, none⟩ = false ∧ w.frozen? ⟨n, 2, none⟩ = false ∧ w.frozen? ⟨n, 3, none⟩ = false ∧ w.frozen? ⟨n, 4, none⟩ = false ∧ w.frozen? ⟨n, 5, none⟩ = false ∧ w.frozen? ⟨n, 6, none⟩ = false :=
  ⟨blk_free h 0, blk_free h 1, blk_free h 2, blk_free h 3, blk_free h 4, blk_free h 5, blk_free h 6⟩
/-- .. all written. -/
theorem pst7 {w : World} {n : Nat} {a b c d e f g : Value} {t : TypeId} (h : w.heap[n]? = some (.cells #[a, b, c, d, e, f, g] t (0, 0))) (a' b' c' d' e' f' g' : Value) :
    (((((((w.setCell ⟨n, 0, none⟩ a').setCell ⟨n, 1, none⟩ b').setCell ⟨n, 2, none⟩ c').setCell ⟨n, 3, none⟩ d').setCell ⟨n, 4, none⟩ e').setCell ⟨n, 5, none⟩ f').setCell ⟨n, 6, none⟩ g').heap[n]? = some (.cells #[a', b', c', d', e', f', g'] t (0, 0)) ∧
    w.grownBy (((((((w.setCell ⟨n, 0, none⟩ a').setCell ⟨n, 1, none⟩ b').setCell ⟨n, 2, none⟩ c').setCell ⟨n, 3, none⟩ d').setCell ⟨n, 4, none⟩ e').setCell ⟨n, 5, none⟩ f').setCell ⟨n, 6, none⟩ g') (some n) := by
  have h0 : (w.setCell ⟨n, 0, none⟩ a').heap[n]? = some (.cells #[a', b, c, d, e, f, g] t (0, 0)) := blk_set h 0 a'
  have h1 : ((w.setCell ⟨n, 0, none⟩ a').setCell ⟨n, 1, none⟩ b').heap[n]? = some (.cells #[a', b', c, d, e, f, g] t (0, 0)) := blk_set h0 1 b'
  have h2 : (((w.setCell ⟨n, 0, none⟩ a').setCell ⟨n, 1, none⟩ b').setCell ⟨n, 2, none⟩ c').heap[n]? = some (.cells #[a', b', c', d, e, f, g] t (0, 0)) := blk_set h1 2 c'
  have h3 : ((((w.setCell ⟨n, 0, none⟩ a').setCell ⟨n, 1, none⟩ b').setCell ⟨n, 2, none⟩ c').setCell ⟨n, 3, none⟩ d').heap[n]? = some (.cells #[a', b', c', d', e, f, g] t (0, 0)) := blk_set h2 3 d'
  have h4 : (((((w.setCell ⟨n, 0, none⟩ a').setCell ⟨n, 1, none⟩ b').setCell ⟨n, 2, none⟩ c').setCell ⟨n, 3, none⟩ d').setCell ⟨n, 4, none⟩ e').heap[n]? = some (.cells #[a', b', c', d', e', f, g] t (0, 0)) := blk_set h3 4 e'
  have h5 : ((((((w.setCell ⟨n, 0, none⟩ a').setCell ⟨n, 1, none⟩ b').setCell ⟨n, 2, none⟩ c').setCell ⟨n, 3, none⟩ d').setCell ⟨n, 4, none⟩ e').setCell ⟨n, 5, none⟩ f').heap[n]? = some (.cells #[a', b', c', d', e', f', g] t (0, 0)) := blk_set h4 5 f'
  have h6 : (((((((w.setCell ⟨n, 0, none⟩ a').setCell ⟨n, 1, none⟩ b').setCell ⟨n, 2, none⟩ c').setCell ⟨n, 3, none⟩ d').setCell ⟨n, 4, none⟩ e').setCell ⟨n, 5, none⟩ f').setCell ⟨n, 6, none⟩ g').heap[n]? = some (.cells #[a', b', c', d', e', f', g'] t (0, 0)) := blk_set h5 6 g'
  exact ⟨h6, grown_trans (grown_trans (grown_trans (grown_trans (grown_trans (grown_trans (grown_set _ _ _ _) (grown_set _ _ _ _)) (grown_set _ _ _ _)) (grown_set _ _ _ _)) (grown_set _ _ _ _)) (grown_set _ _ _ _)) (grown_set _ _ _ _)⟩
/-- .. the fifth of the fields written. -/
theorem pst7x {w : World} {n : Nat} {a b c d e f g : Value} {t : TypeId} (h : w.heap[n]? = some (.cells #[a, b, c, d, e, f, g] t (0, 0))) (g' : Value) :
    (w.setCell ⟨n, 6, none⟩ g').heap[n]? = some (.cells #[a, b, c, d, e, f, g'] t (0, 0)) := blk_set h 6 g'

theorem blok_of {s b : Int} : blok s b = (okNr s && nz b) := rfl
set_option maxHeartbeats 4000000 in
/-- The first step, refused. -/
theorem blind_no {w : World} {s b k e c r x : Int} (hsw : (Lit.int .i64 s).wf = true) (hb : (Lit.int .i64 b).wf = true) (h : blok s b = false) :
    Calls Tryd.prog 91 #[.agg #[.int .i64 s, .int .i64 b, .int .i64 k, .int .i64 e, .int .i64 c, .int .i64 r, .int .i64 x]] w fun e' w' => e' = .returned (.tuple #[.agg #[.int .i64 0, .int .i64 0, .int .i64 0, .int .i64 0, .int .i64 0, .int .i64 0, .int .i64 0], .bool false]) ∧ Below w.heap.size w w' := by
  have HS := Lib.hid hsw
  have HBw := Lib.hid hb
  have HBl := Lib.hid h
  obtain ⟨a0, b0, hB⟩ := gtwo w (.cells #[.int .i64 s, .int .i64 b, .int .i64 k, .int .i64 e, .int .i64 c, .int .i64 r, .int .i64 x] 85) (.cells #[.int .i64 0, .int .i64 0, .int .i64 0, .int .i64 0, .int .i64 0, .int .i64 0, .int .i64 0] 85)
  obtain ⟨c0, c1, -⟩ := pc7 a0
  obtain ⟨r0, r1, r2, r3, r4, r5, r6⟩ := pc7 b0
  have HB := Lib.hid hB
  clear hsw hb h a0 b0 hB
  cases h1 : okNr s with
  | false =>
    have H1 := Lib.hid h1
    clear h1
    go_enter Tryd.func91, Tryd.ntmps91
    go_wp2_with fail
    refine (isS_any HS.out).mono ?_
    rw [H1.out]
    rintro e' w1 ⟨rfl, hw⟩
    obtain rfl := hw.symm
    go_wp2_with fail
    exact bodyPost_ret (v := .tuple #[.agg #[.int .i64 0, .int .i64 0, .int .i64 0, .int .i64 0, .int .i64 0, .int .i64 0, .int .i64 0], .bool false]) (by simp [results, Tryd.results91, go_sem, r0, r1, r2, r3, r4, r5, r6]) rfl ⟨rfl, HB.out⟩
  | true =>
    have H1 := Lib.hid h1
    have H2 : Hid (nz b = false) := Lib.hid (by have := HBl.out; rw [blok_of, h1] at this; simpa using this)
    clear h1
    go_enter Tryd.func91, Tryd.ntmps91
    go_wp2_with fail
    refine (isS_any HS.out).mono ?_
    rw [H1.out]
    rintro e' w1 ⟨rfl, hw⟩
    obtain rfl := hw.symm
    go_wp2_with fail
    refine (isH_any HBw.out).mono ?_
    rw [H2.out]
    rintro e' w1 ⟨rfl, hw⟩
    obtain rfl := hw.symm
    go_wp2_with fail
    exact bodyPost_ret (v := .tuple #[.agg #[.int .i64 0, .int .i64 0, .int .i64 0, .int .i64 0, .int .i64 0, .int .i64 0, .int .i64 0], .bool false]) (by simp [results, Tryd.results91, go_sem, r0, r1, r2, r3, r4, r5, r6]) rfl ⟨rfl, HB.out⟩

set_option maxHeartbeats 8000000 in
/-- The first step. -/
theorem blind_yes {w : World} {s b k e c r x : Int} (hsw : (Lit.int .i64 s).wf = true) (hb : (Lit.int .i64 b).wf = true) (h : blok s b = true) :
    Calls Tryd.prog 91 #[.agg #[.int .i64 s, .int .i64 b, .int .i64 k, .int .i64 e, .int .i64 c, .int .i64 r, .int .i64 x]] w fun e' w' => e' = .returned (.tuple #[.agg #[.int .i64 s, .int .i64 b, .int .i64 k, .int .i64 e, .int .i64 c, .int .i64 r, .int .i64 (pwG (hs s) b)], .bool true]) ∧ Below w.heap.size w w' := by
  have HS := Lib.hid hsw
  have HBw := Lib.hid hb
  have HBl := Lib.hid h
  obtain ⟨q, hq⟩ : ∃ q, q = Go.Proofs.YtdccljmffmlkbaaDoor.hs s := ⟨_, rfl⟩
  have HQw := Lib.hid (hs_wf s)
  rw [← hq] at HQw
  have HQ := Lib.hid hq
  obtain ⟨y, hy⟩ : ∃ y, y = pwG q b := ⟨_, rfl⟩
  have HY := Lib.hid hy
  have HR : Hid (pwG (Go.Proofs.YtdccljmffmlkbaaDoor.hs s) b = y) := Lib.hid (by rw [hy, hq])
  obtain ⟨a0, b0, hB⟩ := gtwo w (.cells #[.int .i64 s, .int .i64 b, .int .i64 k, .int .i64 e, .int .i64 c, .int .i64 r, .int .i64 x] 85) (.cells #[.int .i64 0, .int .i64 0, .int .i64 0, .int .i64 0, .int .i64 0, .int .i64 0, .int .i64 0] 85)
  obtain ⟨c0, c1, -⟩ := pc7 a0
  have H12 : okNr s = true ∧ nz b = true := by rw [blok_of] at h; simpa using h
  have H1 := Lib.hid H12.1
  have H2 := Lib.hid H12.2
  obtain ⟨W, hW⟩ : ∃ W, W = (w.alloc (.cells #[.int .i64 s, .int .i64 b, .int .i64 k, .int .i64 e, .int .i64 c, .int .i64 r, .int .i64 x] 85)).alloc (.cells #[.int .i64 0, .int .i64 0, .int .i64 0, .int .i64 0, .int .i64 0, .int .i64 0, .int .i64 0] 85) := ⟨_, rfl⟩
  rw [← hW] at a0 b0 hB
  have HW := Lib.hid hW
  have HA := Lib.hid a0
  have HC := Lib.hid b0
  have HB0 := Lib.hid hB
  clear a0 b0 hB
  clear hsw hb h hq hy H12 hW
  go_enter Tryd.func91, Tryd.ntmps91
  go_wp2_with fail
  refine (isS_any HS.out).mono ?_
  rw [H1.out]
  rintro e' w1 ⟨rfl, hw⟩
  obtain rfl := hw.symm
  go_wp2_with fail
  refine (isH_any HBw.out).mono ?_
  rw [H2.out]
  rintro e' w1 ⟨rfl, hw⟩
  obtain rfl := hw.symm
  go_wp2_with fail
  rw [← HW.out]
  clear c0 c1
  refine region_till (fun w' => w'.cell? ⟨w.heap.size, 0, none⟩ = some (.int .i64 s) ∧ w'.cell? ⟨w.heap.size, 1, none⟩ = some (.int .i64 b)) 7 (by kernel_rfl) ?_
  obtain ⟨wd, hwd⟩ : ∃ x, x = W.drew := ⟨_, rfl⟩
  have HBd : Hid (Below w.heap.size w wd) := Lib.hid (by rw [hwd]; exact HB0.out.drew)
  have HAd : Hid (wd.heap[w.heap.size]? = some (.cells #[.int .i64 s, .int .i64 b, .int .i64 k, .int .i64 e, .int .i64 c, .int .i64 r, .int .i64 x] 85)) := Lib.hid (by rw [hwd]; exact HA.out)
  have HCd : Hid (wd.heap[w.heap.size + 1]? = some (.cells #[.int .i64 0, .int .i64 0, .int .i64 0, .int .i64 0, .int .i64 0, .int .i64 0, .int .i64 0] 85)) := Lib.hid (by rw [hwd]; exact HC.out)
  have HSd : Hid (∀ w' : World, w'.heap[w.heap.size]? = some (.cells #[.int .i64 s, .int .i64 b, .int .i64 k, .int .i64 e, .int .i64 c, .int .i64 r, .int .i64 x] 85) → w'.cell? ⟨w.heap.size, 0, none⟩ = some (.int .i64 s) ∧ w'.cell? ⟨w.heap.size, 1, none⟩ = some (.int .i64 b)) := Lib.hid (fun w' h => by obtain ⟨h0, h1, h2, h3, h4, h5, h6⟩ := pc7 h; exact ⟨h0, h1⟩)
  have d0 := HSd.out _ HAd.out
  rw [← hwd]
  clear hwd HB0 HA HC
  apply Till.take (i := 0) [0, 1, 2, 5, 7]
  · simp only [List.getElem?_toArray, List.getElem?_cons_zero]
    rfl
  · kernel_rfl
  · kernel_rfl
  · kernel_rfl
  · kernel_rfl
  · exact fun _ _ _ h => h
  · first
      | exact Or.inr ⟨by rfl, rfl⟩
      | (refine Or.inl ⟨by rfl, fun wq hwq => ?_⟩
         dsimp only at hwq
         go_simp
         first
           | done
           | rfl)
  · exact d0
  simp only [Act.put, List.setIfInBounds_toArray, List.set_cons_zero, List.set_cons_succ]
  apply Till.take (i := 1) [1, 2, 5, 7]
  · simp only [List.getElem?_toArray, List.getElem?_cons_succ, List.getElem?_cons_zero]
    rfl
  · kernel_rfl
  · kernel_rfl
  · kernel_rfl
  · kernel_rfl
  · exact fun _ _ _ h => h
  · first
      | exact Or.inr ⟨by rfl, rfl⟩
      | (refine Or.inl ⟨by rfl, fun wq hwq => ?_⟩
         dsimp only at hwq
         go_simp
         first
           | done
           | rfl)
  · exact d0
  simp only [Act.put, List.setIfInBounds_toArray, List.set_cons_zero, List.set_cons_succ]
  apply Till.take (i := 3) [3, 4, 5, 7]
  · simp only [List.getElem?_toArray, List.getElem?_cons_succ, List.getElem?_cons_zero]
    rfl
  · kernel_rfl
  · kernel_rfl
  · kernel_rfl
  · kernel_rfl
  · exact fun _ _ _ h => h
  · first
      | exact Or.inr ⟨by rfl, rfl⟩
      | (refine Or.inl ⟨by rfl, fun wq hwq => ?_⟩
         dsimp only at hwq
         go_simp
         first
           | done
           | rfl)
  · exact d0
  simp only [Act.put, List.setIfInBounds_toArray, List.set_cons_zero, List.set_cons_succ]
  apply Till.take (i := 4) [4, 5, 7]
  · simp only [List.getElem?_toArray, List.getElem?_cons_succ, List.getElem?_cons_zero]
    rfl
  · kernel_rfl
  · kernel_rfl
  · kernel_rfl
  · kernel_rfl
  · exact fun _ _ _ h => h
  · first
      | exact Or.inr ⟨by rfl, rfl⟩
      | (refine Or.inl ⟨by rfl, fun wq hwq => ?_⟩
         dsimp only at hwq
         go_simp
         first
           | done
           | rfl)
  · exact d0
  simp only [Act.put, List.setIfInBounds_toArray, List.set_cons_zero, List.set_cons_succ]
  apply Till.one (i := 2)
  · kernel_rfl
  · simp only [List.getElem?_toArray, List.getElem?_cons_succ, List.getElem?_cons_zero]
    rfl
  intro K hK
  go_simp
  refine (sel_any HS.out).mono ?_
  rw [← HQ.out]
  rintro e' w3 ⟨he, hb⟩
  subst he
  replace HBd := Lib.hid (HBd.out.trans (hb.mono HBd.out.size))
  replace HAd := Lib.hid ((hb.block _ (lt_of_block HAd.out)).trans HAd.out)
  replace HCd := Lib.hid ((hb.block _ (lt_of_block HCd.out)).trans HCd.out)
  clear d0
  have d0 := HSd.out _ HAd.out
  clear hb
  refine hK.out _ _ (Or.inr d0) ?_
  clear hK K
  try simp only [Act.put, List.setIfInBounds_toArray, List.set_cons_zero, List.set_cons_succ]
  apply Till.one (i := 5)
  · kernel_rfl
  · simp only [List.getElem?_toArray, List.getElem?_cons_succ, List.getElem?_cons_zero]
    rfl
  intro K hK
  go_simp
  refine (impl_pwg HQw.out HBw.out).mono ?_
  rw [← HY.out]
  rintro e' w3 ⟨he, hb⟩
  subst he
  replace HBd := Lib.hid (HBd.out.trans (hb.mono HBd.out.size))
  replace HAd := Lib.hid ((hb.block _ (lt_of_block HAd.out)).trans HAd.out)
  replace HCd := Lib.hid ((hb.block _ (lt_of_block HCd.out)).trans HCd.out)
  clear d0
  have d0 := HSd.out _ HAd.out
  clear hb
  refine hK.out _ _ (Or.inr d0) ?_
  clear hK K
  try simp only [Act.put, List.setIfInBounds_toArray, List.set_cons_zero, List.set_cons_succ]
  apply Till.take (i := 6) [6, 7]
  · simp only [List.getElem?_toArray, List.getElem?_cons_succ, List.getElem?_cons_zero]
    rfl
  · kernel_rfl
  · kernel_rfl
  · kernel_rfl
  · kernel_rfl
  · exact fun _ _ _ h => h
  · first
      | exact Or.inr ⟨by rfl, rfl⟩
      | (refine Or.inl ⟨by rfl, fun wq hwq => ?_⟩
         dsimp only at hwq
         go_simp
         first
           | done
           | rfl)
  · exact d0
  simp only [Act.put, List.setIfInBounds_toArray, List.set_cons_zero, List.set_cons_succ]
  obtain ⟨wd2, hwd2⟩ : ∃ x, x = w3 := ⟨_, rfl⟩
  rw [← hwd2] at HAd HBd HCd
  rw [← hwd2]
  clear hwd2 d0
  obtain ⟨c0, c1, c2, c3, c4, c5, c6⟩ := pc7 HAd.out
  obtain ⟨_, _, _, _, _, _, f6⟩ := pf7 HAd.out
  have k1 := pst7x HAd.out (.int .i64 y)
  have g1 := grown_set wd2 w.heap.size 6 (.int .i64 y)
  apply Till.one (i := 7)
  · kernel_rfl
  · simp only [List.getElem?_toArray, List.getElem?_cons_succ, List.getElem?_cons_zero]
    rfl
  intro K hK
  go_simp
  skip
  refine hK.out _ _ (Or.inl (by rfl)) ?_
  clear hK K
  try simp only [Act.put, List.setIfInBounds_toArray, List.set_cons_zero, List.set_cons_succ]
  refine Till.done (by kernel_rfl) ?_ _
  have hC2 : (wd2.setCell ⟨w.heap.size, 6, none⟩ (.int .i64 y)).heap[w.heap.size + 1]? = some (.cells #[.int .i64 0, .int .i64 0, .int .i64 0, .int .i64 0, .int .i64 0, .int .i64 0, .int .i64 0] 85) := (g1.block _ (lt_of_block HCd.out) (fun h => by injection h with h; omega)).trans HCd.out
  obtain ⟨k2, g2⟩ := pst7 hC2 (.int .i64 s) (.int .i64 b) (.int .i64 k) (.int .i64 e) (.int .i64 c) (.int .i64 r) (.int .i64 y)
  obtain ⟨r0, r1, r2, r3, r4, r5, r6⟩ := pc7 k2
  obtain ⟨i0, i1, i2, i3, i4, i5, i6⟩ := pc7 k1
  obtain ⟨j0, j1, j2, j3, j4, j5, j6⟩ := pc7 hC2
  obtain ⟨f0, f1, f2, f3, f4, f5, f7⟩ := pf7 hC2
  have HBn := Lib.hid ((HBd.out.grown g1 HBd.out.size (fun k hk => by injection hk with hk; omega)).grown g2 (by have := HBd.out.size; simpa using this) (fun k hk => by injection hk with hk; omega))
  obtain ⟨W3, hW3⟩ : ∃ W, W = wd2.setCell ⟨w.heap.size, 6, none⟩ (.int .i64 y) := ⟨_, rfl⟩
  rw [← hW3] at i0 i1 i2 i3 i4 i5 i6 j0 j1 j2 j3 j4 j5 j6 f0 f1 f2 f3 f4 f5 f7 r0 r1 r2 r3 r4 r5 r6 HBn
  clear c0 c1 c2 c3 c4 c5 c6 f6 k1 g1 k2 g2 hC2
  rw [← hW3]
  clear hW3
  go_wp2_with fail
  exact bodyPost_ret (v := .tuple #[.agg #[.int .i64 s, .int .i64 b, .int .i64 k, .int .i64 e, .int .i64 c, .int .i64 r, .int .i64 y], .bool true]) (by simp [results, Tryd.results91, go_sem, r0, r1, r2, r3, r4, r5, r6]) rfl ⟨by rw [HR.out], HBn.out⟩

set_option maxHeartbeats 8000000 in
/-- The last step. -/
theorem unblind_any {w : World} {s b k e c r x : Int} (hb : (Lit.int .i64 b).wf = true) (he : (Lit.int .i64 e).wf = true) :
    Calls Tryd.prog 93 #[.agg #[.int .i64 s, .int .i64 b, .int .i64 k, .int .i64 e, .int .i64 c, .int .i64 r, .int .i64 x]] w fun e' w' => e' = .returned (.tuple #[.agg #[.int .i64 s, .int .i64 b, .int .i64 k, .int .i64 e, .int .i64 c, .int .i64 r, .int .i64 (pwG e (invE b))], .bool true]) ∧ Below w.heap.size w w' := by
  have HBw := Lib.hid hb
  have HEw := Lib.hid he
  have HIw := Lib.hid (invE_wf b)
  obtain ⟨i, hi⟩ : ∃ i, i = invE b := ⟨_, rfl⟩
  rw [← hi] at HIw
  have HI := Lib.hid hi
  obtain ⟨y, hy⟩ : ∃ y, y = pwG e i := ⟨_, rfl⟩
  have HY := Lib.hid hy
  have HR : Hid (pwG e (invE b) = y) := Lib.hid (by rw [hy, hi])
  obtain ⟨a0, b0, hB⟩ := gtwo w (.cells #[.int .i64 s, .int .i64 b, .int .i64 k, .int .i64 e, .int .i64 c, .int .i64 r, .int .i64 x] 85) (.cells #[.int .i64 0, .int .i64 0, .int .i64 0, .int .i64 0, .int .i64 0, .int .i64 0, .int .i64 0] 85)

  obtain ⟨W, hW⟩ : ∃ W, W = (w.alloc (.cells #[.int .i64 s, .int .i64 b, .int .i64 k, .int .i64 e, .int .i64 c, .int .i64 r, .int .i64 x] 85)).alloc (.cells #[.int .i64 0, .int .i64 0, .int .i64 0, .int .i64 0, .int .i64 0, .int .i64 0, .int .i64 0] 85) := ⟨_, rfl⟩
  rw [← hW] at a0 b0 hB
  have HW := Lib.hid hW
  have HA := Lib.hid a0
  have HC := Lib.hid b0
  have HB0 := Lib.hid hB
  clear a0 b0 hB
  clear hb he hi hy hW
  go_enter Tryd.func93, Tryd.ntmps93
  go_wp2_with fail
  rw [← HW.out]
  refine region_till (fun w' => w'.cell? ⟨w.heap.size, 3, none⟩ = some (.int .i64 e) ∧ w'.cell? ⟨w.heap.size, 1, none⟩ = some (.int .i64 b)) 8 (by kernel_rfl) ?_
  obtain ⟨wd, hwd⟩ : ∃ x, x = W.drew := ⟨_, rfl⟩
  have HBd : Hid (Below w.heap.size w wd) := Lib.hid (by rw [hwd]; exact HB0.out.drew)
  have HAd : Hid (wd.heap[w.heap.size]? = some (.cells #[.int .i64 s, .int .i64 b, .int .i64 k, .int .i64 e, .int .i64 c, .int .i64 r, .int .i64 x] 85)) := Lib.hid (by rw [hwd]; exact HA.out)
  have HCd : Hid (wd.heap[w.heap.size + 1]? = some (.cells #[.int .i64 0, .int .i64 0, .int .i64 0, .int .i64 0, .int .i64 0, .int .i64 0, .int .i64 0] 85)) := Lib.hid (by rw [hwd]; exact HC.out)
  have HSd : Hid (∀ w' : World, w'.heap[w.heap.size]? = some (.cells #[.int .i64 s, .int .i64 b, .int .i64 k, .int .i64 e, .int .i64 c, .int .i64 r, .int .i64 x] 85) → w'.cell? ⟨w.heap.size, 3, none⟩ = some (.int .i64 e) ∧ w'.cell? ⟨w.heap.size, 1, none⟩ = some (.int .i64 b)) := Lib.hid (fun w' h => by obtain ⟨h0, h1, h2, h3, h4, h5, h6⟩ := pc7 h; exact ⟨h3, h1⟩)
  have d0 := HSd.out _ HAd.out
  rw [← hwd]
  clear hwd HB0 HA HC
  apply Till.take (i := 0) [0, 1, 2, 6, 8]
  · simp only [List.getElem?_toArray, List.getElem?_cons_zero]
    rfl
  · kernel_rfl
  · kernel_rfl
  · kernel_rfl
  · kernel_rfl
  · exact fun _ _ _ h => h
  · first
      | exact Or.inr ⟨by rfl, rfl⟩
      | (refine Or.inl ⟨by rfl, fun wq hwq => ?_⟩
         dsimp only at hwq
         go_simp
         first
           | done
           | rfl)
  · exact d0
  simp only [Act.put, List.setIfInBounds_toArray, List.set_cons_zero, List.set_cons_succ]
  apply Till.take (i := 1) [1, 2, 6, 8]
  · simp only [List.getElem?_toArray, List.getElem?_cons_succ, List.getElem?_cons_zero]
    rfl
  · kernel_rfl
  · kernel_rfl
  · kernel_rfl
  · kernel_rfl
  · exact fun _ _ _ h => h
  · first
      | exact Or.inr ⟨by rfl, rfl⟩
      | (refine Or.inl ⟨by rfl, fun wq hwq => ?_⟩
         dsimp only at hwq
         go_simp
         first
           | done
           | rfl)
  · exact d0
  simp only [Act.put, List.setIfInBounds_toArray, List.set_cons_zero, List.set_cons_succ]
  apply Till.take (i := 2) [2, 6, 8]
  · simp only [List.getElem?_toArray, List.getElem?_cons_succ, List.getElem?_cons_zero]
    rfl
  · kernel_rfl
  · kernel_rfl
  · kernel_rfl
  · kernel_rfl
  · exact fun _ _ _ h => h
  · first
      | exact Or.inr ⟨by rfl, rfl⟩
      | (refine Or.inl ⟨by rfl, fun wq hwq => ?_⟩
         dsimp only at hwq
         go_simp
         first
           | done
           | rfl)
  · exact d0
  simp only [Act.put, List.setIfInBounds_toArray, List.set_cons_zero, List.set_cons_succ]
  apply Till.take (i := 3) [3, 4, 5, 6, 8]
  · simp only [List.getElem?_toArray, List.getElem?_cons_succ, List.getElem?_cons_zero]
    rfl
  · kernel_rfl
  · kernel_rfl
  · kernel_rfl
  · kernel_rfl
  · exact fun _ _ _ h => h
  · first
      | exact Or.inr ⟨by rfl, rfl⟩
      | (refine Or.inl ⟨by rfl, fun wq hwq => ?_⟩
         dsimp only at hwq
         go_simp
         first
           | done
           | rfl)
  · exact d0
  simp only [Act.put, List.setIfInBounds_toArray, List.set_cons_zero, List.set_cons_succ]
  apply Till.take (i := 4) [4, 5, 6, 8]
  · simp only [List.getElem?_toArray, List.getElem?_cons_succ, List.getElem?_cons_zero]
    rfl
  · kernel_rfl
  · kernel_rfl
  · kernel_rfl
  · kernel_rfl
  · exact fun _ _ _ h => h
  · first
      | exact Or.inr ⟨by rfl, rfl⟩
      | (refine Or.inl ⟨by rfl, fun wq hwq => ?_⟩
         dsimp only at hwq
         go_simp
         first
           | done
           | rfl)
  · exact d0
  simp only [Act.put, List.setIfInBounds_toArray, List.set_cons_zero, List.set_cons_succ]
  apply Till.one (i := 5)
  · kernel_rfl
  · simp only [List.getElem?_toArray, List.getElem?_cons_succ, List.getElem?_cons_zero]
    rfl
  intro K hK
  go_simp
  refine (impl_inv HBw.out).mono ?_
  rw [← HI.out]
  rintro e' w3 ⟨he, hw⟩
  subst he
  obtain rfl := hw.symm
  refine hK.out _ _ (Or.inr d0) ?_
  clear hK K
  try simp only [Act.put, List.setIfInBounds_toArray, List.set_cons_zero, List.set_cons_succ]
  apply Till.one (i := 6)
  · kernel_rfl
  · simp only [List.getElem?_toArray, List.getElem?_cons_succ, List.getElem?_cons_zero]
    rfl
  intro K hK
  go_simp
  refine (impl_pwg HEw.out HIw.out).mono ?_
  rw [← HY.out]
  rintro e' w3 ⟨he, hb⟩
  subst he
  replace HBd := Lib.hid (HBd.out.trans (hb.mono HBd.out.size))
  replace HAd := Lib.hid ((hb.block _ (lt_of_block HAd.out)).trans HAd.out)
  replace HCd := Lib.hid ((hb.block _ (lt_of_block HCd.out)).trans HCd.out)
  clear d0
  have d0 := HSd.out _ HAd.out
  clear hb
  refine hK.out _ _ (Or.inr d0) ?_
  clear hK K
  try simp only [Act.put, List.setIfInBounds_toArray, List.set_cons_zero, List.set_cons_succ]
  apply Till.take (i := 7) [7, 8]
  · simp only [List.getElem?_toArray, List.getElem?_cons_succ, List.getElem?_cons_zero]
    rfl
  · kernel_rfl
  · kernel_rfl
  · kernel_rfl
  · kernel_rfl
  · exact fun _ _ _ h => h
  · first
      | exact Or.inr ⟨by rfl, rfl⟩
      | (refine Or.inl ⟨by rfl, fun wq hwq => ?_⟩
         dsimp only at hwq
         go_simp
         first
           | done
           | rfl)
  · exact d0
  simp only [Act.put, List.setIfInBounds_toArray, List.set_cons_zero, List.set_cons_succ]
  obtain ⟨wd2, hwd2⟩ : ∃ x, x = w3 := ⟨_, rfl⟩
  rw [← hwd2] at HAd HBd HCd
  rw [← hwd2]
  clear hwd2 d0
  obtain ⟨c0, c1, c2, c3, c4, c5, c6⟩ := pc7 HAd.out
  obtain ⟨_, _, _, _, _, _, f6⟩ := pf7 HAd.out
  have k1 := pst7x HAd.out (.int .i64 y)
  have g1 := grown_set wd2 w.heap.size 6 (.int .i64 y)
  apply Till.one (i := 8)
  · kernel_rfl
  · simp only [List.getElem?_toArray, List.getElem?_cons_succ, List.getElem?_cons_zero]
    rfl
  intro K hK
  go_simp
  skip
  refine hK.out _ _ (Or.inl (by rfl)) ?_
  clear hK K
  try simp only [Act.put, List.setIfInBounds_toArray, List.set_cons_zero, List.set_cons_succ]
  refine Till.done (by kernel_rfl) ?_ _
  have hC2 : (wd2.setCell ⟨w.heap.size, 6, none⟩ (.int .i64 y)).heap[w.heap.size + 1]? = some (.cells #[.int .i64 0, .int .i64 0, .int .i64 0, .int .i64 0, .int .i64 0, .int .i64 0, .int .i64 0] 85) := (g1.block _ (lt_of_block HCd.out) (fun h => by injection h with h; omega)).trans HCd.out
  obtain ⟨k2, g2⟩ := pst7 hC2 (.int .i64 s) (.int .i64 b) (.int .i64 k) (.int .i64 e) (.int .i64 c) (.int .i64 r) (.int .i64 y)
  obtain ⟨r0, r1, r2, r3, r4, r5, r6⟩ := pc7 k2
  obtain ⟨i0, i1, i2, i3, i4, i5, i6⟩ := pc7 k1
  obtain ⟨j0, j1, j2, j3, j4, j5, j6⟩ := pc7 hC2
  obtain ⟨f0, f1, f2, f3, f4, f5, f7⟩ := pf7 hC2
  have HBn := Lib.hid ((HBd.out.grown g1 HBd.out.size (fun k hk => by injection hk with hk; omega)).grown g2 (by have := HBd.out.size; simpa using this) (fun k hk => by injection hk with hk; omega))
  obtain ⟨W3, hW3⟩ : ∃ W, W = wd2.setCell ⟨w.heap.size, 6, none⟩ (.int .i64 y) := ⟨_, rfl⟩
  rw [← hW3] at i0 i1 i2 i3 i4 i5 i6 j0 j1 j2 j3 j4 j5 j6 f0 f1 f2 f3 f4 f5 f7 r0 r1 r2 r3 r4 r5 r6 HBn
  clear c0 c1 c2 c3 c4 c5 c6 f6 k1 g1 k2 g2 hC2
  rw [← hW3]
  clear hW3
  go_wp2_with fail
  exact bodyPost_ret (v := .tuple #[.agg #[.int .i64 s, .int .i64 b, .int .i64 k, .int .i64 e, .int .i64 c, .int .i64 r, .int .i64 y], .bool true]) (by simp [results, Tryd.results93, go_sem, r0, r1, r2, r3, r4, r5, r6]) rfl ⟨by rw [HR.out], HBn.out⟩

set_option maxHeartbeats 8000000 in
/-- The reply checked. -/
theorem check_any {w : World} {s b k e c r x : Int} (hx : (Lit.int .i64 x).wf = true) (hk : (Lit.int .i64 k).wf = true) (he : (Lit.int .i64 e).wf = true) (hc : (Lit.int .i64 c).wf = true) (hr : (Lit.int .i64 r).wf = true) :
    Calls Tryd.prog 92 #[.agg #[.int .i64 s, .int .i64 b, .int .i64 k, .int .i64 e, .int .i64 c, .int .i64 r, .int .i64 x]] w fun e' w' => e' = .returned (.tuple #[.agg #[.int .i64 s, .int .i64 b, .int .i64 k, .int .i64 e, .int .i64 c, .int .i64 r, .int .i64 x], .bool (vrf 4 x k e c r)]) ∧ Below w.heap.size w w' := by
  have HX := Lib.hid hx
  have HK := Lib.hid hk
  have HE := Lib.hid he
  have HCw := Lib.hid hc
  have HRw := Lib.hid hr
  obtain ⟨q, hq⟩ : ∃ q, q = vrf 4 x k e c r := ⟨_, rfl⟩
  have HQ := Lib.hid hq
  rw [← hq]
  obtain ⟨a0, b0, hB⟩ := gtwo w (.cells #[.int .i64 s, .int .i64 b, .int .i64 k, .int .i64 e, .int .i64 c, .int .i64 r, .int .i64 x] 85) (.cells #[.int .i64 0, .int .i64 0, .int .i64 0, .int .i64 0, .int .i64 0, .int .i64 0, .int .i64 0] 85)
  obtain ⟨c0, c1, c2, c3, c4, c5, c6⟩ := pc7 a0
  have HA := Lib.hid a0
  have HC := Lib.hid b0
  have HB0 := Lib.hid hB
  clear hx hk he hc hr hq a0 b0 hB
  go_enter Tryd.func92, Tryd.ntmps92
  go_wp2_with fail
  refine (impl_vf (by decide) HX.out HK.out HE.out HCw.out HRw.out).mono ?_
  rw [← HQ.out]
  rintro e' w1 ⟨rfl, hb⟩
  replace HB0 := Lib.hid (HB0.out.trans (hb.mono HB0.out.size))
  replace HA := Lib.hid ((hb.block _ (lt_of_block HA.out)).trans HA.out)
  replace HC := Lib.hid ((hb.block _ (lt_of_block HC.out)).trans HC.out)
  clear hb c0 c1 c2 c3 c4 c5 c6
  obtain ⟨i0, i1, i2, i3, i4, i5, i6⟩ := pc7 HA.out
  obtain ⟨j0, j1, j2, j3, j4, j5, j6⟩ := pc7 HC.out
  obtain ⟨f0, f1, f2, f3, f4, f5, f6⟩ := pf7 HC.out
  obtain ⟨k2, g2⟩ := pst7 HC.out (.int .i64 s) (.int .i64 b) (.int .i64 k) (.int .i64 e) (.int .i64 c) (.int .i64 r) (.int .i64 x)
  obtain ⟨r0, r1, r2, r3, r4, r5, r6⟩ := pc7 k2
  have HBn := Lib.hid (HB0.out.grown g2 HB0.out.size (fun k hk => by injection hk with hk; omega))
  clear k2 g2
  go_wp2_with fail
  exact bodyPost_ret (v := .tuple #[.agg #[.int .i64 s, .int .i64 b, .int .i64 k, .int .i64 e, .int .i64 c, .int .i64 r, .int .i64 x], .bool q]) (by simp [results, Tryd.results92, go_sem, r0, r1, r2, r3, r4, r5, r6]) rfl ⟨rfl, HBn.out⟩

end Go.Proofs.YtdccljmffmlkbaaDoor
