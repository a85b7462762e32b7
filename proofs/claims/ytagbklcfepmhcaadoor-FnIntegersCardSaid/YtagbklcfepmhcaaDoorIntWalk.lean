/- The law on integers: its walk, at every code. Conditions: strconv's tables and errors as its own text lays them. -/
import Derived.Test.YtagbklcfepmhcaaDoorIntLaw
namespace Go.Proofs.YtagbklcfepmhcaaDoor
open Go.RowKit Go.Lib
set_option linter.unusedVariables false

theorem dec_inj {u v : Nat} (h : decDigits u = decDigits v) : u = v := by
  have h1 := Num.decFrom_digits u
  rw [h, Num.decFrom_digits] at h1
  injection h1 with h1
  exact h1.symm

/-- A numeral is read as its number. -/
theorem read_yes (m : Int) (h0 : 0 ≤ m) (h1 : m ≤ 1000000000000) : pok ⟨(itoa m).toArray⟩ = true ∧ pval ⟨(itoa m).toArray⟩ = m := by
  obtain ⟨u, rfl⟩ := Int.eq_ofNat_of_zero_le h0
  have h : Num.parsed (itoa (u : Int)).toArray.toList = some u := Num.parsed_some.2 ⟨by omega, by simp [itoa_nonneg]⟩
  exact ⟨by unfold pok; rw [h]; rfl, by unfold pval; rw [h]; rfl⟩
theorem read_no (m : Int) (h : ¬ (0 ≤ m ∧ m ≤ 1000000000000)) : pok ⟨(itoa m).toArray⟩ = false := by
  have hn : Num.parsed (itoa m).toArray.toList = none := by
    cases hp : Num.parsed (itoa m).toArray.toList with
    | none => rfl
    | some k =>
      exfalso
      obtain ⟨hk, he⟩ := Num.parsed_some.1 hp
      have he' : itoa m = decDigits k := by simpa using he
      by_cases hm : m < 0
      · obtain ⟨u, rfl⟩ : ∃ u : Nat, m = -(u : Int) := ⟨(-m).toNat, by omega⟩
        rw [itoa_neg u (by omega)] at he'
        have := Num.head_digit he'.symm
        simp at this
      · obtain ⟨u, rfl⟩ := Int.eq_ofNat_of_zero_le (show 0 ≤ m by omega)
        rw [itoa_nonneg] at he'
        have := dec_inj he'
        omega
  unfold pok; rw [hn]; rfl

/-- What is read is spelt so. -/
theorem read_back (s : ByteArray) : (pok s = false) ∨ (pok s = true ∧ 0 ≤ pval s ∧ pval s ≤ 1000000000000 ∧ (itoa (pval s) == s.toList) = true) := by
  unfold pok pval
  cases hp : Num.parsed s.data.toList with
  | none => exact .inl rfl
  | some k =>
    obtain ⟨hk, he⟩ := Num.parsed_some.1 hp
    refine .inr ⟨rfl, ?_, ?_, ?_⟩
    · simp
    · simp; omega
    · rw [beq_iff_eq, bytes_list, he]; simp [itoa_nonneg]

theorem cdiv_in (a b : Int) (h : 0 ≤ a ∧ a ≤ 1000000000000) (h1 : 1 ≤ b ∧ b ≤ 1000000000000) : 0 ≤ cdivV a b ∧ a ≤ cdivV a b * b ∧ cdivV a b * b - a < b ∧ cdivV a b * b ≤ 2000000000000 := by
  unfold cdivV
  rw [if_pos ⟨h.1, h.2, h1.1, h1.2⟩]
  have e1 := Int.mul_ediv_add_emod (a + b - 1) b
  have e2 := Int.emod_nonneg (a + b - 1) (b := b) (by omega)
  have e3 := Int.emod_lt_of_pos (a + b - 1) (b := b) (by omega)
  have e4 : 0 ≤ (a + b - 1) / b := Int.ediv_nonneg (by omega) (by omega)
  rw [Int.mul_comm] at e1
  generalize (a + b - 1) / b * b = t at e1 ⊢
  omega

theorem mod_in (a b : Int) (h1 : 1 ≤ b ∧ b ≤ 1000000000000) : 0 ≤ modV a b ∧ modV a b < b ∧ (a.tmod b = modV a b ∨ a.tmod b = modV a b - b) := by
  unfold modV
  rw [if_pos h1]
  have e2 := Int.emod_nonneg a (b := b) (by omega)
  have e3 := Int.emod_lt_of_pos a (b := b) (by omega)
  refine ⟨e2, e3, ?_⟩
  by_cases hp : 0 ≤ a
  · left; rw [Int.tmod_eq_emod_of_nonneg hp]
  · obtain ⟨_, _, t1, t2⟩ := tmod_emod a b h1.1 (by omega)
    by_cases hz : a.tmod b < 0
    · right; have := t1 hz; omega
    · left; exact t2 hz

theorem row_of {w : World} {a : Option Addr} {len cap : Nat} {zs : List Int} (h : IsRow .u8 w a len cap zs) : RowB w.heap.size .u8 w a len cap zs ∧ len ≤ maxLen := by
  refine ⟨h, ?_⟩
  rcases h with ⟨_, h, _, _⟩ | ⟨_, _, h1, h2, _⟩
  · rw [h]; unfold maxLen; omega
  · omega

theorem big_no (a : Option Addr) (len cap : Nat) (w : World) (h : (len : Int) ≤ 1048576) :
    Calls Tryd.prog 6 #[.slice a len cap] w fun e w' => e = .returned (.bool false) ∧ w = w' := by
  have hd : decide ((1048576 : Int) < (len : Int)) = false := by simp; omega
  go_enter Tryd.func6, Tryd.ntmps6
  go_wp2
  go_ret
  exact ⟨rfl, rfl⟩

theorem big_yes (a : Option Addr) (len cap : Nat) (w : World) (h : 1048576 < (len : Int)) (hl : (len : Int) ≤ 9223372036854775807) :
    Calls Tryd.prog 6 #[.slice a len cap] w fun e w' => e = .returned (.bool true) ∧ w = w' := by
  go_enter Tryd.func6, Tryd.ntmps6
  go_wp2
  go_ret
  exact ⟨rfl, rfl⟩

theorem itoa_size (m : Int) (h0 : -9223372036854775808 ≤ m) (h1 : m ≤ 9223372036854775807) : (⟨(itoa m).toArray⟩ : ByteArray).size ≤ 1048576 := by
  show (itoa m).toArray.size ≤ 1048576
  by_cases h : m < 0
  · obtain ⟨u, rfl⟩ : ∃ u : Nat, m = -(u : Int) := ⟨(-m).toNat, by omega⟩
    rw [itoa_neg u (by omega)]
    have := Num.dec_len (u := u) (by omega)
    simp; omega
  · obtain ⟨u, rfl⟩ := Int.eq_ofNat_of_zero_le (show 0 ≤ m by omega)
    rw [itoa_nonneg]
    have := Num.dec_len (u := u) (by omega)
    simp; omega

theorem tm0 (a b : Int) (h : 1 ≤ b) (h1 : a.tmod b = modV a b ∨ a.tmod b = modV a b - b) : (a.tmod b - modV a b).tmod b = 0 := by
  rcases h1 with h1 | h1
  · rw [h1, Int.sub_self, Int.zero_tmod]
  · rw [h1, show modV a b - b - modV a b = -b by omega, Int.neg_tmod, Int.tmod_self]; rfl

/-- What the law's last tests ask of x and y. -/
theorem last_out (x y : Int) (hy : ¬ (1 ≤ y ∧ y ≤ 1000000000000)) : cdivV x y = 0 ∧ modV x y = 0 := by
  unfold cdivV modV
  exact ⟨by rw [if_neg (by omega)], by rw [if_neg hy]⟩
theorem last_zero (x y : Int) (hx : ¬ (0 ≤ x ∧ x ≤ 1000000000000)) : cdivV x y = 0 := by
  unfold cdivV
  rw [if_neg (by omega)]

set_option maxRecDepth 100000 in
set_option maxHeartbeats 4000000 in
theorem integers_walk (a : Option Addr) (len cap : Nat) (zs : List Int) (w : World) (hrow : IsRow .u8 w a len cap zs) (hL : laidMetH Tryd.prog Rows.fnIntegersRow.laid w) :
    Calls Tryd.prog 3 #[.slice a len cap] w fun e w' => e = .returned (.bool true) ∧ Below w.heap.size w w' := by
  obtain ⟨hr, hl⟩ := row_of hrow
  have HR := Lib.hid hr
  have HL := Lib.hid (lf_of_laid hL)
  have Hl := Lib.hid hl
  unfold maxLen at hl
  clear hr hrow hL
  by_cases hbig : 1048576 < (len : Int)
  · go_enter Tryd.func3, Tryd.ntmps3
    go_wp2_with fail
    refine (big_yes a len cap _ hbig (by omega)).mono ?_
    rintro e w0 ⟨rfl, rfl⟩
    go_wp2_with fail
    go_ret
    exact ⟨rfl, Below.refl _ _⟩
  · go_enter Tryd.func3, Tryd.ntmps3
    go_wp2_with fail
    refine (big_no a len cap _ (by omega)).mono ?_
    rintro e w0 ⟨rfl, rfl⟩
    go_wp2_with fail
    refine (draw_parse w.heap.size a len cap zs _ (Nat.le_refl _) HR.out Hl.out).mono ?_
    rintro e w1 ⟨s, hs, rfl, hb1⟩
    go_wp2_with fail
    refine (impl_parse_any s _ (by omega) (lf_behind HL.out hb1)).mono ?_
    rintro e w2 ⟨rfl, hb2⟩
    replace hb2 := hb1.trans (hb2.mono hb1.size)
    clear hb1
    go_wp2_with fail
    refine (draw_fmt w.heap.size a len cap zs _ hb2.size (HR.out.behind hb2) Hl.out).mono ?_
    rintro e w3 ⟨m, m0, m1, rfl, hb3⟩
    replace hb3 := hb2.trans (hb3.mono hb2.size)
    clear hb2
    go_wp2_with fail
    refine (ifmt_any m _ m0 m1 (lf_behind HL.out hb3).1).mono ?_
    rintro e w4 ⟨rfl, hb4⟩
    replace hb4 := hb3.trans (hb4.mono hb3.size)
    clear hb3
    go_wp2_with fail
    refine (impl_parse_any _ _ (itoa_size m m0 m1) (lf_behind HL.out hb4)).mono ?_
    rintro e w5 ⟨rfl, hb5⟩
    replace hb5 := hb4.trans (hb5.mono hb4.size)
    clear hb4
    go_wp2_with fail
    refine (draw_cdiv w.heap.size a len cap zs _ hb5.size (HR.out.behind hb5) Hl.out).mono ?_
    rintro e w6 ⟨x, y, x0, x1, y0, y1, rfl, hb6⟩
    replace hb6 := hb5.trans (hb6.mono hb5.size)
    clear hb5
    go_wp2_with fail
    refine (cdiv_any x y _).mono ?_
    rintro e w7 ⟨rfl, rfl⟩
    go_wp2_with fail
    refine (mod_any x y _ x0 x1).mono ?_
    rintro e w8 ⟨rfl, rfl⟩
    have hF : ∀ W, Below w.heap.size w W → LF W := fun W h => lf_behind HL.out h
    have HF := Lib.hid hF
    have HB := Lib.hid hb6
    clear hF hb6 HL HR Hl
    rcases read_back s with p1 | ⟨p1, p2, p3, p4⟩
    · by_cases hm : 0 ≤ m ∧ m ≤ 1000000000000
      · obtain ⟨q1, q2⟩ := hm
        obtain ⟨r1, r2⟩ := read_yes m q1 q2
        by_cases hy : 1 ≤ y ∧ y ≤ 1000000000000
        · obtain ⟨d1, d2, d3⟩ := mod_in x y hy
          by_cases hx : 0 ≤ x ∧ x ≤ 1000000000000
          · obtain ⟨c1, c2, c3, c4⟩ := cdiv_in x y hx hy
            obtain ⟨hx1, hx2⟩ := hx
            obtain ⟨hy1, hy2⟩ := hy
            have e1 : x % y = modV x y := by unfold modV; rw [if_pos ⟨hy1, hy2⟩]
            clear d3
            go_wp2_with fail
            go_ret
            exact ⟨rfl, HB.out⟩
          · have c1 := last_zero x y hx
            obtain ⟨hy1, hy2⟩ := hy
            by_cases hx1 : 0 ≤ x
            · have hx2 : 1000000000000 < x := by omega
              have e1 : x % y = modV x y := by unfold modV; rw [if_pos ⟨hy1, hy2⟩]
              clear d3 hx
              go_wp2_with fail
              go_ret
              exact ⟨rfl, HB.out⟩
            · have t0 := tm0 x y hy1 d3
              clear hx
              have b1 : -y ≤ x.tmod y - modV x y := by omega
              have b2 : x.tmod y - modV x y ≤ 0 := by omega
              clear d3
              go_wp2_with fail
              go_ret
              exact ⟨rfl, HB.out⟩
        · obtain ⟨c1, d1⟩ := last_out x y hy
          by_cases hy1 : y < 1
          · clear hy
            go_wp2_with fail
            go_ret
            exact ⟨rfl, HB.out⟩
          · have hy2 : 1000000000000 < y := by omega
            clear hy
            go_wp2_with fail
            go_ret
            exact ⟨rfl, HB.out⟩
      · have r1 := read_no m hm
        by_cases hm1 : 0 ≤ m
        · have hm2 : 1000000000000 < m := by omega
          clear hm
          by_cases hy : 1 ≤ y ∧ y ≤ 1000000000000
          · obtain ⟨d1, d2, d3⟩ := mod_in x y hy
            by_cases hx : 0 ≤ x ∧ x ≤ 1000000000000
            · obtain ⟨c1, c2, c3, c4⟩ := cdiv_in x y hx hy
              obtain ⟨hx1, hx2⟩ := hx
              obtain ⟨hy1, hy2⟩ := hy
              have e1 : x % y = modV x y := by unfold modV; rw [if_pos ⟨hy1, hy2⟩]
              clear d3
              go_wp2_with fail
              go_ret
              exact ⟨rfl, HB.out⟩
            · have c1 := last_zero x y hx
              obtain ⟨hy1, hy2⟩ := hy
              by_cases hx1 : 0 ≤ x
              · have hx2 : 1000000000000 < x := by omega
                have e1 : x % y = modV x y := by unfold modV; rw [if_pos ⟨hy1, hy2⟩]
                clear d3 hx
                go_wp2_with fail
                go_ret
                exact ⟨rfl, HB.out⟩
              · have t0 := tm0 x y hy1 d3
                clear hx
                have b1 : -y ≤ x.tmod y - modV x y := by omega
                have b2 : x.tmod y - modV x y ≤ 0 := by omega
                clear d3
                go_wp2_with fail
                go_ret
                exact ⟨rfl, HB.out⟩
          · obtain ⟨c1, d1⟩ := last_out x y hy
            by_cases hy1 : y < 1
            · clear hy
              go_wp2_with fail
              go_ret
              exact ⟨rfl, HB.out⟩
            · have hy2 : 1000000000000 < y := by omega
              clear hy
              go_wp2_with fail
              go_ret
              exact ⟨rfl, HB.out⟩
        · clear hm
          by_cases hy : 1 ≤ y ∧ y ≤ 1000000000000
          · obtain ⟨d1, d2, d3⟩ := mod_in x y hy
            by_cases hx : 0 ≤ x ∧ x ≤ 1000000000000
            · obtain ⟨c1, c2, c3, c4⟩ := cdiv_in x y hx hy
              obtain ⟨hx1, hx2⟩ := hx
              obtain ⟨hy1, hy2⟩ := hy
              have e1 : x % y = modV x y := by unfold modV; rw [if_pos ⟨hy1, hy2⟩]
              clear d3
              go_wp2_with fail
              go_ret
              exact ⟨rfl, HB.out⟩
            · have c1 := last_zero x y hx
              obtain ⟨hy1, hy2⟩ := hy
              by_cases hx1 : 0 ≤ x
              · have hx2 : 1000000000000 < x := by omega
                have e1 : x % y = modV x y := by unfold modV; rw [if_pos ⟨hy1, hy2⟩]
                clear d3 hx
                go_wp2_with fail
                go_ret
                exact ⟨rfl, HB.out⟩
              · have t0 := tm0 x y hy1 d3
                clear hx
                have b1 : -y ≤ x.tmod y - modV x y := by omega
                have b2 : x.tmod y - modV x y ≤ 0 := by omega
                clear d3
                go_wp2_with fail
                go_ret
                exact ⟨rfl, HB.out⟩
          · obtain ⟨c1, d1⟩ := last_out x y hy
            by_cases hy1 : y < 1
            · clear hy
              go_wp2_with fail
              go_ret
              exact ⟨rfl, HB.out⟩
            · have hy2 : 1000000000000 < y := by omega
              clear hy
              go_wp2_with fail
              go_ret
              exact ⟨rfl, HB.out⟩
    · by_cases hm : 0 ≤ m ∧ m ≤ 1000000000000
      · obtain ⟨q1, q2⟩ := hm
        obtain ⟨r1, r2⟩ := read_yes m q1 q2
        by_cases hy : 1 ≤ y ∧ y ≤ 1000000000000
        · obtain ⟨d1, d2, d3⟩ := mod_in x y hy
          by_cases hx : 0 ≤ x ∧ x ≤ 1000000000000
          · obtain ⟨c1, c2, c3, c4⟩ := cdiv_in x y hx hy
            obtain ⟨hx1, hx2⟩ := hx
            obtain ⟨hy1, hy2⟩ := hy
            have e1 : x % y = modV x y := by unfold modV; rw [if_pos ⟨hy1, hy2⟩]
            clear d3
            go_wp2_with fail
            refine (ifmt_any _ _ (by omega) (by omega) (HF.out _ HB.out).1).mono ?_
            rintro e w9 ⟨rfl, hb9⟩
            have hb := HB.out.trans (hb9.mono HB.out.size)
            clear hb9
            go_wp2_with fail
            go_ret
            exact ⟨rfl, hb⟩
          · have c1 := last_zero x y hx
            obtain ⟨hy1, hy2⟩ := hy
            by_cases hx1 : 0 ≤ x
            · have hx2 : 1000000000000 < x := by omega
              have e1 : x % y = modV x y := by unfold modV; rw [if_pos ⟨hy1, hy2⟩]
              clear d3 hx
              go_wp2_with fail
              refine (ifmt_any _ _ (by omega) (by omega) (HF.out _ HB.out).1).mono ?_
              rintro e w9 ⟨rfl, hb9⟩
              have hb := HB.out.trans (hb9.mono HB.out.size)
              clear hb9
              go_wp2_with fail
              go_ret
              exact ⟨rfl, hb⟩
            · have t0 := tm0 x y hy1 d3
              clear hx
              have b1 : -y ≤ x.tmod y - modV x y := by omega
              have b2 : x.tmod y - modV x y ≤ 0 := by omega
              clear d3
              go_wp2_with fail
              refine (ifmt_any _ _ (by omega) (by omega) (HF.out _ HB.out).1).mono ?_
              rintro e w9 ⟨rfl, hb9⟩
              have hb := HB.out.trans (hb9.mono HB.out.size)
              clear hb9
              go_wp2_with fail
              go_ret
              exact ⟨rfl, hb⟩
        · obtain ⟨c1, d1⟩ := last_out x y hy
          by_cases hy1 : y < 1
          · clear hy
            go_wp2_with fail
            refine (ifmt_any _ _ (by omega) (by omega) (HF.out _ HB.out).1).mono ?_
            rintro e w9 ⟨rfl, hb9⟩
            have hb := HB.out.trans (hb9.mono HB.out.size)
            clear hb9
            go_wp2_with fail
            go_ret
            exact ⟨rfl, hb⟩
          · have hy2 : 1000000000000 < y := by omega
            clear hy
            go_wp2_with fail
            refine (ifmt_any _ _ (by omega) (by omega) (HF.out _ HB.out).1).mono ?_
            rintro e w9 ⟨rfl, hb9⟩
            have hb := HB.out.trans (hb9.mono HB.out.size)
            clear hb9
            go_wp2_with fail
            go_ret
            exact ⟨rfl, hb⟩
      · have r1 := read_no m hm
        by_cases hm1 : 0 ≤ m
        · have hm2 : 1000000000000 < m := by omega
          clear hm
          by_cases hy : 1 ≤ y ∧ y ≤ 1000000000000
          · obtain ⟨d1, d2, d3⟩ := mod_in x y hy
            by_cases hx : 0 ≤ x ∧ x ≤ 1000000000000
            · obtain ⟨c1, c2, c3, c4⟩ := cdiv_in x y hx hy
              obtain ⟨hx1, hx2⟩ := hx
              obtain ⟨hy1, hy2⟩ := hy
              have e1 : x % y = modV x y := by unfold modV; rw [if_pos ⟨hy1, hy2⟩]
              clear d3
              go_wp2_with fail
              refine (ifmt_any _ _ (by omega) (by omega) (HF.out _ HB.out).1).mono ?_
              rintro e w9 ⟨rfl, hb9⟩
              have hb := HB.out.trans (hb9.mono HB.out.size)
              clear hb9
              go_wp2_with fail
              go_ret
              exact ⟨rfl, hb⟩
            · have c1 := last_zero x y hx
              obtain ⟨hy1, hy2⟩ := hy
              by_cases hx1 : 0 ≤ x
              · have hx2 : 1000000000000 < x := by omega
                have e1 : x % y = modV x y := by unfold modV; rw [if_pos ⟨hy1, hy2⟩]
                clear d3 hx
                go_wp2_with fail
                refine (ifmt_any _ _ (by omega) (by omega) (HF.out _ HB.out).1).mono ?_
                rintro e w9 ⟨rfl, hb9⟩
                have hb := HB.out.trans (hb9.mono HB.out.size)
                clear hb9
                go_wp2_with fail
                go_ret
                exact ⟨rfl, hb⟩
              · have t0 := tm0 x y hy1 d3
                clear hx
                have b1 : -y ≤ x.tmod y - modV x y := by omega
                have b2 : x.tmod y - modV x y ≤ 0 := by omega
                clear d3
                go_wp2_with fail
                refine (ifmt_any _ _ (by omega) (by omega) (HF.out _ HB.out).1).mono ?_
                rintro e w9 ⟨rfl, hb9⟩
                have hb := HB.out.trans (hb9.mono HB.out.size)
                clear hb9
                go_wp2_with fail
                go_ret
                exact ⟨rfl, hb⟩
          · obtain ⟨c1, d1⟩ := last_out x y hy
            by_cases hy1 : y < 1
            · clear hy
              go_wp2_with fail
              refine (ifmt_any _ _ (by omega) (by omega) (HF.out _ HB.out).1).mono ?_
              rintro e w9 ⟨rfl, hb9⟩
              have hb := HB.out.trans (hb9.mono HB.out.size)
              clear hb9
              go_wp2_with fail
              go_ret
              exact ⟨rfl, hb⟩
            · have hy2 : 1000000000000 < y := by omega
              clear hy
              go_wp2_with fail
              refine (ifmt_any _ _ (by omega) (by omega) (HF.out _ HB.out).1).mono ?_
              rintro e w9 ⟨rfl, hb9⟩
              have hb := HB.out.trans (hb9.mono HB.out.size)
              clear hb9
              go_wp2_with fail
              go_ret
              exact ⟨rfl, hb⟩
        · clear hm
          by_cases hy : 1 ≤ y ∧ y ≤ 1000000000000
          · obtain ⟨d1, d2, d3⟩ := mod_in x y hy
            by_cases hx : 0 ≤ x ∧ x ≤ 1000000000000
            · obtain ⟨c1, c2, c3, c4⟩ := cdiv_in x y hx hy
              obtain ⟨hx1, hx2⟩ := hx
              obtain ⟨hy1, hy2⟩ := hy
              have e1 : x % y = modV x y := by unfold modV; rw [if_pos ⟨hy1, hy2⟩]
              clear d3
              go_wp2_with fail
              refine (ifmt_any _ _ (by omega) (by omega) (HF.out _ HB.out).1).mono ?_
              rintro e w9 ⟨rfl, hb9⟩
              have hb := HB.out.trans (hb9.mono HB.out.size)
              clear hb9
              go_wp2_with fail
              go_ret
              exact ⟨rfl, hb⟩
            · have c1 := last_zero x y hx
              obtain ⟨hy1, hy2⟩ := hy
              by_cases hx1 : 0 ≤ x
              · have hx2 : 1000000000000 < x := by omega
                have e1 : x % y = modV x y := by unfold modV; rw [if_pos ⟨hy1, hy2⟩]
                clear d3 hx
                go_wp2_with fail
                refine (ifmt_any _ _ (by omega) (by omega) (HF.out _ HB.out).1).mono ?_
                rintro e w9 ⟨rfl, hb9⟩
                have hb := HB.out.trans (hb9.mono HB.out.size)
                clear hb9
                go_wp2_with fail
                go_ret
                exact ⟨rfl, hb⟩
              · have t0 := tm0 x y hy1 d3
                clear hx
                have b1 : -y ≤ x.tmod y - modV x y := by omega
                have b2 : x.tmod y - modV x y ≤ 0 := by omega
                clear d3
                go_wp2_with fail
                refine (ifmt_any _ _ (by omega) (by omega) (HF.out _ HB.out).1).mono ?_
                rintro e w9 ⟨rfl, hb9⟩
                have hb := HB.out.trans (hb9.mono HB.out.size)
                clear hb9
                go_wp2_with fail
                go_ret
                exact ⟨rfl, hb⟩
          · obtain ⟨c1, d1⟩ := last_out x y hy
            by_cases hy1 : y < 1
            · clear hy
              go_wp2_with fail
              refine (ifmt_any _ _ (by omega) (by omega) (HF.out _ HB.out).1).mono ?_
              rintro e w9 ⟨rfl, hb9⟩
              have hb := HB.out.trans (hb9.mono HB.out.size)
              clear hb9
              go_wp2_with fail
              go_ret
              exact ⟨rfl, hb⟩
            · have hy2 : 1000000000000 < y := by omega
              clear hy
              go_wp2_with fail
              refine (ifmt_any _ _ (by omega) (by omega) (HF.out _ HB.out).1).mono ?_
              rintro e w9 ⟨rfl, hb9⟩
              have hb := HB.out.trans (hb9.mono HB.out.size)
              clear hb9
              go_wp2_with fail
              go_ret
              exact ⟨rfl, hb⟩

end Go.Proofs.YtagbklcfepmhcaaDoor
