/- ReadUvarint, the program's and the document's: what is read of a varint. No conditions. -/
import Derived.Test.YtbkmnmjobndpiaaEnc
namespace Go.Proofs.Ytbkmnmjobndpiaa
open Go Go.RowKit
set_option linter.unusedVariables false

theorem pow_le_35 {k : Nat} (hk : k ≤ 5) : 2 ^ (7 * k) ≤ 34359738368 := by
  have := Nat.pow_le_pow_right (n := 2) (by decide) (show 7 * k ≤ 35 by omega)
  have e : (2 : Nat) ^ 35 = 34359738368 := by decide
  omega
theorem or_step {k n y : Nat} (hk : k ≤ 5) (hn : n < 2 ^ (7 * k)) (hy : y < 128) : bits .or .i64 (n : Int) (wrap64 ((y : Int) * 2 ^ (7 * k))) = ((n + y * 2 ^ (7 * k) : Nat) : Int) := by
  have hp := pow_le_35 hk
  have h2 : y * 2 ^ (7 * k) ≤ 127 * 34359738368 := Nat.mul_le_mul (by omega) hp
  have e : (y : Int) * 2 ^ (7 * k) = ((y * 2 ^ (7 * k) : Nat) : Int) := by rw [Int.natCast_mul, Int.natCast_pow]; rfl
  have e2 : wrap64 ((y * 2 ^ (7 * k) : Nat) : Int) = ((y * 2 ^ (7 * k) : Nat) : Int) := by unfold wrap64; omega
  rw [e, e2, i64_or _ _ (by omega) (by omega), or_high hn]
theorem step_lt {k n y : Nat} (hn : n < 2 ^ (7 * k)) (hy : y < 128) : n + y * 2 ^ (7 * k) < 2 ^ (7 * (k + 1)) := by
  rw [pow_step]
  have : y * 2 ^ (7 * k) ≤ 127 * 2 ^ (7 * k) := Nat.mul_le_mul_right _ (by omega)
  omega

set_option maxHeartbeats 1000000 in
set_option maxRecDepth 20000 in
theorem spec_ru_pos {lim : Nat} {w : World} {v : Value} {zs : List Int} {o : Nat} (h : Rd lim .u8 w v zs) (hlim : lim ≤ w.heap.size) (hw : (Lit.int .i64 (o : Int)).wf = true) :
    Calls Try.prog 18 #[v, .int .i64 (o : Int)] w fun e w' => e = .returned (.tuple #[.int .i64 (rvN (rdu zs o 6 0 0)), .int .i64 (rvE (rdu zs o 6 0 0)), .bool (rvB (rdu zs o 6 0 0))]) ∧ w' = w := by
  have hwf : Hid (∀ i, i < zs.length → (Lit.int .u8 (zs.getD i 0)).wf = true) := Lib.hid fun i hi => h.wf hi
  obtain ⟨a, cap, rfl, h1, h2, hc⟩ := h.open
  have Hc := Lib.hid hc
  have ho := (wf_i64 hw).2
  unfold maxLen at h2
  clear h hc
  have e0 : decide ((o : Int) < 0) = false := by simp
  go_enter Try.func18, Try.ntmps18
  go_wp2_with fail
  go_loopw [7, 8] (fun x y wr => ∃ (k n : Nat), k ≤ 6 ∧ n < 2 ^ (7 * k) ∧ rdu zs o (6 - k) k n = rdu zs o 6 0 0 ∧ x = .int .i64 n ∧ y = .int .i64 k ∧ wr = w) (fun _ y _ => 6 - (intOf y).toNat)
  case atStart => exact ⟨0, 0, by omega, by decide, rfl, rfl, rfl, rfl⟩
  case round =>
    obtain ⟨k, n, hk, hn, hr, rfl, rfl, rfl⟩ := hrel
    by_cases hk6 : k = 6
    · subst hk6
      have HR : Hid (none = rdu zs o 6 0 0) := Lib.hid (by rw [← hr]; rfl)
      clear hr hn
      go_wp2
      go_ret3
      rw [← HR.out]
      exact ⟨rfl, rfl⟩
    · have e1 : decide ((k : Int) < 6) = true := by simp; omega
      obtain ⟨f, hf⟩ : ∃ f, 6 - k = f + 1 := ⟨5 - k, by omega⟩
      rw [hf, rdu_next] at hr
      by_cases hlt : o + k < zs.length
      · have e2 : decide ((zs.length : Int) - (k : Int) ≤ (o : Int)) = false := by simp; omega
        rw [if_pos hlt] at hr
        have hz := wf_u8 (hwf.out _ hlt)
        obtain ⟨b, oo, rfl, hbl, hcell⟩ := Hc.out (by omega)
        have c1 := hcell wr (Below.refl _ _) (o + k) hlt
        obtain ⟨x, hx⟩ : ∃ x : Nat, zs.getD (o + k) 0 = (x : Int) := ⟨(zs.getD (o + k) 0).toNat, by omega⟩
        rw [hx] at c1 hr hz
        rw [Int.toNat_natCast] at hr
        obtain ⟨y, hy⟩ : ∃ y : Nat, y = x % 128 := ⟨_, rfl⟩
        rw [← hy] at hr
        have e3 := i64_and127 (x : Int)
        have e3' : bits .and .i64 (x : Int) 127 = (y : Int) := by rw [e3, hy]; rfl
        have e4 : (x : Int) % 128 = (y : Int) := by rw [hy]; rfl
        have hy8 : y < 128 := by omega
        have e7 := or_step (k := k) (n := n) (y := y) (by omega) hn hy8
        obtain ⟨m, hm0⟩ : ∃ m : Nat, m = n + y * 2 ^ (7 * k) := ⟨_, rfl⟩
        rw [← hm0] at e7 hr
        have HM2 : Hid (m < 2 ^ (7 * (k + 1))) := Lib.hid (by rw [hm0]; exact step_lt hn hy8)
        have HR := Lib.hid hr
        have HX := Lib.hid hx
        have HY := Lib.hid hy
        have HN := Lib.hid hn
        have HM := Lib.hid hm0
        have hlt' : (o : Int) + k < zs.length := by omega
        have hk5 : (k : Int) ≤ 5 := by omega
        have hmb : (m : Int) ≤ 4398046511104 := by have h := HM2.out; have := pow_le_35 (k := k) (by omega); rw [pow_step] at h; omega
        clear hr hcell hx hn hy hm0 e3
        by_cases hx8 : x < 128
        · have e5 : decide ((x : Int) < 128) = true := by simp; omega
          by_cases hx0 : x = 0 ∧ 0 < k
          · have HR : Hid (none = rdu zs o 6 0 0) := Lib.hid (by have h := HR.out; rw [if_pos hx8, if_pos (.inl hx0)] at h; exact h)
            have e6 : ((x : Int) == 0) = true := by simp [hx0.1]
            have hkp : 0 < k := hx0.2
            clear hx0
            go_wp2
            go_ret3
            rw [← HR.out]
            exact ⟨rfl, rfl⟩
          · by_cases hm : 1000000000000 < m
            · have HR : Hid (none = rdu zs o 6 0 0) := Lib.hid (by have h := HR.out; rw [if_pos hx8, if_pos (.inr hm)] at h; exact h)
              have e9 : decide ((1000000000000 : Int) < (m : Int)) = true := by simp; omega
              by_cases hx1 : x = 0
              · exfalso
                have hk0 : k = 0 := by omega
                have h1 := HN.out
                have h2 := HY.out
                have h3 := HM.out
                rw [hk0] at h1 h3
                have h4 : (2 : Nat) ^ (7 * 0) = 1 := rfl
                rw [h4] at h1 h3
                omega
              · have e6 : ((x : Int) == 0) = false := by simp [hx1]
                clear hx0
                go_wp2
                go_ret3
                rw [← HR.out]
                exact ⟨rfl, rfl⟩
            · have HR : Hid (some (m, o + k + 1) = rdu zs o 6 0 0) := Lib.hid (by have h := HR.out; rw [if_pos hx8, if_neg (by intro h; rcases h with h | h; exact hx0 h; exact hm h)] at h; exact h)
              have e9 : decide ((1000000000000 : Int) < (m : Int)) = false := by simp; omega
              by_cases hx1 : x = 0
              · have hk0 : k = 0 := by omega
                have h1 := HN.out
                have h2 := HY.out
                have h3 := HM.out
                have h4 : (2 : Nat) ^ (7 * 0) = 1 := rfl
                rw [hk0, h4] at h1 h3
                have hy0 : y = 0 := by omega
                have hn0 : n = 0 := by omega
                have hm0 : m = 0 := by omega
                clear h1 h2 h3
                subst hx1 hk0 hy0 hn0 hm0
                have e11 : bits .or .i64 0 0 = 0 := i64_or 0 0 (by decide) (by decide)
                have e12 : wrap64 0 = 0 := by unfold wrap64; omega
                have e10 : bits .or .i64 0 (wrap64 0) = 0 := by rw [e12]; exact e11
                have c9 : wr.cell? ⟨b, oo + o, none⟩ = some (.int .u8 0) := c1
                have e13 : bits .and .i64 0 127 = 0 := e3'
                have h9 : (o : Int) < zs.length := by omega
                clear e7 hx0 c1 e3' e2 hlt'
                go_wp2
                go_ret3
                rw [← HR.out]
                refine ⟨?_, rfl⟩
                simp [rvN, rvE, rvB]
              · have e6 : ((x : Int) == 0) = false := by simp [hx1]
                clear hx0
                go_wp2
                go_ret3
                rw [← HR.out]
                refine ⟨?_, rfl⟩
                simp [rvN, rvE, rvB]
        · have e5 : decide ((x : Int) < 128) = false := by simp; omega
          have HR : Hid (rdu zs o f (k + 1) m = rdu zs o 6 0 0) := Lib.hid (by have h := HR.out; rw [if_neg hx8] at h; exact h)
          go_wp2
          go_roundw
          case rel => exact ⟨k + 1, m, by omega, HM2.out, by rw [show 6 - (k + 1) = f by omega]; exact HR.out, by first | rfl | simp, by first | rfl | simp, by first | rfl | trivial⟩
          case measure => simp [intOf]; omega
      · have e2 : decide ((zs.length : Int) - (k : Int) ≤ (o : Int)) = true := by simp; omega
        rw [if_neg hlt] at hr
        have HR := Lib.hid hr
        clear hr hn
        go_wp2
        go_ret3
        rw [← HR.out]
        exact ⟨rfl, rfl⟩

/-- spec.ReadUvarint. -/
theorem spec_ru {lim : Nat} {w : World} {v : Value} {zs : List Int} {n : Int} (h : Rd lim .u8 w v zs) (hlim : lim ≤ w.heap.size) (hw : (Lit.int .i64 n).wf = true) :
    Calls Try.prog 18 #[v, .int .i64 n] w fun e w' => e = .returned (.tuple #[.int .i64 (rvN (rdv zs n)), .int .i64 (rvE (rdv zs n)), .bool (rvB (rdv zs n))]) ∧ w' = w := by
  by_cases h0 : 0 ≤ n
  · obtain ⟨o, rfl⟩ : ∃ o : Nat, n = (o : Int) := ⟨n.toNat, by omega⟩
    have e : rdv zs (o : Int) = rdu zs o 6 0 0 := by unfold rdv; rw [if_pos h0]; rfl
    rw [e]
    exact spec_ru_pos h hlim hw
  · have e : rdv zs n = none := by unfold rdv; rw [if_neg h0]
    have e0 : decide (n < 0) = true := by simp; omega
    rw [e]
    obtain ⟨a, cap, rfl, h1, h2, hc⟩ := h.open
    have Hc := Lib.hid hc
    unfold maxLen at h2
    clear h hc e
    go_enter Try.func18, Try.ntmps18
    go_wp2_with fail
    go_loopw [8] (fun y wr => y = .int .i64 0 ∧ wr = w) (fun y _ => 6 - (intOf y).toNat)
    case atStart => exact ⟨rfl, rfl⟩
    case round =>
      obtain ⟨rfl, rfl⟩ := hrel
      go_wp2
      go_ret3
      exact ⟨rfl, rfl⟩

end Go.Proofs.Ytbkmnmjobndpiaa
