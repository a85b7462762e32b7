/- impl.ReadUvarint: what is read of a varint. No conditions. -/
import Derived.Test.YtbkmnmjobndpiaaRdu
namespace Go.Proofs.Ytbkmnmjobndpiaa
open Go Go.RowKit
set_option linter.unusedVariables false

set_option maxHeartbeats 1000000 in
set_option maxRecDepth 20000 in
theorem impl_ru_pos {lim : Nat} {w : World} {v : Value} {zs : List Int} {o : Nat} (h : Rd lim .u8 w v zs) (hlim : lim ≤ w.heap.size) (hw : (Lit.int .i64 (o : Int)).wf = true) (hol : o < zs.length) :
    Calls Try.prog 15 #[v, .int .i64 (o : Int)] w fun e w' => e = .returned (.tuple #[.int .i64 (rvN (rdu zs o 6 0 0)), .int .i64 (rvE (rdu zs o 6 0 0)), .bool (rvB (rdu zs o 6 0 0))]) ∧ w' = w := by
  have hwf : Hid (∀ i, i < zs.length → (Lit.int .u8 (zs.getD i 0)).wf = true) := Lib.hid fun i hi => h.wf hi
  obtain ⟨b, oo, cap, rfl, h1, h2, hc, hbl⟩ := h.at (by omega)
  have Hc := Lib.hid hc
  have ho := (wf_i64 hw).2
  have h2' : cap ≤ 9223372036854775807 := by unfold maxLen at h2; omega
  have Hin := inR_yes (x := (o : Int)) (a := 0) (b := (zs.length : Int) - 1) (by omega)
  clear h hc h2
  go_enter Try.func15, Try.ntmps15
  go_wp2_with fail
  refine (impl_in _ _ _ _ hw).mono ?_
  rintro e w1 ⟨rfl, rfl⟩
  go_wp2_with fail
  go_loopw [7, 20] (fun x y wr => ∃ (k n : Nat), k ≤ 6 ∧ n < 2 ^ (7 * k) ∧ rdu zs o (6 - k) k n = rdu zs o 6 0 0 ∧ o + k ≤ zs.length ∧ x = .int .i64 n ∧ y = .int .i64 k ∧ wr = w1) (fun _ y _ => 7 - (intOf y).toNat)
  case atStart => exact ⟨0, 0, by omega, by decide, rfl, by omega, rfl, rfl, rfl⟩
  case round =>
    obtain ⟨k, n, hk, hn, hr, hok, rfl, rfl, rfl⟩ := hrel
    by_cases hlt : o + k < zs.length
    · have e0 : decide ((k : Int) < ((zs.length - o : Nat) : Int)) = true := by simp; omega
      by_cases hk6 : k = 6
      · have HR : Hid (none = rdu zs o 6 0 0) := Lib.hid (by rw [← hr, hk6]; rfl)
        have e1 : ((k : Int) == 6) = true := by simp [hk6]
        have c1 := Hc.out (o + k) hlt
        rw [← Nat.add_assoc] at c1
        clear hr hn
        subst hk6
        go_wp2
        go_ret3
        rw [← HR.out]
        exact ⟨rfl, rfl⟩
      · have e1 : ((k : Int) == 6) = false := by simp; omega
        obtain ⟨f, hf⟩ : ∃ f, 6 - k = f + 1 := ⟨5 - k, by omega⟩
        rw [hf, rdu_next] at hr
        rw [if_pos hlt] at hr
        have hz := wf_u8 (hwf.out _ hlt)
        have c1 := Hc.out (o + k) hlt
        rw [← Nat.add_assoc] at c1
        obtain ⟨x, hx⟩ : ∃ x : Nat, zs.getD (o + k) 0 = (x : Int) := ⟨(zs.getD (o + k) 0).toNat, by omega⟩
        rw [hx] at c1 hr hz
        rw [Int.toNat_natCast] at hr
        obtain ⟨y, hy⟩ : ∃ y : Nat, y = x % 128 := ⟨_, rfl⟩
        rw [← hy] at hr
        have e3 := i64_and127 (x : Int)
        have e3' : bits .and .i64 (x : Int) 127 = (y : Int) := by rw [e3, hy]; rfl
        have e4 : (x : Int) % 128 = (y : Int) := by rw [hy]; rfl
        have hy8 : y < 128 := by omega
        have e7 := or_step (k := k) (n := n) (y := y) (by omega) hn hy8
        obtain ⟨m, hm0⟩ : ∃ m : Nat, m = n + y * 2 ^ (7 * k) := ⟨_, rfl⟩
        rw [← hm0] at e7 hr
        have HM2 : Hid (m < 2 ^ (7 * (k + 1))) := Lib.hid (by rw [hm0]; exact step_lt hn hy8)
        have HR := Lib.hid hr
        have HX := Lib.hid hx
        have HY := Lib.hid hy
        have HN := Lib.hid hn
        have HM := Lib.hid hm0
        have hlt' : (o : Int) + k < zs.length := by omega
        have hk5 : (k : Int) ≤ 5 := by omega
        have hmb : (m : Int) ≤ 4398046511104 := by have h := HM2.out; have := pow_le_35 (k := k) (by omega); rw [pow_step] at h; omega
        clear hr hx hn hy hm0 e3
        by_cases hx8 : x < 128
        · have e5 : decide ((128 : Int) ≤ (x : Int)) = false := by simp; omega
          by_cases hx0 : x = 0 ∧ 0 < k
          · have HR : Hid (none = rdu zs o 6 0 0) := Lib.hid (by have h := HR.out; rw [if_pos hx8, if_pos (.inl hx0)] at h; exact h)
            have e6 : ((x : Int) == 0) = true := by simp [hx0.1]
            have hkp : 0 < k := hx0.2
            clear hx0
            go_wp2
            go_ret3
            rw [← HR.out]
            exact ⟨rfl, rfl⟩
          · by_cases hm : 1000000000000 < m
            · have HR : Hid (none = rdu zs o 6 0 0) := Lib.hid (by have h := HR.out; rw [if_pos hx8, if_pos (.inr hm)] at h; exact h)
              have e9 : decide ((1000000000000 : Int) < (m : Int)) = true := by simp; omega
              by_cases hx1 : x = 0
              · exfalso
                have hk0 : k = 0 := by omega
                have h1 := HN.out
                have h2 := HY.out
                have h3 := HM.out
                rw [hk0] at h1 h3
                have h4 : (2 : Nat) ^ (7 * 0) = 1 := rfl
                rw [h4] at h1 h3
                omega
              · have e6 : ((x : Int) == 0) = false := by simp [hx1]
                clear hx0
                go_wp2
                go_ret3
                rw [← HR.out]
                exact ⟨rfl, rfl⟩
            · have HR : Hid (some (m, o + k + 1) = rdu zs o 6 0 0) := Lib.hid (by have h := HR.out; rw [if_pos hx8, if_neg (by intro h; rcases h with h | h; exact hx0 h; exact hm h)] at h; exact h)
              have e9 : decide ((1000000000000 : Int) < (m : Int)) = false := by simp; omega
              by_cases hx1 : x = 0
              · have hk0 : k = 0 := by omega
                have h1 := HN.out
                have h2 := HY.out
                have h3 := HM.out
                have h4 : (2 : Nat) ^ (7 * 0) = 1 := rfl
                rw [hk0, h4] at h1 h3
                have hy0 : y = 0 := by omega
                have hn0 : n = 0 := by omega
                have hm0 : m = 0 := by omega
                clear h1 h2 h3
                subst hx1 hk0 hy0 hn0 hm0
                have e11 : bits .or .i64 0 0 = 0 := i64_or 0 0 (by decide) (by decide)
                have e12 : wrap64 0 = 0 := by unfold wrap64; omega
                have e10 : bits .or .i64 0 (wrap64 0) = 0 := by rw [e12]; exact e11
                have c9 : wr.cell? ⟨b, oo + o, none⟩ = some (.int .u8 0) := c1
                have e13 : bits .and .i64 0 127 = 0 := e3'
                have h9 : (o : Int) < zs.length := by omega
                clear e7 hx0 c1 e3' hlt'
                go_wp2
                go_ret3
                rw [← HR.out]
                refine ⟨?_, rfl⟩
                simp [rvN, rvE, rvB]
              · have e6 : ((x : Int) == 0) = false := by simp [hx1]
                clear hx0
                go_wp2
                go_ret3
                rw [← HR.out]
                refine ⟨?_, rfl⟩
                simp [rvN, rvE, rvB]
        · have e5 : decide ((128 : Int) ≤ (x : Int)) = true := by simp; omega
          have HR : Hid (rdu zs o f (k + 1) m = rdu zs o 6 0 0) := Lib.hid (by have h := HR.out; rw [if_neg hx8] at h; exact h)
          go_wp2
          go_roundw
          case rel => exact ⟨k + 1, m, by omega, HM2.out, by rw [show 6 - (k + 1) = f by omega]; exact HR.out, by omega, by first | rfl | simp, by first | rfl | simp, by first | rfl | trivial⟩
          case measure => simp [intOf]; omega
    · have e0 : decide ((k : Int) < ((zs.length - o : Nat) : Int)) = false := by simp; omega
      have HR : Hid (none = rdu zs o 6 0 0) := Lib.hid (by
        rw [← hr]
        by_cases hk6 : k = 6
        · rw [hk6]; rfl
        · obtain ⟨f, hf⟩ : ∃ f, 6 - k = f + 1 := ⟨5 - k, by omega⟩
          rw [hf, rdu_next, if_neg hlt])
      clear hr hn
      go_wp2
      go_ret3
      rw [← HR.out]
      exact ⟨rfl, rfl⟩

end Go.Proofs.Ytbkmnmjobndpiaa
