/- The stream cipher of the program: what each function gives. No conditions but a length that a machine holds. The stream cipher of the program: what each function gives. No conditions but a length that a machine holds. -/
import Derived.Test.YtjbkhbbchacooaaGreatDoorBbC
import Derived.Test.YtjbkhbbchacooaaGreatDoorBa3
import Derived.Deep.RegionWith
import Derived.Laws.EntriesVeiled

/-! Cry4 -/
namespace Go.Proofs.YtjbkhbbchacooaaGreatDoor
open Go Go.RowKit
set_option linter.unusedVariables false

theorem upt_at (f g : Nat → Int) {j n : Nat} (h : j < n) : (upt f g j n).getD j 0 = g j := by
  rw [List.getD_eq_getElem?_getD, upt_get _ _ _ _ _ h]; simp

/-- A stream's bytes are added. -/
def adds (f : Nat → Int) (zs : List Int) : List Int := (List.range zs.length).map fun i => (zs.getD i 0 + f i) % 256
theorem adds_len (f : Nat → Int) (zs : List Int) : (adds f zs).length = zs.length := by simp [adds]

theorem wrapU8 (x : Int) : IntKind.u8.wrap x = x % 256 := by
  have e1 : IntKind.u8.min = 0 := rfl
  simp [IntKind.wrap, IntKind.bits, IntKind.signed]

set_option maxHeartbeats 1000000 in
/-- impl.addStream. -/
theorem addStream_enc {lim : Nat} {w : World} {v : Value} {zs : List Int} {c : Value} {f : Nat → Int} (h : Rd lim .u8 w v zs) (hlim : lim ≤ w.heap.size) (hn : zs.length ≤ 140737488355328) (hf : ∀ i, 0 ≤ f i ∧ f i ≤ 255)
    (hF : ∀ (i : Nat) (w1 : World), i < zs.length → Below w.heap.size w w1 → Calls Tryz.prog 94 #[.int .i64 i, c] w1 fun e w2 => e = .returned (.int .u8 (f i)) ∧ Below w1.heap.size w1 w2) :
    Calls Tryz.prog 73 #[v, .func (.func 94) #[] #[c]] w fun e w' => ∃ v', e = .returned v' ∧ Own 5 .u8 w.heap.size w' v' (adds f zs) ∧ Below w.heap.size w w' := by
  have H := Lib.hid h
  have HF := Lib.hid hF
  have Hf := Lib.hid hf
  have HW : Hid (∀ i, i < zs.length → 0 ≤ zs.getD i 0 ∧ zs.getD i 0 ≤ 255) := Lib.hid (fun i hi => wf_u8 (h.wf hi))
  clear h hF hf
  go_enter Tryz.func73, Tryz.ntmps73
  go_wp2_with fail
  refine (copyBytes_any H.out hlim hn).mono ?_
  rintro e w1 ⟨v1, rfl, hO, hB⟩
  obtain ⟨a, cap, rfl, ha⟩ := hO.open
  have HA := Lib.hid ha
  have HB := Lib.hid hB
  have HO : Hid (Own 5 .u8 w.heap.size w1 (.slice a zs.length cap) (upt (fun i => (zs.getD i 0 + f i) % 256) (fun i => zs.getD i 0) 0 zs.length)) := Lib.hid (by rw [upt_zero, range_getD]; exact hO)
  clear ha hO hB
  go_wp2_with fail
  go_loopw [11] (fun i wr => ∃ j : Nat, i = .int .i64 j ∧ j ≤ zs.length ∧ Own 5 .u8 w.heap.size wr (.slice a zs.length cap) (upt (fun i => (zs.getD i 0 + f i) % 256) (fun i => zs.getD i 0) j zs.length) ∧ Below w.heap.size w wr) (fun i _ => zs.length - (intOf i).toNat)
  case atStart => exact ⟨0, rfl, Nat.zero_le _, HO.out, HB.out⟩
  case round =>
    obtain ⟨j, rfl, hj, hO, hB⟩ := hrel
    have HO' := Lib.hid hO
    have HB' := Lib.hid hB
    clear hO hB HO HB
    by_cases hlt : j < zs.length
    · have e1 : decide ((j : Int) < (zs.length : Int)) = true := by simp; omega
      have hlt' : (j : Int) < (zs.length : Int) := by omega
      obtain ⟨g, rfl⟩ := HA.out (by omega)
      have c1 := HO'.out.cellAt (upt_length _ _ _ _) hlt
      rw [upt_at _ _ hlt] at c1
      have f1 := HO'.out.free (upt_length _ _ _ _) j
      have hz := HW.out j hlt
      have hy := Hf.out j
      have hg := HO'.out.lt g rfl
      have hlm : (Lit.int .u8 ((zs.getD j 0 + f j) % 256)).wf = true := wf_u8_of (by omega) (by omega)
      have HLM := Lib.hid hlm
      obtain ⟨z, hz'⟩ : ∃ z, z = zs.getD j 0 := ⟨_, rfl⟩
      obtain ⟨y, hy'⟩ : ∃ y, y = f j := ⟨_, rfl⟩
      rw [← hz'] at c1 hz
      rw [← hy'] at hy
      have HZ : Hid ((fun i => (zs.getD i 0 + f i) % 256) j = (z + y) % 256) := Lib.hid (by rw [hz', hy'])
      have HY := Lib.hid hy'
      have HG := Lib.hid hg
      clear hz' hy' hg hlm
      go_wp2_with fail
      go_region_with ((first
        | (go_at_call 94
           go_loud (refine (HF.out j _ hlt ?_).mono ?_
                    · exact HB'.out.drew
                    rintro e' w4 ⟨he, hb4⟩
                    rw [← HY.out] at he
                    subst he
                    have HB4 := Lib.hid hb4
                    have c4 : w4.cell? ⟨g, j, none⟩ = some (.int .u8 z) := (hb4.cell (p := ⟨g, j, none⟩) HG.out.2).trans c1
                    have f4 : w4.frozen? ⟨g, j, none⟩ = false := (hb4.frozen (p := ⟨g, j, none⟩) HG.out.2).trans f1
                    clear hb4))))
      all_goals
        have gd : wr.grownBy wr.drew none := ⟨rfl, rfl, rfl, Nat.le_refl _, fun _ _ _ => rfl⟩
        have O4 := (HO'.out.kept gd (.inr (by simp [Value.ownBlock]))).next HB4.out
        have B4 := HB'.out.drew.trans (HB4.out.mono HB'.out.drew.size)
        obtain ⟨p1, p2⟩ := O4.put HLM.out
        have ew : IntKind.u8.wrap (z + y) = (z + y) % 256 := by rw [wrapU8]
        rw [ew]
        rw [HZ.out] at p1 p2
        have P1 := Lib.hid p1
        have P2 := Lib.hid (B4.grown p2 B4.size (fun k hk => by injection hk with hk; have := HG.out.1; omega))
        clear gd O4 B4 p1 p2 ew HB4 HO' HB'
        obtain ⟨W5, hW5⟩ : ∃ W5, W5 = w4.setCell ⟨g, j, none⟩ (.int .u8 ((z + y) % 256)) := ⟨_, rfl⟩
        rw [← hW5] at P1 P2 ⊢
        clear hW5
        go_wp2_with fail
        go_roundw
        case rel => exact ⟨j + 1, by simp, hlt, P1.out, P2.out⟩
        case measure => simp [intOf]; omega
    · have e1 : decide ((j : Int) < (zs.length : Int)) = false := by simp; omega
      have ej : j = zs.length := by omega
      have hO := HO'.out
      rw [ej, upt_full] at hO
      have HO2 := Lib.hid hO
      clear hO HO' ej
      go_wp2
      go_ret
      exact ⟨_, rfl, HO2.out, HB'.out⟩

set_option maxHeartbeats 1000000 in
/-- impl.addStream. -/
theorem addStream_dec {lim : Nat} {w : World} {v : Value} {zs : List Int} {c : Value} {f : Nat → Int} (h : Rd lim .u8 w v zs) (hlim : lim ≤ w.heap.size) (hn : zs.length ≤ 140737488355328) (hf : ∀ i, 0 ≤ f i ∧ f i ≤ 255)
    (hF : ∀ (i : Nat) (w1 : World), i < zs.length → Below w.heap.size w w1 → Calls Tryz.prog 97 #[.int .i64 i, c] w1 fun e w2 => e = .returned (.int .u8 (f i)) ∧ Below w1.heap.size w1 w2) :
    Calls Tryz.prog 73 #[v, .func (.func 97) #[] #[c]] w fun e w' => ∃ v', e = .returned v' ∧ Own 5 .u8 w.heap.size w' v' (adds f zs) ∧ Below w.heap.size w w' := by
  have H := Lib.hid h
  have HF := Lib.hid hF
  have Hf := Lib.hid hf
  have HW : Hid (∀ i, i < zs.length → 0 ≤ zs.getD i 0 ∧ zs.getD i 0 ≤ 255) := Lib.hid (fun i hi => wf_u8 (h.wf hi))
  clear h hF hf
  go_enter Tryz.func73, Tryz.ntmps73
  go_wp2_with fail
  refine (copyBytes_any H.out hlim hn).mono ?_
  rintro e w1 ⟨v1, rfl, hO, hB⟩
  obtain ⟨a, cap, rfl, ha⟩ := hO.open
  have HA := Lib.hid ha
  have HB := Lib.hid hB
  have HO : Hid (Own 5 .u8 w.heap.size w1 (.slice a zs.length cap) (upt (fun i => (zs.getD i 0 + f i) % 256) (fun i => zs.getD i 0) 0 zs.length)) := Lib.hid (by rw [upt_zero, range_getD]; exact hO)
  clear ha hO hB
  go_wp2_with fail
  go_loopw [11] (fun i wr => ∃ j : Nat, i = .int .i64 j ∧ j ≤ zs.length ∧ Own 5 .u8 w.heap.size wr (.slice a zs.length cap) (upt (fun i => (zs.getD i 0 + f i) % 256) (fun i => zs.getD i 0) j zs.length) ∧ Below w.heap.size w wr) (fun i _ => zs.length - (intOf i).toNat)
  case atStart => exact ⟨0, rfl, Nat.zero_le _, HO.out, HB.out⟩
  case round =>
    obtain ⟨j, rfl, hj, hO, hB⟩ := hrel
    have HO' := Lib.hid hO
    have HB' := Lib.hid hB
    clear hO hB HO HB
    by_cases hlt : j < zs.length
    · have e1 : decide ((j : Int) < (zs.length : Int)) = true := by simp; omega
      have hlt' : (j : Int) < (zs.length : Int) := by omega
      obtain ⟨g, rfl⟩ := HA.out (by omega)
      have c1 := HO'.out.cellAt (upt_length _ _ _ _) hlt
      rw [upt_at _ _ hlt] at c1
      have f1 := HO'.out.free (upt_length _ _ _ _) j
      have hz := HW.out j hlt
      have hy := Hf.out j
      have hg := HO'.out.lt g rfl
      have hlm : (Lit.int .u8 ((zs.getD j 0 + f j) % 256)).wf = true := wf_u8_of (by omega) (by omega)
      have HLM := Lib.hid hlm
      obtain ⟨z, hz'⟩ : ∃ z, z = zs.getD j 0 := ⟨_, rfl⟩
      obtain ⟨y, hy'⟩ : ∃ y, y = f j := ⟨_, rfl⟩
      rw [← hz'] at c1 hz
      rw [← hy'] at hy
      have HZ : Hid ((fun i => (zs.getD i 0 + f i) % 256) j = (z + y) % 256) := Lib.hid (by rw [hz', hy'])
      have HY := Lib.hid hy'
      have HG := Lib.hid hg
      clear hz' hy' hg hlm
      go_wp2_with fail
      go_region_with ((first
        | (go_at_call 97
           go_loud (refine (HF.out j _ hlt ?_).mono ?_
                    · exact HB'.out.drew
                    rintro e' w4 ⟨he, hb4⟩
                    rw [← HY.out] at he
                    subst he
                    have HB4 := Lib.hid hb4
                    have c4 : w4.cell? ⟨g, j, none⟩ = some (.int .u8 z) := (hb4.cell (p := ⟨g, j, none⟩) HG.out.2).trans c1
                    have f4 : w4.frozen? ⟨g, j, none⟩ = false := (hb4.frozen (p := ⟨g, j, none⟩) HG.out.2).trans f1
                    clear hb4))))
      all_goals
        have gd : wr.grownBy wr.drew none := ⟨rfl, rfl, rfl, Nat.le_refl _, fun _ _ _ => rfl⟩
        have O4 := (HO'.out.kept gd (.inr (by simp [Value.ownBlock]))).next HB4.out
        have B4 := HB'.out.drew.trans (HB4.out.mono HB'.out.drew.size)
        obtain ⟨p1, p2⟩ := O4.put HLM.out
        have ew : IntKind.u8.wrap (z + y) = (z + y) % 256 := by rw [wrapU8]
        rw [ew]
        rw [HZ.out] at p1 p2
        have P1 := Lib.hid p1
        have P2 := Lib.hid (B4.grown p2 B4.size (fun k hk => by injection hk with hk; have := HG.out.1; omega))
        clear gd O4 B4 p1 p2 ew HB4 HO' HB'
        obtain ⟨W5, hW5⟩ : ∃ W5, W5 = w4.setCell ⟨g, j, none⟩ (.int .u8 ((z + y) % 256)) := ⟨_, rfl⟩
        rw [← hW5] at P1 P2 ⊢
        clear hW5
        go_wp2_with fail
        go_roundw
        case rel => exact ⟨j + 1, by simp, hlt, P1.out, P2.out⟩
        case measure => simp [intOf]; omega
    · have e1 : decide ((j : Int) < (zs.length : Int)) = false := by simp; omega
      have ej : j = zs.length := by omega
      have hO := HO'.out
      rw [ej, upt_full] at hO
      have HO2 := Lib.hid hO
      clear hO HO' ej
      go_wp2
      go_ret
      exact ⟨_, rfl, HO2.out, HB'.out⟩

end Go.Proofs.YtjbkhbbchacooaaGreatDoor


/-! Cry5 -/
namespace Go.Proofs.YtjbkhbbchacooaaGreatDoor
open Go Go.RowKit
set_option linter.unusedVariables false

/-- The byte of the key stream. -/
def ks (k : Int) (i : Nat) : Int := kh k [(i : Int)] % 256
theorem ks_bound (k : Int) (i : Nat) : 0 ≤ ks k i ∧ ks k i ≤ 255 := by unfold ks; omega
/-- Its negative. -/
def nks (k : Int) (i : Nat) : Int := (-(ks k i)) % 256
theorem nks_bound (k : Int) (i : Nat) : 0 ≤ nks k i ∧ nks k i ≤ 255 := by unfold nks; omega

/-- The key stream's closure. -/
theorem ks_any {w : World} {b : Nat} {k : Int} {i : Nat} (hc : w.cell? ⟨b, 0, none⟩ = some (.int .i64 k)) (hk : (Lit.int .i64 k).wf = true) (hi : i ≤ 140737488355328) :
    Calls Tryz.prog 94 #[.int .i64 i, .pointer (some ⟨b, 0, none⟩)] w fun e w' => e = .returned (.int .u8 (ks k i)) ∧ Below w.heap.size w w' := by
  have R1 := Lib.hid (Rd.one 3 .i64 w (i : Int) (wf_i64_of (by omega) (by omega)))
  have B1 := Lib.hid ((Below.refl w.heap.size w).alloc (Nat.le_refl _) (.cells #[.int .i64 (i : Int)] 3))
  have HK := Lib.hid hk
  clear hk
  go_enter Tryz.func94, Tryz.ntmps94
  go_wp2_with fail
  refine (impl_kh R1.out (by simp) HK.out).mono ?_
  rintro e w1 ⟨he, hb⟩
  have HB := Lib.hid (B1.out.trans (hb.mono B1.out.size))
  have hq := kh_bound k [(i : Int)]
  obtain ⟨q, hq'⟩ : ∃ q, q = kh k [(i : Int)] := ⟨_, rfl⟩
  have HQ : Hid (q % 256 = ks k i) := Lib.hid (by rw [hq']; rfl)
  rw [← hq'] at he hq
  subst he
  clear hb hq'
  go_wp2
  go_ret
  exact ⟨by rw [← HQ.out]; rfl, HB.out⟩

/-- impl.keyStream. -/
theorem keyStream_any (k : Int) (w : World) :
    Calls Tryz.prog 74 #[.int .i64 k] w fun e w' => e = .returned (.func (.func 94) #[] #[.pointer (some ⟨w.heap.size, 0, none⟩)]) ∧ w' = w.alloc (.cells #[.int .i64 k] 3) := by
  have hmf : ∀ (fn : Fn) (first cap : Array Value) (w : World), (Instr.makeFunc fn first cap).run Tryz.prog w = .ok (.func fn first cap) w := fun _ _ _ _ => rfl
  go_enter Tryz.func74, Tryz.ntmps74
  go_wp2
  go_ret
  exact ⟨rfl, rfl⟩

/-- Decrypt's closure. -/
theorem nks_any {w : World} {b c : Nat} {k : Int} {i : Nat} (hp : w.cell? ⟨c, 0, none⟩ = some (.func (.func 94) #[] #[.pointer (some ⟨b, 0, none⟩)])) (hc : w.cell? ⟨b, 0, none⟩ = some (.int .i64 k)) (hk : (Lit.int .i64 k).wf = true) (hi : i ≤ 140737488355328) :
    Calls Tryz.prog 97 #[.int .i64 i, .pointer (some ⟨c, 0, none⟩)] w fun e w' => e = .returned (.int .u8 (nks k i)) ∧ Below w.heap.size w w' := by
  have HC := Lib.hid hc
  have HK := Lib.hid hk
  clear hk hc
  go_enter Tryz.func97, Tryz.ntmps97
  go_wp2_with fail
  refine (ks_any HC.out HK.out hi).mono ?_
  rintro e w1 ⟨he, hb⟩
  have HB := Lib.hid hb
  have hq := ks_bound k i
  obtain ⟨q, hq'⟩ : ∃ q, q = ks k i := ⟨_, rfl⟩
  have HQ : Hid (IntKind.u8.wrap (-q) = nks k i) := Lib.hid (by rw [wrapU8, hq']; rfl)
  rw [← hq'] at he hq
  subst he
  clear hb hq'
  go_wp2
  go_ret
  refine ⟨?_, HB.out⟩
  rw [← HQ.out, wrapU8]
  rfl

/-- What is encrypted, and what is decrypted. -/
def enz (k : Int) (zs : List Int) : List Int := adds (ks k) zs
def dez (k : Int) (zs : List Int) : List Int := adds (nks k) zs

set_option maxHeartbeats 1000000 in
/-- impl.Encrypt. -/
theorem impl_en {lim : Nat} {w : World} {v : Value} {zs : List Int} {k : Int} (h : Rd lim .u8 w v zs) (hlim : lim ≤ w.heap.size) (hk : (Lit.int .i64 k).wf = true) (hn : zs.length ≤ 140737488355328) :
    Calls Tryz.prog 50 #[.int .i64 k, v] w fun e w' => ∃ v', e = .returned v' ∧ Own 5 .u8 w.heap.size w' v' (enz k zs) ∧ Below w.heap.size w w' := by
  have b1 := (Below.refl w.heap.size w).alloc (Nat.le_refl _) (.cells #[.int .i64 k] 3)
  have HR := Lib.hid (h.behind (b1.mono hlim))
  have hc : (w.alloc (.cells #[.int .i64 k] 3)).cell? ⟨w.heap.size, 0, none⟩ = some (.int .i64 k) := blk_cell (heap_alloc_new w (.cells #[.int .i64 k] 3)) 0
  have HF : Hid (∀ (i : Nat) (w1 : World), i < zs.length → Below (w.alloc (.cells #[.int .i64 k] 3)).heap.size (w.alloc (.cells #[.int .i64 k] 3)) w1 → Calls Tryz.prog 94 #[.int .i64 i, .pointer (some ⟨w.heap.size, 0, none⟩)] w1 fun e w2 => e = .returned (.int .u8 (ks k i)) ∧ Below w1.heap.size w1 w2) := Lib.hid (fun i w1 hi hb =>
    ks_any ((hb.cell (p := ⟨w.heap.size, 0, none⟩) (by simp)).trans hc) hk (by omega))
  have HB := Lib.hid b1
  clear b1 h hc hk
  go_enter Tryz.func50, Tryz.ntmps50
  go_wp2_with fail
  refine (keyStream_any k _).mono ?_
  rintro e w1 ⟨rfl, hw⟩
  obtain ⟨p, hp⟩ : ∃ p, p = w.heap.size := ⟨_, rfl⟩
  rw [← hw] at HR HF HB
  rw [← hp] at HF ⊢
  have HP := Lib.hid hp
  clear hp hw
  go_wp2_with fail
  refine (addStream_enc HR.out (Nat.le_trans hlim HB.out.size) hn (ks_bound k) HF.out).mono ?_
  rintro e w2 ⟨v2, rfl, h1, h2⟩
  have H1 := Lib.hid (h1.mono HB.out.size)
  have H2 := Lib.hid (HB.out.trans (h2.mono HB.out.size))
  clear h1 h2
  rw [← HP.out] at H1 H2
  go_wp2_with fail
  go_ret
  rw [← HP.out]
  exact ⟨v2, rfl, H1.out, H2.out⟩

set_option maxHeartbeats 1000000 in
/-- impl.Decrypt. -/
theorem impl_de {lim : Nat} {w : World} {v : Value} {zs : List Int} {k : Int} (h : Rd lim .u8 w v zs) (hlim : lim ≤ w.heap.size) (hk : (Lit.int .i64 k).wf = true) (hn : zs.length ≤ 140737488355328) :
    Calls Tryz.prog 81 #[.int .i64 k, v] w fun e w' => ∃ v', e = .returned v' ∧ Own 5 .u8 w.heap.size w' v' (dez k zs) ∧ Below w.heap.size w w' := by
  have hmf : ∀ (fn : Fn) (first cap : Array Value) (w : World), (Instr.makeFunc fn first cap).run Tryz.prog w = .ok (.func fn first cap) w := fun _ _ _ _ => rfl
  have b3 : Below w.heap.size w ((w.alloc (.cells #[.int .i64 k] 3)).alloc (.cells #[.func (.func 94) #[] #[.pointer (some ⟨w.heap.size, 0, none⟩)]] 100)) := ((Below.refl w.heap.size w).alloc (Nat.le_refl _) _).alloc (by simp) _
  have d1 : ((w.alloc (.cells #[.int .i64 k] 3)).alloc (.cells #[.func (.func 94) #[] #[.pointer (some ⟨w.heap.size, 0, none⟩)]] 100)).cell? ⟨w.heap.size + 1, 0, none⟩ = some (.func (.func 94) #[] #[.pointer (some ⟨w.heap.size, 0, none⟩)]) := by
    have e := heap_alloc_new (w.alloc (.cells #[.int .i64 k] 3)) (.cells #[.func (.func 94) #[] #[.pointer (some ⟨w.heap.size, 0, none⟩)]] 100)
    rw [World.size_alloc] at e
    exact blk_cell e 0
  have d2 : ((w.alloc (.cells #[.int .i64 k] 3)).alloc (.cells #[.func (.func 94) #[] #[.pointer (some ⟨w.heap.size, 0, none⟩)]] 100)).cell? ⟨w.heap.size, 0, none⟩ = some (.int .i64 k) := by
    rw [World.cell?_alloc_past _ _ _ (by simp)]
    exact blk_cell (heap_alloc_new w (.cells #[.int .i64 k] 3)) 0
  have HF : Hid (∀ W3, W3 = ((w.alloc (.cells #[.int .i64 k] 3)).alloc (.cells #[.func (.func 94) #[] #[.pointer (some ⟨w.heap.size, 0, none⟩)]] 100)) →
      lim ≤ W3.heap.size ∧ Rd lim .u8 W3 v zs ∧ Below w.heap.size w W3 ∧ ∀ (i : Nat) (w1 : World), i < zs.length → Below W3.heap.size W3 w1 → Calls Tryz.prog 97 #[.int .i64 i, .pointer (some ⟨w.heap.size + 1, 0, none⟩)] w1 fun e w2 => e = .returned (.int .u8 (nks k i)) ∧ Below w1.heap.size w1 w2) := Lib.hid (by
    rintro W3 rfl
    refine ⟨Nat.le_trans hlim b3.size, h.behind (b3.mono hlim), b3, fun i w1 hi hb => ?_⟩
    exact nks_any ((hb.cell (p := ⟨w.heap.size + 1, 0, none⟩) (by simp)).trans d1) ((hb.cell (p := ⟨w.heap.size, 0, none⟩) (by simp; omega)).trans d2) hk (by omega))
  clear d1 d2 b3 h hk
  go_enter Tryz.func81, Tryz.ntmps81
  go_wp2_with fail
  refine (keyStream_any k _).mono ?_
  rintro e w1 ⟨rfl, rfl⟩
  go_wp2_with fail
  refine (addStream_dec (HF.out _ rfl).2.1 (HF.out _ rfl).1 hn (nks_bound k) (HF.out _ rfl).2.2.2).mono ?_
  rintro e w2 ⟨v2, rfl, h1, h2⟩
  have hb := (HF.out _ rfl).2.2.1
  have H1 := Lib.hid (h1.mono hb.size)
  have H2 := Lib.hid (hb.trans (h2.mono hb.size))
  clear h1 h2 hb
  go_wp2_with fail
  go_ret
  exact ⟨v2, rfl, H1.out, H2.out⟩

end Go.Proofs.YtjbkhbbchacooaaGreatDoor
