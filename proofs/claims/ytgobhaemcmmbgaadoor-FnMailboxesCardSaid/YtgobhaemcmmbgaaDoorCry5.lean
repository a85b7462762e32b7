/- The stream cipher of the program: what each function gives. No conditions but a length that a machine holds. -/
import Derived.Test.YtgobhaemcmmbgaaDoorCry4
import Derived.Laws.EntriesVeiled
namespace Go.Proofs.YtgobhaemcmmbgaaDoor
open Go Go.RowKit
set_option linter.unusedVariables false

/-- The byte of the key stream. -/
def ks (k : Int) (i : Nat) : Int := kh k [(i : Int)] % 256
theorem ks_bound (k : Int) (i : Nat) : 0 ≤ ks k i ∧ ks k i ≤ 255 := by unfold ks; omega
/-- Its negative. -/
def nks (k : Int) (i : Nat) : Int := (-(ks k i)) % 256
theorem nks_bound (k : Int) (i : Nat) : 0 ≤ nks k i ∧ nks k i ≤ 255 := by unfold nks; omega

/-- The key stream's closure. -/
theorem ks_any {w : World} {b : Nat} {k : Int} {i : Nat} (hc : w.cell? ⟨b, 0, none⟩ = some (.int .i64 k)) (hk : (Lit.int .i64 k).wf = true) (hi : i ≤ 140737488355328) :
    Calls Tryd.prog 72 #[.int .i64 i, .pointer (some ⟨b, 0, none⟩)] w fun e w' => e = .returned (.int .u8 (ks k i)) ∧ Below w.heap.size w w' := by
  have R1 := Lib.hid (Rd.one 3 .i64 w (i : Int) (wf_i64_of (by omega) (by omega)))
  have B1 := Lib.hid ((Below.refl w.heap.size w).alloc (Nat.le_refl _) (.cells #[.int .i64 (i : Int)] 3))
  have HK := Lib.hid hk
  clear hk
  go_enter Tryd.func72, Tryd.ntmps72
  go_wp2_with fail
  refine (impl_kh R1.out (by simp) HK.out).mono ?_
  rintro e w1 ⟨he, hb⟩
  have HB := Lib.hid (B1.out.trans (hb.mono B1.out.size))
  have hq := kh_bound k [(i : Int)]
  obtain ⟨q, hq'⟩ : ∃ q, q = kh k [(i : Int)] := ⟨_, rfl⟩
  have HQ : Hid (q % 256 = ks k i) := Lib.hid (by rw [hq']; rfl)
  rw [← hq'] at he hq
  subst he
  clear hb hq'
  go_wp2
  go_ret
  exact ⟨by rw [← HQ.out]; rfl, HB.out⟩

/-- impl.keyStream. -/
theorem keyStream_any (k : Int) (w : World) :
    Calls Tryd.prog 60 #[.int .i64 k] w fun e w' => e = .returned (.func (.func 72) #[] #[.pointer (some ⟨w.heap.size, 0, none⟩)]) ∧ w' = w.alloc (.cells #[.int .i64 k] 3) := by
  have hmf : ∀ (fn : Fn) (first cap : Array Value) (w : World), (Instr.makeFunc fn first cap).run Tryd.prog w = .ok (.func fn first cap) w := fun _ _ _ _ => rfl
  go_enter Tryd.func60, Tryd.ntmps60
  go_wp2
  go_ret
  exact ⟨rfl, rfl⟩

/-- Decrypt's closure. -/
theorem nks_any {w : World} {b c : Nat} {k : Int} {i : Nat} (hp : w.cell? ⟨c, 0, none⟩ = some (.func (.func 72) #[] #[.pointer (some ⟨b, 0, none⟩)])) (hc : w.cell? ⟨b, 0, none⟩ = some (.int .i64 k)) (hk : (Lit.int .i64 k).wf = true) (hi : i ≤ 140737488355328) :
    Calls Tryd.prog 74 #[.int .i64 i, .pointer (some ⟨c, 0, none⟩)] w fun e w' => e = .returned (.int .u8 (nks k i)) ∧ Below w.heap.size w w' := by
  have HC := Lib.hid hc
  have HK := Lib.hid hk
  clear hk hc
  go_enter Tryd.func74, Tryd.ntmps74
  go_wp2_with fail
  refine (ks_any HC.out HK.out hi).mono ?_
  rintro e w1 ⟨he, hb⟩
  have HB := Lib.hid hb
  have hq := ks_bound k i
  obtain ⟨q, hq'⟩ : ∃ q, q = ks k i := ⟨_, rfl⟩
  have HQ : Hid (IntKind.u8.wrap (-q) = nks k i) := Lib.hid (by rw [wrapU8, hq']; rfl)
  rw [← hq'] at he hq
  subst he
  clear hb hq'
  go_wp2
  go_ret
  refine ⟨?_, HB.out⟩
  rw [← HQ.out, wrapU8]
  rfl

/-- What is encrypted, and what is decrypted. -/
def enz (k : Int) (zs : List Int) : List Int := adds (ks k) zs
def dez (k : Int) (zs : List Int) : List Int := adds (nks k) zs

set_option maxHeartbeats 1000000 in
/-- impl.Encrypt. -/
theorem impl_en {lim : Nat} {w : World} {v : Value} {zs : List Int} {k : Int} (h : Rd lim .u8 w v zs) (hlim : lim ≤ w.heap.size) (hk : (Lit.int .i64 k).wf = true) (hn : zs.length ≤ 140737488355328) :
    Calls Tryd.prog 50 #[.int .i64 k, v] w fun e w' => ∃ v', e = .returned v' ∧ Own 5 .u8 w.heap.size w' v' (enz k zs) ∧ Below w.heap.size w w' := by
  have b1 := (Below.refl w.heap.size w).alloc (Nat.le_refl _) (.cells #[.int .i64 k] 3)
  have HR := Lib.hid (h.behind (b1.mono hlim))
  have hc : (w.alloc (.cells #[.int .i64 k] 3)).cell? ⟨w.heap.size, 0, none⟩ = some (.int .i64 k) := blk_cell (heap_alloc_new w (.cells #[.int .i64 k] 3)) 0
  have HF : Hid (∀ (i : Nat) (w1 : World), i < zs.length → Below (w.alloc (.cells #[.int .i64 k] 3)).heap.size (w.alloc (.cells #[.int .i64 k] 3)) w1 → Calls Tryd.prog 72 #[.int .i64 i, .pointer (some ⟨w.heap.size, 0, none⟩)] w1 fun e w2 => e = .returned (.int .u8 (ks k i)) ∧ Below w1.heap.size w1 w2) := Lib.hid (fun i w1 hi hb =>
    ks_any ((hb.cell (p := ⟨w.heap.size, 0, none⟩) (by simp)).trans hc) hk (by omega))
  have HB := Lib.hid b1
  clear b1 h hc hk
  go_enter Tryd.func50, Tryd.ntmps50
  go_wp2_with fail
  refine (keyStream_any k _).mono ?_
  rintro e w1 ⟨rfl, hw⟩
  obtain ⟨p, hp⟩ : ∃ p, p = w.heap.size := ⟨_, rfl⟩
  rw [← hw] at HR HF HB
  rw [← hp] at HF ⊢
  have HP := Lib.hid hp
  clear hp hw
  go_wp2_with fail
  refine (addStream_enc HR.out (Nat.le_trans hlim HB.out.size) hn (ks_bound k) HF.out).mono ?_
  rintro e w2 ⟨v2, rfl, h1, h2⟩
  have H1 := Lib.hid (h1.mono HB.out.size)
  have H2 := Lib.hid (HB.out.trans (h2.mono HB.out.size))
  clear h1 h2
  rw [← HP.out] at H1 H2
  go_wp2_with fail
  go_ret
  rw [← HP.out]
  exact ⟨v2, rfl, H1.out, H2.out⟩

set_option maxHeartbeats 1000000 in
/-- impl.Decrypt. -/
theorem impl_de {lim : Nat} {w : World} {v : Value} {zs : List Int} {k : Int} (h : Rd lim .u8 w v zs) (hlim : lim ≤ w.heap.size) (hk : (Lit.int .i64 k).wf = true) (hn : zs.length ≤ 140737488355328) :
    Calls Tryd.prog 66 #[.int .i64 k, v] w fun e w' => ∃ v', e = .returned v' ∧ Own 5 .u8 w.heap.size w' v' (dez k zs) ∧ Below w.heap.size w w' := by
  have hmf : ∀ (fn : Fn) (first cap : Array Value) (w : World), (Instr.makeFunc fn first cap).run Tryd.prog w = .ok (.func fn first cap) w := fun _ _ _ _ => rfl
  have b3 : Below w.heap.size w ((w.alloc (.cells #[.int .i64 k] 3)).alloc (.cells #[.func (.func 72) #[] #[.pointer (some ⟨w.heap.size, 0, none⟩)]] 74)) := ((Below.refl w.heap.size w).alloc (Nat.le_refl _) _).alloc (by simp) _
  have d1 : ((w.alloc (.cells #[.int .i64 k] 3)).alloc (.cells #[.func (.func 72) #[] #[.pointer (some ⟨w.heap.size, 0, none⟩)]] 74)).cell? ⟨w.heap.size + 1, 0, none⟩ = some (.func (.func 72) #[] #[.pointer (some ⟨w.heap.size, 0, none⟩)]) := by
    have e := heap_alloc_new (w.alloc (.cells #[.int .i64 k] 3)) (.cells #[.func (.func 72) #[] #[.pointer (some ⟨w.heap.size, 0, none⟩)]] 74)
    rw [World.size_alloc] at e
    exact blk_cell e 0
  have d2 : ((w.alloc (.cells #[.int .i64 k] 3)).alloc (.cells #[.func (.func 72) #[] #[.pointer (some ⟨w.heap.size, 0, none⟩)]] 74)).cell? ⟨w.heap.size, 0, none⟩ = some (.int .i64 k) := by
    rw [World.cell?_alloc_past _ _ _ (by simp)]
    exact blk_cell (heap_alloc_new w (.cells #[.int .i64 k] 3)) 0
  have HF : Hid (∀ W3, W3 = ((w.alloc (.cells #[.int .i64 k] 3)).alloc (.cells #[.func (.func 72) #[] #[.pointer (some ⟨w.heap.size, 0, none⟩)]] 74)) →
      lim ≤ W3.heap.size ∧ Rd lim .u8 W3 v zs ∧ Below w.heap.size w W3 ∧ ∀ (i : Nat) (w1 : World), i < zs.length → Below W3.heap.size W3 w1 → Calls Tryd.prog 74 #[.int .i64 i, .pointer (some ⟨w.heap.size + 1, 0, none⟩)] w1 fun e w2 => e = .returned (.int .u8 (nks k i)) ∧ Below w1.heap.size w1 w2) := Lib.hid (by
    rintro W3 rfl
    refine ⟨Nat.le_trans hlim b3.size, h.behind (b3.mono hlim), b3, fun i w1 hi hb => ?_⟩
    exact nks_any ((hb.cell (p := ⟨w.heap.size + 1, 0, none⟩) (by simp)).trans d1) ((hb.cell (p := ⟨w.heap.size, 0, none⟩) (by simp; omega)).trans d2) hk (by omega))
  clear d1 d2 b3 h hk
  go_enter Tryd.func66, Tryd.ntmps66
  go_wp2_with fail
  refine (keyStream_any k _).mono ?_
  rintro e w1 ⟨rfl, rfl⟩
  go_wp2_with fail
  refine (addStream_dec (HF.out _ rfl).2.1 (HF.out _ rfl).1 hn (nks_bound k) (HF.out _ rfl).2.2.2).mono ?_
  rintro e w2 ⟨v2, rfl, h1, h2⟩
  have hb := (HF.out _ rfl).2.2.1
  have H1 := Lib.hid (h1.mono hb.size)
  have H2 := Lib.hid (hb.trans (h2.mono hb.size))
  clear h1 h2 hb
  go_wp2_with fail
  go_ret
  exact ⟨v2, rfl, H1.out, H2.out⟩

end Go.Proofs.YtgobhaemcmmbgaaDoor
