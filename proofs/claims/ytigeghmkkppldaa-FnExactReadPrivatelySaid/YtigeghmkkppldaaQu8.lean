/- The program's servers as functions in an array. No conditions but a size that a machine holds. -/
import Derived.Test.YtigeghmkkppldaaQu1
import Derived.Test.YtigeghmkkppldaaQu5
import Derived.Test.YtigeghmkkppldaaQu6
import Derived.Laws.EntriesVeiled
import Derived.Laws.Rows
import Derived.Deep.MidRow
namespace Go.Proofs.Ytigeghmkkppldaa
open Go Go.RowKit
set_option linter.unusedVariables false
attribute [local irreducible] kh

set_option maxHeartbeats 1000000 in
/-- One server. -/
theorem server_any {l1 l2 b : Nat} {w : World} {a : Option Addr} {cap : Nat} {v : Value} {d : List (List Int)} {ys : List Int} (hu : Rd2 l1 .u8 w (.slice a d.length cap) d) (hv : Rd l2 .i64 w v ys) (hl1 : l1 ≤ w.heap.size) (hl2 : l2 ≤ w.heap.size) (hn : tot d ≤ 1099511627776)
    (hb : w.heap[b]? = some (.cells #[.slice a d.length cap] 26)) :
    Calls Try.prog 84 #[v, .pointer (some ⟨b, 0, none⟩)] w fun e w' => ∃ v', e = .returned v' ∧ Own 5 .u8 w.heap.size w' v' (ans d ys) ∧ Below w.heap.size w w' := by
  have HU := Lib.hid hu
  have HV := Lib.hid hv
  have HN := Lib.hid hn
  have cD := blk_cell hb 0
  rw [one0] at cD
  clear hu hv hn hb
  go_enter Try.func84, Try.ntmps84
  go_wp2_with fail
  refine (impl_ans HU.out HV.out hl1 hl2 HN.out).mono ?_
  rintro e w1 ⟨v1, rfl, h1, hb1⟩
  have H1 := Lib.hid h1
  have HB := Lib.hid hb1
  clear h1 hb1
  go_wp2_with fail
  go_ret
  exact ⟨_, rfl, H1.out, HB.out⟩

/-- A server as a value. -/
def srv (b : Nat) : Value := .func (.func 84) #[] #[.pointer (some ⟨b, 0, none⟩)]

/-- A whole array, stored into a variable of its own. -/
theorem wpList_store_arr {P : Program} {ops : Array Oper} {rest : List Oper} {o : Oper} {a : Act} {w : World} {Q : Exit → Act → World → Prop} (hgd : o.guard = none) (ty : TypeId) (x y : Operand) (ho : o.op = .store ty x y)
    (g : Nat) {cs cur : Array Value} (hx : a.eval x = .pointer (some ⟨g, 0, none⟩)) (hy : a.eval y = .agg cs) (t : TypeId) (hg : w.heap[g]? = some (.cells cur t (0, 0))) (hi : (P.info? ty).map (·.size) = some cs.size) (hsz : cur.size = cs.size)
    (h1 : cs.all (·.oneCell') = true) (h : wpList P ops Q rest (a.put o.dst undef) (w.setRow g cs)) : wpList P ops Q (o :: rest) a w :=
  wpList_plain hgd fun K hK => by
    have hrun := run_storeVar_row (P := P) w g t ty cur cs hg hi hsz h1
    unfold Oper.wp execOp
    simp only [ho, hx, hy, Instr.storeAt, Instr.sureAddr, Sem.run_bind, Sem.run_pure, Result.andThen_ok, hrun]
    exact hK _ _ h

/-- The first j servers. -/
def svs (b : Nat) : Nat → Array Value
  | 0 => #[.nilFunc, .nilFunc, .nilFunc, .nilFunc]
  | 1 => #[srv b, .nilFunc, .nilFunc, .nilFunc]
  | 2 => #[srv b, srv b, .nilFunc, .nilFunc]
  | 3 => #[srv b, srv b, srv b, .nilFunc]
  | _ => #[srv b, srv b, srv b, srv b]
theorem svs_size (b j : Nat) : (svs b j).size = 4 := by unfold svs; split <;> rfl
theorem svs_cell (b : Nat) {j : Nat} (hj : j < 4) : (svs b j)[j]? = some .nilFunc := by
  rcases (show j = 0 ∨ j = 1 ∨ j = 2 ∨ j = 3 by omega) with rfl | rfl | rfl | rfl <;> rfl
theorem svs_set (b : Nat) {j : Nat} (hj : j < 4) : (svs b j).setIfInBounds j (srv b) = svs b (j + 1) := by
  rcases (show j = 0 ∨ j = 1 ∨ j = 2 ∨ j = 3 by omega) with rfl | rfl | rfl | rfl <;> rfl
theorem svs_get (b : Nat) {j : Nat} (hj : j < 4) : (svs b 4)[j]? = some (srv b) := by
  rcases (show j = 0 ∨ j = 1 ∨ j = 2 ∨ j = 3 by omega) with rfl | rfl | rfl | rfl <;> rfl
theorem svs_one (b j : Nat) : (svs b j).all (·.oneCell') = true := by unfold svs; split <;> simp [srv, Value.oneCell']

set_option maxHeartbeats 2000000 in
/-- impl.replicas. -/
theorem replicas_any {w : World} {a : Option Addr} {n cap : Nat} :
    Calls Try.prog 54 #[.agg #[.slice a n cap]] w fun e w' => e = .returned (.agg (svs w.heap.size 4)) ∧ w'.heap[w.heap.size]? = some (.cells #[.slice a n cap] 26) ∧ Below w.heap.size w w' := by
  have hmf : ∀ (fn : Fn) (first cap : Array Value) (w : World), (Instr.makeFunc fn first cap).run Try.prog w = .ok (.func fn first cap) w := fun _ _ _ _ => rfl
  have hu70 : Try.prog.underlying 70 = some (.array 4 69) := Try.underlying70
  have hi70 : (Try.prog.info? 70).map (·.size) = some 4 := by kernel_rfl
  have HI70 := Lib.hid hi70
  have HU70 := Lib.hid hu70
  have hbl := blocks3 w (.cells #[.slice a n cap] 26) (.cells (svs w.heap.size 0) 70) (.cells (svs w.heap.size 0) 70)
  have hB : Below w.heap.size w (((w.alloc (.cells #[.slice a n cap] 26)).alloc (.cells (svs w.heap.size 0) 70)).alloc (.cells (svs w.heap.size 0) 70)) := (((Below.refl w.heap.size w).alloc (Nat.le_refl _) _).alloc (by simp) _).alloc (by simp; omega) _
  have HBl := Lib.hid hbl
  have HB0 := Lib.hid hB
  clear hu70 hi70 hbl hB
  go_enter Try.func54, Try.ntmps54
  go_wp2_with fail
  go_loopw [5] (fun i wr => ∃ j : Nat, i = .int .i64 j ∧ j ≤ 4 ∧ wr.heap[w.heap.size]? = some (.cells #[.slice a n cap] 26) ∧ wr.heap[w.heap.size + 1]? = some (.cells (svs w.heap.size 0) 70) ∧ wr.heap[w.heap.size + 1 + 1]? = some (.cells (svs w.heap.size j) 70) ∧ Below w.heap.size w wr) (fun i _ => 4 - (intOf i).toNat)
  case atStart => exact ⟨0, rfl, Nat.zero_le _, HBl.out.1, HBl.out.2.1, HBl.out.2.2, HB0.out⟩
  case round =>
    obtain ⟨j, rfl, hj, hK, hR, hD, hB⟩ := hrel
    have HK := Lib.hid hK
    have HR := Lib.hid hR
    have HD := Lib.hid hD
    have HB := Lib.hid hB
    clear hK hR hD hB HBl HB0
    by_cases hlt : j < 4
    · have e1 : decide ((j : Int) < 4) = true := by simp; omega
      have hj4 : (j : Int) < 4 := by omega
      have cD := blk_cell HD.out j
      rw [svs_cell _ hlt] at cD
      have fD := blk_free HD.out j
      go_wp2_with fail
      go_roundw
      case rel =>
        have h1 := blk_set HD.out j (srv w.heap.size)
        rw [svs_set _ hlt] at h1
        have hg := grown_set wr (w.heap.size + 1 + 1) j (srv w.heap.size)
        refine ⟨j + 1, by simp, hlt, (hg.block _ (lt_of_block HK.out) (fun e => by injection e with e; omega)).trans HK.out, (hg.block _ (lt_of_block HR.out) (fun e => by injection e with e; omega)).trans HR.out, h1, HB.out.trans (below_of_grown hg (by omega) HB.out.size)⟩
      case measure => simp [intOf]; omega
    · have e1 : decide ((j : Int) < 4) = false := by simp; omega
      obtain rfl : j = 4 := by omega
      obtain ⟨C, hC⟩ : ∃ C, C = svs w.heap.size 4 := ⟨_, rfl⟩
      have HD6 : Hid (wr.heap[w.heap.size + 1 + 1]? = some (.cells C 70 (0, 0))) := Lib.hid (by rw [hC]; exact HD.out)
      have HCs : Hid (C.size = 4) := Lib.hid (by rw [hC, svs_size])
      have HC1 : Hid (C.all (·.oneCell') = true) := Lib.hid (by rw [hC, svs_one])
      have HCe := Lib.hid hC
      have HR6 : Hid ((wr.setRow (w.heap.size + 1) C).heap[w.heap.size + 1]? = some (.cells C 70 (0, 0))) := Lib.hid (setRow_heap wr (w.heap.size + 1) _ C _ _ HR.out)
      have HK6 : Hid ((wr.setRow (w.heap.size + 1) C).heap[w.heap.size]? = some (.cells #[.slice a n cap] 26)) := Lib.hid ((setRow_other wr (w.heap.size + 1) w.heap.size C (by omega)).trans HK.out)
      have HB6 : Hid (Below w.heap.size w (wr.setRow (w.heap.size + 1) C)) := Lib.hid (HB.out.trans ⟨rfl, rfl, rfl, by simp, fun b hb => setRow_other wr (w.heap.size + 1) b C (by omega)⟩)
      clear hC HD
      go_wp2_with (first
        | (refine wpList_load_row rfl 70 _ rfl (w.heap.size + 1 + 1) rfl 70 C (0, 0) _ HD6.out HU70.out rfl (by rw [HI70.out, HCs.out]) ?_)
        | (refine wpList_store_arr rfl 70 _ _ rfl (w.heap.size + 1) rfl rfl 70 HR.out (by rw [HI70.out, HCs.out]) (by rw [HCs.out]; rfl) HC1.out ?_))
      obtain ⟨W7, hW7⟩ : ∃ W7, W7 = wr.setRow (w.heap.size + 1) C := ⟨_, rfl⟩
      rw [← hW7] at HB6 HR6 HK6 ⊢
      clear hW7
      refine bodyPost_ret (v := .agg C) ?_ rfl ⟨by rw [HCe.out], HK6.out, HB6.out⟩
      exact results_cell_row Try.results54 _ W7 (w.heap.size + 1) 70 C (0, 0) _ rfl HR6.out HU70.out rfl (by rw [HI70.out, HCs.out])

end Go.Proofs.Ytigeghmkkppldaa
