/- Sealed cells: OpenCell and FindCounter of the document. No conditions but numbers that a machine holds. -/
import Derived.Test.YtdccljmffmlkbaaDoorCl4
import Derived.Test.YtdccljmffmlkbaaDoorCl5
namespace Go.Proofs.YtdccljmffmlkbaaDoor
open Go Go.RowKit
set_option linter.unusedVariables false
attribute [local irreducible] kh kid

theorem ocK_no' {k n : Int} {zs : List Int} (h : ook k n zs = false) : ocK k n zs = 0 := if_neg (by rw [h]; decide)
theorem ocB_no' {k n : Int} {zs : List Int} (h : ook k n zs = false) : ocB k n zs = [] := if_neg (by rw [h]; decide)
/-- Four bytes as one number. -/
theorem or4 (a b c d : Int) (ha : 0 ≤ a ∧ a ≤ 255) (hb : 0 ≤ b ∧ b ≤ 255) (hc : 0 ≤ c ∧ c ≤ 255) (hd : 0 ≤ d ∧ d ≤ 255) :
    bits .or .i64 (bits .or .i64 (bits .or .i64 a (b * 256)) (c * 65536)) (d * 16777216) = a + 256 * b + 65536 * c + 16777216 * d := by
  obtain ⟨a, rfl⟩ : ∃ n : Nat, a = n := ⟨a.toNat, by omega⟩
  obtain ⟨b, rfl⟩ : ∃ n : Nat, b = n := ⟨b.toNat, by omega⟩
  obtain ⟨c, rfl⟩ : ∃ n : Nat, c = n := ⟨c.toNat, by omega⟩
  obtain ⟨d, rfl⟩ : ∃ n : Nat, d = n := ⟨d.toNat, by omega⟩
  have h1 : a ||| b * 256 = a + b * 256 := or_high (k := 8) (a := a) (b := b) (by omega)
  have h2 : (a + b * 256) ||| c * 65536 = a + b * 256 + c * 65536 := or_high (k := 16) (a := a + b * 256) (b := c) (by omega)
  have h3 : (a + b * 256 + c * 65536) ||| d * 16777216 = a + b * 256 + c * 65536 + d * 16777216 := or_high (k := 24) (a := a + b * 256 + c * 65536) (b := d) (by omega)
  rw [show (b : Int) * 256 = ((b * 256 : Nat) : Int) from (Int.natCast_mul b 256).symm, i64_or _ _ (by omega) (by omega), h1]
  rw [show (c : Int) * 65536 = ((c * 65536 : Nat) : Int) from (Int.natCast_mul c 65536).symm, i64_or _ _ (by omega) (by omega), h2]
  rw [show (d : Int) * 16777216 = ((d * 16777216 : Nat) : Int) from (Int.natCast_mul d 16777216).symm, i64_or _ _ (by omega) (by omega), h3]
  omega
/-- x[lo : hi] at an operation. -/
theorem run_slice_op_lh {P : Program} (w : World) (t : TypeId) (x : Operand) (e : TypeId) (i : TypeInfo) (ht : P.underlying t = some (.slice e)) (hi : P.info? e = some i) (hsz : i.size = 1) {o : Oper} {a : Act} {p : Option Addr} {len cap l m : Nat}
    (lo hi' : Operand) (hop : o.op = .slice t x (some lo) (some hi') none) (hx : a.eval x = .slice p len cap) (hlo : a.eval lo = .int .i64 (l : Int)) {M : Int} (hhi : a.eval hi' = .int .i64 M) (hM : M = (m : Int)) (h1 : l ≤ m) (h2 : m ≤ cap) :
    (execOp a.eval o).run P w = .ok (.value (Go.sliced p l m cap 1)) w := by
  subst hM
  simp only [execOp, hop, Option.map_some, Option.map_none, hx, hlo, hhi]
  simp only [Sem.run_bind, Sem.run_pure, run_sliceAt_slice w t _ _ _ _ (und_elem t e ht), run_slice_lh w t p len cap (und_elem t e ht) .i64 .i64 (l : Int) (m : Int) (by omega) (by omega) (by omega), size_elem t e i ht hi hsz, Result.andThen_ok, Int.toNat_natCast]
/-- The check value is right: the number of its four bytes. -/
theorem okc_num {k n : Int} {zs : List Int} (hl : zs.length = 24) (h0 : U8s zs) : okc k n zs = decide (zs.getD 20 0 + 256 * zs.getD 21 0 + 65536 * zs.getD 22 0 + 16777216 * zs.getD 23 0 = chkv k n (zs.take 20)) := by
  have hx := chkv_bound k n (zs.take 20)
  have a0 := h0.get 20
  have a1 := h0.get 21
  have a2 := h0.get 22
  have a3 := h0.get 23
  have hd : zs.drop 20 = [zs.getD 20 0, zs.getD 21 0, zs.getD 22 0, zs.getD 23 0] := by
    rw [drop_getD (j := 20) (by omega), drop_getD (j := 20 + 1) (by omega), drop_getD (j := 20 + 1 + 1) (by omega), drop_getD (j := 20 + 1 + 1 + 1) (by omega), List.drop_of_length_le (by omega)]
  unfold okc
  rw [le4_eq, hd]
  revert hx
  generalize chkv k n (zs.take 20) = x
  revert a0 a1 a2 a3
  generalize zs.getD 20 0 = p0
  generalize zs.getD 21 0 = p1
  generalize zs.getD 22 0 = p2
  generalize zs.getD 23 0 = p3
  intro a3 a2 a1 a0 hx
  by_cases h : p0 + 256 * p1 + 65536 * p2 + 16777216 * p3 = x
  · rw [decide_eq_true h]
    have e0 : x % 256 = p0 := by omega
    have e1 : x / 256 % 256 = p1 := by omega
    have e2 : x / 65536 % 256 = p2 := by omega
    have e3 : x / 16777216 % 256 = p3 := by omega
    rw [e0, e1, e2, e3]
    simp
  · rw [decide_eq_false h]
    refine beq_eq_false_iff_ne.2 (fun hc => h ?_)
    simp only [List.cons.injEq, and_true] at hc
    omega

end Go.Proofs.YtdccljmffmlkbaaDoor
