/- Sealed cells as lists of numbers: the plain bytes, the key of the cipher, the check value, what is sealed and what is opened. Pure. No conditions but those that are named. -/
import Derived.Test.YtlhpjfhglkngfaaDoorBcC
import Derived.Test.YtlhpjfhglkngfaaDoorBbR
import Derived.Test.YtlhpjfhglkngfaaDoorBa7
import Derived.Lib.Bytes
namespace Go.Proofs.YtlhpjfhglkngfaaDoor
open Go Go.RowKit
set_option linter.unusedVariables false
attribute [local irreducible] kh kid

/-- The padding. -/
def padL (k n : Int) : List Int := strm (kh k [61, n]) 18
/-- The plain bytes: kind, length, body, padding. -/
def plnL (k n d : Int) (b : List Int) : List Int := (d :: (b.length : Int) :: b) ++ (padL k n).drop b.length
/-- The cipher's key. -/
def ckey (k n : Int) : Int := mx (kh k [67, n]) 1
/-- The check value. -/
def chkv (k n : Int) (d : List Int) : Int := kh k (71 :: n :: d)
/-- Four bytes, the low one first. -/
def le4f (x : Int) (i : Nat) : Int := x / 2 ^ (8 * i) % 256
def le4 (x : Int) : List Int := (List.range 4).map (le4f x)
/-- Is it a kind and a body? -/
def okPlain (d : Int) (b : List Int) : Bool := inR d 0 3 && decide (b.length ≤ 14)
/-- Can it be sealed? -/
def sok (k n d : Int) (b : List Int) : Bool := inR k 1 2147483646 && (inR n 0 1000000000000 && okPlain d b)
/-- The encrypted bytes. -/
def encL (k n d : Int) (b : List Int) : List Int := enz (ckey k n) (plnL k n d b)
/-- The cell. -/
def sealL (k n d : Int) (b : List Int) : List Int := if sok k n d b = true then encL k n d b ++ le4 (chkv k n (encL k n d b)) else []
/-- The decrypted bytes. -/
def decL (k n : Int) (c : List Int) : List Int := dez (ckey k n) (c.take 20)
def okp (p : List Int) : Bool := decide (p.getD 0 0 ≤ 3) && decide (p.getD 1 0 ≤ 14)
/-- Is the check value right? -/
def okc (k n : Int) (c : List Int) : Bool := le4 (chkv k n (c.take 20)) == c.drop 20
/-- Is the cell opened? -/
def ook (k n : Int) (c : List Int) : Bool := inR k 1 2147483646 && (inR n 0 1000000000000 && (decide (c.length = 24) && (okc k n c && okp (decL k n c))))
def ocK (k n : Int) (c : List Int) : Int := if ook k n c = true then (decL k n c).getD 0 0 else 0
def ocB (k n : Int) (c : List Int) : List Int := if ook k n c = true then ((decL k n c).drop 2).take ((decL k n c).getD 1 0).toNat else []
/-- The first counter that opens the cell, m of them tried from f + i on. -/
def fcn (k : Int) (c : List Int) (f : Int) : Nat → Nat → Int
  | 0, _ => -1
  | m + 1, i => if ook k (wrap64 (f + i)) c = true then wrap64 (f + i) else fcn k c f m (i + 1)
def fcnt (k : Int) (c : List Int) (f n : Int) : Int := fcn k c f (min n.toNat 100) 0

theorem padL_len (k n : Int) : (padL k n).length = 18 := by
  unfold padL
  rw [show (18 : Int) = ((18 : Nat) : Int) from rfl, strm_yes (by rfl)]
  simp
theorem strm_u8c (s n : Int) : U8s (strm s n) := by
  intro z hz
  unfold strm at hz
  split at hz
  · obtain ⟨i, _, rfl⟩ := List.mem_map.1 hz
    exact sbyte_wf _ _
  · cases hz
theorem padL_u8 (k n : Int) : U8s (padL k n) := strm_u8c _ _
theorem padL_drop_len (k n : Int) (m : Nat) : ((padL k n).drop m).length = 18 - m := by rw [List.length_drop, padL_len]
theorem plnL_len (k n d : Int) {b : List Int} (h : b.length ≤ 14) : (plnL k n d b).length = 20 := by
  unfold plnL
  rw [List.length_append, padL_drop_len]
  simp only [List.length_cons]
  omega
theorem adds_u8 (f : Nat → Int) (zs : List Int) : U8s (adds f zs) := by
  intro z hz
  unfold adds at hz
  obtain ⟨i, _, rfl⟩ := List.mem_map.1 hz
  exact wf_u8_of (by omega) (by omega)
theorem enz_len (k : Int) (zs : List Int) : (enz k zs).length = zs.length := adds_len _ _
theorem dez_len (k : Int) (zs : List Int) : (dez k zs).length = zs.length := adds_len _ _
theorem enz_u8 (k : Int) (zs : List Int) : U8s (enz k zs) := adds_u8 _ _
theorem dez_u8 (k : Int) (zs : List Int) : U8s (dez k zs) := adds_u8 _ _
theorem encL_len (k n d : Int) {b : List Int} (h : b.length ≤ 14) : (encL k n d b).length = 20 := by unfold encL; rw [enz_len, plnL_len _ _ _ h]
theorem le4_len (x : Int) : (le4 x).length = 4 := by simp [le4]
theorem le4f_u8 (x : Int) (i : Nat) : (Lit.int .u8 (le4f x i)).wf = true := wf_u8_of (by unfold le4f; omega) (by unfold le4f; omega)
theorem le4_u8 (x : Int) : U8s (le4 x) := by
  intro z hz
  unfold le4 at hz
  obtain ⟨i, _, rfl⟩ := List.mem_map.1 hz
  exact le4f_u8 _ _
theorem le4_eq (x : Int) : le4 x = [x % 256, x / 256 % 256, x / 65536 % 256, x / 16777216 % 256] := by
  show [x / 2 ^ (8 * 0) % 256, x / 2 ^ (8 * 1) % 256, x / 2 ^ (8 * 2) % 256, x / 2 ^ (8 * 3) % 256] = _
  rw [show (2 : Int) ^ (8 * 0) = 1 from rfl, show (2 : Int) ^ (8 * 1) = 256 from rfl, show (2 : Int) ^ (8 * 2) = 65536 from rfl, show (2 : Int) ^ (8 * 3) = 16777216 from rfl, Int.ediv_one]
theorem sealL_yes {k n d : Int} {b : List Int} (h : sok k n d b = true) : sealL k n d b = encL k n d b ++ le4 (chkv k n (encL k n d b)) := if_pos h
theorem sealL_no {k n d : Int} {b : List Int} (h : sok k n d b = false) : sealL k n d b = [] := if_neg (by rw [h]; decide)
theorem sealL_len (k n d : Int) (b : List Int) : (sealL k n d b).length ≤ 24 := by
  unfold sealL
  split
  · rename_i h
    have hb : b.length ≤ 14 := by
      unfold sok okPlain at h
      simp only [Bool.and_eq_true, decide_eq_true_eq] at h
      exact h.2.2.2
    rw [List.length_append, encL_len _ _ _ hb, le4_len]
    omega
  · simp
theorem chkv_bound (k n : Int) (d : List Int) : 0 ≤ chkv k n d ∧ chkv k n d ≤ 2147483646 := kh_bound _ _
theorem ckey_bound (k n : Int) : 1 ≤ ckey k n ∧ ckey k n ≤ 2147483646 := by
  unfold ckey mx
  have := kh_bound k [67, n]
  split <;> omega
theorem ckey_wf (k n : Int) : (Lit.int .i64 (ckey k n)).wf = true := by
  have := ckey_bound k n
  revert this
  generalize ckey k n = q
  intro h
  exact wf_i64_of (by omega) (by omega)
theorem mx_turn (a b : Int) : mx a b = mx b a := by
  unfold mx
  split <;> split <;> omega
theorem kh_wf (k : Int) (zs : List Int) : (Lit.int .i64 (kh k zs)).wf = true := by
  have := kh_bound k zs
  revert this
  generalize kh k zs = q
  intro h
  exact wf_i64_of (by omega) (by omega)
theorem u8_i64z {z : Int} (h : (Lit.int .u8 z).wf = true) : (Lit.int .i64 z).wf = true := by
  have := wf_u8 h
  exact wf_i64_of (by omega) (by omega)
theorem ocB_len (k n : Int) (c : List Int) : (ocB k n c).length ≤ 14 := by
  unfold ocB
  split
  · rename_i h
    unfold ook okp at h
    simp only [Bool.and_eq_true, decide_eq_true_eq] at h
    rw [List.length_take]
    omega
  · simp
theorem dec_get (k n : Int) (c : List Int) (i : Nat) : 0 ≤ (decL k n c).getD i 0 ∧ (decL k n c).getD i 0 ≤ 255 := (dez_u8 _ _).get i
theorem ocK_bound (k n : Int) (c : List Int) : 0 ≤ ocK k n c ∧ ocK k n c ≤ 3 := by
  have h0 := (dec_get k n c 0).1
  unfold ocK
  split
  · rename_i h
    unfold ook okp at h
    simp only [Bool.and_eq_true, decide_eq_true_eq] at h
    exact ⟨h0, h.2.2.2.2.1⟩
  · omega
theorem ocB_u8 (k n : Int) (c : List Int) : U8s (ocB k n c) := by
  unfold ocB
  split
  · intro z hz
    exact dez_u8 _ _ z (List.mem_of_mem_drop (List.mem_of_mem_take hz))
  · intro z hz; cases hz
/-- Bytes as strings are the same exactly where the numbers are. -/
theorem strEq {xs ys : List Int} (hx : U8s xs) (hy : U8s ys) : ((strOfNums xs).toList == (strOfNums ys).toList) = (xs == ys) := by
  have inj : ∀ {xs ys : List Int}, U8s xs → U8s ys → Lib.bytesOf xs = Lib.bytesOf ys → xs = ys := by
    intro xs
    induction xs with
    | nil => intro ys _ _ h; cases ys with | nil => rfl | cons y ys => simp [Lib.bytesOf] at h
    | cons x xs ih =>
      intro ys hx hy h
      cases ys with
      | nil => simp [Lib.bytesOf] at h
      | cons y ys =>
        have h1 : UInt8.ofNat x.toNat = UInt8.ofNat y.toNat ∧ Lib.bytesOf xs = Lib.bytesOf ys := by simpa [Lib.bytesOf] using h
        have bx := wf_u8 (hx x (by simp))
        have bz := wf_u8 (hy y (by simp))
        have e1 : x.toNat % 256 = y.toNat % 256 := by
          have := congrArg UInt8.toNat h1.1
          simpa using this
        have e2 := ih (fun z hz => hx z (by simp [hz])) (fun z hz => hy z (by simp [hz])) h1.2
        rw [e2]
        have : x = y := by omega
        rw [this]
  rw [Lib.strOfNums_toList, Lib.strOfNums_toList]
  by_cases h : xs = ys
  · subst h; simp
  · have h' : Lib.bytesOf xs ≠ Lib.bytesOf ys := fun e => h (inj hx hy e)
    rw [beq_eq_false_iff_ne.2 h, beq_eq_false_iff_ne.2 h']

end Go.Proofs.YtlhpjfhglkngfaaDoor
