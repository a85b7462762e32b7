/- Sealed cells as lists of numbers: the plain bytes, the key of the cipher, the check value, what is sealed and what is opened. Pure. No conditions but those that are named. Sealed cells, pure: a sealed cell is opened with its key and counter, and with no other; a changed byte closes it. No conditions but those that are named. Mailboxes as numbers and lists: rows, keys of directions, what a mailbox sends and receives, collisions, free rounds. Pure. No conditions but those that are named. -/
import Derived.Test.YtlbijjifeaimjaaBcC
import Derived.Test.YtlbijjifeaimjaaBbR
import Derived.Test.YtlbijjifeaimjaaBa7
import Derived.Lib.Bytes
import Derived.Test.YtlbijjifeaimjaaKhP

/-! ClN -/
namespace Go.Proofs.Ytlbijjifeaimjaa
open Go Go.RowKit
set_option linter.unusedVariables false
attribute [local irreducible] kh kid

/-- The padding. -/
def padL (k n : Int) : List Int := strm (kh k [61, n]) 18
/-- The plain bytes: kind, length, body, padding. -/
def plnL (k n d : Int) (b : List Int) : List Int := (d :: (b.length : Int) :: b) ++ (padL k n).drop b.length
/-- The cipher's key. -/
def ckey (k n : Int) : Int := mx (kh k [67, n]) 1
/-- The check value. -/
def chkv (k n : Int) (d : List Int) : Int := kh k (71 :: n :: d)
/-- Four bytes, the low one first. -/
def le4f (x : Int) (i : Nat) : Int := x / 2 ^ (8 * i) % 256
def le4 (x : Int) : List Int := (List.range 4).map (le4f x)
/-- Is it a kind and a body? -/
def okPlain (d : Int) (b : List Int) : Bool := inR d 0 3 && decide (b.length ≤ 14)
/-- Can it be sealed? -/
def sok (k n d : Int) (b : List Int) : Bool := inR k 1 2147483646 && (inR n 0 1000000000000 && okPlain d b)
/-- The encrypted bytes. -/
def encL (k n d : Int) (b : List Int) : List Int := enz (ckey k n) (plnL k n d b)
/-- The cell. -/
def sealL (k n d : Int) (b : List Int) : List Int := if sok k n d b = true then encL k n d b ++ le4 (chkv k n (encL k n d b)) else []
/-- The decrypted bytes. -/
def decL (k n : Int) (c : List Int) : List Int := dez (ckey k n) (c.take 20)
def okp (p : List Int) : Bool := decide (p.getD 0 0 ≤ 3) && decide (p.getD 1 0 ≤ 14)
/-- Is the check value right? -/
def okc (k n : Int) (c : List Int) : Bool := le4 (chkv k n (c.take 20)) == c.drop 20
/-- Is the cell opened? -/
def ook (k n : Int) (c : List Int) : Bool := inR k 1 2147483646 && (inR n 0 1000000000000 && (decide (c.length = 24) && (okc k n c && okp (decL k n c))))
def ocK (k n : Int) (c : List Int) : Int := if ook k n c = true then (decL k n c).getD 0 0 else 0
def ocB (k n : Int) (c : List Int) : List Int := if ook k n c = true then ((decL k n c).drop 2).take ((decL k n c).getD 1 0).toNat else []
/-- The first counter that opens the cell, m of them tried from f + i on. -/
def fcn (k : Int) (c : List Int) (f : Int) : Nat → Nat → Int
  | 0, _ => -1
  | m + 1, i => if ook k (wrap64 (f + i)) c = true then wrap64 (f + i) else fcn k c f m (i + 1)
def fcnt (k : Int) (c : List Int) (f n : Int) : Int := fcn k c f (min n.toNat 100) 0

theorem padL_len (k n : Int) : (padL k n).length = 18 := by
  unfold padL
  rw [show (18 : Int) = ((18 : Nat) : Int) from rfl, strm_yes (by rfl)]
  simp
theorem strm_u8c (s n : Int) : U8s (strm s n) := by
  intro z hz
  unfold strm at hz
  split at hz
  · obtain ⟨i, _, rfl⟩ := List.mem_map.1 hz
    exact sbyte_wf _ _
  · cases hz
theorem padL_u8 (k n : Int) : U8s (padL k n) := strm_u8c _ _
theorem padL_drop_len (k n : Int) (m : Nat) : ((padL k n).drop m).length = 18 - m := by rw [List.length_drop, padL_len]
theorem plnL_len (k n d : Int) {b : List Int} (h : b.length ≤ 14) : (plnL k n d b).length = 20 := by
  unfold plnL
  rw [List.length_append, padL_drop_len]
  simp only [List.length_cons]
  omega
theorem adds_u8 (f : Nat → Int) (zs : List Int) : U8s (adds f zs) := by
  intro z hz
  unfold adds at hz
  obtain ⟨i, _, rfl⟩ := List.mem_map.1 hz
  exact wf_u8_of (by omega) (by omega)
theorem enz_len (k : Int) (zs : List Int) : (enz k zs).length = zs.length := adds_len _ _
theorem dez_len (k : Int) (zs : List Int) : (dez k zs).length = zs.length := adds_len _ _
theorem enz_u8 (k : Int) (zs : List Int) : U8s (enz k zs) := adds_u8 _ _
theorem dez_u8 (k : Int) (zs : List Int) : U8s (dez k zs) := adds_u8 _ _
theorem encL_len (k n d : Int) {b : List Int} (h : b.length ≤ 14) : (encL k n d b).length = 20 := by unfold encL; rw [enz_len, plnL_len _ _ _ h]
theorem le4_len (x : Int) : (le4 x).length = 4 := by simp [le4]
theorem le4f_u8 (x : Int) (i : Nat) : (Lit.int .u8 (le4f x i)).wf = true := wf_u8_of (by unfold le4f; omega) (by unfold le4f; omega)
theorem le4_u8 (x : Int) : U8s (le4 x) := by
  intro z hz
  unfold le4 at hz
  obtain ⟨i, _, rfl⟩ := List.mem_map.1 hz
  exact le4f_u8 _ _
theorem le4_eq (x : Int) : le4 x = [x % 256, x / 256 % 256, x / 65536 % 256, x / 16777216 % 256] := by
  show [x / 2 ^ (8 * 0) % 256, x / 2 ^ (8 * 1) % 256, x / 2 ^ (8 * 2) % 256, x / 2 ^ (8 * 3) % 256] = _
  rw [show (2 : Int) ^ (8 * 0) = 1 from rfl, show (2 : Int) ^ (8 * 1) = 256 from rfl, show (2 : Int) ^ (8 * 2) = 65536 from rfl, show (2 : Int) ^ (8 * 3) = 16777216 from rfl, Int.ediv_one]
theorem sealL_yes {k n d : Int} {b : List Int} (h : sok k n d b = true) : sealL k n d b = encL k n d b ++ le4 (chkv k n (encL k n d b)) := if_pos h
theorem sealL_no {k n d : Int} {b : List Int} (h : sok k n d b = false) : sealL k n d b = [] := if_neg (by rw [h]; decide)
theorem sealL_len (k n d : Int) (b : List Int) : (sealL k n d b).length ≤ 24 := by
  unfold sealL
  split
  · rename_i h
    have hb : b.length ≤ 14 := by
      unfold sok okPlain at h
      simp only [Bool.and_eq_true, decide_eq_true_eq] at h
      exact h.2.2.2
    rw [List.length_append, encL_len _ _ _ hb, le4_len]
    omega
  · simp
theorem chkv_bound (k n : Int) (d : List Int) : 0 ≤ chkv k n d ∧ chkv k n d ≤ 2147483646 := kh_bound _ _
theorem ckey_bound (k n : Int) : 1 ≤ ckey k n ∧ ckey k n ≤ 2147483646 := by
  unfold ckey mx
  have := kh_bound k [67, n]
  split <;> omega
theorem ckey_wf (k n : Int) : (Lit.int .i64 (ckey k n)).wf = true := by
  have := ckey_bound k n
  revert this
  generalize ckey k n = q
  intro h
  exact wf_i64_of (by omega) (by omega)
theorem mx_turn (a b : Int) : mx a b = mx b a := by
  unfold mx
  split <;> split <;> omega
theorem kh_wf (k : Int) (zs : List Int) : (Lit.int .i64 (kh k zs)).wf = true := by
  have := kh_bound k zs
  revert this
  generalize kh k zs = q
  intro h
  exact wf_i64_of (by omega) (by omega)
theorem u8_i64z {z : Int} (h : (Lit.int .u8 z).wf = true) : (Lit.int .i64 z).wf = true := by
  have := wf_u8 h
  exact wf_i64_of (by omega) (by omega)
theorem ocB_len (k n : Int) (c : List Int) : (ocB k n c).length ≤ 14 := by
  unfold ocB
  split
  · rename_i h
    unfold ook okp at h
    simp only [Bool.and_eq_true, decide_eq_true_eq] at h
    rw [List.length_take]
    omega
  · simp
theorem dec_get (k n : Int) (c : List Int) (i : Nat) : 0 ≤ (decL k n c).getD i 0 ∧ (decL k n c).getD i 0 ≤ 255 := (dez_u8 _ _).get i
theorem ocK_bound (k n : Int) (c : List Int) : 0 ≤ ocK k n c ∧ ocK k n c ≤ 3 := by
  have h0 := (dec_get k n c 0).1
  unfold ocK
  split
  · rename_i h
    unfold ook okp at h
    simp only [Bool.and_eq_true, decide_eq_true_eq] at h
    exact ⟨h0, h.2.2.2.2.1⟩
  · omega
theorem ocB_u8 (k n : Int) (c : List Int) : U8s (ocB k n c) := by
  unfold ocB
  split
  · intro z hz
    exact dez_u8 _ _ z (List.mem_of_mem_drop (List.mem_of_mem_take hz))
  · intro z hz; cases hz
/-- Bytes as strings are the same exactly where the numbers are. -/
theorem strEq {xs ys : List Int} (hx : U8s xs) (hy : U8s ys) : ((strOfNums xs).toList == (strOfNums ys).toList) = (xs == ys) := by
  have inj : ∀ {xs ys : List Int}, U8s xs → U8s ys → Lib.bytesOf xs = Lib.bytesOf ys → xs = ys := by
    intro xs
    induction xs with
    | nil => intro ys _ _ h; cases ys with | nil => rfl | cons y ys => simp [Lib.bytesOf] at h
    | cons x xs ih =>
      intro ys hx hy h
      cases ys with
      | nil => simp [Lib.bytesOf] at h
      | cons y ys =>
        have h1 : UInt8.ofNat x.toNat = UInt8.ofNat y.toNat ∧ Lib.bytesOf xs = Lib.bytesOf ys := by simpa [Lib.bytesOf] using h
        have bx := wf_u8 (hx x (by simp))
        have bz := wf_u8 (hy y (by simp))
        have e1 : x.toNat % 256 = y.toNat % 256 := by
          have := congrArg UInt8.toNat h1.1
          simpa using this
        have e2 := ih (fun z hz => hx z (by simp [hz])) (fun z hz => hy z (by simp [hz])) h1.2
        rw [e2]
        have : x = y := by omega
        rw [this]
  rw [Lib.strOfNums_toList, Lib.strOfNums_toList]
  by_cases h : xs = ys
  · subst h; simp
  · have h' : Lib.bytesOf xs ≠ Lib.bytesOf ys := fun e => h (inj hx hy e)
    rw [beq_eq_false_iff_ne.2 h, beq_eq_false_iff_ne.2 h']

end Go.Proofs.Ytlbijjifeaimjaa


/-! ClP -/
namespace Go.Proofs.Ytlbijjifeaimjaa
open Go Go.RowKit
set_option linter.unusedVariables false

theorem sok_all {k n d : Int} {b : List Int} (h : sok k n d b = true) : (1 ≤ k ∧ k ≤ 2147483646) ∧ (0 ≤ n ∧ n ≤ 1000000000000) ∧ (0 ≤ d ∧ d ≤ 3) ∧ b.length ≤ 14 := by
  unfold sok okPlain inR at h
  simp only [Bool.and_eq_true, decide_eq_true_eq] at h
  exact ⟨h.1, h.2.1, h.2.2.1, h.2.2.2⟩
theorem sealL_len24 {k n d : Int} {b : List Int} (h : sok k n d b = true) : (sealL k n d b).length = 24 := by
  rw [sealL_yes h, List.length_append, encL_len k n d (sok_all h).2.2.2, le4_len]
theorem sealL_take {k n d : Int} {b : List Int} (h : sok k n d b = true) : (sealL k n d b).take 20 = encL k n d b := by
  rw [sealL_yes h, List.take_append_of_le_length (by rw [encL_len k n d (sok_all h).2.2.2]; omega), List.take_of_length_le (by rw [encL_len k n d (sok_all h).2.2.2]; omega)]
theorem sealL_drop {k n d : Int} {b : List Int} (h : sok k n d b = true) : (sealL k n d b).drop 20 = le4 (chkv k n (encL k n d b)) := by
  have hl := encL_len k n d (sok_all h).2.2.2
  rw [sealL_yes h, List.drop_append_of_le_length (by omega), List.drop_of_length_le (by omega), List.nil_append]
theorem plnL_u8 {k n d : Int} {b : List Int} (hd : 0 ≤ d ∧ d ≤ 3) (hl : b.length ≤ 14) (hb : U8s b) : U8s (plnL k n d b) := by
  intro z hz
  unfold plnL at hz
  rcases List.mem_append.1 hz with h | h
  · rcases List.mem_cons.1 h with rfl | h
    · exact wf_u8_of (by omega) (by omega)
    · rcases List.mem_cons.1 h with rfl | h
      · exact wf_u8_of (by omega) (by omega)
      · exact hb z h
  · exact padL_u8 _ _ z (List.mem_of_mem_drop h)
theorem decL_seal {k n d : Int} {b : List Int} (h : sok k n d b = true) (hb : U8s b) : decL k n (sealL k n d b) = plnL k n d b := by
  unfold decL
  rw [sealL_take h]
  unfold encL
  exact de_en _ _ (plnL_u8 (sok_all h).2.2.1 (sok_all h).2.2.2 hb)
theorem inR_ofC {x a b : Int} (h : a ≤ x ∧ x ≤ b) : inR x a b = true := inR_yes h
/-- A sealed cell is opened with its key and counter. -/
theorem ook_seal {k n d : Int} {b : List Int} (h : sok k n d b = true) (hb : U8s b) : ook k n (sealL k n d b) = true := by
  obtain ⟨h1, h2, h3, h4⟩ := sok_all h
  have e5 : okc k n (sealL k n d b) = true := by
    unfold okc
    rw [sealL_take h, sealL_drop h]
    exact beq_self_eq_true _
  have e6 : okp (decL k n (sealL k n d b)) = true := by
    rw [decL_seal h hb]
    unfold okp plnL
    have e1 : ((d :: (b.length : Int) :: b) ++ (padL k n).drop b.length).getD 0 0 = d := rfl
    have e2 : ((d :: (b.length : Int) :: b) ++ (padL k n).drop b.length).getD 1 0 = (b.length : Int) := rfl
    rw [e1, e2, decide_eq_true h3.2, decide_eq_true (show (b.length : Int) ≤ 14 by omega)]
    rfl
  unfold ook
  rw [inR_ofC h1, inR_ofC h2, e5, e6, decide_eq_true (sealL_len24 h)]
  rfl
theorem ocK_seal {k n d : Int} {b : List Int} (h : sok k n d b = true) (hb : U8s b) : ocK k n (sealL k n d b) = d := by
  unfold ocK
  rw [if_pos (ook_seal h hb), decL_seal h hb]
  rfl
theorem ocB_seal {k n d : Int} {b : List Int} (h : sok k n d b = true) (hb : U8s b) : ocB k n (sealL k n d b) = b := by
  unfold ocB
  rw [if_pos (ook_seal h hb), decL_seal h hb]
  have e2 : (plnL k n d b).getD 1 0 = (b.length : Int) := rfl
  rw [e2, Int.toNat_natCast]
  show (b ++ (padL k n).drop b.length).take b.length = b
  rw [List.take_append_of_le_length (Nat.le_refl _), List.take_length]
/-- The check values' bytes tell them apart. -/
theorem le4_inj {x y : Int} (hx : 0 ≤ x ∧ x ≤ 2147483646) (hy : 0 ≤ y ∧ y ≤ 2147483646) (h : le4 x = le4 y) : x = y := by
  rw [le4_eq, le4_eq] at h
  simp only [List.cons.injEq, and_true] at h
  omega
theorem ook_off {k n : Int} {c : List Int} (h : okc k n c = false) : ook k n c = false := by unfold ook; rw [h]; simp
theorem okc_false {k n x : Int} {c e : List Int} (h1 : c.take 20 = e) (h2 : c.drop 20 = le4 x) (hx : 0 ≤ x ∧ x ≤ 2147483646) (hne : chkv k n e ≠ x) : okc k n c = false := by
  unfold okc
  rw [h1, h2]
  exact beq_eq_false_iff_ne.2 (fun h => hne (le4_inj (chkv_bound _ _ _) hx h))
/-- .. and with no other counter .. -/
theorem ook_counter {k n m d : Int} {b : List Int} (h : sok k n d b = true) (hne : m % 2147483647 ≠ n % 2147483647) : ook k m (sealL k n d b) = false := by
  refine ook_off (okc_false (sealL_take h) (sealL_drop h) (chkv_bound _ _ _) ?_)
  unfold chkv
  have e : 71 :: m :: encL k n d b = (71 :: n :: encL k n d b).set 1 m := rfl
  rw [e]
  exact kh_set_ne (by simp) hne
/-- .. and with no other key. -/
theorem ook_key {k l n d : Int} {b : List Int} (h : sok k n d b = true) (hl : 1 ≤ l ∧ l ≤ 2147483646) (hne : l ≠ k) : ook l n (sealL k n d b) = false := by
  refine ook_off (okc_false (sealL_take h) (sealL_drop h) (chkv_bound _ _ _) ?_)
  unfold chkv
  exact kh_key_ne (by simp only [List.length_cons]; rw [encL_len k n d (sok_all h).2.2.2]) hl (sok_all h).1 hne
/-- A byte that was changed closes it. -/
theorem ook_changed {k n d v : Int} {b : List Int} {i : Nat} (h : sok k n d b = true) (hi : i < 24) (hv : 0 ≤ v ∧ v ≤ 255) (hne : v ≠ (sealL k n d b).getD i 0) : ook k n ((sealL k n d b).set i v) = false := by
  have hlen := sealL_len24 h
  have hel := encL_len k n d (sok_all h).2.2.2
  by_cases h20 : i < 20
  · have e1 : ((sealL k n d b).set i v).take 20 = (encL k n d b).set i v := by rw [List.take_set, sealL_take h]
    have e2 : ((sealL k n d b).set i v).drop 20 = le4 (chkv k n (encL k n d b)) := by rw [List.drop_set_of_lt (by omega), sealL_drop h]
    have e3 : (sealL k n d b).getD i 0 = (encL k n d b).getD i 0 := by
      rw [sealL_yes h, List.getD_eq_getElem?_getD, List.getD_eq_getElem?_getD, List.getElem?_append_left (by omega)]
    have hu := wf_u8 (enz_u8 (ckey k n) (plnL k n d b) ((encL k n d b).getD i 0) (by
      show (encL k n d b).getD i 0 ∈ encL k n d b
      rw [List.getD_eq_getElem?_getD, List.getElem?_eq_getElem (by omega)]; simp))
    refine ook_off (okc_false e1 e2 (chkv_bound _ _ _) ?_)
    unfold chkv
    have e : 71 :: n :: (encL k n d b).set i v = (71 :: n :: encL k n d b).set (i + 2) v := rfl
    rw [e]
    refine kh_set_ne (by simp only [List.length_cons]; omega) ?_
    have e4 : (71 :: n :: encL k n d b).getD (i + 2) 0 = (encL k n d b).getD i 0 := rfl
    rw [e4]
    rw [e3] at hne
    omega
  · have e1 : ((sealL k n d b).set i v).take 20 = encL k n d b := by rw [List.take_set_of_le (by omega), sealL_take h]
    refine ook_off ?_
    unfold okc
    rw [e1]
    refine beq_eq_false_iff_ne.2 (fun hc => hne ?_)
    have e2 : ((sealL k n d b).set i v).drop 20 = (sealL k n d b).drop 20 := by rw [← hc, sealL_drop h]
    have e3 : ((sealL k n d b).set i v).getD i 0 = v := by
      rw [List.getD_eq_getElem?_getD, List.getElem?_set_self (by omega)]; rfl
    have e4 : ∀ c : List Int, c.getD i 0 = (c.drop 20).getD (i - 20) 0 := fun c => by
      rw [List.getD_eq_getElem?_getD, List.getD_eq_getElem?_getD, List.getElem?_drop, show 20 + (i - 20) = i by omega]
    rw [← e3, e4, e2, ← e4]

end Go.Proofs.Ytlbijjifeaimjaa


/-! MbN -/
namespace Go.Proofs.Ytlbijjifeaimjaa
open Go Go.RowKit
set_option linter.unusedVariables false
attribute [local irreducible] kh kid

/-- The key of a direction. -/
def dkey (k d : Int) : Int := mx (kh k [83, d]) 1
/-- Are the number of rows and the round in range? -/
def rowq (r n : Int) : Bool := inR n 1 64 && inR r 0 1000000000000
/-- The row. -/
def mrow (k r d n : Int) : Int := if rowq r n = true then kid (kh k [79, r, d]) 0 % n else -1
/-- Is it a valid mailbox? -/
def okM (k s r : Int) : Bool := inR k 1 2147483646 && (inR s 0 1000000000000 && inR r 0 1000000000000)
/-- Can it be sent? -/
def sdok (k s r d : Int) (b : List Int) : Bool := okM k s r && (!(s == 1000000000000) && sok (dkey k d) s 1 b)
def sdS (k s r d : Int) (b : List Int) : Int := if sdok k s r d b = true then s + 1 else s
def sdL (k s r d : Int) (b : List Int) : List Int := if sdok k s r d b = true then sealL (dkey k d) s 1 b else []
/-- Is it received? -/
def rvok (k s r d : Int) (c : List Int) : Bool := okM k s r && (!(r == 1000000000000) && (ook (dkey k d) r c && (ocK (dkey k d) r c == 1)))
def rvR (k s r d : Int) (c : List Int) : Int := if rvok k s r d c = true then r + 1 else r
def rvL (k s r d : Int) (c : List Int) : List Int := if rvok k s r d c = true then ocB (dkey k d) r c else []
/-- How many of the first i elements occur earlier? -/
def cfn (zs : List Int) : Nat → Nat
  | 0 => 0
  | i + 1 => if (zs.take i).contains (zs.getD i 0) = true then cfn zs i + 1 else cfn zs i
def col (zs : List Int) : Nat := cfn zs zs.length
/-- The rows of the keys in one round. -/
def rowsAt (ks : List Int) (r n : Int) : List Int := ks.map fun k => mrow k r 0 n
/-- The first free round, m of them tried from r + i on. -/
def frn (ks : List Int) (r n : Int) : Nat → Nat → Int
  | 0, _ => -1
  | m + 1, i => if col (rowsAt ks (r + i) n) = 0 then r + i else frn ks r n m (i + 1)
def frq (r n : Int) : Bool := inR n 1 64 && inR r 0 999999999980
def fr (ks : List Int) (r n : Int) : Int := if frq r n = true then frn ks r n 20 0 else -1

theorem dkey_bound (k d : Int) : 1 ≤ dkey k d ∧ dkey k d ≤ 2147483646 := by
  unfold dkey mx
  have := kh_bound k [83, d]
  split <;> omega
theorem dkey_wf (k d : Int) : (Lit.int .i64 (dkey k d)).wf = true := by
  have := dkey_bound k d
  revert this
  generalize dkey k d = q
  intro h
  exact wf_i64_of (by omega) (by omega)
theorem inR_iff {x a b : Int} : inR x a b = true ↔ a ≤ x ∧ x ≤ b := by unfold inR; simp
theorem rowq_iff {r n : Int} : rowq r n = true ↔ (1 ≤ n ∧ n ≤ 64) ∧ 0 ≤ r ∧ r ≤ 1000000000000 := by unfold rowq; rw [Bool.and_eq_true, inR_iff, inR_iff]
theorem mrow_yes {k r d n : Int} (h : rowq r n = true) : mrow k r d n = kid (kh k [79, r, d]) 0 % n := if_pos h
theorem mrow_no {k r d n : Int} (h : rowq r n = false) : mrow k r d n = -1 := if_neg (by rw [h]; decide)
theorem mrow_in {k r d n : Int} (h : rowq r n = true) : 0 ≤ mrow k r d n ∧ mrow k r d n < n := by
  obtain ⟨h1, _⟩ := rowq_iff.1 h
  rw [mrow_yes h]
  generalize kid (kh k [79, r, d]) 0 = q
  exact ⟨Int.emod_nonneg _ (by omega), Int.emod_lt_of_pos _ (by omega)⟩
theorem mrow_bound (k r d n : Int) : -1 ≤ mrow k r d n ∧ mrow k r d n ≤ 63 := by
  cases h : rowq r n with
  | false => rw [mrow_no h]; omega
  | true =>
    have := mrow_in (k := k) (d := d) h
    obtain ⟨h1, _⟩ := rowq_iff.1 h
    omega
theorem mrow_wf (k r d n : Int) : (Lit.int .i64 (mrow k r d n)).wf = true := by
  have := mrow_bound k r d n
  revert this
  generalize mrow k r d n = q
  intro h
  exact wf_i64_of (by omega) (by omega)
theorem okM_iff {k s r : Int} : okM k s r = true ↔ (1 ≤ k ∧ k ≤ 2147483646) ∧ (0 ≤ s ∧ s ≤ 1000000000000) ∧ 0 ≤ r ∧ r ≤ 1000000000000 := by
  unfold okM
  rw [Bool.and_eq_true, Bool.and_eq_true, inR_iff, inR_iff, inR_iff]
theorem tmod_pos {p n : Int} (hp : 0 ≤ p) : p.tmod n = p % n := Int.tmod_eq_emod_of_nonneg hp

/-- The first that occurs earlier is counted: the step. -/
theorem cfn_hit {zs : List Int} {i k : Nat} (hk : k < i) (hi : i < zs.length) (h : zs.getD k 0 = zs.getD i 0) : cfn zs (i + 1) = cfn zs i + 1 := by
  show (if _ then _ else _) = _
  rw [if_pos]
  rw [List.contains_iff_mem, ← h]
  rw [List.getD_eq_getElem?_getD, List.getElem?_eq_getElem (by omega)]
  exact List.mem_take_iff_getElem.2 ⟨k, by omega, rfl⟩
theorem cfn_miss {zs : List Int} {i : Nat} (hi : i < zs.length) (h : ∀ k, k < i → zs.getD k 0 ≠ zs.getD i 0) : cfn zs (i + 1) = cfn zs i := by
  show (if _ then _ else _) = _
  rw [if_neg]
  intro hc
  rw [List.contains_iff_mem] at hc
  obtain ⟨k, hk, he⟩ := List.mem_take_iff_getElem.1 hc
  apply h k (by omega)
  rw [← he, List.getD_eq_getElem?_getD, List.getElem?_eq_getElem (by omega)]
  rfl
theorem cfn_le (zs : List Int) : ∀ i, cfn zs i ≤ i
  | 0 => Nat.le_refl _
  | i + 1 => by
    have h := cfn_le zs i
    have e : cfn zs (i + 1) = (if (zs.take i).contains (zs.getD i 0) = true then cfn zs i + 1 else cfn zs i) := rfl
    rw [e]
    split <;> omega
theorem col_le (zs : List Int) : col zs ≤ zs.length := cfn_le _ _

/-- No collision: all are different. -/
theorem cfn_nodup {zs : List Int} : ∀ i, i ≤ zs.length → cfn zs i = 0 → (zs.take i).Nodup
  | 0, _, _ => by simp
  | i + 1, hi, h => by
    have h' : (if (zs.take i).contains (zs.getD i 0) = true then cfn zs i + 1 else cfn zs i) = 0 := h
    split at h'
    · omega
    · rename_i hc
      have ih := cfn_nodup i (by omega) h'
      rw [List.take_add_one, List.getElem?_eq_getElem (by omega)]
      rw [List.getD_eq_getElem?_getD, List.getElem?_eq_getElem (by omega), List.contains_iff_mem] at hc
      rw [List.nodup_append]
      exact ⟨ih, by simp, fun a ha b hb e => by simp at hb; subst hb; subst e; exact hc ha⟩
theorem col_nodup {zs : List Int} (h : col zs = 0) : zs.Nodup := by
  have := cfn_nodup zs.length (Nat.le_refl _) h
  rwa [List.take_length] at this
theorem nodup_le : ∀ (n : Nat) (zs : List Int), zs.Nodup → (∀ z ∈ zs, 0 ≤ z ∧ z < n) → zs.length ≤ n
  | 0, zs, _, h => by
    cases zs with
    | nil => simp
    | cons z r => have := h z (by simp); omega
  | n + 1, zs, hd, h => by
    by_cases hm : (n : Int) ∈ zs
    · have h1 := nodup_le n (zs.erase (n : Int)) (hd.erase _) (fun z hz => by
        rw [hd.mem_erase_iff] at hz
        have := h z hz.2
        have := hz.1
        omega)
      rw [List.length_erase_of_mem hm] at h1
      omega
    · have := nodup_le n zs hd (fun z hz => by
        have := h z hz
        have : z ≠ (n : Int) := fun e => hm (e ▸ hz)
        omega)
      omega
/-- More keys than rows: never free. -/
theorem frn_many {ks : List Int} {r n : Int} (h : frq r n = true) (hk : n < (ks.length : Int)) : ∀ m i, i + m ≤ 20 → frn ks r n m i = -1
  | 0, _, _ => rfl
  | m + 1, i, hi => by
    show (if _ then _ else _) = _
    unfold frq at h
    rw [Bool.and_eq_true, inR_iff, inR_iff] at h
    rw [if_neg, frn_many (by unfold frq; rw [Bool.and_eq_true, inR_iff, inR_iff]; exact h) hk m (i + 1) (by omega)]
    intro hc
    have := nodup_le n.toNat _ (col_nodup hc) (fun z hz => by
      obtain ⟨k, _, rfl⟩ := List.mem_map.1 hz
      have := mrow_in (k := k) (r := r + i) (d := 0) (n := n) (rowq_iff.2 ⟨h.1, by omega, by omega⟩)
      omega)
    unfold rowsAt at this
    rw [List.length_map] at this
    omega
theorem fr_many {ks : List Int} {r n : Int} (h : frq r n = true) (hk : n < (ks.length : Int)) : fr ks r n = -1 := by
  unfold fr
  rw [if_pos h]
  exact frn_many h hk 20 0 (by omega)
theorem fr_no {ks : List Int} {r n : Int} (h : frq r n = false) : fr ks r n = -1 := if_neg (by rw [h]; decide)
theorem frn_found {ks : List Int} {r n : Int} : ∀ (m i d : Nat), d < m → (∀ t, t < d → col (rowsAt ks (r + ((i + t : Nat) : Int)) n) ≠ 0) → col (rowsAt ks (r + ((i + d : Nat) : Int)) n) = 0 → frn ks r n m i = r + ((i + d : Nat) : Int) := by
  intro m
  induction m with
  | zero => intro i d h; omega
  | succ m ih =>
    intro i d hd hn hy
    show (if col (rowsAt ks (r + (i : Int)) n) = 0 then r + (i : Int) else frn ks r n m (i + 1)) = _
    cases d with
    | zero => rw [Nat.add_zero] at hy; rw [if_pos hy, Nat.add_zero]
    | succ d =>
      have h0 := hn 0 (by omega)
      rw [Nat.add_zero] at h0
      rw [if_neg h0]
      have := ih (i + 1) d (by omega) (fun t ht => by have := hn (t + 1) (by omega); rwa [show i + (t + 1) = i + 1 + t by omega] at this) (by rwa [show i + 1 + d = i + (d + 1) by omega])
      rw [this, show i + 1 + d = i + (d + 1) by omega]
theorem frn_none {ks : List Int} {r n : Int} : ∀ (m i : Nat), (∀ t, t < m → col (rowsAt ks (r + ((i + t : Nat) : Int)) n) ≠ 0) → frn ks r n m i = -1 := by
  intro m
  induction m with
  | zero => intro i _; rfl
  | succ m ih =>
    intro i hn
    show (if col (rowsAt ks (r + (i : Int)) n) = 0 then r + (i : Int) else frn ks r n m (i + 1)) = _
    have h0 := hn 0 (by omega)
    rw [Nat.add_zero] at h0
    rw [if_neg h0]
    exact ih (i + 1) (fun t ht => by have := hn (t + 1) (by omega); rwa [show i + (t + 1) = i + 1 + t by omega] at this)
theorem fr_found {ks : List Int} {r n : Int} {j : Nat} (h : frq r n = true) (hj : j < 20) (hn : ∀ t : Nat, t < j → col (rowsAt ks (r + (t : Int)) n) ≠ 0) (hy : col (rowsAt ks (r + (j : Int)) n) = 0) : fr ks r n = r + (j : Int) := by
  unfold fr
  rw [if_pos h]
  have := frn_found (ks := ks) (r := r) (n := n) 20 0 j hj (fun t ht => by rw [Nat.zero_add]; exact hn t ht) (by rw [Nat.zero_add]; exact hy)
  rwa [Nat.zero_add] at this
theorem fr_none {ks : List Int} {r n : Int} (h : frq r n = true) (hn : ∀ t : Nat, t < 20 → col (rowsAt ks (r + (t : Int)) n) ≠ 0) : fr ks r n = -1 := by
  unfold fr
  rw [if_pos h]
  exact frn_none 20 0 (fun t ht => by rw [Nat.zero_add]; exact hn t ht)
theorem frq_iff {r n : Int} : frq r n = true ↔ (1 ≤ n ∧ n ≤ 64) ∧ 0 ≤ r ∧ r ≤ 999999999980 := by unfold frq; rw [Bool.and_eq_true, inR_iff, inR_iff]
theorem rowsAt_len (ks : List Int) (r n : Int) : (rowsAt ks r n).length = ks.length := by simp [rowsAt]
theorem rowsAt_get {ks : List Int} {j : Nat} (r n : Int) (h : j < ks.length) : (rowsAt ks r n).getD j 0 = mrow (ks.getD j 0) r 0 n := by
  unfold rowsAt
  rw [List.getD_eq_getElem?_getD, List.getElem?_map, List.getD_eq_getElem?_getD, List.getElem?_eq_getElem h]
  rfl

theorem sdS_bound {k s r d : Int} {b : List Int} (hs : (Lit.int .i64 s).wf = true) : (Lit.int .i64 (sdS k s r d b)).wf = true := by
  unfold sdS
  split
  · rename_i h
    unfold sdok at h
    rw [Bool.and_eq_true, okM_iff] at h
    exact wf_i64_of (by omega) (by omega)
  · exact hs
theorem rvR_bound {k s r d : Int} {c : List Int} (hr : (Lit.int .i64 r).wf = true) : (Lit.int .i64 (rvR k s r d c)).wf = true := by
  unfold rvR
  split
  · rename_i h
    unfold rvok at h
    rw [Bool.and_eq_true, okM_iff] at h
    exact wf_i64_of (by omega) (by omega)
  · exact hr
theorem sdL_len (k s r d : Int) (b : List Int) : (sdL k s r d b).length ≤ 24 := by
  unfold sdL
  split
  · exact sealL_len _ _ _ _
  · simp
theorem rvL_len (k s r d : Int) (c : List Int) : (rvL k s r d c).length ≤ 14 := by
  unfold rvL
  split
  · exact ocB_len _ _ _
  · simp

end Go.Proofs.Ytlbijjifeaimjaa
