/- spec.ParseInt and impl.ParseInt at every string: the number from 0 to MaxValue whose numeral the string is. -/
import Derived.Test.YtagbklcfepmhcaaDoorRows
import Derived.Test.YtagbklcfepmhcaaDoorFmtLaw
import Derived.Test.YtagbklcfepmhcaaDoorPar
import Derived.WalkKit
import Derived.Below
import Derived.Handy
import Derived.Outline
import Derived.WalkSpells
import Derived.Deep.QuietTactic
import Derived.BigQuiet
import Derived.Lib.AtoiErrMem
import Derived.WalkSmall
namespace Go.Proofs.YtagbklcfepmhcaaDoor
open Go.RowKit Go.Lib

def pval (s : ByteArray) : Int := (((Num.parsed s.data.toList).getD 0 : Nat) : Int)
def pok (s : ByteArray) : Bool := (Num.parsed s.data.toList).isSome

theorem pnone {s : ByteArray} (h : Num.parsed s.data.toList = none) : Ending.returned (.tuple #[.int .i64 0, .bool false]) = Ending.returned (.tuple #[.int .i64 (pval s), .bool (pok s)]) := by
  unfold pval pok; rw [h]; rfl
theorem psome {s : ByteArray} {m : Nat} (h : Num.parsed s.data.toList = some m) : Ending.returned (.tuple #[.int .i64 (m : Int), .bool true]) = Ending.returned (.tuple #[.int .i64 (pval s), .bool (pok s)]) := by
  unfold pval pok; rw [h]; rfl

theorem short_none {l : List UInt8} (h : ¬ (1 ≤ l.length ∧ l.length ≤ 13)) : Num.parsed l = none := by
  rw [Num.parsed_digs, if_neg h]

theorem spec_parse_short (s : ByteArray) (w : World) (hs : s.size ≤ maxLen) (h : s.size = 0 ∨ 13 < s.size) :
    Calls Tryd.prog 15 #[.string s] w fun e w' => e = .returned (.tuple #[.int .i64 (pval s), .bool (pok s)]) ∧ Below w.heap.size w w' := by
  unfold maxLen at hs
  have hn : Hid (Num.parsed s.data.toList = none) := Lib.hid (short_none (by rw [← Lib.size_eq]; omega))
  rcases h with h | h
  · have h1 : ¬ ((1 : Int) ≤ (s.size : Int)) := by omega
    clear h
    go_enter Tryd.func15, Tryd.ntmps15
    go_wp2
    go_ret2
    exact ⟨pnone hn.out, Below.refl _ _⟩
  · have h1 : ¬ ((s.size : Int) ≤ 13) := by omega
    clear h
    go_enter Tryd.func15, Tryd.ntmps15
    go_wp2
    all_goals go_ret2
    all_goals exact ⟨pnone hn.out, Below.refl _ _⟩

theorem take_one (s : ByteArray) (k : Nat) (h : k < s.size) : s.data.toList[k]? = some s[k] := by
  rw [List.getElem?_eq_getElem (by simpa using h)]; rfl

theorem dig_step {s : ByteArray} {k m : Nat} (h : k < s.size) (hd : decFrom 0 (s.data.toList.take k) = some m) (h1 : 48 ≤ (s[k].toNat : Int)) (h2 : (s[k].toNat : Int) ≤ 57) :
    decFrom 0 (s.data.toList.take (k + 1)) = some (m * 10 + (s[k].toNat - 48)) := by
  refine decFrom_take _ k 0 m s[k] (s[k].toNat - 48) hd (take_one s k h) ?_
  unfold digitVal
  rw [if_pos (by omega)]

theorem no_digit {s : ByteArray} {k : Nat} (h : k < s.size) (h1 : ¬ (48 ≤ (s[k].toNat : Int) ∧ (s[k].toNat : Int) ≤ 57)) : Num.parsed s.data.toList = none := by
  rw [Num.parsed_digs]
  split
  · cases hd : Num.digs 0 s.data.toList with
    | none => rfl
    | some m =>
      exfalso
      rw [Num.digs_eq] at hd
      obtain ⟨d, hd1⟩ := digit_of_decFrom _ _ _ hd k s[k] (take_one s k h)
      have := digitVal_eq hd1
      omega
  · rfl

theorem dig_bound {s : ByteArray} {k m : Nat} (hk : k ≤ 13) (hd : decFrom 0 (s.data.toList.take k) = some m) : m < 10000000000000 := by
  have h := decFrom_lt _ _ _ hd
  have hl : (s.data.toList.take k).length ≤ 13 := by rw [List.length_take]; omega
  have hp : 10 ^ (s.data.toList.take k).length ≤ 10 ^ 13 := Nat.pow_le_pow_right (by decide) hl
  have e : (10 : Nat) ^ 13 = 10000000000000 := by decide
  omega

theorem all_digits {s : ByteArray} {m : Nat} (h0 : 1 ≤ s.size) (h13 : s.size ≤ 13) (hd : decFrom 0 (s.data.toList.take s.size) = some m) :
    Num.parsed s.data.toList = if m ≤ 1000000000000 ∧ decDigits m = s.data.toList then some m else none := by
  rw [List.take_of_length_le (by simp)] at hd
  rw [Num.parsed_digs, if_pos (by rw [← Lib.size_eq]; omega), Num.digs_eq, hd]

theorem str_of {l : List UInt8} (s : ByteArray) : ((⟨l.toArray⟩ : ByteArray) = s) ↔ l = s.data.toList := by
  constructor
  · intro h; rw [← h]
  · intro h; rw [h]

theorem dig_num {c : UInt8} {m : Nat} (h1 : 48 ≤ (c.toNat : Int)) : (10 * (m : Int) + ((c.toNat : Int) - 48)) = ((m * 10 + (c.toNat - 48) : Nat) : Int) := by omega

theorem byte_le (c : UInt8) : (c.toNat : Int) ≤ 255 := by have := c.toNat_lt; omega

theorem bytes_list (s : ByteArray) : s.toList = s.data.toList := Lib.toList_data s

/-- How the model's reading ends behind its loop. -/
theorem fin_ok {s : ByteArray} {m : Nat} (h : Num.parsed s.data.toList = if m ≤ 1000000000000 ∧ decDigits m = s.data.toList then some m else none) (hm : (m : Int) ≤ 1000000000000) (he : (itoa (m : Int) == s.toList) = true) :
    Num.parsed s.data.toList = some m := by
  rw [h, if_pos ⟨by omega, by rw [itoa_nonneg, beq_iff_eq, bytes_list] at he; exact he⟩]
theorem fin_big {s : ByteArray} {m : Nat} (h : Num.parsed s.data.toList = if m ≤ 1000000000000 ∧ decDigits m = s.data.toList then some m else none) (hm : 1000000000000 < (m : Int)) :
    Num.parsed s.data.toList = none := by
  rw [h, if_neg (by omega)]
theorem fin_other {s : ByteArray} {m : Nat} (h : Num.parsed s.data.toList = if m ≤ 1000000000000 ∧ decDigits m = s.data.toList then some m else none) (he : (itoa (m : Int) == s.toList) = false) :
    Num.parsed s.data.toList = none := by
  rw [h, if_neg (fun hc => by rw [itoa_nonneg, beq_eq_false_iff_ne, bytes_list] at he; exact he hc.2)]

set_option maxHeartbeats 400000 in
theorem spec_parse_mid (s : ByteArray) (w : World) (h0 : 1 ≤ (s.size : Int)) (h13 : (s.size : Int) ≤ 13) :
    Calls Tryd.prog 15 #[.string s] w fun e w' => e = .returned (.tuple #[.int .i64 (pval s), .bool (pok s)]) ∧ Below w.heap.size w w' := by
  go_enter Tryd.func15, Tryd.ntmps15
  go_wp2
  go_loop [4, 5] (fun n i => ∃ k m : Nat, k ≤ s.size ∧ decFrom 0 (s.data.toList.take k) = some m ∧ n = .int .i64 m ∧ i = .int .i64 k) (fun _ i => s.size - (RowKit.intOf i).toNat)
  case atStart => exact ⟨0, 0, Nat.zero_le _, rfl, rfl, rfl⟩
  case round =>
    obtain ⟨k, m, hk, hd, rfl, rfl⟩ := hrel
    have hm := dig_bound (by omega) hd
    by_cases hlt : k < s.size
    · have hb := byte_le s[k]
      by_cases d1 : 48 ≤ (s[k].toNat : Int)
      · by_cases d2 : (s[k].toNat : Int) ≤ 57
        · have HS := Lib.hid (dig_step hlt hd d1 d2)
          clear hd
          go_wp2
          go_round
          case rel => exact ⟨k + 1, _, by omega, HS.out, by rw [dig_num d1], by go_num⟩
          case measure => simp [RowKit.intOf]; omega
        · have HN := Lib.hid (no_digit hlt (by omega))
          clear hd
          go_wp2
          go_ret2
          exact ⟨pnone HN.out, Below.refl _ _⟩
      · have HN := Lib.hid (no_digit hlt (by omega))
        clear hd
        go_wp2
        go_ret2
        exact ⟨pnone HN.out, Below.refl _ _⟩
    · have hks : k = s.size := by omega
      have HA := Lib.hid (all_digits (by omega) (by omega) (hks ▸ hd))
      clear hd hks
      by_cases hmax : (m : Int) ≤ 1000000000000
      · go_wp2_with fail
        refine (fmt_any m _ (by omega) (by omega)).mono ?_
        rintro e w1 ⟨rfl, hb⟩
        cases he : (itoa (m : Int) == s.toList) with
        | true =>
          have HP := Lib.hid (fin_ok HA.out hmax he)
          go_wp2_with fail
          go_ret2
          exact ⟨psome HP.out, hb⟩
        | false =>
          have HP := Lib.hid (fin_other HA.out he)
          go_wp2_with fail
          go_ret2
          exact ⟨pnone HP.out, hb⟩
      · go_wp2_with fail
        go_ret2
        exact ⟨pnone (fin_big HA.out (by omega)), Below.refl _ _⟩

theorem spec_parse_any (s : ByteArray) (w : World) (hs : s.size ≤ maxLen) :
    Calls Tryd.prog 15 #[.string s] w fun e w' => e = .returned (.tuple #[.int .i64 (pval s), .bool (pok s)]) ∧ Below w.heap.size w w' := by
  by_cases h : s.size = 0 ∨ 13 < s.size
  · exact spec_parse_short s w hs h
  · exact spec_parse_mid s w (by omega) (by omega)

/-- What the row's list gives: the table of powers, and the two errors of strconv. -/
def LF (w : World) : Prop := TabIs Tryd.prog w "internal/strconv.uint64pow10" .u64 pow10Tab ∧ (∃ tp p, w.var? Tryd.prog "strconv.ErrSyntax" = some #[.iface tp p]) ∧ (∃ tp p, w.var? Tryd.prog "strconv.ErrRange" = some #[.iface tp p])

theorem gSyn : Tryd.prog.globalNamed "strconv.ErrSyntax" = some 0 := by kernel_rfl
theorem gRan : Tryd.prog.globalNamed "strconv.ErrRange" = some 1 := by kernel_rfl

theorem inr_yes (n lo hi : Int) (w : World) (h1 : lo ≤ n) (h2 : n ≤ hi) :
    Calls Tryd.prog 21 #[.int .i64 n, .int .i64 lo, .int .i64 hi] w fun e w' => e = .returned (.bool true) ∧ w = w' := by
  go_enter Tryd.func21, Tryd.ntmps21
  go_wp2
  go_ret
  exact ⟨rfl, rfl⟩
theorem inr_no (n lo hi : Int) (w : World) (h : n < lo ∨ hi < n) :
    Calls Tryd.prog 21 #[.int .i64 n, .int .i64 lo, .int .i64 hi] w fun e w' => e = .returned (.bool false) ∧ w = w' := by
  by_cases h1 : lo ≤ n
  · have h2 : ¬ n ≤ hi := by omega
    clear h
    go_enter Tryd.func21, Tryd.ntmps21
    go_wp2
    go_ret
    exact ⟨rfl, rfl⟩
  · clear h
    go_enter Tryd.func21, Tryd.ntmps21
    go_wp2
    go_ret
    exact ⟨rfl, rfl⟩

theorem ok_yes {s : ByteArray} {v : Int} (h : atoiAll s.data.toList = .ok v) (h0 : 0 ≤ v) (h1 : v ≤ 1000000000000) (he : (itoa v == s.toList) = true) : Num.parsed s.data.toList = some v.toNat := by
  unfold Num.parsed
  rw [h]
  simp only
  rw [if_pos ⟨h0, h1, by rw [beq_iff_eq, bytes_list] at he; exact he⟩]
theorem ok_no {s : ByteArray} {v : Int} (h : atoiAll s.data.toList = .ok v) (h0 : ¬ (0 ≤ v ∧ v ≤ 1000000000000) ∨ (itoa v == s.toList) = false) : Num.parsed s.data.toList = none := by
  unfold Num.parsed
  rw [h]
  simp only
  rw [if_neg]
  rintro ⟨a, b, c⟩
  rcases h0 with h0 | h0
  · exact h0 ⟨a, b⟩
  · rw [beq_eq_false_iff_ne, bytes_list] at h0; exact h0 c
theorem bad_no {s : ByteArray} (h : ∀ v, atoiAll s.data.toList ≠ .ok v) : Num.parsed s.data.toList = none := by
  unfold Num.parsed
  cases ha : atoiAll s.data.toList with
  | ok v => exact absurd ha (h v)
  | _ => rfl

theorem below_atoi {w w1 : World} (h : w1 = w ∨ ∃ t, w1 = bytesWorld w 5 t) : Below w.heap.size w w1 := by
  rcases h with rfl | ⟨t, rfl⟩
  · exact Below.refl _ _
  · exact bytesWorld_below _ _ _

theorem impl_ok (s : ByteArray) (w : World) (hs : s.size ≤ 1048576) (htab : TabIs Tryd.prog w "internal/strconv.uint64pow10" .u64 pow10Tab) (v : Int) (h : atoiAll s.data.toList = .ok v) :
    Calls Tryd.prog 8 #[.string s] w fun e w' => e = .returned (.tuple #[.int .i64 (pval s), .bool (pok s)]) ∧ Below w.heap.size w w' := by
  obtain ⟨hv1, hv2⟩ := atoiAll_bounds h
  have H := Lib.hid h
  have HT := Lib.hid htab
  clear h htab
  by_cases hr : 0 ≤ v ∧ v ≤ 1000000000000
  · obtain ⟨h0, h1⟩ := hr
    cases he : (itoa v == s.toList) with
    | true =>
      have HP := Lib.hid (ok_yes H.out h0 h1 he)
      obtain ⟨m, rfl⟩ := Int.eq_ofNat_of_zero_le h0
      go_enter Tryd.func8, Tryd.ntmps8
      go_wp2_with fail
      refine (Tryd.strconv_Atoi_ok s (by omega) _ H.out _).mono ?_
      rintro e w1 ⟨rfl, hw1⟩
      have hb1 := below_atoi hw1
      clear hw1
      go_wp2_with fail
      refine (inr_yes _ _ _ _ h0 h1).mono ?_
      rintro e w2 ⟨rfl, rfl⟩
      go_wp2_with fail
      refine (ifmt_any _ _ hv1 hv2 (tab_behind HT.out hb1)).mono ?_
      rintro e w3 ⟨rfl, hb3⟩
      have hb := hb1.trans (hb3.mono hb1.size)
      clear hb1 hb3
      go_wp2_with fail
      go_ret2
      exact ⟨psome HP.out, hb⟩
    | false =>
      have HP := Lib.hid (ok_no H.out (.inr he))
      go_enter Tryd.func8, Tryd.ntmps8
      go_wp2_with fail
      refine (Tryd.strconv_Atoi_ok s (by omega) _ H.out _).mono ?_
      rintro e w1 ⟨rfl, hw1⟩
      have hb1 := below_atoi hw1
      clear hw1
      go_wp2_with fail
      refine (inr_yes _ _ _ _ h0 h1).mono ?_
      rintro e w2 ⟨rfl, rfl⟩
      go_wp2_with fail
      refine (ifmt_any _ _ hv1 hv2 (tab_behind HT.out hb1)).mono ?_
      rintro e w3 ⟨rfl, hb3⟩
      have hb := hb1.trans (hb3.mono hb1.size)
      clear hb1 hb3
      go_wp2_with fail
      go_ret2
      exact ⟨pnone HP.out, hb⟩
  · have HP := Lib.hid (ok_no H.out (.inl hr))
    have hr' : v < 0 ∨ 1000000000000 < v := by omega
    clear hr
    go_enter Tryd.func8, Tryd.ntmps8
    go_wp2_with fail
    refine (Tryd.strconv_Atoi_ok s (by omega) _ H.out _).mono ?_
    rintro e w1 ⟨rfl, hw1⟩
    have hb1 := below_atoi hw1
    clear hw1
    go_wp2_with fail
    refine (inr_no _ _ _ _ hr').mono ?_
    rintro e w2 ⟨rfl, rfl⟩
    clear hr'
    go_wp2_with fail
    go_ret2
    exact ⟨pnone HP.out, hb1⟩

theorem impl_bad (s : ByteArray) (w : World) (hs : s.size ≤ 1048576) (hL : LF w) (h : ∀ v, atoiAll s.data.toList ≠ .ok v) :
    Calls Tryd.prog 8 #[.string s] w fun e w' => e = .returned (.tuple #[.int .i64 (pval s), .bool (pok s)]) ∧ Below w.heap.size w w' := by
  have HP := Lib.hid (bad_no h)
  obtain ⟨_, ⟨tp, p, hS⟩, ⟨tp', p', hR⟩⟩ := hL
  cases ha : atoiAll s.data.toList with
  | ok v => exact absurd ha (h v)
  | _ =>
    have HA := Lib.hid ha
    have HS := Lib.hid hS
    have HR := Lib.hid hR
    clear ha h hS hR
    go_enter Tryd.func8, Tryd.ntmps8
    go_wp2_with fail
    first
      | (refine (Any.strconv_Atoi_syntax_var Tryd.laysC172 s (by omega) HA.out tp p _ HS.out).mono ?_)
      | (refine (Any.strconv_Atoi_range_var Tryd.laysC172 s (by omega) HA.out tp' p' _ HR.out).mono ?_)
    rintro e w1 ⟨N, rfl, hN, _, hb⟩
    go_wp2_with fail
    go_ret2
    exact ⟨pnone HP.out, hb⟩

theorem var_lt {w : World} {n : String} {g : Nat} {cs : Array Value} (hg : Tryd.prog.globalNamed n = some g) (h : w.var? Tryd.prog n = some cs) : g < w.heap.size := by
  unfold World.var? at h
  simp only [hg, Option.bind_some] at h
  rcases Nat.lt_or_ge g w.heap.size with h' | h'
  · exact h'
  · simp [Array.getElem?_eq_none h'] at h

theorem impl_parse_any (s : ByteArray) (w : World) (hs : s.size ≤ 1048576) (hL : LF w) :
    Calls Tryd.prog 8 #[.string s] w fun e w' => e = .returned (.tuple #[.int .i64 (pval s), .bool (pok s)]) ∧ Below w.heap.size w w' := by
  cases h : atoiAll s.data.toList with
  | ok v => exact impl_ok s w hs hL.1 v h
  | _ => exact impl_bad s w hs hL (fun v hv => by rw [h] at hv; cases hv)

theorem star : "*" ++ "errors.errorString" = "*errors.errorString" := by decide
theorem row_err (u : TypeId) (h : Tryd.prog.typeName? 3 u = some "*errors.errorString") : u = 73 :=
  typeName_ptr_named (nm := "errors.errorString") (by rw [star]; kernel_rfl) (by kernel_rfl) (by decide) u (by rw [star]; exact h)

theorem lf_of_laid {w : World} (h : laidMetH Tryd.prog Rows.fnExactParseIntRow.laid w) : LF w := by
  rw [MakeChecks.laidMetH_plain _ _ _ (by kernel_rfl)] at h
  have h1 := h.tail.tail
  obtain ⟨a, _, hR, _⟩ := laid_sentinel h1.tail gRan (by kernel_rfl) Tryd.underlying41 row_err Tryd.underlying73 Tryd.underlying75 rfl rfl Tryd.underlying9 (by kernel_rfl) (by kernel_rfl)
  obtain ⟨b, _, hS, _⟩ := laid_sentinel h1.tail.tail gSyn (by kernel_rfl) Tryd.underlying41 row_err Tryd.underlying73 Tryd.underlying75 rfl rfl Tryd.underlying9 (by kernel_rfl) (by kernel_rfl)
  exact ⟨tabIs_of_head g10 (by kernel_rfl) Tryd.underlying78 Tryd.underlying59 (by kernel_rfl) (by kernel_rfl) h1, ⟨_, _, hS⟩, ⟨_, _, hR⟩⟩

theorem lf_behind {w w' : World} (h : LF w) (hb : Below w.heap.size w w') : LF w' := by
  obtain ⟨h1, ⟨tp, p, h2⟩, ⟨tp', p', h3⟩⟩ := h
  exact ⟨tab_behind h1 hb, ⟨tp, p, var?_below hb gSyn (var_lt gSyn h2) h2⟩, ⟨tp', p', var?_below hb gRan (var_lt gRan h3) h3⟩⟩

theorem parseInt_walk (s : ByteArray) (w : World) (ws : s.size ≤ maxLen) (hL : laidMetH Tryd.prog Rows.fnExactParseIntRow.laid w) :
    Calls Tryd.prog 5 #[.string s] w fun e w' => e = .returned (.bool true) ∧ Below w.heap.size w w' := by
  have HL := Lib.hid (lf_of_laid hL)
  clear hL
  by_cases hbig : 1048576 < (s.size : Int)
  · unfold maxLen at ws
    go_enter Tryd.func5, Tryd.ntmps5
    go_wp2_with fail
    go_ret
    exact ⟨rfl, Below.refl _ _⟩
  · go_enter Tryd.func5, Tryd.ntmps5
    go_wp2_with fail
    refine (spec_parse_any s _ ws).mono ?_
    rintro e w1 ⟨rfl, hb1⟩
    go_wp2_with fail
    refine (impl_parse_any s _ (by omega) (lf_behind HL.out hb1)).mono ?_
    rintro e w2 ⟨rfl, hb2⟩
    have hb := hb1.trans (hb2.mono hb1.size)
    clear hb1 hb2
    go_wp2_with fail
    go_ret
    exact ⟨rfl, hb⟩

end Go.Proofs.YtagbklcfepmhcaaDoor
