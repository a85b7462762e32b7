/- spec.FormatInt: the decimal numeral of every int, as its contract says. No conditions. -/
import Derived.Test.YtdccljmffmlkbaaDoorRows
import Derived.Test.YtdccljmffmlkbaaDoorNum
import Derived.WalkKit
import Derived.Below
import Derived.Handy
import Derived.Outline
import Derived.WalkSpells
import Derived.Laws.IdiomStrings
namespace Go.Proofs.YtdccljmffmlkbaaDoor
open Go.RowKit Go.Lib

/-- 'string([]byte{b})' behind the new block. -/
theorem conv1 (b : UInt8) (x : Int) (hx : x = (b.toNat : Int)) (W : World) :
    (convert 22 9 (.slice (some ⟨W.heap.size, 0, none⟩) 1 1)).run Tryd.prog (W.alloc (.cells #[.int .u8 x] 5)) = .ok (.string ⟨#[b]⟩) (W.alloc (.cells #[.int .u8 x] 5)) := by
  have h := run_convert_bytes_back (P := Tryd.prog) (W.alloc (.cells #[.int .u8 x] 5)) 22 9 5 ⟨W.heap.size, 0, none⟩ 1 [b] Tryd.underlying22 Tryd.underlying5 Tryd.underlying9 (by
    intro j hj
    have hj0 : j = 0 := by simpa using hj
    subst hj0
    have h0 := World.cell?_alloc_mark W #[.int .u8 x] 5 (0, 0) 0
    exact h0.trans (by rw [hx]; rfl))
  exact h

theorem digit_byte (v : Nat) : (48 + (v : Int) % 10) = ((UInt8.ofNat (48 + v % 10)).toNat : Int) := by
  have h : (UInt8.ofNat (48 + v % 10)).toNat = 48 + v % 10 := by
    rw [UInt8.toNat_ofNat']; exact Nat.mod_eq_of_lt (by omega)
  rw [h]; omega


theorem cons_str (c : UInt8) (l : List UInt8) : ((⟨#[c]⟩ : ByteArray) ++ (⟨l.toArray⟩ : ByteArray)) = ⟨(c :: l).toArray⟩ := by
  apply ByteArray.ext
  simp [ByteArray.data_append]

theorem digit_some (v : Nat) : ∃ c : UInt8, c = UInt8.ofNat (48 + v % 10) ∧ 48 + (v : Int) % 10 = (c.toNat : Int) := ⟨_, rfl, digit_byte v⟩

theorem fmt_pos (n : Int) (w : World) (h0 : 1 ≤ n) (h1 : n ≤ 9223372036854775807) :
    Calls Tryd.prog 76 #[.int .i64 n] w fun e w' => e = .returned (.string ⟨(itoa n).toArray⟩) ∧ Below w.heap.size w w' := by
  obtain ⟨u, rfl⟩ : ∃ u : Nat, n = (u : Int) := ⟨n.toNat, by omega⟩
  have hz : ((u : Int) == 0) = false := by simp; omega
  have Hi : Hid (itoa (u : Int) = decDigits u) := Lib.hid (itoa_nonneg u)
  go_enter Tryd.func76, Tryd.ntmps76
  go_wp2
  go_loopw [3, 4, 5] (fun s x d wr => ∃ (v : Nat) (l : List UInt8), v ≤ u ∧ Num.dd v ++ l = decDigits u ∧ s = .string ⟨l.toArray⟩ ∧ x = .int .i64 v ∧ Below w.heap.size w wr)
    (fun _ x _ _ => (intOf x).toNat)
  case atStart => exact ⟨u, [], Nat.le_refl _, by rw [Num.dd_pos (by omega), List.append_nil], rfl, rfl, Below.refl _ _⟩
  case round =>
    obtain ⟨v, l, hvu, hl, rfl, rfl, hb⟩ := hrel
    have hlen := Num.tail_len (by omega) hl
    by_cases hv : v = 0
    · have e1 : ((v : Int) != 0) = false := by simp; omega
      have Hl : Hid (l = decDigits u) := Lib.hid (by rw [hv, Num.dd_zero, List.nil_append] at hl; exact hl)
      clear hl hv
      go_wp2
      go_ret
      have e : Ending.returned (.string ⟨l.toArray⟩) = Ending.returned (.string ⟨(itoa (u : Int)).toArray⟩) := by rw [Hi.out, ← Hl.out]
      exact ⟨e, hb⟩
    · have e1 : ((v : Int) != 0) = true := by simp; omega
      obtain ⟨c, hc, hx⟩ := digit_some v
      have kc := conv1 c _ hx
      have Hl : Hid (Num.dd (v / 10) ++ (c :: l) = decDigits u) := Lib.hid (by rw [← hl, Num.dd_step hv, hc]; simp)
      have hdiv : (v : Int) / 10 = ((v / 10 : Nat) : Int) := by omega
      have Hd := Lib.hid hdiv
      clear hl hc hx hdiv
      go_wp2
      go_roundw
      case rel => exact ⟨v / 10, c :: l, by omega, Hl.out, by rw [cons_str], by rw [Hd.out], hb.alloc (by simpa using hb.size) _⟩
      case measure => simp [intOf]; omega

theorem tdiv_neg (v : Nat) : (-(v : Int)).tdiv 10 = -((v / 10 : Nat) : Int) := by rw [Int.neg_tdiv]; rfl
theorem tmod_neg (v : Nat) : (-(v : Int)).tmod 10 = -((v % 10 : Nat) : Int) := by rw [Int.neg_tmod]; rfl

theorem fmt_neg (n : Int) (w : World) (h0 : -9223372036854775808 ≤ n) (h1 : n ≤ -1) :
    Calls Tryd.prog 76 #[.int .i64 n] w fun e w' => e = .returned (.string ⟨(itoa n).toArray⟩) ∧ Below w.heap.size w w' := by
  obtain ⟨u, rfl⟩ : ∃ u : Nat, n = -(u : Int) := ⟨(-n).toNat, by omega⟩
  have hz : (-(u : Int) == 0) = false := by simp; omega
  have Hi : Hid (itoa (-(u : Int)) = 45 :: decDigits u) := Lib.hid (itoa_neg u (by omega))
  go_enter Tryd.func76, Tryd.ntmps76
  go_wp2
  go_loopw [3, 4, 5] (fun s x d wr => ∃ (v : Nat) (l : List UInt8), v ≤ u ∧ Num.dd v ++ l = decDigits u ∧ s = .string ⟨l.toArray⟩ ∧ x = .int .i64 (-(v : Int)) ∧ Below w.heap.size w wr)
    (fun _ x _ _ => (-(intOf x)).toNat)
  case atStart => exact ⟨u, [], Nat.le_refl _, by rw [Num.dd_pos (by omega), List.append_nil], rfl, rfl, Below.refl _ _⟩
  case round =>
    obtain ⟨v, l, hvu, hl, rfl, rfl, hb⟩ := hrel
    have hlen := Num.tail_len (by omega) hl
    by_cases hv : v = 0
    · have e1 : (-(v : Int) != 0) = false := by simp; omega
      have Hl : Hid (l = decDigits u) := Lib.hid (by rw [hv, Num.dd_zero, List.nil_append] at hl; exact hl)
      clear hl hv
      go_wp2
      go_ret
      have e : Ending.returned (.string ((⟨#[45]⟩ : ByteArray) ++ ⟨l.toArray⟩)) = Ending.returned (.string ⟨(itoa (-(u : Int))).toArray⟩) := by rw [Hi.out, ← Hl.out, cons_str]
      exact ⟨e, hb⟩
    · have e1 : (-(v : Int) != 0) = true := by simp; omega
      obtain ⟨c, hc, hx⟩ := digit_some v
      have Hl : Hid (Num.dd (v / 10) ++ (c :: l) = decDigits u) := Lib.hid (by rw [← hl, Num.dd_step hv, hc]; simp)
      obtain ⟨r, hr⟩ : ∃ r : Nat, r = v % 10 := ⟨_, rfl⟩
      have hm : (-(v : Int)).tmod 10 = -(r : Int) := by rw [tmod_neg, hr]
      have hd : (-(v : Int)).tdiv 10 = -((v / 10 : Nat) : Int) := tdiv_neg v
      have hr9 : r ≤ 9 := by omega
      have kc := conv1 c (48 + (r : Int)) (by rw [← hx, hr]; omega)
      have hdiv : (v : Int) / 10 = ((v / 10 : Nat) : Int) := by omega
      have Hd := Lib.hid hdiv
      by_cases hr0 : 0 < r
      · clear hl hc hx hr hdiv
        go_wp2
        go_roundw
        case rel => exact ⟨v / 10, c :: l, by omega, Hl.out, by rw [cons_str], by rw [Hd.out], hb.alloc (by simpa using hb.size) _⟩
        case measure => simp [intOf]; omega
      · have kc0 := conv1 c (48 + -(r : Int)) (by rw [← hx]; omega)
        clear hl hc hx hr hdiv
        go_wp2
        go_roundw
        case rel => exact ⟨v / 10, c :: l, by omega, Hl.out, by rw [cons_str], by rw [Hd.out], hb.alloc (by simpa using hb.size) _⟩
        case measure => simp [intOf]; omega

theorem fmt_zero (w : World) :
    Calls Tryd.prog 76 #[.int .i64 0] w fun e w' => e = .returned (.string ⟨(itoa 0).toArray⟩) ∧ Below w.heap.size w w' := by
  have Hi : Hid (itoa 0 = [48]) := Lib.hid (by rw [show (0 : Int) = ((0 : Nat) : Int) from rfl, itoa_nonneg, decDigits_one (by omega)]; rfl)
  go_enter Tryd.func76, Tryd.ntmps76
  go_wp2
  go_ret
  have e : Ending.returned (.string ⟨#[48]⟩) = Ending.returned (.string ⟨(itoa 0).toArray⟩) := by rw [Hi.out]
  exact ⟨e, Below.refl _ _⟩

/-- spec.FormatInt at every int. -/
theorem fmt_any (n : Int) (w : World) (h0 : -9223372036854775808 ≤ n) (h1 : n ≤ 9223372036854775807) :
    Calls Tryd.prog 76 #[.int .i64 n] w fun e w' => e = .returned (.string ⟨(itoa n).toArray⟩) ∧ Below w.heap.size w w' := by
  rcases Int.lt_trichotomy n 0 with h | h | h
  · exact fmt_neg n w h0 (by omega)
  · rw [h]; exact fmt_zero w
  · exact fmt_pos n w (by omega) h1

end Go.Proofs.YtdccljmffmlkbaaDoor
