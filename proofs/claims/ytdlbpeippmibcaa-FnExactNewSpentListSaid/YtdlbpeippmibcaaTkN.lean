/- Blind tokens as numbers: requests, replies, tokens, what explains a request. Pure. No conditions but those that are named. -/
import Derived.Test.YtdlbpeippmibcaaGrS
namespace Go.Proofs.Ytdlbpeippmibcaa
open Go Go.RowKit
set_option linter.unusedVariables false
attribute [local irreducible] kh kid pwm tcm pw

/-- The hash of a serial number. -/
def hs (n : Int) : Int := hgr 101 n
theorem hs_el (n : Int) : isG (hs n) = true := (hgr_ok 101 n).1
theorem hs_ne (n : Int) : hs n ≠ 1 := (hgr_ok 101 n).2
def okNr (n : Int) : Bool := inR n 0 100000
def nz (n : Int) : Bool := !(n % 1019 == 0)
theorem nz_iff {n : Int} : nz n = true ↔ n % 1019 ≠ 0 := by unfold nz; simp
theorem nz_small {n : Int} (h1 : 1 ≤ n) (h2 : n ≤ 1018) : nz n = true := nz_iff.2 (by omega)
theorem okNr_in {n : Int} (h1 : 0 ≤ n) (h2 : n ≤ 100000) : okNr n = true := inR_yes ⟨h1, h2⟩

/-- BlindToken. -/
def blok (n b : Int) : Bool := okNr n && nz b
def blE (n b : Int) : Int := if blok n b = true then pwG (hs n) b else 0
theorem blE_yes {n b : Int} (h : blok n b = true) : blE n b = pwG (hs n) b := if_pos h
theorem blE_no {n b : Int} (h : blok n b = false) : blE n b = 0 := if_neg (by rw [h]; decide)
theorem blE_bound (n b : Int) : 0 ≤ blE n b ∧ blE n b ≤ 2038 := by
  unfold blE
  split
  · exact pwG_bound _ _
  · omega
/-- SignBlinded. -/
def sgok (s x : Int) : Bool := isG x && (!(x == 1) && nz s)
def sgE (s x : Int) : Int := if sgok s x = true then pwG x s else 0
def sgC (s x t : Int) : Int := if sgok s x = true then prC 4 x s t else 0
def sgR (s x t : Int) : Int := if sgok s x = true then prR 4 x s t else 0
theorem sg_no {s x : Int} (t : Int) (h : sgok s x = false) : sgE s x = 0 ∧ sgC s x t = 0 ∧ sgR s x t = 0 := by
  unfold sgE sgC sgR
  rw [h]
  exact ⟨rfl, rfl, rfl⟩
theorem sg_yes {s x : Int} (t : Int) (h : sgok s x = true) : sgE s x = pwG x s ∧ sgC s x t = prC 4 x s t ∧ sgR s x t = prR 4 x s t := ⟨if_pos h, if_pos h, if_pos h⟩
theorem sg_bound (s x t : Int) : (0 ≤ sgE s x ∧ sgE s x ≤ 2038) ∧ (0 ≤ sgC s x t ∧ sgC s x t ≤ 1018) ∧ (0 ≤ sgR s x t ∧ sgR s x t ≤ 1018) := by
  refine ⟨?_, ?_, ?_⟩
  · unfold sgE; split; exact pwG_bound _ _; omega
  · unfold sgC; split; exact prC_bound _ _ _ _; omega
  · unfold sgR; split; exact prR_bound _ _ _ _; omega
/-- FinishToken. -/
def fnok (n b k e c r : Int) : Bool := blok n b && vrf 4 (blE n b) k e c r
def fnS (n b k e c r : Int) : Int := if fnok n b k e c r = true then n else 0
def fnV (n b k e c r : Int) : Int := if fnok n b k e c r = true then pwG e (invE b) else 0
theorem fn_no {n b k e c r : Int} (h : fnok n b k e c r = false) : fnS n b k e c r = 0 ∧ fnV n b k e c r = 0 := by
  unfold fnS fnV
  rw [h]
  exact ⟨rfl, rfl⟩
theorem fn_yes {n b k e c r : Int} (h : fnok n b k e c r = true) : fnS n b k e c r = n ∧ fnV n b k e c r = pwG e (invE b) := ⟨if_pos h, if_pos h⟩
theorem fn_bound {n b k e c r : Int} : (0 ≤ fnS n b k e c r ∧ fnS n b k e c r ≤ 100000) ∧ (0 ≤ fnV n b k e c r ∧ fnV n b k e c r ≤ 2038) := by
  cases h : fnok n b k e c r with
  | false => rw [(fn_no h).1, (fn_no h).2]; omega
  | true =>
    rw [(fn_yes h).1, (fn_yes h).2]
    refine ⟨?_, pwG_bound _ _⟩
    unfold fnok blok okNr inR at h
    simp only [Bool.and_eq_true, decide_eq_true_eq] at h
    omega
/-- IsValidToken. -/
def vtok (s n v : Int) : Bool := okNr n && (nz s && (v == pwG (hs n) s))
/-- ExplainRequest. -/
def exqT (x n : Int) : Bool := okNr n && !(x == 1)
def exn (x n : Int) : Int := if exqT x n = true then dlog (hs n) x else 0
def exok (x n : Int) : Bool := exqT x n && decide (1 ≤ dlog (hs n) x)
def exV (x n : Int) : Int := if exok x n = true then dlog (hs n) x else 0
theorem ex_no {x n : Int} (h : exok x n = false) : exV x n = 0 := if_neg (by rw [h]; decide)
theorem ex_yes {x n : Int} (h : exok x n = true) : exV x n = dlog (hs n) x := if_pos h
theorem dlog_bound (g x : Int) : -1 ≤ dlog g x ∧ dlog g x ≤ 1018 := by
  cases h : dlok g x with
  | false => rw [dlog_no h]; omega
  | true =>
    have h' := h
    unfold dlok at h'
    simp only [Bool.and_eq_true, Bool.not_eq_true', beq_eq_false_iff_ne] at h'
    obtain ⟨e, he, hp⟩ := log_ex h'.1 h'.2.2 h'.2.1
    rw [dlog_is h he hp]
    omega
theorem exV_bound (x n : Int) : 0 ≤ exV x n ∧ exV x n ≤ 1018 := by
  cases h : exok x n with
  | false => rw [ex_no h]; omega
  | true =>
    rw [ex_yes h]
    have := dlog_bound (hs n) x
    unfold exok at h
    simp only [Bool.and_eq_true, decide_eq_true_eq] at h
    omega

/-! ### What the laws say -/
theorem pwG_ne1 {g : Int} (h : isG g = true) (h1 : g ≠ 1) {b : Int} (hb : b % 1019 ≠ 0) : pwG g b ≠ 1 := by
  rw [pwG_yes h]
  intro e
  exact h1 (pw_order h (d := (b % 1019).toNat) (by omega) (by omega) e)
/-- A token that was issued blindly. -/
theorem tk_bl {n b : Int} (hn : okNr n = true) (hb : nz b = true) : blok n b = true := by unfold blok; rw [hn, hb]; rfl
theorem tk_el {n b : Int} (hn : okNr n = true) (hb : nz b = true) : isG (blE n b) = true ∧ blE n b ≠ 1 := by
  rw [blE_yes (tk_bl hn hb)]
  exact ⟨pwG_el (hs_el n) b, pwG_ne1 (hs_el n) (hs_ne n) (nz_iff.1 hb)⟩
theorem tk_sg {n b s : Int} (hn : okNr n = true) (hb : nz b = true) (hz : nz s = true) : sgok s (blE n b) = true := by
  have h := tk_el hn hb
  unfold sgok
  rw [h.1, hz, beq_eq_false_iff_ne.2 h.2]
  rfl
theorem tk_fn {n b s t : Int} (hn : okNr n = true) (hb : nz b = true) (hz : nz s = true) (hs : -1000000000 ≤ s ∧ s ≤ 1000000000) (ht : -1000000000 ≤ t ∧ t ≤ 1000000000) :
    fnok n b (pwG 4 s) (sgE s (blE n b)) (sgC s (blE n b) t) (sgR s (blE n b) t) = true := by
  obtain ⟨e1, e2, e3⟩ := sg_yes t (tk_sg hn hb hz)
  unfold fnok
  rw [tk_bl hn hb, e1, e2, e3, Bool.true_and]
  exact pr_ok isG_four (tk_el hn hb).1 hs ht
theorem tk_val {n b s : Int} (hn : okNr n = true) (hb : nz b = true) (hz : nz s = true) : pwG (sgE s (blE n b)) (invE b) = pwG (hs n) s := by
  rw [(sg_yes 0 (tk_sg hn hb hz)).1, blE_yes (tk_bl hn hb), pwG_mul (pwG_el (hs_el n) b), Int.mul_comm s (invE b), ← pwG_mul (pwG_el (hs_el n) b), pwG_inv (hs_el n) (nz_iff.1 hb)]
theorem tk_valid {n s : Int} (hn : okNr n = true) (hz : nz s = true) : vtok s n (pwG (hs n) s) = true := by unfold vtok; rw [hn, hz]; simp
/-- Another value, another issuer. -/
theorem mul4_ne {v : Int} (h : isG v = true) : mulG v 4 ≠ v := by
  obtain ⟨e, he, rfl⟩ := el_pow4 h
  rw [mulG_yes h isG_four]
  intro hc
  rw [← pw_succ, ← pw_red isG_four] at hc
  have h2 : (e + 1) % 1019 = e := pw_inj isG_four (by omega) (by omega) he hc
  omega
theorem tk_bad {n s : Int} : vtok s n (mulG (pwG (hs n) s) 4) = false := by
  unfold vtok
  rw [beq_eq_false_iff_ne.2 (mul4_ne (pwG_el (hs_el n) s)), Bool.and_false, Bool.and_false]
theorem tk_other {n s o : Int} (h : s % 1019 ≠ o % 1019) : vtok o n (pwG (hs n) s) = false := by
  unfold vtok
  have hne : pwG (hs n) s ≠ pwG (hs n) o := by
    rw [pwG_yes (hs_el n), pwG_yes (hs_el n)]
    intro e
    have := pw_inj (hs_el n) (hs_ne n) (by omega) (by omega) e
    omega
  rw [beq_eq_false_iff_ne.2 hne, Bool.and_false, Bool.and_false]
/-- A request fits every serial number. -/
theorem ex_fits {x n : Int} (hx : isG x = true) (h1 : x ≠ 1) (hn : okNr n = true) : exok x n = true ∧ blok n (exV x n) = true ∧ blE n (exV x n) = x := by
  obtain ⟨e, he, hp⟩ := log_ex (hs_el n) (hs_ne n) hx
  have hd : dlog (hs n) x = (e : Int) := dlog_is (by unfold dlok; rw [hs_el, hx, beq_eq_false_iff_ne.2 (hs_ne n)]; rfl) he hp
  have he1 : 1 ≤ e := by
    rcases Nat.eq_zero_or_pos e with h | h
    · exact (h1 (by rw [← hp, h, pw_zero])).elim
    · exact h
  have hok : exok x n = true := by
    unfold exok exqT
    rw [hn, beq_eq_false_iff_ne.2 h1, hd, decide_eq_true (by omega)]
    rfl
  have hb : blok n (exV x n) = true := by
    rw [ex_yes hok, hd]
    exact tk_bl hn (nz_small (by omega) (by omega))
  refine ⟨hok, hb, ?_⟩
  rw [blE_yes hb, ex_yes hok, hd, pwG_yes (hs_el n), show ((e : Int) % 1019).toNat = e by omega, hp]
theorem ex_self {n b : Int} (hn : okNr n = true) (h1 : 1 ≤ b) (h2 : b ≤ 1018) : exV (blE n b) n = b := by
  have hz := nz_small h1 h2
  obtain ⟨hx, hne⟩ := tk_el hn hz
  rw [ex_yes (ex_fits hx hne hn).1, blE_yes (tk_bl hn hz)]
  rw [dlog_is (e := b.toNat) (by unfold dlok; rw [hs_el, pwG_el (hs_el n), beq_eq_false_iff_ne.2 (hs_ne n)]; rfl) (by omega) (by rw [pwG_yes (hs_el n)]; congr 1; omega)]
  omega
theorem ex_one (n : Int) : exok 1 n = false := by unfold exok exqT; simp

end Go.Proofs.Ytdlbpeippmibcaa
