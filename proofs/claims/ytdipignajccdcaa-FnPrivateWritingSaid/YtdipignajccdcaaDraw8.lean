/- Chapter 8's draws. No conditions. -/
import Derived.Test.YtdipignajccdcaaDrawX
import Derived.Test.YtdipignajccdcaaDb3
namespace Go.Proofs.Ytdipignajccdcaa
open Go Go.RowKit
set_option linter.unusedVariables false
attribute [local irreducible] kh

theorem grown_drew (w : World) (r : Option Nat) : w.grownBy w.drew r := ⟨rfl, rfl, rfl, Nat.le_refl _, fun _ _ _ => rfl⟩
theorem Cur.drew {B b : Nat} {w : World} (h : Cur B b w) : Cur B b w.drew := by
  obtain ⟨a, len, cap, zs, i, q, h1, h2, h3, h4⟩ := h
  exact ⟨a, len, cap, zs, i, q, h1, h2, h3, h4.behind (Below.refl _ _).drew⟩
/-- Behind a store into a block of its own. -/
theorem Cur.stored {B b c : Nat} {w : World} (h : Cur B b w) (hne : c ≠ b) (hB : B ≤ c) (u : Value) : Cur B b (w.setCell ⟨c, 0, none⟩ u) :=
  h.kept (grown_set w c 0 u) (fun e => hne (by injection e)) (fun r hr => by injection hr with hr; omega)

theorem fl_rows {zss : List (List Int)} {m : Nat} (h : ∀ (i : Nat) (zs : List Int), zss[i]? = some zs → zs.length ≤ m) : fl zss ≤ zss.length * m := by
  induction zss with
  | nil => simp [fl]
  | cons x r ih =>
    have h1 := h 0 x rfl
    have h2 := ih (fun i zs hz => h (i + 1) zs (by simpa using hz))
    rw [fl_cons, List.length_cons, Nat.succ_mul]
    omega

/-- A drawn database. -/
def DbOut (B b : Nat) (w : World) (e : Ending) (w' : World) : Prop :=
  ∃ v zss, e = .returned (.agg #[v]) ∧ Own2 22 5 .u8 (ival w.heap.size w'.heap.size) w' v zss ∧ zss.length ≤ 64 ∧ fl zss ≤ 1600 ∧ Cur B b w' ∧ w.grownBy w' (some b)

/-- spec.l8Cell -/
theorem cell8_any (B b : Nat) (w : World) (h : Cur B b w) :
    Calls Try.prog 74 #[.pointer (some ⟨b, 0, none⟩)] w (BytesOut B b 0 25 w) := by
  have H := Lib.hid h
  clear h
  go_enter Try.func74, Try.ntmps74
  go_wp2_with fail
  refine (int_alloc B b 0 25 [24, 24, 24, 0, 23, 25] _ 6 _ H.out rfl (by omega) (by omega) (by decide)).mono ?_
  rintro e w2 ⟨x, x0, x1, rfl, hc2, hg2⟩
  obtain ⟨n, rfl⟩ : ∃ n : Nat, x = (n : Int) := ⟨x.toNat, by omega⟩
  have HC2 := Lib.hid hc2
  have HG2 := Lib.hid hg2
  clear hc2 hg2
  go_wp2_with fail
  refine (bytes_any B b n _ HC2.out (by omega)).mono ?_
  rintro e w3 ⟨v3, zs, rfl, hO3, l1, l2, hc3, hg3⟩
  have HO3 := Lib.hid (hO3.mono HG2.out.size)
  have HC3 := Lib.hid hc3
  have HG3 := Lib.hid (grown_trans HG2.out hg3)
  clear hO3 hc3 hg3
  go_wp2_with fail
  go_ret
  exact ⟨_, zs, rfl, HO3.out, Nat.zero_le _, by omega, HC3.out, HG3.out⟩

end Go.Proofs.Ytdipignajccdcaa
