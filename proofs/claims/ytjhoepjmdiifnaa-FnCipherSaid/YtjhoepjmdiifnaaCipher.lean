/- FnCipher: the walk. No conditions. -/
import Derived.Test.YtjhoepjmdiifnaaCry5
import Derived.Test.YtjhoepjmdiifnaaDrawC
import Derived.Test.YtjhoepjmdiifnaaLawBase
import Derived.Test.YtjhoepjmdiifnaaSameByte
namespace Go.Proofs.Ytjhoepjmdiifnaa
open Go Go.RowKit
set_option linter.unusedVariables false

theorem adds_get (f : Nat → Int) (zs : List Int) {i : Nat} (h : i < zs.length) : (adds f zs).getD i 0 = (zs.getD i 0 + f i) % 256 := by
  unfold adds
  rw [List.getD_eq_getElem?_getD, List.getElem?_map, List.getElem?_range h]; rfl
theorem adds_back (f g : Nat → Int) (zs : List Int) (hz : ∀ z ∈ zs, (Lit.int .u8 z).wf = true) (hfg : ∀ i z, 0 ≤ z → z ≤ 255 → ((z + f i) % 256 + g i) % 256 = z) : adds g (adds f zs) = zs := by
  have e : adds g (adds f zs) = (List.range zs.length).map fun i => zs.getD i 0 := by
    show (List.range (adds f zs).length).map (fun i => ((adds f zs).getD i 0 + g i) % 256) = _
    rw [adds_len]
    apply List.map_congr_left
    intro i hi
    have hi' := List.mem_range.1 hi
    have hm : zs.getD i 0 ∈ zs := by rw [List.getD_eq_getElem?_getD, List.getElem?_eq_getElem hi']; simp
    have hb := wf_u8 (hz _ hm)
    rw [adds_get f zs hi']
    exact hfg i _ hb.1 hb.2
  rw [e, range_getD]
theorem de_en (k : Int) (zs : List Int) (hz : ∀ z ∈ zs, (Lit.int .u8 z).wf = true) : dez k (enz k zs) = zs :=
  adds_back (ks k) (nks k) zs hz (fun i z h0 h1 => by unfold nks; have := ks_bound k i; omega)
theorem en_de (k : Int) (zs : List Int) (hz : ∀ z ∈ zs, (Lit.int .u8 z).wf = true) : enz k (dez k zs) = zs :=
  adds_back (nks k) (ks k) zs hz (fun i z h0 h1 => by unfold nks; have := ks_bound k i; omega)

set_option maxHeartbeats 4000000 in
set_option maxRecDepth 20000 in
theorem cipher_walk (a : Option Addr) (len cap : Nat) (zs : List Int) (w : World) (hrow : IsRow .u8 w a len cap zs) :
    Calls Try.prog 3 #[.slice a len cap] w fun e w' => e = .returned (.bool true) ∧ Below w.heap.size w w' := by
  obtain ⟨hr, hl⟩ := row_own hrow
  have HR := Lib.hid hr
  have HL := Lib.hid hl
  have hl' : len ≤ 9223372036854775807 := by unfold maxLen at hl; omega
  clear hr hrow hl
  by_cases hbig : 1048576 < len
  · have e0 : decide ((1048576 : Int) < (len : Int)) = true := by simp; omega
    go_enter Try.func3, Try.ntmps3
    go_wp2_with fail
    refine (big_is a len cap _ hl').mono ?_
    rw [e0]
    rintro e w0 ⟨rfl, rfl⟩
    go_wp2_with fail
    go_ret
    exact ⟨rfl, Below.refl _ _⟩
  · have e0 : decide ((1048576 : Int) < (len : Int)) = false := by simp; omega
    go_enter Try.func3, Try.ntmps3
    go_wp2_with fail
    refine (big_is a len cap _ hl').mono ?_
    rw [e0]
    rintro e w0 ⟨rfl, rfl⟩
    go_wp2_with fail
    refine (draw_en a len cap zs _ HR.out HL.out).mono ?_
    rintro e w1 ⟨k, v, ys, rfl, hk, hO, hys, hb⟩
    have hk' : (Lit.int .i64 k).wf = true := wf_i64_of (by omega) (by omega)
    have HK := Lib.hid hk'
    have HO := Lib.hid hO
    have HB := Lib.hid hb
    have HY : Hid (∀ z ∈ ys, (Lit.int .u8 z).wf = true) := Lib.hid hO.1
    have HE : Hid ((enz k ys).length = ys.length) := Lib.hid (adds_len _ _)
    have HD : Hid ((dez k ys).length = ys.length) := Lib.hid (adds_len _ _)
    clear hO hb hk' HR
    obtain ⟨ao, co, hv, _⟩ := HO.out.open
    subst hv
    go_wp2_with fail
    refine (impl_en HO.out.rd (Nat.le_refl _) HK.out (by omega)).mono ?_
    rintro e w2 ⟨x, rfl, hX, hb⟩
    have HX := Lib.hid hX
    replace HO := Lib.hid (HO.out.next hb)
    replace HB := Lib.hid (HB.out.trans (hb.mono HB.out.size))
    clear hX hb
    go_wp2_with fail
    refine (impl_de HX.out.rd (Nat.le_refl _) HK.out (by rw [HE.out]; omega)).mono ?_
    rw [de_en k ys HY.out]
    rintro e w3 ⟨y, rfl, hYv, hb⟩
    have HV := Lib.hid hYv
    replace HO := Lib.hid (HO.out.next hb)
    replace HB := Lib.hid (HB.out.trans (hb.mono HB.out.size))
    clear hYv hb HX
    go_wp2_with fail
    refine (sameBytes_same HV.out.rd HO.out.rd (Nat.le_refl _) (Nat.le_refl _)).mono ?_
    rintro e w4 ⟨rfl, hb⟩
    replace HO := Lib.hid (HO.out.next hb)
    replace HB := Lib.hid (HB.out.trans (hb.mono HB.out.size))
    clear hb HV
    go_wp2_with fail
    refine (impl_de HO.out.rd (Nat.le_refl _) HK.out (by omega)).mono ?_
    rintro e w5 ⟨x2, rfl, hX, hb⟩
    have HX := Lib.hid hX
    replace HO := Lib.hid (HO.out.next hb)
    replace HB := Lib.hid (HB.out.trans (hb.mono HB.out.size))
    clear hX hb
    go_wp2_with fail
    refine (impl_en HX.out.rd (Nat.le_refl _) HK.out (by rw [HD.out]; omega)).mono ?_
    rw [en_de k ys HY.out]
    rintro e w6 ⟨y2, rfl, hYv, hb⟩
    have HV := Lib.hid hYv
    replace HO := Lib.hid (HO.out.next hb)
    replace HB := Lib.hid (HB.out.trans (hb.mono HB.out.size))
    clear hYv hb HX
    go_wp2_with fail
    refine (sameBytes_same HV.out.rd HO.out.rd (Nat.le_refl _) (Nat.le_refl _)).mono ?_
    rintro e w7 ⟨rfl, hb⟩
    replace HO := Lib.hid (HO.out.next hb)
    replace HB := Lib.hid (HB.out.trans (hb.mono HB.out.size))
    clear hb HV
    go_wp2_with fail
    refine (impl_en HO.out.rd (Nat.le_refl _) HK.out (by omega)).mono ?_
    rintro e w8 ⟨x3, rfl, hX, hb⟩
    obtain ⟨ax, cx, hvx, _⟩ := hX.open
    rw [HE.out] at hvx
    replace HB := Lib.hid (HB.out.trans (hb.mono HB.out.size))
    clear hX hb HO
    subst hvx
    go_wp2_with fail
    go_ret
    exact ⟨rfl, HB.out⟩

end Go.Proofs.Ytjhoepjmdiifnaa
