/- A row combined with another, a row replaced among rows. No conditions but a size that a machine holds. -/
import Derived.Test.YtckhmjdhdoomdaaCopyL
import Derived.Test.YtckhmjdhdoomdaaXor
import Derived.Test.YtckhmjdhdoomdaaBa2
import Derived.Deep.RegionHeld3
namespace Go.Proofs.Ytckhmjdhdoomdaa
open Go Go.RowKit
set_option linter.unusedVariables false

/-- append to a row of the call's own of what is read, with the place of the new row. -/
theorem append_rdF {P : Program} (w : World) {ops : Array Oper} {rest : List Oper} {o : Oper} {a : Act} {Q : Exit → Act → World → Prop} (hg : o.guard = none) (s x : Operand) (t : TypeId)
    (hop : o.op = .call { callee := .builtin .append, args := #[s, x], argTypes := #[t, t] }) (e : TypeId) (i : TypeInfo) (z : Value) (bytes : Nat) (ht : P.underlying t = some (.slice e)) (hi : P.info? e = some i) (hz : i.zero = some z)
    (hsize : i.size = 1) (hby : i.bytes = bytes) (hzs : z.cells.size = 1) (hb1 : 1 ≤ bytes) {k : IntKind} {B lim : Nat} {v u : Value} {xs ys : List Int} (hs : a.eval s = v) (hown : Own e k B w v xs) (hx : a.eval x = u) (hu : Rd lim k w u ys)
    (hle : (xs.length + ys.length) * bytes ≤ 140737488355328)
    (h : ∀ v' w', Own e k B w' v' (xs ++ ys) → w.grownBy w' v.ownBlock → (v'.ownBlock = v.ownBlock ∨ v'.ownBlock = some w.heap.size) → wpList P ops Q rest (a.put o.dst v') w') : wpList P ops Q (o :: rest) a w := by
  obtain ⟨uw, ua, ucap, rfl, u1, u2, u3⟩ := hu
  obtain ⟨vw, vB, vo⟩ := hown
  have hm : xs.length + ys.length ≤ maxLen := by
    have : (xs.length + ys.length) * 1 ≤ (xs.length + ys.length) * bytes := Nat.mul_le_mul_left _ hb1
    unfold maxLen; omega
  have key : ∀ v' w', w'.ownsRow B e 1 v' (xs.length + ys.length) (xs.map (Value.int k) ++ ys.map (Value.int k)) → w.grownBy w' v.ownBlock → (v'.ownBlock = v.ownBlock ∨ v'.ownBlock = some w.heap.size) → wpList P ops Q rest (a.put o.dst v') w' := fun v' w' h1 h2 h3 =>
    h v' w' ⟨by intro n hn; rcases List.mem_append.1 hn with h | h; exact vw n h; exact uw n h, Nat.le_trans vB h2.size, by simpa using h1⟩ h2 h3
  rcases u3 with ⟨rfl, rfl⟩ | ⟨y, rfl, hc, hbl⟩
  · have hy : ys = [] := List.eq_nil_of_length_eq_zero (by omega)
    subst hy
    refine wpList_append_own_none hg s x t hop B e i 1 ht hi v xs.length _ hs vo hx ?_
    exact key v w (by simpa using vo) (World.grownBy.refl _ _) (.inl rfl)
  · obtain ⟨v', w', hr, p1, p2, p4, p3⟩ := run_append_own_at (P := P) w B t o.type e i z 1 bytes ht hi hz hsize hby hzs (by decide) v xs.length _ vo y ys.length ucap (ys.map (Value.int k)) (by simp) (fun j n hn => by
        rw [List.getElem?_map] at hn
        rcases hj : ys[j]? with _ | q
        · simp [hj] at hn
        · simp [hj] at hn
          have hlt : j < ys.length := (List.getElem?_eq_some_iff.1 hj).1
          rw [hc j hlt, List.getD_eq_getElem?_getD, hj]
          simpa using hn) (fun n hn => by
        obtain ⟨q, _, rfl⟩ := List.mem_map.1 hn
        rfl) hm hle vB
    refine wpList_plain hg fun K hK => ?_
    unfold Oper.wp
    simp only [execOp, hop, resolve, invoke, builtin, Sem.run_bind, Sem.run_pure, Result.andThen_ok, List.map_toArray, List.map_cons, List.map_nil, hs, hx]
    rw [hr]
    exact hK _ _ (key v' w' p1 p2 p3)

/-- x[: n] of a row of the call's own: the same block. -/
theorem slice_own_h {P : Program} (w : World) {ops : Array Oper} {rest : List Oper} {o : Oper} {a : Act} {Q : Exit → Act → World → Prop} (hg : o.guard = none) (t : TypeId) (x : Operand)
    (e : TypeId) (i : TypeInfo) (ht : P.underlying t = some (.slice e)) (hi : P.info? e = some i) (hsz : i.size = 1) {k : IntKind} {B n : Nat} {v : Value} {zs : List Int} (hx : a.eval x = v) (hr : Own e k B w v zs)
    (hi' : Operand) (hop : o.op = .slice t x none (some hi') none) (hhi : a.eval hi' = .int .i64 (n : Int)) (hl : n ≤ zs.length)
    (h : ∀ a' c', (0 < n → ∃ g cap, v = .slice (some ⟨g, 0, none⟩) zs.length cap ∧ a' = some ⟨g, 0, none⟩) → wpList P ops Q rest (a.put o.dst (.slice a' n c')) w) : wpList P ops Q (o :: rest) a w := by
  refine wpList_plain hg fun K hK => ?_
  obtain ⟨_, p, cap, rfl, h1, h2, h3⟩ := hr.rd
  have hopn := hr.open
  obtain ⟨q, cq, hv, hq⟩ := hopn
  injection hv with e1 e2 e3
  subst e1
  unfold Oper.wp
  simp only [execOp, hop, Option.map_some, Option.map_none, hx, hhi]
  simp only [Sem.run_bind, Sem.run_pure, run_sliceAt_slice w t _ _ _ _ (und_elem t e ht), run_slice_h w t p zs.length cap (und_elem t e ht) .i64 (n : Int) (by omega) (by omega), size_elem t e i ht hi hsz, Result.andThen_ok, Int.toNat_natCast]
  refine hK _ _ ?_
  unfold Go.sliced
  rw [Nat.sub_zero, Nat.sub_zero]
  refine h _ _ fun hn => ?_
  obtain ⟨g, rfl⟩ := hq (by omega)
  refine ⟨g, cap, rfl, ?_⟩
  rw [if_neg (by omega), Option.map_some, Nat.mul_one, add_off']

/-- One of the rows is changed, or a fresh one put in its place. -/
theorem Own2.swap {t e : TypeId} {k : IntKind} {F : Nat → Prop} {w : World} {g cap n i : Nat} {zs : List Int} {zss : List (List Int)} (h : Own2 t e k F w (.slice (some ⟨g, 0, none⟩) n cap) zss) (hi : zss[i]? = some zs) (hlt : ∀ b, F b → b < w.heap.size) :
    ∃ u, w.cell? ⟨g, i, none⟩ = some u ∧ Own e k 0 w u zs ∧ In F u ∧ ∀ w1, KeptF (fun b => u.ownBlock = some b) w w1 → w1.cell? ⟨g, i, none⟩ = some u ∧ w1.frozen? ⟨g, i, none⟩ = false ∧
      ∀ u' zs', Own e k 0 w1 u' zs' → (u'.ownBlock = u.ownBlock ∨ ∀ r, u'.ownBlock = some r → w.heap.size ≤ r) →
        Own2 t e k (fun b => F b ∨ u'.ownBlock = some b) (w1.setCell ⟨g, i, none⟩ u') (.slice (some ⟨g, 0, none⟩) n cap) (zss.set i zs') ∧ w1.grownBy (w1.setCell ⟨g, i, none⟩ u') (some g) := by
  obtain ⟨us, e1, h1, h2, h3, h4⟩ := h
  have hi' : i < us.length := by have := (List.getElem?_eq_some_iff.1 hi).1; omega
  have hu := List.getElem?_eq_getElem hi'
  obtain ⟨o1, o2, o3⟩ := h3 i _ zs hu hi
  have hlen : us.length = n := by
    rcases h1.2 with ⟨h, _⟩ | ⟨g', cap', cur, h, _⟩
    · injection h with q1 q2 q3; cases q1
    · injection h with q1 q2 q3; exact q2.symm
  rw [hlen] at h1
  refine ⟨us[i], ?_, o1, o2, fun w1 hk => ?_⟩
  · rw [World.ownsRow.cellAt h1 i (by omega)]
    exact hu
  · have r1 : w1.ownsRow 0 t 1 (.slice (some ⟨g, 0, none⟩) n cap) n us := ownsRow_of_block h1 fun r hr => hk.block r (h1.lt r hr).2 fun e => o3 r e hr
    refine ⟨?_, r1.frozenAt i, fun u' zs' ho hpl => ?_⟩
    · rw [World.ownsRow.cellAt r1 i (by omega)]
      exact hu
    · obtain ⟨s1, s2⟩ := r1.stored i u'
      have hgF : F g := h2 g rfl
      have inF : ∀ (j : Nat) (y : Value), us[j]? = some y → In F y := fun j y hj => by
        have hla := (List.getElem?_eq_some_iff.1 hj).1
        exact (h3 j y _ hj (List.getElem?_eq_getElem (by omega))).2.1
      -- the new row lies apart from every row but the old one
      have hap : ∀ y, In F y → Apart us[i] y → Apart u' y := fun y hy ha r hr he => by
        rcases hpl with hpl | hpl
        · exact ha r (hpl ▸ hr) he
        · have h5 := hpl r hr
          have h6 := hlt r (hy r he)
          omega
      have huv : Apart u' (.slice (some ⟨g, 0, none⟩) n cap) := hap _ (fun r hr => by cases hr; exact hgF) o3
      refine ⟨⟨us.set i u', by rw [List.length_set, List.length_set]; exact e1, by rw [List.length_set, hlen]; exact s1, fun r hr => .inl (by cases hr; exact hgF), fun j y z hy hz => ?_, fun j j' y y' hjj hy hy' => ?_⟩, s2⟩
      · by_cases hij : i = j
        · subst hij
          rw [List.getElem?_set_self hi'] at hy
          rw [List.getElem?_set_self (by omega)] at hz
          injection hy with hy; injection hz with hz
          subst hy; subst hz
          exact ⟨⟨ho.1, Nat.zero_le _, ownsRow_of_block ho.2.2 fun r hr => s2.block r (ho.2.2.lt r hr).2 fun e => huv r hr e.symm⟩, fun r hr => .inr hr, huv⟩
        · rw [List.getElem?_set_ne hij] at hy hz
          obtain ⟨p1, p2, p3⟩ := h3 j y z hy hz
          have p1' : Own e k 0 w1 y z := p1.keptF hk fun r hr he => by
            rcases Nat.lt_or_gt_of_ne hij with hlt' | hgt
            · exact h4 i j _ _ hlt' hu hy r he hr
            · exact h4 j i _ _ hgt hy hu r hr he
          exact ⟨⟨p1'.1, Nat.zero_le _, ownsRow_of_block p1'.2.2 fun r hr => s2.block r (p1'.2.2.lt r hr).2 fun e => p3 r hr e.symm⟩, p2.mono fun b hb => .inl hb, p3⟩
      · by_cases hij : i = j
        · subst hij
          rw [List.getElem?_set_self hi'] at hy
          injection hy with hy; subst hy
          rw [List.getElem?_set_ne (by omega)] at hy'
          exact hap y' (inF _ _ hy') (h4 i j' _ _ hjj hu hy')
        · rw [List.getElem?_set_ne hij] at hy
          by_cases hij' : i = j'
          · subst hij'
            rw [List.getElem?_set_self hi'] at hy'
            injection hy' with hy'; subst hy'
            exact (hap y (inF _ _ hy) (h4 j i _ _ hjj hy hu).symm).symm
          · rw [List.getElem?_set_ne hij'] at hy'
            exact h4 j j' y y' hjj hy hy'

/-- append of one row of the call's own to a slice of rows of the call's own, at a step of a region that draws its order. -/
theorem step_append_row {P : Program} (w : World) {ops : Array Oper} {o : Oper} {a : Act} {K : Act → World → Prop} {Q : Exit → Act → World → Prop} {E' : Prop} (hgd : o.guard = none) (s x : Operand) (tt : TypeId)
    (hop : o.op = .call { callee := .builtin .append, args := #[s, x], argTypes := #[tt, tt] }) (t e : TypeId) (i : TypeInfo) (bytes : Nat) (ht : P.underlying tt = some (.slice t)) (hi : P.info? t = some i) (hz : i.zero = some (.slice none 0 0))
    (hsize : i.size = 1) (hby : i.bytes = bytes) (hb1 : 1 ≤ bytes) {k : IntKind} {B E : Nat} {v u : Value} {ad : Addr} {c : Nat} {zss : List (List Int)} {zs : List Int} (hs : a.eval s = v) (hown : Own2 t e k (ival B E) w v zss) (hBE : B ≤ E) (hE : E ≤ w.heap.size)
    (hx : a.eval x = .slice (some ad) 1 c) (hc : w.cell? (ad.add 0) = some u) (hu : Own e k E w u zs) (hle : (zss.length + 1) * bytes ≤ 140737488355328)
    (h : ∀ v' w', Own2 t e k (ival B w'.heap.size) w' v' (zss ++ [zs]) → w.grownBy w' v.ownBlock → K (a.put o.dst v') w') : if Region.wanted o (yielded ops a.tmps) = true then Oper.wp P o a w K Q else E' := by
  have hw : Region.wanted o (yielded ops a.tmps) = true := by simp [Region.wanted, hgd]
  rw [if_pos hw]
  have hF : ∀ r, u.ownBlock = some r → ¬ ival B E r := fun r hr hi => by
    have := (hu.2.2.lt r hr).1
    unfold ival at hi; omega
  have hlt : ∀ b, ival B E b → b < w.heap.size := fun b hb => by unfold ival at hb; omega
  obtain ⟨v', w', hr, p1, p2, p3, p4, _⟩ := run_append_row (P := P) w tt o.type t e i bytes ht hi hz hsize hby hb1 hown hlt hc (hu.mono (Nat.zero_le _)) hF hle
  unfold Oper.wp
  simp only [execOp, hop, resolve, invoke, builtin, Sem.run_bind, Sem.run_pure, Result.andThen_ok, List.map_toArray, List.map_cons, List.map_nil, hs, hx]
  rw [hr]
  refine h v' w' (p1.mono fun b hb => ?_) p2
  have hsz := p2.size
  unfold ival
  rcases hb with hb | hb | hb
  · unfold ival at hb; omega
  · have := hu.2.2.lt b hb; omega
  · have hl := p4 b hb
    rcases p3 with p3 | p3
    · have := hown.in_ b (p3 ▸ hb); unfold ival at this; omega
    · rw [p3] at hb; injection hb with hb; omega

/-- The same, whatever the rows' blocks. -/
theorem step_append_rowF {P : Program} (w : World) {ops : Array Oper} {o : Oper} {a : Act} {K : Act → World → Prop} {Q : Exit → Act → World → Prop} {E' : Prop} (hgd : o.guard = none) (s x : Operand) (tt : TypeId)
    (hop : o.op = .call { callee := .builtin .append, args := #[s, x], argTypes := #[tt, tt] }) (t e : TypeId) (i : TypeInfo) (bytes : Nat) (ht : P.underlying tt = some (.slice t)) (hi : P.info? t = some i) (hz : i.zero = some (.slice none 0 0))
    (hsize : i.size = 1) (hby : i.bytes = bytes) (hb1 : 1 ≤ bytes) {k : IntKind} {F : Nat → Prop} {v u : Value} {ad : Addr} {c : Nat} {zss : List (List Int)} {zs : List Int} (hs : a.eval s = v) (hown : Own2 t e k F w v zss) (hlt : ∀ b, F b → b < w.heap.size)
    (hx : a.eval x = .slice (some ad) 1 c) (hc : w.cell? (ad.add 0) = some u) (hu : Own e k 0 w u zs) (hF : ∀ r, u.ownBlock = some r → ¬ F r) (hle : (zss.length + 1) * bytes ≤ 140737488355328)
    (h : ∀ v' w', Own2 t e k (fun b => F b ∨ u.ownBlock = some b ∨ v'.ownBlock = some b) w' v' (zss ++ [zs]) → w.grownBy w' v.ownBlock → (v'.ownBlock = v.ownBlock ∨ v'.ownBlock = some w.heap.size) → (∀ r, v'.ownBlock = some r → r < w'.heap.size) → K (a.put o.dst v') w') :
    if Region.wanted o (yielded ops a.tmps) = true then Oper.wp P o a w K Q else E' := by
  have hw : Region.wanted o (yielded ops a.tmps) = true := by simp [Region.wanted, hgd]
  rw [if_pos hw]
  obtain ⟨v', w', hr, p1, p2, p3, p4, _⟩ := run_append_row (P := P) w tt o.type t e i bytes ht hi hz hsize hby hb1 hown hlt hc hu hF hle
  unfold Oper.wp
  simp only [execOp, hop, resolve, invoke, builtin, Sem.run_bind, Sem.run_pure, Result.andThen_ok, List.map_toArray, List.map_cons, List.map_nil, hs, hx]
  rw [hr]
  exact h v' w' p1 p2 p3 p4

end Go.Proofs.Ytckhmjdhdoomdaa
