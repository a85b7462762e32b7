/- copy of what is read into a row of the call's own, as long as it; a row of a slice of rows filled so. No program. -/
import Derived.Test.YtckhmjdhdoomdaaBa6
import Derived.Laws.CopyOwn
namespace Go.Proofs.Ytckhmjdhdoomdaa
open Go Go.RowKit
set_option linter.unusedVariables false

section
variable {P : Program} {w : World} {ops : Array Oper} {rest : List Oper} {o : Oper} {a : Act} {Q : Exit → Act → World → Prop}

theorem copy_own (hgd : o.guard = none) (d s : Operand) (dT sT : TypeId) (ho : o.op = .call { callee := .builtin .copy, args := #[d, s], argTypes := #[dT, sT] }) (e : TypeId) (i : TypeInfo) (hu : P.underlying dT = some (.slice e)) (hi : P.info? e = some i) (hsz : i.size = 1)
    {k : IntKind} {lim B : Nat} {zs ys : List Int} {u v : Value} (hd : a.eval d = u) (hs : a.eval s = v) (hr : Rd lim k w v ys) (hb : Own e k B w u zs) (hl : zs.length = ys.length)
    (h : ∀ w', Own e k B w' u ys → w.grownBy w' u.ownBlock → wpList P ops Q rest (a.put o.dst (.int .i64 (ys.length : Int))) w') : wpList P ops Q (o :: rest) a w := by
  have hs1 : (P.info? e).map (·.size) = some 1 := by rw [hi]; simp [hsz]
  by_cases h0 : ys.length = 0
  · obtain rfl : ys = [] := List.eq_nil_of_length_eq_zero h0
    obtain rfl : zs = [] := List.eq_nil_of_length_eq_zero hl
    obtain ⟨p, cap, rfl, _⟩ := hr.empty rfl
    obtain ⟨a', c', hv, _⟩ := hb.open
    subst hv
    refine wpList_copy_nothing hgd d s dT sT ho e hu hs1 _ p _ _ 0 cap hd hs (by simp) ?_
    have := h w hb (World.grownBy.refl _ _)
    simpa [goInt] using this
  · obtain ⟨b, ofs, cap, rfl, r1, r2, rc, rb⟩ := hr.at (by omega)
    obtain ⟨hw, hB, p1, p2 | ⟨g, cp, cur, p2, p3, p4, p5, p6, p7, p8⟩⟩ := hb
    · have := p2.2; omega
    · subst p2
      have hlen : (ys.map (Value.int k)).length = ys.length := by simp
      have hcur : cur.size = cp := by omega
      have hcell : ∀ j v, (ys.map (Value.int k))[j]? = some v → w.cell? ((⟨b, ofs, none⟩ : Addr).add j) = some v := by
        intro j v hv
        have hj : j < ys.length := by have := (List.getElem?_eq_some_iff.1 hv).1; simpa using this
        have e1 : (⟨b, ofs, none⟩ : Addr).add j = ⟨b, ofs + j, none⟩ := by unfold Addr.add; split <;> simp_all
        rw [e1, rc j hj]
        rw [List.getElem?_map, List.getElem?_eq_getElem hj] at hv
        simp at hv
        simp [List.getD_eq_getElem?_getD, List.getElem?_eq_getElem hj, hv]
      have hset : (w.setRow g (cur.toList.take 0 ++ (ys.map (Value.int k) ++ cur.toList.drop (0 + ys.length))).toArray).heap[g]? = some (.cells (cur.toList.take 0 ++ (ys.map (Value.int k) ++ cur.toList.drop (0 + ys.length))).toArray e (0, 0)) := setRow_heap w g cur _ e _ p4
      refine wpList_copy_own hgd d s dT sT ho e hu hs1 g 0 _ _ ⟨b, ofs, none⟩ ys.length cap hd hs cur e p4 (ys.map (Value.int k)) (by rw [hlen, hl]; simp) hcell (by rw [hlen]; omega) (by intro v hv; obtain ⟨z, _, rfl⟩ := List.mem_map.1 hv; rfl) ?_
      simp only [hlen]
      have hg : w.grownBy (w.setRow g (cur.toList.take 0 ++ (ys.map (Value.int k) ++ cur.toList.drop (0 + ys.length))).toArray) (some g) := ⟨rfl, rfl, rfl, by simp [World.setRow], fun k _ hk => setRow_other w g k _ (fun e => hk (by rw [e]))⟩
      refine h _ ⟨hr.1, Nat.le_trans hB hg.size, by simp, .inr ⟨g, cp, _, by rw [hl], p3, hset, by omega, p6, ?_, ?_⟩⟩ hg
      · simp; omega
      · simp
end

/-- One of the rows is filled anew, where it stands. -/
theorem Own2.upd {t e : TypeId} {k : IntKind} {F : Nat → Prop} {w : World} {g cap n i : Nat} {zs : List Int} {zss : List (List Int)} (h : Own2 t e k F w (.slice (some ⟨g, 0, none⟩) n cap) zss) (hi : zss[i]? = some zs) :
    ∃ u, w.cell? ⟨g, i, none⟩ = some u ∧ Own e k 0 w u zs ∧ In F u ∧ ∀ w1 zs', KeptF (fun b => u.ownBlock = some b) w w1 → Own e k 0 w1 u zs' → Own2 t e k F w1 (.slice (some ⟨g, 0, none⟩) n cap) (zss.set i zs') := by
  obtain ⟨us, e1, h1, h2, h3, h4⟩ := h
  have hi' : i < us.length := by have := (List.getElem?_eq_some_iff.1 hi).1; omega
  have hu := List.getElem?_eq_getElem hi'
  obtain ⟨o1, o2, o3⟩ := h3 i _ zs hu hi
  have hlen : us.length = n := by
    rcases h1.2 with ⟨h, _⟩ | ⟨g', cap', cur, h, _⟩
    · injection h with q1 q2 q3; cases q1
    · injection h with q1 q2 q3; exact q2.symm
  refine ⟨us[i], ?_, o1, o2, fun w1 zs' hk ho => ⟨us, by rw [List.length_set]; exact e1, ownsRow_of_block h1 fun r hr => hk.block r (h1.lt r hr).2 fun e => o3 r e hr, h2, fun j y z hy hz => ?_, h4⟩⟩
  · rw [hlen] at h1
    rw [World.ownsRow.cellAt h1 i (by omega)]
    exact hu
  · by_cases hij : i = j
    · subst hij
      rw [List.getElem?_set_self (by have := (List.getElem?_eq_some_iff.1 hi).1; omega)] at hz
      injection hz with hz
      subst hz
      rw [hu] at hy
      injection hy with hy
      subst hy
      exact ⟨ho, o2, o3⟩
    · rw [List.getElem?_set_ne hij] at hz
      obtain ⟨p1, p2, p3⟩ := h3 j y z hy hz
      refine ⟨p1.keptF hk fun r hr he => ?_, p2, p3⟩
      rcases Nat.lt_or_gt_of_ne hij with hlt' | hgt
      · exact h4 i j _ _ hlt' hu hy r he hr
      · exact h4 j i _ _ hgt hy hu r hr he

end Go.Proofs.Ytckhmjdhdoomdaa
