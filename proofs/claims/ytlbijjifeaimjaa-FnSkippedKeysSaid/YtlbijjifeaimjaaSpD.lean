/- Keys of a map of integers collected in whatever order, and sorted; a row of the call's own behind the sort. No program; no conditions but those that are named. Maps of serial numbers and the lists that they stand for; what is left when numbers are struck. Pure; no conditions but those that are named. -/
import Derived.Test.YtlbijjifeaimjaaSpN
import Derived.Test.YtlbijjifeaimjaaBa1
import Derived.Maps.Own
import Derived.Maps.RangeWalk
import Derived.Maps.Views
import Derived.Maps.OwnSet
import Derived.Sort.OwnSortedInts
import Derived.Test.YtlbijjifeaimjaaMb4

/-! SpM -/
namespace Go.Proofs.Ytlbijjifeaimjaa
open Go Go.RowKit Go.Maps Go.Sort
set_option linter.unusedVariables false

theorem nodup_len {ss L : List Int} (hn : ss.Nodup) (hs : ∀ x ∈ ss, x ∈ L) : ss.length ≤ L.length := by
  induction ss generalizing L with
  | nil => exact Nat.zero_le _
  | cons a t ih =>
    rw [List.nodup_cons] at hn
    have ha := hs a (by simp)
    have h1 := ih (L := L.erase a) hn.2 (fun x hx => (List.mem_erase_of_ne (by intro e; subst e; exact hn.1 hx)).2 (hs x (by simp [hx])))
    have h2 := List.length_erase_of_mem ha
    have h3 := List.length_pos_of_mem ha
    simp only [List.length_cons]
    omega
/-- What has been met so far: no key twice, and just those that are no longer to come. -/
def CollI {H : Type} (D : DataW H) (left : Lit → Bool) (ss : List Int) : Prop :=
  ss.Nodup ∧ ∀ x, x ∈ ss ↔ Maps.has D (.int .i64 x) = true ∧ left (.int .i64 x) = false
section
variable {H : Type} {D : DataW H} {left : Lit → Bool} {ss : List Int}
theorem CollI.start (D : DataW H) : CollI D (Maps.has D) [] :=
  ⟨List.nodup_nil, fun x => by cases Maps.has D (.int .i64 x) <;> simp⟩
theorem CollI.step (h : CollI D left ss) {x : Int} {y : DataW H} (hl : left (.int .i64 x) = true) (hat : ∀ z, D.atKey (.int .i64 x) z = y) : CollI D (fun z => left z && !z.sameKey (.int .i64 x)) (ss ++ [x]) := by
  have h1 : Maps.has D (.int .i64 x) = true := has_true_of_atKey hat
  have h2 : x ∉ ss := fun hx => by
    have h3 := ((h.2 x).1 hx).2
    rw [hl] at h3
    cases h3
  refine ⟨List.nodup_append.2 ⟨h.1, by simp, fun a ha b hb => ?_⟩, fun z => ?_⟩
  · have hbx : b = x := by simpa using hb
    subst hbx
    exact fun e => h2 (e ▸ ha)
  · rw [List.mem_append, h.2 z]
    by_cases hz : z = x
    · subst hz
      simp [h1, hl, Lit.sameKey]
    · simp [hz, Lit.sameKey]
theorem CollI.full (h : CollI D left ss) (hl : ∀ z, left z = false) (x : Int) : x ∈ ss ↔ Maps.has D (.int .i64 x) = true := by
  rw [h.2 x, hl]; simp
theorem CollI.len (h : CollI D left ss) {L : List Int} (hD : ∀ x, Maps.has D (.int .i64 x) = true → x ∈ L) : ss.length ≤ L.length :=
  nodup_len h.1 (fun x hx => hD x ((h.2 x).1 hx).1)
end

/-- What is collected and sorted is the list that the map was made of, if that ascends. -/
theorem sorted_is {ss L : List Int} (hn : ss.Nodup) (hm : ∀ x, x ∈ ss ↔ x ∈ L) (hL : L.Pairwise (· < ·)) : ss.mergeSort (fun x y => decide (x ≤ y)) = L := by
  have hLn : L.Nodup := hL.imp (fun h => by omega)
  have hp : ss.Perm L := (List.perm_ext_iff_of_nodup hn hLn).2 hm
  have tr : ∀ a b c : Int, decide (a ≤ b) = true → decide (b ≤ c) = true → decide (a ≤ c) = true := fun a b c h1 h2 => by
    simp only [decide_eq_true_eq] at *; omega
  have to : ∀ a b : Int, (decide (a ≤ b) || decide (b ≤ a)) = true := fun a b => by
    simp only [Bool.or_eq_true, decide_eq_true_eq]; omega
  refine List.Perm.eq_of_pairwise (le := fun a b => decide (a ≤ b) = true) (fun a b _ _ h1 h2 => ?_) (List.pairwise_mergeSort tr to ss) (hL.imp (fun h => by simp only [decide_eq_true_eq]; omega)) ((List.mergeSort_perm ss _).trans hp)
  simp only [decide_eq_true_eq] at h1 h2
  omega
theorem sort_len (ss : List Int) : (ss.mergeSort (fun x y => decide (x ≤ y))).length = ss.length := (List.mergeSort_perm ss _).length_eq

/-- A row of the call's own, sorted in place. -/
theorem sort_own {e : TypeId} {B : Nat} {w : World} {v : Value} {zs : List Int} (h : Own e .i64 B w v zs) (hn : 0 < zs.length) :
    ∃ g cap, v = .slice (some ⟨g, 0, none⟩) zs.length cap ∧ Holds (Value.int .i64) w g 0 zs.toArray ∧ g < w.heap.size ∧ B ≤ g ∧
      ∀ (n : Nat) (os : Array Obj) (ts : List Int), ts.length = zs.length → (∀ t ∈ ts, t ∈ zs) →
        Own e .i64 B (grow (putRow (Value.int .i64) (Sort.ahead w n) g 0 ts.toArray) os) v ts ∧ w.grownBy (grow (putRow (Value.int .i64) (Sort.ahead w n) g 0 ts.toArray) os) (some g) := by
  obtain ⟨hw, hB, h1, h2⟩ := h
  rcases h2 with ⟨h0, h3⟩ | ⟨g, cap, cur, hv, hg, hb, hc, hcm, hsz, ht⟩
  · exfalso
    omega
  · subst hv
    have ht' : cur.toList.take zs.length = zs.map (Value.int .i64) := by rw [Nat.mul_one] at ht; exact ht
    have hlt := (Array.getElem?_eq_some_iff.1 hb).1
    refine ⟨g, cap, rfl, holds_of_blockI hb ht', hlt, hg, fun n os ts hl hts => ⟨?_, grownBy_sortedI _⟩⟩
    refine ⟨fun t ht => hw t (hts t ht), Nat.le_trans hB (grownBy_sortedI (n := n) (os := os) ts.toArray).size, ?_⟩
    have key := ownsRow_sortedI (n := n) (os := os) hl hg hb hc hcm hsz
    rw [← hl] at key ⊢
    exact key

end Go.Proofs.Ytlbijjifeaimjaa


/-! SpQ -/
namespace Go.Proofs.Ytlbijjifeaimjaa
open Go Go.RowKit Go.Maps Go.Sort
set_option linter.unusedVariables false
set_option maxRecDepth 20000
attribute [local irreducible] kh kid pwm tcm pw

/-- The map holds just the numbers of this list, no number twice. -/
def MapIs (D : DataW Unit) (L : List Int) : Prop :=
  Tidy D ∧ (∀ x, Maps.has D (.int .i64 x) = memS L x) ∧ Maps.size D = L.length
theorem nodup_cfn {zs : List Int} (h : zs.Nodup) : ∀ k, k ≤ zs.length → cfn zs k = 0
  | 0, _ => rfl
  | k + 1, hk => by
    have e : cfn zs (k + 1) = (if (zs.take k).contains (zs.getD k 0) = true then cfn zs k + 1 else cfn zs k) := rfl
    have hn : ¬ (zs.take k).contains (zs.getD k 0) = true := by
      intro hc
      rw [List.contains_iff_mem] at hc
      obtain ⟨i, hi, he⟩ := List.mem_iff_getElem.1 hc
      rw [List.length_take] at hi
      rw [List.getElem_take, List.getD_eq_getElem?_getD, List.getElem?_eq_getElem (by omega)] at he
      have hp : zs.Pairwise (· ≠ ·) := h
      rw [List.pairwise_iff_getElem] at hp
      exact hp i k (by omega) (by omega) (by omega) he
    rw [e, if_neg hn]
    exact nodup_cfn h k (by omega)
theorem okSl_nodup {zs : List Int} (h : okSl zs = true) : zs.Nodup := (okSl_iff.1 h).2.imp (fun h => by omega)
theorem MapIs.start {zs : List Int} (h : okSl zs = true) : MapIs (mset zs zs.length) zs := by
  refine ⟨tidy_setOf _ _ (mkeys_lit _ _), fun x => ?_, ?_⟩
  · rw [mset_has, List.take_length]; rfl
  · have := mset_size zs zs.length (Nat.le_refl _)
    rw [nodup_cfn (okSl_nodup h) _ (Nat.le_refl _)] at this
    exact this
theorem insS_memS (L : List Int) (n x : Int) : memS (insS L n) x = (memS L x || x == n) := by
  rw [Bool.eq_iff_iff, memS_iff, insS_mem, Bool.or_eq_true, memS_iff, beq_iff_eq]
  exact or_comm
theorem MapIs.put {D : DataW Unit} {L : List Int} (h : MapIs D L) {n : Int} (hn : memS L n = false) (d : DataW Unit) : MapIs (D.put (.int .i64 n) d) (insS L n) := by
  obtain ⟨ht, hh, hs⟩ := h
  refine ⟨ht.put (show WideAt.IsKeyLit (.int .i64 n) from trivial) d, fun x => ?_, ?_⟩
  · rw [insS_memS]
    by_cases hx : x = n
    · subst hx
      rw [has_put_same ht.isMap (show WideAt.IsKeyLit (.int .i64 x) from trivial)]; simp
    · rw [has_put_other (by intro e; injection e with _ e; exact hx e), hh]
      have : (x == n) = false := beq_eq_false_iff_ne.2 hx
      rw [this, Bool.or_false]
  · rw [size_put ht, hh, hn, insS_len, hs]; rfl

/-- Numbers struck, one after the other. -/
def delL (D : DataW Unit) (zs : List Int) : DataW Unit := zs.foldl (fun m z => m.del (.int .i64 z)) D
theorem delL_nil (D : DataW Unit) : delL D [] = D := rfl
theorem delL_take {D : DataW Unit} {zs : List Int} {j : Nat} (h : j < zs.length) : delL D (zs.take (j + 1)) = (delL D (zs.take j)).del (.int .i64 (zs.getD j 0)) := by
  unfold delL
  rw [List.take_add_one, List.getElem?_eq_getElem h, List.foldl_append, List.getD_eq_getElem?_getD, List.getElem?_eq_getElem h]
  rfl
def keepL (zs : List Int) (p : Lit × DataW Unit) : Bool := !zs.any (fun z => p.1.sameKey (.int .i64 z))
theorem delL_map (es : List (Lit × DataW Unit)) (zs : List Int) : delL (.map es) zs = .map (es.filter (keepL zs)) := by
  induction zs generalizing es with
  | nil =>
    show DataW.map es = _
    congr 1
    exact (List.filter_eq_self.2 (fun p _ => rfl)).symm
  | cons z r ih =>
    show delL (.map (es.filter fun p => !p.1.sameKey (.int .i64 z))) r = _
    rw [ih, List.filter_filter]
    congr 1
    apply List.filter_congr
    intro p _
    unfold keepL
    rw [List.any_cons, Bool.not_or, Bool.and_comm]
theorem keepL_key {zs : List Int} {p : Lit × DataW Unit} {y : Int} (h : p.1.sameKey (.int .i64 y) = true) : keepL zs p = !memS zs y := by
  have hp := WideAt.sameKey_eq h
  unfold keepL
  rw [hp]
  congr 1
  rw [Bool.eq_iff_iff, List.any_eq_true, memS_iff]
  constructor
  · rintro ⟨z, hz, he⟩
    have := WideAt.sameKey_eq he
    injection this with _ e
    exact e ▸ hz
  · intro hz
    exact ⟨y, hz, WideAt.sameKey_self (a := .int .i64 y) trivial⟩
theorem size_keep {es : List (Lit × DataW Unit)} (hp : es.Pairwise (fun p q => p.1 ≠ q.1)) (zs : List Int) (y : Int) (d : DataW Unit) :
    Maps.size (delL ((DataW.map es).put (.int .i64 y) d) zs) = Maps.size (delL (.map es) zs) + (if (!Maps.has (.map es) (.int .i64 y) && !memS zs y) = true then 1 else 0) := by
  have e1 : (DataW.map es).put (.int .i64 y) d = .map (DataW.insert (.int .i64 y, d) (es.filter fun p => !p.1.sameKey (.int .i64 y))) := rfl
  rw [e1, delL_map, delL_map]
  show ((DataW.insert (.int .i64 y, d) (es.filter fun p => !p.1.sameKey (.int .i64 y))).filter (keepL zs)).length = (es.filter (keepL zs)).length + _
  have e2 := ((WideShapes.insert_perm (.int .i64 y, d) (es.filter fun p => !p.1.sameKey (.int .i64 y))).filter (keepL zs)).length_eq
  rw [e2]
  have hk : keepL zs (.int .i64 y, d) = !memS zs y := keepL_key (WideAt.sameKey_self (a := .int .i64 y) trivial)
  have e3 : (es.filter fun p => !p.1.sameKey (.int .i64 y)).filter (keepL zs) = (es.filter (keepL zs)).filter fun p => !p.1.sameKey (.int .i64 y) := by
    rw [List.filter_filter, List.filter_filter]
    apply List.filter_congr
    intro p _
    rw [Bool.and_comm]
  have e4 := length_strike (k := .int .i64 y) (es.filter (keepL zs)) (hp.filter _)
  have e5 : (es.filter (keepL zs)).any (fun p => p.1.sameKey (.int .i64 y)) = (Maps.has (.map es) (.int .i64 y) && !memS zs y) := by
    rw [has_eq, Bool.eq_iff_iff, List.any_eq_true, Bool.and_eq_true, List.any_eq_true]
    constructor
    · rintro ⟨p, hm, hs⟩
      obtain ⟨h1, h2⟩ := List.mem_filter.1 hm
      exact ⟨⟨p, h1, hs⟩, by rw [← keepL_key hs]; exact h2⟩
    · rintro ⟨⟨p, hm, hs⟩, h2⟩
      exact ⟨p, List.mem_filter.2 ⟨hm, by rw [keepL_key hs]; exact h2⟩, hs⟩
  rw [e5] at e4
  rw [List.filter_cons, hk, e3]
  cases hm : memS zs y <;> cases hh : Maps.has (DataW.map es) (Lit.int .i64 y) <;> rw [hm, hh] at e4 <;> simp at e4 ⊢ <;> omega
/-- What is left of a budget. -/
theorem size_bud (zs ys : List Int) : ∀ k, k ≤ ys.length → Maps.size (delL (mset ys k) zs) = budL zs ys k
  | 0, _ => by
    rw [mset_zero, delL_map]; rfl
  | k + 1, hk => by
    have ih := size_bud zs ys k (by omega)
    obtain ⟨es, he, hp⟩ := tidy_setOf (.lit (.bool true) : DataW Unit) (mkeys ys k) (mkeys_lit ys k)
    have he' : mset ys k = .map es := he
    have hh := mset_has ys k (ys.getD k 0)
    rw [he'] at ih hh
    rw [mset_succ (by omega), he', size_keep hp, ih, hh]
    rfl
theorem delL_tidy {D : DataW Unit} (h : Tidy D) (zs : List Int) : Tidy (delL D zs) := by
  induction zs generalizing D with
  | nil => exact h
  | cons z r ih => exact ih (h.del _)

/-- Elements that are bools. -/
theorem plainElem_bool_inv {P : Program} {e : TypeId} (he : P.underlying e = some .bool) {v : Value} {z : DataW Unit × List MemPlace} (h : plainElem P e v = some z) : ∃ c, v = .bool c ∧ z = (.lit (.bool c), []) := by
  unfold plainElem at h
  rw [he] at h
  cases v <;> simp at h
  exact ⟨_, rfl, h.symm⟩
theorem lookup_bool {P : Program} {w : World} {k t e : TypeId} {b n : Nat} {D : DataW Unit} (h : w.ownsMap P k (plainElem P e) b n D) (K : Keyed P k) (ht : P.underlying t = some (.map k e)) (he : P.underlying e = some .bool) (hz : (zeroValue e).run P w = .ok (.bool false) w)
    {key : Value} {kl : Lit} (hkey : keyOf P k key = some kl) : ∃ c, (Instr.lookup t (.map (some b)) key false).run P w = .ok (.bool c) w ∧ D.atKey kl (.lit (.bool false)) = .lit (.bool c) := by
  obtain ⟨v, ps, hrun, hv⟩ := h.lookup K ht hz (plainElem_bool he false) hkey
  obtain ⟨c, rfl, hc⟩ := plainElem_bool_inv he hv
  simp only [Prod.mk.injEq] at hc
  exact ⟨c, hrun, hc.1⟩
/-- All elements are true: what is looked up is whether the key is there. -/
def AllT (D : DataW Unit) : Prop := ∀ kl, Maps.has D kl = true → ∀ z, D.atKey kl z = .lit (.bool true)
theorem AllT.at {D : DataW Unit} (h : AllT D) {kl : Lit} {c : Bool} (hc : D.atKey kl (.lit (.bool false)) = .lit (.bool c)) : c = Maps.has D kl := by
  cases hh : Maps.has D kl with
  | true =>
    rw [h kl hh] at hc
    injection hc with hc
    injection hc with hc
    exact hc.symm
  | false =>
    rw [atKey_of_not_has hh] at hc
    injection hc with hc
    injection hc with hc
    exact hc.symm
theorem AllT.put {D : DataW Unit} (h : AllT D) (hD : IsMap D) {k : Lit} (hk : WideAt.IsKeyLit k) : AllT (D.put k (.lit (.bool true))) := by
  intro kl hh z
  by_cases e : kl = k
  · subst e
    exact atKey_put_same hD hk _ _
  · rw [has_put_other e] at hh
    rw [atKey_put_other e]
    exact h kl hh z
theorem AllT.mset (zs : List Int) : ∀ k, k ≤ zs.length → AllT (mset zs k)
  | 0, _ => by
    rw [mset_zero]
    intro kl hh
    cases hh
  | k + 1, hk => by
    rw [mset_succ (by omega)]
    exact (AllT.mset zs k (by omega)).put (tidy_setOf _ _ (mkeys_lit zs k)).isMap (show WideAt.IsKeyLit (.int .i64 _) from trivial)

theorem wpList_lookup_own_bool {P : Program} (w : World) {ops : Array Oper} {rest : List Oper} {o : Oper} {a : Act} {Q : Exit → Act → World → Prop}
    (hg : o.guard = none) (m x : Operand) (t : TypeId) (hop : o.op = Op.lookup t m x false)
    (k e : TypeId) (K : Keyed P k) (ht : P.underlying t = some (.map k e)) (he : P.underlying e = some .bool) (hz : (zeroValue e).run P w = .ok (.bool false) w) (b n : Nat) (D : DataW Unit) (hA : AllT D)
    (hm : a.eval m = .map (some b)) (hown : w.ownsMap P k (plainElem P e) b n D) (key : Value) (kl : Lit) (hx : a.eval x = key) (hkey : keyOf P k key = some kl)
    (hK : wpList P ops Q rest (a.put o.dst (.bool (Maps.has D kl))) w) :
    wpList P ops Q (o :: rest) a w := by
  refine wpList_plain hg fun K' hK' => ?_
  obtain ⟨c, hrun, hat⟩ := lookup_bool hown K ht he hz hkey
  unfold Oper.wp
  simp [execOp, hop, hm, hx, hrun, Result.andThen]
  rw [← hA.at hat] at hK
  exact hK' _ _ hK

/-- What a merge leaves, one number on. -/
theorem mg_step {zs ys : List Int} (hz : okSl zs = true) (hy : okSl ys = true) (hl : zs.length ≤ 40) {j : Nat} (hj : j < ys.length) :
    memS (mgs zs (ys.take j)).1 (ys.getD j 0) = memS zs (ys.getD j 0) := by
  obtain ⟨h1, h2, h3, h4, h5⟩ := mgs_inv hz hy hl j (by omega)
  rw [Bool.eq_iff_iff, memS_iff, memS_iff]
  constructor
  · intro h
    rcases h3 _ h with h | h
    · exact h
    · exfalso
      obtain ⟨i, hi, he⟩ := List.mem_iff_getElem.1 h
      rw [List.length_take] at hi
      have hp := (okSl_iff.1 hy).2
      rw [List.pairwise_iff_getElem] at hp
      have := hp i j (by omega) (by omega) (by omega)
      rw [List.getElem_take, List.getD_eq_getElem?_getD, List.getElem?_eq_getElem hj] at he
      have he' : ys[i] = ys[j] := he
      omega
  · exact h2 _

end Go.Proofs.Ytlbijjifeaimjaa
