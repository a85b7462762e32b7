/- Values of any type made of integers, structs and slices: as they are read, and those that a call made itself. No program. -/
import Derived.Test.YtngdcnocjgibkaaBaS
import Derived.Test.YtngdcnocjgibkaaJ3
namespace Go.Proofs.Ytngdcnocjgibkaa
open Go Go.RowKit
set_option linter.unusedVariables false

/-- How the values of a type lie in memory: 'rd l w cs x': the cells cs read x, all that they lead to lies below block l; 'own F w cs x': they read x, all that they lead to is the call's own, lies in F, and no two parts share a block.
'mrk k x': x with marks from k on, as an element of a slice; 'vmrk k x': as a value of its own; 'cnt', 'vcnt': how many marks; 'tot': what the exact laws count. -/
structure Ty (α : Type) where
  sz : Nat
  rd : Nat → World → List Value → α → Prop
  own : (Nat → Prop) → World → List Value → α → Prop
  mrk : Int → α → α
  vmrk : Int → α → α
  cnt : α → Nat
  vcnt : α → Nat
  tot : α → Nat
  zero : α
  zc : List Value
  pos : 0 < sz
  len : ∀ {l : Nat} {w : World} {cs : List Value} {x : α}, rd l w cs x → cs.length = sz
  one : ∀ {l : Nat} {w : World} {cs : List Value} {x : α}, rd l w cs x → ∀ u ∈ cs, u.oneCell' = true
  mono : ∀ {l l' : Nat} {w : World} {cs : List Value} {x : α}, rd l w cs x → l ≤ l' → rd l' w cs x
  behind : ∀ {l : Nat} {w w' : World} {cs : List Value} {x : α}, rd l w cs x → Below l w w' → rd l w' cs x
  omono : ∀ {F G : Nat → Prop} {w : World} {cs : List Value} {x : α}, own F w cs x → (∀ b, F b → G b) → own G w cs x
  okept : ∀ {F G : Nat → Prop} {w w' : World} {cs : List Value} {x : α}, own F w cs x → KeptF G w w' → (∀ b, F b → ¬ G b) → own F w' cs x
  ord : ∀ {F : Nat → Prop} {w : World} {cs : List Value} {x : α}, own F w cs x → rd w.heap.size w cs x
  ozero : ∀ (F : Nat → Prop) (w : World), own F w zc zero
  cnt_mrk : ∀ (k : Int) (x : α), cnt (mrk k x) = cnt x
  vcnt_vmrk : ∀ (k : Int) (x : α), vcnt (vmrk k x) = vcnt x

section
variable {α : Type} {T : Ty α} {F G : Nat → Prop} {w w' : World} {cs : List Value} {x : α} {l : Nat}
theorem Ty.olen (T : Ty α) (h : T.own F w cs x) : cs.length = T.sz := T.len (T.ord h)
theorem Ty.oone (T : Ty α) (h : T.own F w cs x) : ∀ u ∈ cs, u.oneCell' = true := T.one (T.ord h)
theorem Ty.drew (T : Ty α) (h : T.rd l w cs x) : T.rd l w.drew cs x := T.behind h (Below.refl _ _).drew
/-- Behind a call that leaves all there was. -/
theorem Ty.onext (T : Ty α) (h : T.own F w cs x) (hb : Below w.heap.size w w') : T.own F w' cs x := T.okept (G := fun _ => False) h (KeptF.of_below hb) (fun _ _ h => h)
theorem Ty.odrew (T : Ty α) (h : T.own F w cs x) : T.own F w.drew cs x := T.onext h (Below.refl _ _).drew
theorem Ty.oalloc (T : Ty α) (h : T.own F w cs x) (o : Obj) : T.own F (w.alloc o) cs x := T.onext h ((Below.refl _ _).alloc (Nat.le_refl _) _)
end

theorem sizeSet (w : World) (p : Addr) (u : Value) : (w.setCell p u).heap.size = w.heap.size := by simp [World.setCell]

theorem blocks2T (w : World) (o1 o2 : Obj) : ((w.alloc o1).alloc o2).heap[w.heap.size]? = some o1 ∧ ((w.alloc o1).alloc o2).heap[w.heap.size + 1]? = some o2 := by
  refine ⟨(heap_alloc_old _ _ (by simp)).trans (heap_alloc_new w _), ?_⟩
  have := heap_alloc_new (w.alloc o1) o2
  rwa [World.size_alloc] at this
theorem blocks3T (w : World) (o1 o2 o3 : Obj) : (((w.alloc o1).alloc o2).alloc o3).heap[w.heap.size]? = some o1 ∧ (((w.alloc o1).alloc o2).alloc o3).heap[w.heap.size + 1]? = some o2 ∧ (((w.alloc o1).alloc o2).alloc o3).heap[w.heap.size + 1 + 1]? = some o3 := by
  have h1 := blocks2T w o1 o2
  refine ⟨(heap_alloc_old _ _ (by simp; omega)).trans h1.1, (heap_alloc_old _ _ (by simp)).trans h1.2, ?_⟩
  have := heap_alloc_new ((w.alloc o1).alloc o2) o3
  rwa [World.size_alloc, World.size_alloc] at this

/-! ### An integer -/

theorem oneCell_int (k : IntKind) (n : Int) : (Value.int k n).oneCell' = true := rfl

def intT (k : IntKind) (f : Int → Int) (hz : (Lit.int k 0).wf = true) : Ty Int where
  sz := 1
  rd _ _ cs n := cs = [.int k n] ∧ (Lit.int k n).wf = true
  own _ _ cs n := cs = [.int k n] ∧ (Lit.int k n).wf = true
  mrk k0 _ := f k0
  vmrk _ n := n
  cnt _ := 1
  vcnt _ := 0
  tot _ := 0
  zero := 0
  zc := [.int k 0]
  pos := by decide
  len h := by rw [h.1]; rfl
  one h u hu := by rw [h.1] at hu; simp at hu; subst hu; rfl
  mono h _ := h
  behind h _ := h
  omono h _ := h
  okept h _ _ := h
  ord h := h
  ozero _ _ := ⟨rfl, hz⟩
  cnt_mrk _ _ := rfl
  vcnt_vmrk _ _ := rfl

def i64T : Ty Int := intT .i64 (fun k => k) (by decide)
def u8T : Ty Int := intT .u8 (fun k => k % 256) (by decide)

/-! ### One behind the other: the fields of a struct -/

section
variable {α β : Type}

def consT (A : Ty α) (B : Ty β) : Ty (α × β) where
  sz := A.sz + B.sz
  rd l w cs p := cs.length = A.sz + B.sz ∧ A.rd l w (cs.take A.sz) p.1 ∧ B.rd l w (cs.drop A.sz) p.2
  own F w cs p := cs.length = A.sz + B.sz ∧ ∃ F1 F2 : Nat → Prop, A.own F1 w (cs.take A.sz) p.1 ∧ B.own F2 w (cs.drop A.sz) p.2 ∧ (∀ b, F1 b → F b ∧ ¬ F2 b) ∧ ∀ b, F2 b → F b
  mrk k p := (A.mrk k p.1, B.mrk (k + A.cnt p.1) p.2)
  vmrk k p := (A.vmrk k p.1, B.vmrk (k + A.vcnt p.1) p.2)
  cnt p := A.cnt p.1 + B.cnt p.2
  vcnt p := A.vcnt p.1 + B.vcnt p.2
  tot p := A.tot p.1 + B.tot p.2
  zero := (A.zero, B.zero)
  zc := A.zc ++ B.zc
  pos := by have := A.pos; omega
  len h := h.1
  one h u hu := by
    rename_i l w cs x
    rw [← List.take_append_drop A.sz cs] at hu
    rcases List.mem_append.1 hu with hu | hu
    · exact A.one h.2.1 u hu
    · exact B.one h.2.2 u hu
  mono h hl := ⟨h.1, A.mono h.2.1 hl, B.mono h.2.2 hl⟩
  behind h hb := ⟨h.1, A.behind h.2.1 hb, B.behind h.2.2 hb⟩
  omono h hFG := by
    obtain ⟨h0, F1, F2, h1, h2, h3, h4⟩ := h
    exact ⟨h0, F1, F2, h1, h2, fun b hb => ⟨hFG b (h3 b hb).1, (h3 b hb).2⟩, fun b hb => hFG b (h4 b hb)⟩
  okept h hk hd := by
    obtain ⟨h0, F1, F2, h1, h2, h3, h4⟩ := h
    exact ⟨h0, F1, F2, A.okept h1 hk fun b hb => hd b (h3 b hb).1, B.okept h2 hk fun b hb => hd b (h4 b hb), h3, h4⟩
  ord h := by
    obtain ⟨h0, F1, F2, h1, h2, h3, h4⟩ := h
    exact ⟨h0, A.ord h1, B.ord h2⟩
  ozero F w := by
    have e1 : A.zc.length = A.sz := A.olen (A.ozero F w)
    have e2 : B.zc.length = B.sz := B.olen (B.ozero F w)
    refine ⟨by rw [List.length_append, e1, e2], fun _ => False, fun _ => False, ?_, ?_, fun _ h => h.elim, fun _ h => h.elim⟩
    · rw [List.take_left' e1]; exact A.ozero _ w
    · rw [List.drop_left' e1]; exact B.ozero _ w
  cnt_mrk k p := by simp only [A.cnt_mrk, B.cnt_mrk]
  vcnt_vmrk k p := by simp only [A.vcnt_vmrk, B.vcnt_vmrk]

/-- An integer ahead. -/
def intC (k : IntKind) (f : Int → Int) (hz : (Lit.int k 0).wf = true) (B : Ty β) : Ty (Int × β) where
  sz := B.sz + 1
  rd l w cs p := ∃ r, cs = .int k p.1 :: r ∧ (Lit.int k p.1).wf = true ∧ B.rd l w r p.2
  own F w cs p := ∃ r, cs = .int k p.1 :: r ∧ (Lit.int k p.1).wf = true ∧ B.own F w r p.2
  mrk k0 p := (f k0, B.mrk (k0 + 1) p.2)
  vmrk k0 p := (p.1, B.vmrk k0 p.2)
  cnt p := B.cnt p.2 + 1
  vcnt p := B.vcnt p.2
  tot p := B.tot p.2
  zero := (0, B.zero)
  zc := .int k 0 :: B.zc
  pos := by omega
  len h := by obtain ⟨r, rfl, _, h⟩ := h; rw [List.length_cons, B.len h]
  one h u hu := by
    obtain ⟨r, rfl, _, h⟩ := h
    rcases List.mem_cons.1 hu with rfl | hu
    · rfl
    · exact B.one h u hu
  mono h hl := by obtain ⟨r, h1, h2, h⟩ := h; exact ⟨r, h1, h2, B.mono h hl⟩
  behind h hb := by obtain ⟨r, h1, h2, h⟩ := h; exact ⟨r, h1, h2, B.behind h hb⟩
  omono h hFG := by obtain ⟨r, h1, h2, h⟩ := h; exact ⟨r, h1, h2, B.omono h hFG⟩
  okept h hk hd := by obtain ⟨r, h1, h2, h⟩ := h; exact ⟨r, h1, h2, B.okept h hk hd⟩
  ord h := by obtain ⟨r, h1, h2, h⟩ := h; exact ⟨r, h1, h2, B.ord h⟩
  ozero F w := ⟨_, rfl, hz, B.ozero F w⟩
  cnt_mrk k0 p := by simp only [B.cnt_mrk]
  vcnt_vmrk k0 p := by simp only [B.vcnt_vmrk]
def iC (B : Ty β) : Ty (Int × β) := intC .i64 (fun k => k) (by decide) B

variable {B : Ty β} {F : Nat → Prop} {w w' : World} {cs : List Value} {l : Nat}
theorem rd_int {p : Int × β} (h : (iC B).rd l w cs p) : ∃ r, cs = .int .i64 p.1 :: r ∧ (Lit.int .i64 p.1).wf = true ∧ B.rd l w r p.2 := h
theorem own_int {p : Int × β} (h : (iC B).own F w cs p) : ∃ r, cs = .int .i64 p.1 :: r ∧ (Lit.int .i64 p.1).wf = true ∧ B.own F w r p.2 := h
theorem int_rd {p : Int × β} {r : List Value} (hn : (Lit.int .i64 p.1).wf = true) (h : B.rd l w r p.2) : (iC B).rd l w (.int .i64 p.1 :: r) p := ⟨r, rfl, hn, h⟩
theorem int_own {p : Int × β} {r : List Value} (hn : (Lit.int .i64 p.1).wf = true) (h : B.own F w r p.2) : (iC B).own F w (.int .i64 p.1 :: r) p := ⟨r, rfl, hn, h⟩
end

/-! Anything of one cell, or a struct, ahead. -/
section
variable {α β : Type} {A : Ty α} {B : Ty β} {F : Nat → Prop} {w w' : World} {cs : List Value} {l : Nat}
theorem rd_st {p : α × β} (h : (consT A B).rd l w cs p) : ∃ c r, cs = c ++ r ∧ A.rd l w c p.1 ∧ B.rd l w r p.2 :=
  ⟨_, _, (List.take_append_drop A.sz cs).symm, h.2.1, h.2.2⟩
theorem own_st {p : α × β} (h : (consT A B).own F w cs p) : ∃ (c r : List Value) (F1 F2 : Nat → Prop), cs = c ++ r ∧ A.own F1 w c p.1 ∧ B.own F2 w r p.2 ∧ (∀ b, F1 b → F b) ∧ (∀ b, F2 b → F b) ∧ ∀ b, F1 b → ¬ F2 b := by
  obtain ⟨h0, F1, F2, h1, h2, h3, h4⟩ := h
  exact ⟨_, _, F1, F2, (List.take_append_drop A.sz cs).symm, h1, h2, fun b hb => (h3 b hb).1, h4, fun b hb => (h3 b hb).2⟩
theorem st_rd {p : α} {q : β} {c r : List Value} (h1 : A.rd l w c p) (h2 : B.rd l w r q) : (consT A B).rd l w (c ++ r) (p, q) := by
  have e := A.len h1
  exact ⟨by rw [List.length_append, e, B.len h2], by rw [List.take_left' e]; exact h1, by rw [List.drop_left' e]; exact h2⟩
theorem st_own {F1 F2 : Nat → Prop} {p : α} {q : β} {c r : List Value} (h1 : A.own F1 w c p) (h2 : B.own F2 w r q) (hd : ∀ b, F1 b → ¬ F2 b) : (consT A B).own (fun b => F1 b ∨ F2 b) w (c ++ r) (p, q) := by
  have e := A.olen h1
  exact ⟨by rw [List.length_append, e, B.olen h2], F1, F2, by rw [List.take_left' e]; exact h1, by rw [List.drop_left' e]; exact h2, fun b hb => ⟨.inl hb, hd b hb⟩, fun b hb => .inr hb⟩
end

/-! ### A slice -/

section
variable {α : Type}

theorem flatten_len {css : List (List Value)} {z : Nat} (hz : ∀ c ∈ css, c.length = z) : css.flatten.length = css.length * z := by
  induction css with
  | nil => simp
  | cons c l ih => rw [List.flatten_cons, List.length_append, ih (fun c hc => hz c (List.mem_cons_of_mem _ hc)), hz c (List.mem_cons_self), List.length_cons, Nat.add_mul, Nat.one_mul, Nat.add_comm]
theorem flatten_get {css : List (List Value)} {z i j : Nat} {c : List Value} (hz : ∀ c ∈ css, c.length = z) (hi : css[i]? = some c) (hj : j < z) : css.flatten[i * z + j]? = c[j]? := by
  induction css generalizing i with
  | nil => simp at hi
  | cons y l ih =>
    have hy := hz y (List.mem_cons_self)
    rw [List.flatten_cons]
    cases i with
    | zero =>
      have : y = c := by simpa using hi
      subst this
      rw [List.getElem?_append_left (by omega)]
      simp
    | succ i =>
      have hi' : l[i]? = some c := by simpa using hi
      rw [List.getElem?_append_right (by rw [hy, Nat.add_mul]; omega), hy, ← ih (fun c hc => hz c (List.mem_cons_of_mem _ hc)) hi']
      congr 1
      rw [Nat.add_mul, Nat.one_mul]; omega
theorem flatten_set {css : List (List Value)} {z i j : Nat} {c : List Value} {u : Value} (hz : ∀ c ∈ css, c.length = z) (hi : css[i]? = some c) (hj : j < z) : (css.set i (c.set j u)).flatten = css.flatten.set (i * z + j) u := by
  induction css generalizing i with
  | nil => simp at hi
  | cons y l ih =>
    have hy := hz y (List.mem_cons_self)
    cases i with
    | zero =>
      have : y = c := by simpa using hi
      subst this
      rw [List.set_cons_zero, List.flatten_cons, List.flatten_cons, List.set_append_left _ _ (by omega)]
      simp
    | succ i =>
      have hi' : l[i]? = some c := by simpa using hi
      rw [List.set_cons_succ, List.flatten_cons, List.flatten_cons, ih (fun c hc => hz c (List.mem_cons_of_mem _ hc)) hi', List.set_append_right _ _ (by rw [hy, Nat.add_mul]; omega), hy]
      congr 2
      rw [Nat.add_mul, Nat.one_mul]; omega

def mkL (T : Ty α) (k : Int) : List α → List α
  | [] => []
  | x :: r => T.mrk k x :: mkL T (k + T.cnt x) r
def cntL (T : Ty α) (xs : List α) : Nat := (xs.map T.cnt).sum
def totL (T : Ty α) (xs : List α) : Nat := xs.length + (xs.map T.tot).sum

theorem mkL_len (T : Ty α) (k : Int) (xs : List α) : (mkL T k xs).length = xs.length := by
  induction xs generalizing k with
  | nil => rfl
  | cons x l ih => simp [mkL, ih]
theorem cntL_mkL (T : Ty α) (k : Int) (xs : List α) : cntL T (mkL T k xs) = cntL T xs := by
  induction xs generalizing k with
  | nil => rfl
  | cons x l ih =>
    have := ih (k + T.cnt x)
    simp only [cntL, mkL, List.map_cons, List.sum_cons, T.cnt_mrk] at this ⊢
    omega
theorem cntL_append (T : Ty α) (xs ys : List α) : cntL T (xs ++ ys) = cntL T xs + cntL T ys := by simp [cntL, List.sum_append]
theorem mkL_append (T : Ty α) (k : Int) (xs ys : List α) : mkL T k (xs ++ ys) = mkL T k xs ++ mkL T (k + cntL T xs) ys := by
  induction xs generalizing k with
  | nil => simp [mkL, cntL]
  | cons x l ih => simp [mkL, ih, cntL, Int.add_assoc]
theorem cntL_take {T : Ty α} {xs : List α} {j : Nat} {x : α} (h : xs[j]? = some x) : cntL T (xs.take (j + 1)) = cntL T (xs.take j) + T.cnt x := by
  obtain ⟨l, r, rfl, rfl⟩ := split_at h
  rw [List.take_left' rfl, take_mid, cntL_append]
  simp [cntL]
theorem cntL_take_le (T : Ty α) (xs : List α) (j : Nat) : cntL T (xs.take j) ≤ cntL T xs := by
  conv => rhs; rw [← List.take_append_drop j xs, cntL_append]
  omega
theorem mkL_get {T : Ty α} {k : Int} {xs : List α} {j : Nat} {x : α} (h : xs[j]? = some x) : (mkL T k xs)[j]? = some (T.mrk (k + cntL T (xs.take j)) x) := by
  obtain ⟨l, r, rfl, rfl⟩ := split_at h
  rw [mkL_append, List.getElem?_append_right (by rw [mkL_len]; exact Nat.le_refl _), mkL_len, List.take_left' rfl]
  simp [mkL]
theorem mkL_set {T : Ty α} {k : Int} {xs : List α} {j : Nat} {x : α} (h : xs[j]? = some x) :
    (mkL T k (xs.take j) ++ xs.drop j).set j (T.mrk (k + cntL T (xs.take j)) x) = mkL T k (xs.take (j + 1)) ++ xs.drop (j + 1) := by
  obtain ⟨l, r, rfl, rfl⟩ := split_at h
  rw [List.take_left' rfl, List.drop_left' rfl, List.set_append_right _ _ (by rw [mkL_len]; exact Nat.le_refl _), mkL_len, Nat.sub_self, List.set_cons_zero]
  have e1 : List.take (l.length + 1) (l ++ x :: r) = l ++ [x] := take_mid l r x
  have e2 : List.drop (l.length + 1) (l ++ x :: r) = r := drop_mid l r x
  rw [e1, e2, mkL_append]
  simp [mkL]
theorem totL_take {T : Ty α} {xs : List α} {j : Nat} {x : α} (h : xs[j]? = some x) : totL T (xs.take (j + 1)) = totL T (xs.take j) + 1 + T.tot x := by
  obtain ⟨l, r, rfl, rfl⟩ := split_at h
  rw [List.take_left' rfl, take_mid]
  simp [totL, List.sum_append]; omega
/-- What is still to be counted behind the length. -/
def etot (T : Ty α) (xs : List α) : Nat := (xs.map T.tot).sum
theorem totL_eq (T : Ty α) (xs : List α) : totL T xs = xs.length + etot T xs := rfl
theorem etot_take {T : Ty α} {xs : List α} {j : Nat} {x : α} (h : xs[j]? = some x) : etot T (xs.take (j + 1)) = etot T (xs.take j) + T.tot x := by
  obtain ⟨l, r, rfl, rfl⟩ := split_at h
  rw [List.take_left' rfl, take_mid]
  simp [etot, List.sum_append]
theorem etot_le (T : Ty α) (xs : List α) (j : Nat) : etot T (xs.take j) ≤ etot T xs := by
  conv => rhs; rw [← List.take_append_drop j xs]
  simp only [etot, List.map_append, List.sum_append]
  omega

theorem totL_flat {T : Ty α} (h : ∀ x, T.tot x = 0) (xs : List α) : totL T xs = xs.length := by
  have : (xs.map T.tot).sum = 0 := by
    induction xs with
    | nil => rfl
    | cons x r ih => rw [List.map_cons, List.sum_cons, h, ih]
  rw [totL, this]; rfl
theorem fillT_set {zs : List α} {j : Nat} {z y : α} (h : zs[j]? = some y) : (zs.take j ++ List.replicate (zs.length - j) z).set j y = zs.take (j + 1) ++ List.replicate (zs.length - (j + 1)) z := by
  obtain ⟨l, r, rfl, rfl⟩ := split_at h
  have e0 : (l ++ y :: r).length - l.length = r.length + 1 := by simp
  have e3 : (l ++ y :: r).length - (l.length + 1) = r.length := by simp; omega
  have e1 : List.take (l.length + 1) (l ++ y :: r) = l ++ [y] := take_mid l r y
  rw [e0, e3, e1, List.take_left' rfl, List.set_append_right _ _ (Nat.le_refl _), Nat.sub_self, List.replicate_succ, List.set_cons_zero]
  simp
theorem fillT_get {zs : List α} {j : Nat} {z : α} (h : j < zs.length) : (zs.take j ++ List.replicate (zs.length - j) z)[j]? = some z := by
  rw [List.getElem?_append_right (by simp; omega), List.length_take, Nat.min_eq_left (by omega), Nat.sub_self, List.getElem?_replicate]
  rw [if_pos (by omega)]

def sliceT (e : TypeId) (T : Ty α) : Ty (List α) where
  sz := 1
  rd l w cs xs := ∃ a cap, cs = [.slice a xs.length cap] ∧ xs.length ≤ cap ∧ cap ≤ maxLen ∧
    ((a = none ∧ cap = 0) ∨ ∃ p, a = some p ∧ (p.block < l ∨ xs.length = 0) ∧ ∀ (i : Nat) (x : α), xs[i]? = some x → ∃ c, T.rd l w c x ∧ ∀ (j : Nat) (u : Value), c[j]? = some u → w.cell? (p.add (i * T.sz + j)) = some u)
  own F w cs xs := ∃ (v : Value) (css : List (List Value)) (Fs : Nat → Nat → Prop), cs = [v] ∧ css.length = xs.length ∧ w.ownsRow 0 e T.sz v xs.length css.flatten ∧ In F v ∧
    (∀ (i : Nat) (c : List Value) (x : α), css[i]? = some c → xs[i]? = some x → T.own (Fs i) w c x ∧ ∀ b, Fs i b → F b ∧ v.ownBlock ≠ some b) ∧ ∀ i j, i ≠ j → ∀ b, Fs i b → ¬ Fs j b
  mrk k xs := mkL T k xs
  vmrk k xs := mkL T k xs
  cnt xs := cntL T xs
  vcnt xs := cntL T xs
  tot xs := totL T xs
  zero := []
  zc := [.slice none 0 0]
  pos := by decide
  len h := by obtain ⟨a, cap, rfl, _⟩ := h; rfl
  one h u hu := by obtain ⟨a, cap, rfl, _⟩ := h; simp at hu; subst hu; rfl
  mono h hl := by
    obtain ⟨a, cap, h0, h1, h2, h3⟩ := h
    refine ⟨a, cap, h0, h1, h2, ?_⟩
    rcases h3 with h3 | ⟨p, h4, h5, h6⟩
    · exact .inl h3
    · refine .inr ⟨p, h4, by omega, fun i x hi => ?_⟩
      obtain ⟨c, q1, q2⟩ := h6 i x hi
      exact ⟨c, T.mono q1 hl, q2⟩
  behind h hb := by
    obtain ⟨a, cap, h0, h1, h2, h3⟩ := h
    refine ⟨a, cap, h0, h1, h2, ?_⟩
    rcases h3 with h3 | ⟨p, h4, h5, h6⟩
    · exact .inl h3
    · refine .inr ⟨p, h4, h5, fun i x hi => ?_⟩
      obtain ⟨c, q1, q2⟩ := h6 i x hi
      refine ⟨c, T.behind q1 hb, fun j u hu => ?_⟩
      rw [← q2 j u hu]
      have := (List.getElem?_eq_some_iff.1 hi).1
      exact hb.cell (p := p.add (i * T.sz + j)) (by rw [addr_add_block]; omega)
  omono h hFG := by
    obtain ⟨v, css, Fs, h0, h1, h2, h3, h4, h5⟩ := h
    exact ⟨v, css, Fs, h0, h1, h2, h3.mono hFG, fun i c x hc hx => ⟨(h4 i c x hc hx).1, fun b hb => ⟨hFG b ((h4 i c x hc hx).2 b hb).1, ((h4 i c x hc hx).2 b hb).2⟩⟩, h5⟩
  okept h hk hd := by
    obtain ⟨v, css, Fs, h0, h1, h2, h3, h4, h5⟩ := h
    refine ⟨v, css, Fs, h0, h1, ownsRowS_of_block h2 fun r hr => hk.block r (h2.lt r hr).2 (hd r (h3 r hr)), h3, fun i c x hc hx => ?_, h5⟩
    obtain ⟨q1, q2⟩ := h4 i c x hc hx
    exact ⟨T.okept q1 hk fun b hb => hd b (q2 b hb).1, q2⟩
  ord {F w cs xs} h := by
    obtain ⟨v, css, Fs, rfl, h1, h2, h3, h4, h5⟩ := h
    have h2' := h2
    have hzs : ∀ c ∈ css, c.length = T.sz := fun c hc => by
      obtain ⟨i, hi⟩ := List.mem_iff_getElem?.1 hc
      have hlt := (List.getElem?_eq_some_iff.1 hi).1
      exact T.olen (h4 i c _ hi (List.getElem?_eq_getElem (by omega))).1
    rcases h2.2 with ⟨rfl, q0⟩ | ⟨g, cap, cur, rfl, q1, q2, q3, q4, q5⟩
    · exact ⟨none, 0, by rw [q0], by omega, by unfold maxLen; omega, .inl ⟨rfl, rfl⟩⟩
    · refine ⟨_, cap, rfl, q3, q4, .inr ⟨_, rfl, .inl (Array.getElem?_eq_some_iff.1 q2).1, fun i x hi => ?_⟩⟩
      have hlt := (List.getElem?_eq_some_iff.1 hi).1
      have hc := List.getElem?_eq_getElem (l := css) (i := i) (by omega)
      refine ⟨css[i]'(by omega), T.ord (h4 i _ x hc hi).1, fun j u hu => ?_⟩
      have hj : j < T.sz := by have := (List.getElem?_eq_some_iff.1 hu).1; rwa [hzs _ (List.mem_of_getElem? hc)] at this
      have e1 : (⟨g, 0, none⟩ : Addr).add (i * T.sz + j) = ⟨g, i * T.sz + j, none⟩ := by unfold Addr.add; split <;> simp_all
      rw [e1, World.ownsRow.cellAt h2' _ (by have := Nat.mul_le_mul_right T.sz (show i + 1 ≤ xs.length by omega); rw [Nat.add_mul, Nat.one_mul] at this; omega), flatten_get hzs hc hj]
      exact hu
  ozero F w := ⟨.slice none 0 0, [], fun _ _ => False, rfl, rfl, World.ownsRow_nil _ _ _ _, In.nil F, fun i c x hc => by simp at hc, fun _ _ _ _ h => h.elim⟩
  cnt_mrk k xs := cntL_mkL T k xs
  vcnt_vmrk k xs := cntL_mkL T k xs


section
variable {e : TypeId} {T : Ty α} {F : Nat → Prop} {w w' : World} {xs : List α} {v : Value} {l : Nat}

/-- The slice's value, and what its elements read in every later world. -/
theorem sl_open {cs : List Value} (h : (sliceT e T).rd l w cs xs) : ∃ a cap, cs = [.slice a xs.length cap] ∧ xs.length ≤ cap ∧ cap ≤ maxLen ∧
    (0 < xs.length → ∃ b o, a = some ⟨b, o, none⟩ ∧ b < l ∧ ∀ w', Below l w w' → ∀ (i : Nat) (x : α), xs[i]? = some x → ∃ c, T.rd l w' c x ∧ ∀ (j : Nat) (u : Value), c[j]? = some u → w'.cell? ⟨b, o + (i * T.sz + j), none⟩ = some u) := by
  obtain ⟨a, cap, hv, h1, h2, h3⟩ := h
  refine ⟨a, cap, hv, h1, h2, fun hp => ?_⟩
  rcases h3 with h3 | ⟨p, rfl, h5, h6⟩
  · omega
  · obtain ⟨b, o, s⟩ := p
    have hbl : b < l := by
      rcases h5 with h5 | h5
      · exact h5
      · omega
    obtain ⟨c0, q0, q1⟩ := h6 0 _ (List.getElem?_eq_getElem hp)
    cases s with
    | none =>
      refine ⟨b, o, rfl, hbl, fun w' hb i x hi => ?_⟩
      obtain ⟨c, r1, r2⟩ := h6 i x hi
      refine ⟨c, T.behind r1 hb, fun j u hu => ?_⟩
      have e1 : (⟨b, o, none⟩ : Addr).add (i * T.sz + j) = ⟨b, o + (i * T.sz + j), none⟩ := by unfold Addr.add; split <;> simp_all
      rw [← r2 j u hu, e1]
      exact hb.cell (p := ⟨b, o + (i * T.sz + j), none⟩) hbl
    | some s =>
      exfalso
      have hj : 0 < c0.length := by rw [T.len q0]; exact T.pos
      have h1 := q1 0 _ (List.getElem?_eq_getElem hj)
      simp only [World.cell?, Addr.add] at h1
      split at h1 <;> (try split at h1) <;> simp_all

theorem sl_len {cs : List Value} (h : (sliceT e T).rd l w cs xs) : xs.length ≤ maxLen := by
  obtain ⟨a, cap, hv, h1, h2, h3⟩ := sl_open h
  omega
theorem sl_len_eq {a : Option Addr} {n cap : Nat} (h : (sliceT e T).rd l w [.slice a n cap] xs) : n = xs.length := by
  obtain ⟨a', cap', hv, _⟩ := sl_open h
  injection hv with hv
  injection hv
theorem slo_open {cs : List Value} (h : (sliceT e T).own F w cs xs) : ∃ a cap, cs = [.slice a xs.length cap] ∧ xs.length ≤ cap ∧ cap ≤ maxLen ∧ (0 < xs.length → ∃ g, a = some ⟨g, 0, none⟩ ∧ F g) := by
  obtain ⟨v, css, Fs, rfl, h1, h2, h3, h4, h5⟩ := h
  rcases h2.2 with ⟨rfl, q0⟩ | ⟨g, cap, cur, rfl, q1, q2, q3, q4, q5⟩
  · exact ⟨none, 0, by rw [q0], by omega, by unfold maxLen; omega, fun h => by omega⟩
  · exact ⟨_, cap, rfl, q3, q4, fun _ => ⟨g, rfl, h3 g rfl⟩⟩

/-- Behind make: n times the zero. -/
theorem slo_made {n : Nat} {zc : Array Value} (hz : T.zc = zc.toList) {B : Nat} (h : w.ownsRow B e T.sz v n (madeCells zc (n * T.sz)).toList) (hF : ∀ b, v.ownBlock = some b → F b) : (sliceT e T).own F w [v] (List.replicate n T.zero) := by
  have hs : zc.size = T.sz := by rw [← Array.length_toList, ← hz]; exact T.olen (T.ozero F w)
  have e1 : (madeCells zc (n * T.sz)).toList = (List.replicate n T.zc).flatten := by
    have hzs : ∀ c ∈ List.replicate n T.zc, c.length = T.sz := fun c hc => by rw [List.eq_of_mem_replicate hc]; exact T.olen (T.ozero F w)
    apply List.ext_getElem?
    intro i
    by_cases hi : i < n * T.sz
    · have hq : i / T.sz < n := Nat.div_lt_of_lt_mul (by rwa [Nat.mul_comm])
      have hr := Nat.mod_lt i T.pos
      have h1 := flatten_get (i := i / T.sz) (j := i % T.sz) (c := T.zc) hzs (by simp [hq]) hr
      rw [Nat.div_add_mod'] at h1
      rw [h1, hz]
      simp [madeCells, hi, hs]
      rw [Array.getElem?_eq_getElem (by omega), getElem!_pos zc _ (by omega)]
    · rw [List.getElem?_eq_none (by rw [Array.length_toList, size_madeCells]; omega), List.getElem?_eq_none (by rw [flatten_len hzs, List.length_replicate]; omega)]
  rw [e1] at h
  refine ⟨v, List.replicate n T.zc, fun _ _ => False, rfl, by simp, ?_, fun r hr => hF r hr, fun i c x hc hx => ?_, fun _ _ _ _ h => h.elim⟩
  · rw [List.length_replicate]
    obtain ⟨p1, p2⟩ := h
    refine ⟨p1, ?_⟩
    rcases p2 with p2 | ⟨g, cap, cur, q1, q2, q3⟩
    · exact .inl p2
    · exact .inr ⟨g, cap, cur, q1, Nat.zero_le _, q3⟩
  · have ec : c = T.zc := List.eq_of_mem_replicate (List.mem_of_getElem? hc)
    have ex : x = T.zero := List.eq_of_mem_replicate (List.mem_of_getElem? hx)
    rw [ec, ex]
    exact ⟨T.ozero _ _, fun b hb => hb.elim⟩

/-- One element taken out: its cells are c, what it leads to may change within Fi. -/
def Foc (e : TypeId) (T : Ty α) (F : Nat → Prop) (w : World) (g cap : Nat) (xs : List α) (i : Nat) (Fi : Nat → Prop) (c : List Value) : Prop :=
  i < xs.length ∧ ∃ (css : List (List Value)) (Fs : Nat → Nat → Prop), css.length = xs.length ∧ (∀ c ∈ css, c.length = T.sz) ∧ w.ownsRow 0 e T.sz (.slice (some ⟨g, 0, none⟩) xs.length cap) xs.length css.flatten ∧ F g ∧ css[i]? = some c ∧ (∀ b, Fi b → F b ∧ b ≠ g) ∧
    (∀ (j : Nat) (d : List Value) (x : α), j ≠ i → css[j]? = some d → xs[j]? = some x → T.own (Fs j) w d x ∧ ∀ b, Fs j b → F b ∧ b ≠ g) ∧ (∀ j, j ≠ i → ∀ b, Fs j b → ¬ Fi b) ∧ ∀ j k, j ≠ i → k ≠ i → j ≠ k → ∀ b, Fs j b → ¬ Fs k b

theorem Foc.take {g n cap i : Nat} {x : α} (h : (sliceT e T).own F w [.slice (some ⟨g, 0, none⟩) n cap] xs) (hi : xs[i]? = some x) :
    ∃ Fi c, Foc e T F w g cap xs i Fi c ∧ T.own Fi w c x ∧ n = xs.length := by
  obtain ⟨v, css, Fs, hv, h1, h2, h3, h4, h5⟩ := h
  injection hv with hv
  subst hv
  have hn : n = xs.length := by
    rcases h2.2 with ⟨q, _⟩ | ⟨g', cap', cur, q, _⟩
    · cases q
    · injection q
  subst hn
  have hlt := (List.getElem?_eq_some_iff.1 hi).1
  have hc := List.getElem?_eq_getElem (l := css) (i := i) (by omega)
  have hne : ∀ b, Value.ownBlock (.slice (some ⟨g, 0, none⟩) xs.length cap) ≠ some b → b ≠ g := fun b hb e => hb (by rw [e]; rfl)
  have hzs : ∀ c ∈ css, c.length = T.sz := fun c hc => by
    obtain ⟨i, hi⟩ := List.mem_iff_getElem?.1 hc
    have hlt := (List.getElem?_eq_some_iff.1 hi).1
    exact T.olen (h4 i c _ hi (List.getElem?_eq_getElem (by omega))).1
  obtain ⟨q1, q2⟩ := h4 i _ x hc hi
  exact ⟨Fs i, _, ⟨hlt, css, Fs, h1, hzs, h2, h3 g rfl, hc, fun b hb => ⟨(q2 b hb).1, hne b (q2 b hb).2⟩, fun j d y hj hd hy => ⟨(h4 j d y hd hy).1, fun b hb => ⟨((h4 j d y hd hy).2 b hb).1, hne b ((h4 j d y hd hy).2 b hb).2⟩⟩, fun j hj b hb => h5 j i hj b hb, fun j k _ _ hjk => h5 j k hjk⟩, q1, rfl⟩

variable {g cap i : Nat} {Fi : Nat → Prop} {c : List Value} {x : α}

theorem Foc.cell (h : Foc e T F w g cap xs i Fi c) {j : Nat} {u : Value} (hj : c[j]? = some u) : w.cell? ⟨g, i * T.sz + j, none⟩ = some u := by
  obtain ⟨hi, css, Fs, h1, h2, h3, h4, h5, _⟩ := h
  have hj' : j < T.sz := by have := (List.getElem?_eq_some_iff.1 hj).1; rwa [h2 _ (List.mem_of_getElem? h5)] at this
  rw [h3.cellAt _ (by have := Nat.mul_le_mul_right T.sz (show i + 1 ≤ xs.length by omega); rw [Nat.add_mul, Nat.one_mul] at this; omega), flatten_get h2 h5 hj', hj]
theorem Foc.free (h : Foc e T F w g cap xs i Fi c) (j : Nat) : w.frozen? ⟨g, j, none⟩ = false := by
  obtain ⟨hi, css, Fs, h1, h2, h3, _⟩ := h
  exact h3.frozenAt j
theorem Foc.lt (h : Foc e T F w g cap xs i Fi c) : g < w.heap.size := by
  obtain ⟨hi, css, Fs, h1, h2, h3, _⟩ := h
  exact (h3.lt g rfl).2
theorem Foc.fi (h : Foc e T F w g cap xs i Fi c) : ∀ b, Fi b → F b ∧ b ≠ g := by
  obtain ⟨hi, css, Fs, h1, h2, h3, h4, h5, h6, _⟩ := h
  exact h6
theorem Foc.fg (h : Foc e T F w g cap xs i Fi c) : F g := by
  obtain ⟨hi, css, Fs, h1, h2, h3, h4, _⟩ := h
  exact h4

/-- A store into one of its cells. -/
theorem Foc.store (h : Foc e T F w g cap xs i Fi c) {j : Nat} (hj : j < T.sz) (u : Value) :
    Foc e T F (w.setCell ⟨g, i * T.sz + j, none⟩ u) g cap xs i Fi (c.set j u) ∧ KeptF (fun b => b = g) w (w.setCell ⟨g, i * T.sz + j, none⟩ u) := by
  obtain ⟨hi, css, Fs, h1, h2, h3, h4, h5, h6, h7, h8, h9⟩ := h
  obtain ⟨p1, p2⟩ := h3.stored (i * T.sz + j) u
  have hk : KeptF (fun b => b = g) w (w.setCell ⟨g, i * T.sz + j, none⟩ u) := KeptF.of_grown p2 (fun b hb => by injection hb with hb; exact hb.symm)
  rw [← flatten_set h2 h5 hj] at p1
  refine ⟨⟨hi, css.set i (c.set j u), Fs, by rw [List.length_set]; exact h1, fun d hd => ?_, p1, h4, List.getElem?_set_self (by omega), h6, fun k d y hk' hd hy => ?_, h8, h9⟩, hk⟩
  · rcases List.mem_or_eq_of_mem_set hd with hd | rfl
    · exact h2 d hd
    · rw [List.length_set]; exact h2 _ (List.mem_of_getElem? h5)
  · rw [List.getElem?_set_ne (Ne.symm hk')] at hd
    obtain ⟨q1, q2⟩ := h7 k d y hk' hd hy
    exact ⟨T.okept q1 hk fun b hb => (q2 b hb).2, q2⟩

/-- What it leads to has changed, or nothing that was there. -/
theorem Foc.kept {G : Nat → Prop} (h : Foc e T F w g cap xs i Fi c) (hk : KeptF G w w') (hG : ∀ b, G b → b < w.heap.size → F b → Fi b) : Foc e T F w' g cap xs i Fi c := by
  obtain ⟨hi, css, Fs, h1, h2, h3, h4, h5, h6, h7, h8, h9⟩ := h
  have hk' : KeptF (fun b => G b ∧ b < w.heap.size) w w' := ⟨hk.os, hk.tape, hk.output, hk.size, fun b hb hn => hk.block b hb fun hg => hn ⟨hg, hb⟩⟩
  refine ⟨hi, css, Fs, h1, h2, ownsRowS_of_block h3 fun r hr => ?_, h4, h5, h6, fun j d y hj hd hy => ?_, h8, h9⟩
  · have hr' : r = g := by injection hr with hr; exact hr.symm
    subst hr'
    exact hk'.block r (h3.lt r rfl).2 fun hg => (h6 r (hG r hg.1 hg.2 h4)).2 rfl
  · obtain ⟨q1, q2⟩ := h7 j d y hj hd hy
    exact ⟨T.okept q1 hk' fun b hb hg => h8 j hj b hb (hG b hg.1 hg.2 (q2 b hb).1), q2⟩

/-- Put back. -/
theorem Foc.close (h : Foc e T F w g cap xs i Fi c) (ho : T.own Fi w c x) : (sliceT e T).own F w [.slice (some ⟨g, 0, none⟩) xs.length cap] (xs.set i x) := by
  obtain ⟨hi, css, Fs, h1, h2, h3, h4, h5, h6, h7, h8, h9⟩ := h
  have hne : ∀ b, b ≠ g → Value.ownBlock (.slice (some ⟨g, 0, none⟩) xs.length cap) ≠ some b := fun b hb e => by injection e with e; exact hb e.symm
  refine ⟨_, css, fun j => if j = i then Fi else Fs j, rfl, by rw [List.length_set]; exact h1, by rw [List.length_set]; exact h3, fun r hr => by injection hr with hr; subst hr; exact h4, fun j d y hd hy => ?_, fun j k hjk b hj hk => ?_⟩
  · by_cases hj : j = i
    · subst hj
      rw [List.getElem?_set_self (by omega)] at hy
      injection hy with hy
      subst hy
      rw [h5] at hd
      injection hd with hd
      subst hd
      simp only [if_pos]
      exact ⟨ho, fun b hb => ⟨(h6 b hb).1, hne b (h6 b hb).2⟩⟩
    · rw [List.getElem?_set_ne (Ne.symm hj)] at hy
      simp only [if_neg hj]
      obtain ⟨q1, q2⟩ := h7 j d y hj hd hy
      exact ⟨q1, fun b hb => ⟨(q2 b hb).1, hne b (q2 b hb).2⟩⟩
  · by_cases hji : j = i
    · by_cases hki : k = i
      · exact hjk (hji.trans hki.symm)
      · simp only [if_pos hji, if_neg hki] at hj hk
        exact h8 k hki b hk hj
    · by_cases hki : k = i
      · simp only [if_neg hji, if_pos hki] at hj hk
        exact h8 j hji b hj hk
      · simp only [if_neg hji, if_neg hki] at hj hk
        exact h9 j k hji hki hjk b hj hk

/-- Put back with what is new. -/
theorem Foc.fill {G : Nat → Prop} (h : Foc e T F w g cap xs i Fi c) (ho : T.own G w c x) (hG : ∀ b, G b → ¬ F b) : (sliceT e T).own (fun b => F b ∨ G b) w [.slice (some ⟨g, 0, none⟩) xs.length cap] (xs.set i x) := by
  obtain ⟨hi, css, Fs, h1, h2, h3, h4, h5, h6, h7, h8, h9⟩ := h
  refine Foc.close (Fi := G) ⟨hi, css, fun j b => j < xs.length ∧ Fs j b, h1, h2, h3, .inl h4, h5, fun b hb => ⟨.inr hb, fun e => hG b hb (e ▸ h4)⟩, fun j d y hj hd hy => ?_, fun j hj b hb hg => ?_, fun j k hj hk hjk b hb hb' => h9 j k hj hk hjk b hb.2 hb'.2⟩ ho
  · obtain ⟨q1, q2⟩ := h7 j d y hj hd hy
    exact ⟨T.omono q1 fun b hb => ⟨(List.getElem?_eq_some_iff.1 hy).1, hb⟩, fun b hb => ⟨.inl (q2 b hb.2).1, (q2 b hb.2).2⟩⟩
  · exact hG b hg ((h7 j _ _ hj (List.getElem?_eq_getElem (by omega)) (List.getElem?_eq_getElem hb.1)).2 b hb.2).1

end

end

end Go.Proofs.Ytngdcnocjgibkaa
