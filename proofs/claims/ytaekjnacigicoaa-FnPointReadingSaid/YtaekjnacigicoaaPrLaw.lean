/- FnPointReading: the walk. No conditions. -/
import Derived.Test.YtaekjnacigicoaaPkR
import Derived.Test.YtaekjnacigicoaaPkW
import Derived.Test.YtaekjnacigicoaaCells
import Derived.Test.YtaekjnacigicoaaBaD
import Derived.Test.YtaekjnacigicoaaBa4
import Derived.Test.YtaekjnacigicoaaDb2
import Derived.Test.YtaekjnacigicoaaQu5
import Derived.Test.YtaekjnacigicoaaQu6
import Derived.Deep.RegionHeld3
namespace Go.Proofs.Ytaekjnacigicoaa
open Go Go.RowKit
set_option linter.unusedVariables false
attribute [local irreducible] kh

set_option maxHeartbeats 8000000 in
set_option maxRecDepth 100000 in
theorem fnPointReading_walk (a : Option Addr) (len cap : Nat) (zs : List Int) (w : World) (hrow : IsRow .u8 w a len cap zs) :
    Calls Try.prog 3 #[.slice a len cap] w fun e w' => e = .returned (.bool true) ∧ Below w.heap.size w w' := by
  obtain ⟨s, A, l⟩ : ∃ s, Rd w.heap.size .u8 w (.slice a len cap) s ∧ len = s.length := ⟨zs.take len, hrow.rd, hrow.rd.len_eq⟩
  subst l
  have HA := Lib.hid A
  have hl' : s.length ≤ 9223372036854775807 := by have := A.len; unfold maxLen at this; omega
  clear hrow A
  by_cases hbig : 1048576 < s.length
  · have e0 : decide ((1048576 : Int) < (s.length : Int)) = true := by simp; omega
    go_enter Try.func3, Try.ntmps3
    go_wp2_with fail
    refine (big_is a s.length cap _ hl').mono ?_
    rw [e0]
    rintro e w0 ⟨rfl, rfl⟩
    go_wp2_with fail
    go_ret
    exact ⟨rfl, Below.refl _ _⟩
  have e0 : decide ((1048576 : Int) < (s.length : Int)) = false := by simp; omega
  have hs : s.length ≤ 1048576 := by omega
  have HAb := Lib.hid (fun i => atv_bound (s := s) (fun i hi => HA.out.wf hi) i)
  have H8w : Hid ((Lit.int .i64 (8 : Int)).wf = true) := Lib.hid (by decide)
  have HNe := Lib.hid (newR_yes (n := 8) (by omega))
  clear hbig
  go_enter Try.func3, Try.ntmps3
  go_wp2_with fail
  refine (big_is a s.length cap _ hl').mono ?_
  rw [e0]
  rintro e w0 ⟨rfl, hw0⟩
  obtain rfl : w = w0 := hw0.symm
  clear hw0 e0 hl'
  go_wp2_with fail
  refine (impl_new H8w.out).mono ?_
  rw [show newR (8 : Int) = List.replicate 8 (List.replicate 24 0) from HNe.out]
  rintro e w3 ⟨vd, rfl, hO, hb⟩
  obtain ⟨ad, cd, hvd, _, hcd, hgd⟩ := hO.open
  rw [List.length_replicate] at hvd hgd
  obtain ⟨g, hg, _⟩ := hgd (by omega)
  subst hg
  subst hvd
  unfold maxLen at hcd
  obtain ⟨d0, hd0⟩ : ∃ d, d = w3.heap.size := ⟨_, rfl⟩
  have hnew := heap_alloc_new w3 (.cells #[(.slice (some ⟨g, 0, none⟩) 8 cd)] 26)
  have cD := (blk_cell hnew 0).trans (one0 _)
  obtain ⟨W, hW⟩ : ∃ W, W = w3.alloc (.cells #[(.slice (some ⟨g, 0, none⟩) 8 cd)] 26) := ⟨_, rfl⟩
  have HO := Lib.hid (show Own2 22 5 .u8 (ival w.heap.size d0) W (.slice (some ⟨g, 0, none⟩) 8 cd) (List.replicate 8 (List.replicate 24 0)) by rw [hW, hd0]; exact hO.alloc _)
  have HD := Lib.hid (show W.heap[d0]? = some (.cells #[(.slice (some ⟨g, 0, none⟩) 8 cd)] 26) by rw [hW, hd0]; exact hnew)
  have HB := Lib.hid (show Below w.heap.size w W by rw [hW]; exact hb.alloc hb.size _)
  have HLo : Hid (w.heap.size ≤ d0) := Lib.hid (by rw [hd0]; exact hb.size)
  have HWe := Lib.hid hW
  have Hd0 := Lib.hid hd0
  clear hO hb hnew hgd hW hd0
  go_wp2_with fail
  rw [← HWe.out, ← Hd0.out]
  clear cD HWe
  go_loopw [4] (fun x wr => ∃ (i : Nat) (ds : List (List Int)), x = .int .i64 i ∧ i ≤ 8 ∧ ds.length = 8 ∧ (∀ z ∈ ds, z.length = 24) ∧ Own2 22 5 .u8 (ival w.heap.size d0) wr (.slice (some ⟨g, 0, none⟩) 8 cd) ds ∧ wr.heap[d0]? = some (.cells #[(.slice (some ⟨g, 0, none⟩) 8 cd)] 26) ∧ Below w.heap.size w wr) (fun x _ => 8 - (intOf x).toNat)
  case atStart => exact ⟨0, _, rfl, Nat.zero_le _, rfl, fun z hz => by rw [List.eq_of_mem_replicate hz]; rfl, HO.out, HD.out, HB.out⟩
  case round =>
    obtain ⟨i, ds, rfl, hi, hlen, hr24, hO, hD, hB⟩ := hrel
    replace HO := Lib.hid hO
    replace HD := Lib.hid hD
    replace HB := Lib.hid hB
    have H24 := Lib.hid hr24
    have HLn := Lib.hid hlen
    have cD := (blk_cell hD 0).trans (one0 _)
    clear hO hD hB hr24 hlen
    by_cases hlt : i < 8
    case pos =>
      have e1 : decide ((i : Int) < 8) = true := by simp; omega
      have hi8 : (i : Int) < 8 := by omega
      go_wp2_with fail
      clear cD
      go_loopw [5] (fun x wr => ∃ (k : Nat) (ds : List (List Int)), x = .int .i64 k ∧ k ≤ 24 ∧ ds.length = 8 ∧ (∀ z ∈ ds, z.length = 24) ∧ Own2 22 5 .u8 (ival w.heap.size d0) wr (.slice (some ⟨g, 0, none⟩) 8 cd) ds ∧ wr.heap[d0]? = some (.cells #[(.slice (some ⟨g, 0, none⟩) 8 cd)] 26) ∧ Below w.heap.size w wr) (fun x _ => 24 - (intOf x).toNat)
      case atStart => exact ⟨0, _, rfl, Nat.zero_le _, HLn.out, H24.out, HO.out, HD.out, HB.out⟩
      case round =>
        obtain ⟨k, es, rfl, hk, hlen, hr24, hO, hD, hB⟩ := hrel
        clear HO HD HB H24 HLn
        have HO := Lib.hid hO
        have HD := Lib.hid hD
        have HB := Lib.hid hB
        have H24 := Lib.hid hr24
        have HLn := Lib.hid hlen
        have hir : i < es.length := by omega
        obtain ⟨row, hrow⟩ : ∃ z, es[i]? = some z := ⟨_, List.getElem?_eq_getElem hir⟩
        have hrl : row.length = 24 := hr24 row (List.mem_of_getElem? hrow)
        obtain ⟨u, cu, ou, iu, hu⟩ := hO.at hrow
        obtain ⟨ap, cp, hup, hgp⟩ := ou.open
        obtain ⟨gu, hgu⟩ := hgp (by omega)
        subst hgu
        rw [hrl] at hup
        subst hup

        have cD := (blk_cell hD 0).trans (one0 _)
        have HOu := Lib.hid ou
        have HIu := Lib.hid iu
        have HX := Lib.hid hu
        have Hrl := Lib.hid hrl
        clear hO hD hB hr24 hlen hir hrow ou iu hu hgp hrl
        by_cases hkt : k < 24
        case pos =>
          have e2 : decide ((k : Int) < 24) = true := by simp; omega
          have hk24 : (k : Int) < 24 := by omega
          obtain ⟨m, hm⟩ : ∃ m : Nat, m = i * 3 + k := ⟨_, rfl⟩
          have hmm : (i : Int) * 3 + (k : Int) = (m : Int) := by omega
          have hm1 : m ≤ 1000 := by omega
          obtain ⟨b, hb⟩ : ∃ b, b = atv s m := ⟨_, rfl⟩
          have hbb := HAb.out m
          rw [← hb] at hbb
          have Hb := Lib.hid hb
          have c1 := HOu.out.cellAt (by rw [Hrl.out]) hkt
          have f1 := HOu.out.free (by rw [Hrl.out]) k
          clear hm hb
          have hd0' : wr.drew.cell? ⟨d0, 0, none⟩ = some (.slice (some ⟨g, 0, none⟩) 8 cd) ∧ wr.drew.cell? ⟨g, i, none⟩ = some (.slice (some ⟨gu, 0, none⟩) 24 cp) := ⟨cD, cu⟩
          go_wp2_with fail
          refine region_till (fun w' => w'.cell? ⟨d0, 0, none⟩ = some (.slice (some ⟨g, 0, none⟩) 8 cd) ∧ w'.cell? ⟨g, i, none⟩ = some (.slice (some ⟨gu, 0, none⟩) 24 cp)) 14 (by kernel_rfl) ?_
          obtain ⟨wd, hwd⟩ : ∃ x, x = wr.drew := ⟨_, rfl⟩
          have HAd := Lib.hid (show Rd w.heap.size .u8 wd (.slice a s.length cap) s by rw [hwd]; exact HA.out.behind HB.out.drew)
          have HOd := Lib.hid (show Own 5 .u8 0 wd (.slice (some ⟨gu, 0, none⟩) 24 cp) row by rw [hwd]; exact HOu.out.next (Below.refl _ _).drew)
          have HSd : Hid (wr.heap.size = wd.heap.size) := Lib.hid (by rw [hwd]; rfl)
          have HEd : Hid (wd = wr.drew) := Lib.hid hwd
          rw [← hwd] at hd0' ⊢
          have c2 := HOd.out.cellAt (by rw [Hrl.out]) hkt
          have f2 := HOd.out.free (by rw [Hrl.out]) k
          clear hwd c1 f1 cD cu
          apply Till.take (i := 0) [0, 1, 3, 4, 13, 14]
          · simp only [List.getElem?_toArray, List.getElem?_cons_zero]
            rfl
          · kernel_rfl
          · kernel_rfl
          · kernel_rfl
          · kernel_rfl
          · exact fun _ _ _ h => h
          · first
              | exact Or.inr ⟨by rfl, rfl⟩
              | (refine Or.inl ⟨by rfl, fun wq hwq => ?_⟩
                 obtain ⟨q0, q1⟩ := hwq
                 go_simp
                 first
                   | done
                   | rfl)
          · exact hd0'
          simp only [Act.put, List.setIfInBounds_toArray, List.set_cons_zero, List.set_cons_succ]
          apply Till.take (i := 1) (v := (.slice (some ⟨g, 0, none⟩) 8 cd)) [1, 3, 4, 13, 14]
          · simp only [List.getElem?_toArray, List.getElem?_cons_succ, List.getElem?_cons_zero]
            rfl
          · kernel_rfl
          · kernel_rfl
          · kernel_rfl
          · kernel_rfl
          · exact fun _ _ _ h => h
          · first
              | exact Or.inr ⟨by rfl, rfl⟩
              | (refine Or.inl ⟨by rfl, fun wq hwq => ?_⟩
                 obtain ⟨q0, q1⟩ := hwq
                 go_simp
                 first
                   | done
                   | rfl)
          · exact hd0'
          simp only [Act.put, List.setIfInBounds_toArray, List.set_cons_zero, List.set_cons_succ]
          apply Till.take (i := 2) [2, 3, 4, 13, 14]
          · simp only [List.getElem?_toArray, List.getElem?_cons_succ, List.getElem?_cons_zero]
            rfl
          · kernel_rfl
          · kernel_rfl
          · kernel_rfl
          · kernel_rfl
          · exact fun _ _ _ h => h
          · first
              | exact Or.inr ⟨by rfl, rfl⟩
              | (refine Or.inl ⟨by rfl, fun wq hwq => ?_⟩
                 obtain ⟨q0, q1⟩ := hwq
                 go_simp
                 first
                   | done
                   | rfl)
          · exact hd0'
          simp only [Act.put, List.setIfInBounds_toArray, List.set_cons_zero, List.set_cons_succ]
          apply Till.take (i := 3) (v := .pointer (some ⟨g, i, none⟩)) [3, 4, 13, 14]
          · simp only [List.getElem?_toArray, List.getElem?_cons_succ, List.getElem?_cons_zero]
            rfl
          · kernel_rfl
          · kernel_rfl
          · kernel_rfl
          · kernel_rfl
          · exact fun _ _ _ h => h
          · first
              | exact Or.inr ⟨by rfl, rfl⟩
              | (refine Or.inl ⟨by rfl, fun wq hwq => ?_⟩
                 obtain ⟨q0, q1⟩ := hwq
                 go_simp
                 first
                   | done
                   | rfl)
          · exact hd0'
          simp only [Act.put, List.setIfInBounds_toArray, List.set_cons_zero, List.set_cons_succ]
          apply Till.take (i := 4) (v := .slice (some ⟨gu, 0, none⟩) 24 cp) [4, 13, 14]
          · simp only [List.getElem?_toArray, List.getElem?_cons_succ, List.getElem?_cons_zero]
            rfl
          · kernel_rfl
          · kernel_rfl
          · kernel_rfl
          · kernel_rfl
          · exact fun _ _ _ h => h
          · first
              | exact Or.inr ⟨by rfl, rfl⟩
              | (refine Or.inl ⟨by rfl, fun wq hwq => ?_⟩
                 obtain ⟨q0, q1⟩ := hwq
                 go_simp
                 first
                   | done
                   | rfl)
          · exact hd0'
          simp only [Act.put, List.setIfInBounds_toArray, List.set_cons_zero, List.set_cons_succ]
          apply Till.take (i := 5) [5, 13, 14]
          · simp only [List.getElem?_toArray, List.getElem?_cons_succ, List.getElem?_cons_zero]
            rfl
          · kernel_rfl
          · kernel_rfl
          · kernel_rfl
          · kernel_rfl
          · exact fun _ _ _ h => h
          · first
              | exact Or.inr ⟨by rfl, rfl⟩
              | (refine Or.inl ⟨by rfl, fun wq hwq => ?_⟩
                 obtain ⟨q0, q1⟩ := hwq
                 go_simp
                 first
                   | done
                   | rfl)
          · exact hd0'
          simp only [Act.put, List.setIfInBounds_toArray, List.set_cons_zero, List.set_cons_succ]
          apply Till.take (i := 6) [6, 11, 12, 14]
          · simp only [List.getElem?_toArray, List.getElem?_cons_succ, List.getElem?_cons_zero]
            rfl
          · kernel_rfl
          · kernel_rfl
          · kernel_rfl
          · kernel_rfl
          · exact fun _ _ _ h => h
          · first
              | exact Or.inr ⟨by rfl, rfl⟩
              | (refine Or.inl ⟨by rfl, fun wq hwq => ?_⟩
                 obtain ⟨q0, q1⟩ := hwq
                 go_simp
                 first
                   | done
                   | rfl)
          · exact hd0'
          simp only [Act.put, List.setIfInBounds_toArray, List.set_cons_zero, List.set_cons_succ]
          apply Till.take (i := 7) [7, 8, 10, 11, 12, 14]
          · simp only [List.getElem?_toArray, List.getElem?_cons_succ, List.getElem?_cons_zero]
            rfl
          · kernel_rfl
          · kernel_rfl
          · kernel_rfl
          · kernel_rfl
          · exact fun _ _ _ h => h
          · first
              | exact Or.inr ⟨by rfl, rfl⟩
              | (refine Or.inl ⟨by rfl, fun wq hwq => ?_⟩
                 obtain ⟨q0, q1⟩ := hwq
                 go_simp
                 first
                   | done
                   | rfl)
          · exact hd0'
          simp only [Act.put, List.setIfInBounds_toArray, List.set_cons_zero, List.set_cons_succ]
          have hw3 : IntKind.i64.wrap ((i : Int) * 3) = (i : Int) * 3 := by rw [IntKind.wrap_i64]; omega
          have hw4 : IntKind.i64.wrap (m : Int) = (m : Int) := by rw [IntKind.wrap_i64]; omega
          apply Till.take (i := 8) (v := .int .i64 ((i : Int) * 3)) [8, 10, 11, 12, 14]
          · simp only [List.getElem?_toArray, List.getElem?_cons_succ, List.getElem?_cons_zero]
            rfl
          · kernel_rfl
          · kernel_rfl
          · kernel_rfl
          · kernel_rfl
          · exact fun _ _ _ h => h
          · first
              | exact Or.inr ⟨by rfl, rfl⟩
              | (refine Or.inl ⟨by rfl, fun wq hwq => ?_⟩
                 obtain ⟨q0, q1⟩ := hwq
                 go_simp
                 first
                   | done
                   | rfl)
          · exact hd0'
          simp only [Act.put, List.setIfInBounds_toArray, List.set_cons_zero, List.set_cons_succ]
          apply Till.take (i := 9) [9, 10, 11, 12, 14]
          · simp only [List.getElem?_toArray, List.getElem?_cons_succ, List.getElem?_cons_zero]
            rfl
          · kernel_rfl
          · kernel_rfl
          · kernel_rfl
          · kernel_rfl
          · exact fun _ _ _ h => h
          · first
              | exact Or.inr ⟨by rfl, rfl⟩
              | (refine Or.inl ⟨by rfl, fun wq hwq => ?_⟩
                 obtain ⟨q0, q1⟩ := hwq
                 go_simp
                 first
                   | done
                   | rfl)
          · exact hd0'
          simp only [Act.put, List.setIfInBounds_toArray, List.set_cons_zero, List.set_cons_succ]
          apply Till.take (i := 10) (v := .int .i64 (m : Int)) [10, 11, 12, 14]
          · simp only [List.getElem?_toArray, List.getElem?_cons_succ, List.getElem?_cons_zero]
            rfl
          · kernel_rfl
          · kernel_rfl
          · kernel_rfl
          · kernel_rfl
          · exact fun _ _ _ h => h
          · first
              | exact Or.inr ⟨by rfl, rfl⟩
              | (refine Or.inl ⟨by rfl, fun wq hwq => ?_⟩
                 obtain ⟨q0, q1⟩ := hwq
                 go_simp
                 first
                   | done
                   | rfl)
          · exact hd0'
          simp only [Act.put, List.setIfInBounds_toArray, List.set_cons_zero, List.set_cons_succ]
          apply Till.one (i := 11)
          · kernel_rfl
          · simp only [List.getElem?_toArray, List.getElem?_cons_succ, List.getElem?_cons_zero]
            rfl
          intro K hK
          go_simp
          refine (at_any HAd.out m hm1 hs).mono ?_
          rintro e' w5 ⟨⟨he, _, _⟩, hw⟩
          rw [← Hb.out] at he
          subst he
          obtain rfl : wd = w5 := hw.symm
          clear hw
          refine hK.out _ _ (Or.inr hd0') ?_
          clear hK K
          try simp only [Act.put, List.setIfInBounds_toArray, List.set_cons_zero, List.set_cons_succ]
          have hw5 : IntKind.u8.wrap b = b := by rw [IntKind.wrap_u8]; omega
          apply Till.take (i := 12) (v := .int .u8 b) [12, 13, 14]
          · simp only [List.getElem?_toArray, List.getElem?_cons_succ, List.getElem?_cons_zero]
            rfl
          · kernel_rfl
          · kernel_rfl
          · kernel_rfl
          · kernel_rfl
          · exact fun _ _ _ h => h
          · first
              | exact Or.inr ⟨by rfl, rfl⟩
              | (refine Or.inl ⟨by rfl, fun wq hwq => ?_⟩
                 obtain ⟨q0, q1⟩ := hwq
                 go_simp
                 first
                   | done
                   | rfl)
          · exact hd0'
          simp only [Act.put, List.setIfInBounds_toArray, List.set_cons_zero, List.set_cons_succ]
          apply Till.take (i := 13) (v := .pointer (some ⟨gu, k, none⟩)) [13, 14]
          · simp only [List.getElem?_toArray, List.getElem?_cons_succ, List.getElem?_cons_zero]
            rfl
          · kernel_rfl
          · kernel_rfl
          · kernel_rfl
          · kernel_rfl
          · exact fun _ _ _ h => h
          · first
              | exact Or.inr ⟨by rfl, rfl⟩
              | (refine Or.inl ⟨by rfl, fun wq hwq => ?_⟩
                 obtain ⟨q0, q1⟩ := hwq
                 go_simp
                 first
                   | done
                   | rfl)
          · exact hd0'
          simp only [Act.put, List.setIfInBounds_toArray, List.set_cons_zero, List.set_cons_succ]
          apply Till.one (i := 14)
          · kernel_rfl
          · simp only [List.getElem?_toArray, List.getElem?_cons_succ, List.getElem?_cons_zero]
            rfl
          intro K hK
          go_simp
          skip
          refine hK.out _ _ (Or.inl (by rfl)) ?_
          clear hK K
          try simp only [Act.put, List.setIfInBounds_toArray, List.set_cons_zero, List.set_cons_succ]
          refine Till.done (by kernel_rfl) ?_ _
          have hset := (show Own 5 .u8 0 wd (.slice (some ⟨gu, 0, none⟩) row.length cp) row by rw [Hrl.out]; exact HOd.out).set (x := b) (wf_u8_of (by omega) (by omega)) k
          obtain ⟨p1, p2⟩ := hset
          rw [Hrl.out] at p1
          obtain ⟨W5, hW5⟩ : ∃ W5, W5 = wd.setCell ⟨gu, k, none⟩ (.int .u8 b) := ⟨_, rfl⟩
          rw [← hW5] at p1 p2 ⊢
          have hin := HIu.out gu rfl
          have hgd : wr.grownBy wd (some gu) := by rw [HEd.out]; exact ⟨rfl, rfl, rfl, Nat.le_refl _, fun _ _ _ => rfl⟩
          have hgw : wr.grownBy W5 (some gu) := hgd.trans p2
          have h2 := HX.out W5 (row.set k b) hgw p1
          have H2 := Lib.hid h2
          have HD2 := Lib.hid ((hgw.block d0 (lt_of_block HD.out) (fun e => by injection e with e; unfold ival at hin; omega)).trans HD.out)
          have HB2 := Lib.hid (HB.out.grown hgw HB.out.size (fun c hc => by injection hc with hc; subst hc; unfold ival at hin; omega))
          have H24' := Lib.hid (pk_set H24.out i (show (row.set k b).length = 24 by rw [List.length_set]; exact Hrl.out))
          clear p1 p2 h2 hin hW5 hgd hgw c2 f2 hd0' hmm
          go_wp2_with fail
          go_roundw
          case rel => exact ⟨k + 1, _, by simp, hkt, by rw [List.length_set]; exact HLn.out, H24'.out, H2.out, HD2.out, HB2.out⟩
          case measure => simp [intOf]; omega
        have e2 : decide ((k : Int) < 24) = false := by simp; omega
        clear HOu HIu HX
        go_wp2_with fail
        go_roundw
        case rel => exact ⟨i + 1, _, by simp, hlt, HLn.out, H24.out, HO.out, HD.out, HB.out⟩
        case measure => simp [intOf]; omega
    have e1 : decide ((i : Int) < 8) = false := by simp; omega
    obtain ⟨t0, ht0⟩ : ∃ t, t = atv s 0 := ⟨_, rfl⟩
    have hA0 := HAb.out 0
    rw [← ht0] at hA0
    have HT0 := Lib.hid ht0
    obtain ⟨I, hI⟩ : ∃ I : Nat, t0 % 8 = (I : Int) := ⟨(t0 % 8).toNat, by omega⟩
    have hI8 : I < 8 := by omega
    have hI2 : t0.tmod 8 = (I : Int) := by rw [Int.tmod_eq_emod_of_nonneg hA0.1]; exact hI
    obtain ⟨R, hR⟩ : ∃ R : Nat, atv s 1 = (R : Int) := ⟨(atv s 1).toNat, by have := HAb.out 1; omega⟩
    obtain ⟨t2, ht2⟩ : ∃ t, t = atv s 2 := ⟨_, rfl⟩
    have hA2 := HAb.out 2
    rw [← ht2] at hA2
    have HT2 := Lib.hid ht2
    obtain ⟨Q, hQ⟩ : ∃ Q : Nat, t2 + 1000 = (Q : Int) := ⟨(t2 + 1000).toNat, by omega⟩
    have hRb : (0 : Int) ≤ R ∧ (R : Int) ≤ 2147483646 := by have := HAb.out 1; omega
    have hQb : (0 : Int) ≤ Q ∧ (Q : Int) ≤ 2147483646 := by omega
    have HRe := Lib.hid hR
    have HOk : Hid (pkOk 3 (I : Int) (R : Int) (Q : Int) = true) := Lib.hid (pk_ok (D := 3) (by omega) (by omega) (show I < 2 ^ 3 from hI8) hRb hQb)
    have H3w : Hid ((Lit.int .i64 (3 : Int)).wf = true) := Lib.hid (by decide)
    have HIw : Hid ((Lit.int .i64 (I : Int)).wf = true) := Lib.hid (wf_i64_of (by omega) (by omega))
    have HRw : Hid ((Lit.int .i64 (R : Int)).wf = true) := Lib.hid (wf_i64_of (by omega) (by omega))
    have HQw : Hid ((Lit.int .i64 (Q : Int)).wf = true) := Lib.hid (wf_i64_of (by omega) (by omega))
    obtain ⟨cs, hcs⟩ : ∃ cs, cs = mkc 3 I ((R : Int), 0) ((Q : Int), 1) := ⟨_, rfl⟩
    have hpcs : pcs 3 (I : Int) (R : Int) (Q : Int) = cs := by unfold pcs; rw [if_pos HOk.out, hcs, Int.toNat_natCast]; rfl
    have HPc := Lib.hid hpcs
    have HLc : Hid (cs.length = 3) := Lib.hid (by rw [hcs]; exact mkc_len _ _ _ _)
    have HSx : Hid (isel (eall (R : Int) 0 cs) ((8 : Nat) : Int) = true) := Lib.hid (by rw [hcs]; exact eall_sel (D := 3) (by omega) (by omega) _ _ _ hRb (.inl rfl))
    have HSy : Hid (isel (eall (Q : Int) 1 cs) ((8 : Nat) : Int) = true) := Lib.hid (by rw [hcs]; exact eall_sel (D := 3) (by omega) (by omega) _ _ _ hQb (.inr rfl))
    have HXor : Hid (xors (eall (R : Int) 0 cs) (eall (Q : Int) 1 cs) = (List.replicate 8 0).set I 1) := Lib.hid (by rw [hcs]; exact eall_xor (D := 3) (by omega) (by omega) (show I < 2 ^ 3 from hI8) hRb hQb)
    have HU8 := Lib.hid (pk_u8 HO.out.rd2)
    obtain ⟨row, hrow⟩ : ∃ z, ds[I]? = some z := ⟨_, List.getElem?_eq_getElem (by rw [HLn.out]; exact hI8)⟩
    obtain ⟨u, cu, ou, iu, _⟩ := HO.out.at hrow
    have HGl : Hid (g < d0) := Lib.hid (by have := HO.out.in_ g rfl; unfold ival at this; omega)
    have HCu := Lib.hid cu
    have HOu := Lib.hid ou.rd
    have hrd := pk_read H24.out HU8.out HLn.out (by omega) hI8 HSx.out HSy.out HXor.out
    rw [getD_of hrow] at hrd
    have HRead := Lib.hid hrd
    have HTd := Lib.hid (pk_tot H24.out HLn.out (by omega))
    have HT2a : Hid (tot [ans ds (eall (R : Int) 0 cs), ans ds (eall (Q : Int) 1 cs)] ≤ 1099511627776) := Lib.hid (pk_tot (pk_two H24.out HLn.out (by omega) HSx.out HSy.out) (n := 2) rfl (by omega))
    have HRd := Lib.hid HO.out.rd2
    have HAr := Lib.hid (HA.out.behind HB.out)
    have hI8' : (I : Int) < 8 := by omega
    clear hrow cu ou iu hrd ht0 ht2 hR hcs hpcs HA HO
    go_wp2_with fail
    clear cD
    refine (at_any HAr.out 0 (by omega) hs).mono ?_
    rintro e w1 ⟨⟨he, _, _⟩, hw⟩
    rw [← HT0.out] at he
    subst he
    obtain rfl : wr = w1 := hw.symm
    clear hw
    go_wp2_with fail
    refine (at_any HAr.out 1 (by omega) hs).mono ?_
    rintro e w1 ⟨⟨he, _, _⟩, hw⟩
    rw [HRe.out] at he
    subst he
    obtain rfl : wr = w1 := hw.symm
    clear hw
    go_wp2_with fail
    refine (at_any HAr.out 2 (by omega) hs).mono ?_
    rintro e w1 ⟨⟨he, _, _⟩, hw⟩
    rw [← HT2.out] at he
    subst he
    obtain rfl : wr = w1 := hw.symm
    clear hw
    go_wp2_with fail
    refine (impl_mk_t H3w.out HIw.out HRw.out HQw.out).mono ?_
    rw [show prt 3 (I : Int) (R : Int) (Q : Int) (R : Int) = (R : Int) from if_pos HOk.out, show prt 3 (I : Int) (R : Int) (Q : Int) (Q : Int) = (Q : Int) from if_pos HOk.out, show prt 3 (I : Int) (R : Int) (Q : Int) 1 = 1 from if_pos HOk.out, HPc.out, HOk.out]
    rintro e w4 ⟨c1, c2, F1, F2, he, hO1, hO2, _, _, _, hb⟩
    obtain ⟨aa, na, _, h1, _⟩ := own_PointKey hO1
    obtain ⟨ab, nb, _, h2, _⟩ := own_PointKey hO2
    simp only [HLc.out] at h1 h2
    subst h1
    subst h2
    subst he
    replace hO1 : tyPointKey.own F1 w4 [.int .i64 (R : Int), .int .i64 0, .slice aa 3 na] ((R : Int), (0 : Int), cs) := hO1
    replace hO2 : tyPointKey.own F2 w4 [.int .i64 (Q : Int), .int .i64 1, .slice ab 3 nb] ((Q : Int), (1 : Int), cs) := hO2
    obtain ⟨b0, hb0⟩ : ∃ b, b = w4.heap.size := ⟨_, rfl⟩
    obtain ⟨k0, k1⟩ := blocks2T w4 (.cells #[.int .i64 (R : Int), .int .i64 0, .slice aa 3 na] 31) (.cells #[.int .i64 (Q : Int), .int .i64 1, .slice ab 3 nb] 31)
    have c10 := (blk_cell k0 0).trans (cell3_0 _ _ _)
    have c11 := (blk_cell k0 1).trans (cell3_1 _ _ _)
    have c12 := (blk_cell k0 2).trans (cell3_2 _ _ _)
    have c20 := (blk_cell k1 0).trans (cell3_0 _ _ _)
    have c21 := (blk_cell k1 1).trans (cell3_1 _ _ _)
    have c22 := (blk_cell k1 2).trans (cell3_2 _ _ _)
    obtain ⟨V, hV⟩ : ∃ V, V = (w4.alloc (.cells #[.int .i64 (R : Int), .int .i64 0, .slice aa 3 na] 31)).alloc (.cells #[.int .i64 (Q : Int), .int .i64 1, .slice ab 3 nb] 31) := ⟨_, rfl⟩
    have hb2 : Below w4.heap.size w4 V := by rw [hV]; exact ((Below.refl _ _).alloc (Nat.le_refl _) _).alloc (by simp) _
    have hbV : Below wr.heap.size wr V := hb.trans (hb2.mono hb.size)
    have HK0 := Lib.hid (show V.heap[b0]? = some (.cells #[.int .i64 (R : Int), .int .i64 0, .slice aa 3 na] 31) by rw [hV, hb0]; exact k0)
    have HK1 := Lib.hid (show V.heap[b0 + 1]? = some (.cells #[.int .i64 (Q : Int), .int .i64 1, .slice ab 3 nb] 31) by rw [hV, hb0]; exact k1)
    have HRa := Lib.hid (tyPointKey.mono (tyPointKey.behind (tyPointKey.ord hO1) hb2) hb2.size)
    have HRb := Lib.hid (tyPointKey.mono (tyPointKey.behind (tyPointKey.ord hO2) hb2) hb2.size)
    have HB0 := Lib.hid (HB.out.trans (hbV.mono HB.out.size))
    have HRv := Lib.hid ((HRd.out.behind hbV).mono hbV.size)
    have HDv := Lib.hid ((hbV.block d0 (lt_of_block HD.out)).trans HD.out)
    have HCv := Lib.hid ((hbV.cell (p := ⟨g, I, none⟩) (show g < wr.heap.size by have := lt_of_block HD.out; have := HGl.out; omega)).trans HCu.out)
    have HOv := Lib.hid ((HOu.out.behind hbV).mono hbV.size)
    have HVe := Lib.hid hV
    have Hb0 := Lib.hid hb0
    have HGv : Hid (g < V.heap.size) := Lib.hid (by have := lt_of_block HD.out; have := HGl.out; have := hbV.size; omega)
    clear hb2 hO1 hO2 hb hV hb0 k0 k1 hbV HRd HD HCu HOu
    have HRw' : Hid (∀ w', Below V.heap.size V w' → V.heap.size ≤ w'.heap.size ∧ tyPointKey.rd V.heap.size w' [.int .i64 (R : Int), .int .i64 0, .slice aa 3 na] ((R : Int), (0 : Int), cs) ∧ tyPointKey.rd V.heap.size w' [.int .i64 (Q : Int), .int .i64 1, .slice ab 3 nb] ((Q : Int), (1 : Int), cs) ∧ Rd2 V.heap.size .u8 w' (.slice (some ⟨g, 0, none⟩) 8 cd) ds ∧ Rd V.heap.size .u8 w' u row ∧ w'.cell? ⟨g, I, none⟩ = some u) := Lib.hid (fun w' h => ⟨h.size, tyPointKey.behind HRa.out h, tyPointKey.behind HRb.out h, HRv.out.behind h, HOv.out.behind h, (h.cell (p := ⟨g, I, none⟩) HGv.out).trans HCv.out⟩)
    have HCs : Hid (∀ w', Below V.heap.size V w' → (w'.cell? ⟨b0, 0, none⟩ = some (.int .i64 (R : Int)) ∧ w'.cell? ⟨b0, 1, none⟩ = some (.int .i64 0) ∧ w'.cell? ⟨b0, 2, none⟩ = some (.slice aa 3 na)) ∧ (w'.cell? ⟨b0 + 1, 0, none⟩ = some (.int .i64 (Q : Int)) ∧ w'.cell? ⟨b0 + 1, 1, none⟩ = some (.int .i64 1) ∧ w'.cell? ⟨b0 + 1, 2, none⟩ = some (.slice ab 3 nb)) ∧ w'.cell? ⟨d0, 0, none⟩ = some (.slice (some ⟨g, 0, none⟩) 8 cd)) := Lib.hid (fun w' h => by
      have q0 := (h.block b0 (lt_of_block HK0.out)).trans HK0.out
      have q1 := (h.block (b0 + 1) (lt_of_block HK1.out)).trans HK1.out
      have q2 := (h.block d0 (lt_of_block HDv.out)).trans HDv.out
      exact ⟨⟨(blk_cell q0 0).trans (cell3_0 _ _ _), (blk_cell q0 1).trans (cell3_1 _ _ _), (blk_cell q0 2).trans (cell3_2 _ _ _)⟩, ⟨(blk_cell q1 0).trans (cell3_0 _ _ _), (blk_cell q1 1).trans (cell3_1 _ _ _), (blk_cell q1 2).trans (cell3_2 _ _ _)⟩, (blk_cell q2 0).trans (one0 _)⟩)
    have HBm := Lib.hid (Below.refl V.heap.size V)
    have d1 := HCs.out _ HBm.out.drew
    obtain ⟨w9, hw9⟩ : ∃ x, x = V.drew := ⟨_, rfl⟩
    have B9 : Hid (Below V.heap.size V w9) := Lib.hid (by rw [hw9]; exact HBm.out.drew)
    clear HRa HRb HK0 HK1 HDv HRv HCv HOv
    go_wp2_with fail
    rw [← HVe.out, ← Hb0.out]
    clear c10 c11 c12 c20 c21 c22
    refine wp_region_held_drew (S := fun w' => (w'.cell? ⟨b0, 0, none⟩ = some (.int .i64 (R : Int)) ∧ w'.cell? ⟨b0, 1, none⟩ = some (.int .i64 0) ∧ w'.cell? ⟨b0, 2, none⟩ = some (.slice aa 3 na)) ∧ (w'.cell? ⟨b0 + 1, 0, none⟩ = some (.int .i64 (Q : Int)) ∧ w'.cell? ⟨b0 + 1, 1, none⟩ = some (.int .i64 1) ∧ w'.cell? ⟨b0 + 1, 2, none⟩ = some (.slice ab 3 nb)) ∧ w'.cell? ⟨d0, 0, none⟩ = some (.slice (some ⟨g, 0, none⟩) 8 cd)) (by kernel_rfl) d1 (fun _ => ?_)
    rw [← hw9] at d1 ⊢
    clear hw9
    apply wpAnyH_take (i := 0) (v := .agg #[(.slice (some ⟨g, 0, none⟩) 8 cd)])
    · simp only [List.getElem?_toArray, List.getElem?_cons_zero]
      rfl
    · kernel_rfl
    · kernel_rfl
    · kernel_rfl
    · exact fun _ _ _ h => h
    · first
        | exact Or.inr ⟨by rfl, rfl⟩
        | (refine Or.inl ⟨by rfl, fun wq hwq => ?_⟩
           obtain ⟨⟨q0, q1, q2⟩, ⟨q3, q4, q5⟩, q6⟩ := hwq
           go_simp
           first
             | done
             | rfl)
    · exact d1
    simp only [Act.put, List.setIfInBounds_toArray, List.set_cons_zero, List.set_cons_succ]
    apply wpAnyH_take (i := 1) (v := .agg #[.int .i64 (R : Int), .int .i64 0, .slice aa 3 na])
    · simp only [List.getElem?_toArray, List.getElem?_cons_succ, List.getElem?_cons_zero]
      rfl
    · kernel_rfl
    · kernel_rfl
    · kernel_rfl
    · exact fun _ _ _ h => h
    · first
        | exact Or.inr ⟨by rfl, rfl⟩
        | (refine Or.inl ⟨by rfl, fun wq hwq => ?_⟩
           obtain ⟨⟨q0, q1, q2⟩, ⟨q3, q4, q5⟩, q6⟩ := hwq
           go_simp
           first
             | done
             | rfl)
    · exact d1
    simp only [Act.put, List.setIfInBounds_toArray, List.set_cons_zero, List.set_cons_succ]
    apply wpAnyH_take (i := 4) (v := .agg #[(.slice (some ⟨g, 0, none⟩) 8 cd)])
    · simp only [List.getElem?_toArray, List.getElem?_cons_succ, List.getElem?_cons_zero]
      rfl
    · kernel_rfl
    · kernel_rfl
    · kernel_rfl
    · exact fun _ _ _ h => h
    · first
        | exact Or.inr ⟨by rfl, rfl⟩
        | (refine Or.inl ⟨by rfl, fun wq hwq => ?_⟩
           obtain ⟨⟨q0, q1, q2⟩, ⟨q3, q4, q5⟩, q6⟩ := hwq
           go_simp
           first
             | done
             | rfl)
    · exact d1
    simp only [Act.put, List.setIfInBounds_toArray, List.set_cons_zero, List.set_cons_succ]
    apply wpAnyH_take (i := 5) (v := .agg #[.int .i64 (Q : Int), .int .i64 1, .slice ab 3 nb])
    · simp only [List.getElem?_toArray, List.getElem?_cons_succ, List.getElem?_cons_zero]
      rfl
    · kernel_rfl
    · kernel_rfl
    · kernel_rfl
    · exact fun _ _ _ h => h
    · first
        | exact Or.inr ⟨by rfl, rfl⟩
        | (refine Or.inl ⟨by rfl, fun wq hwq => ?_⟩
           obtain ⟨⟨q0, q1, q2⟩, ⟨q3, q4, q5⟩, q6⟩ := hwq
           go_simp
           first
             | done
             | rfl)
    · exact d1
    simp only [Act.put, List.setIfInBounds_toArray, List.set_cons_zero, List.set_cons_succ]
    refine wpAnyH_ready (rs := [2]) (by kernel_rfl) (by simp) ?_
    apply AllReadyH.cons
    · simp only [List.getElem?_toArray, List.getElem?_cons_succ, List.getElem?_cons_zero]
      rfl
    rotate_left
    · exact AllReadyH.nil
    intro K hK
    go_simp
    refine (impl_eall_t (HRw'.out _ B9.out).2.1 (HRw'.out _ B9.out).1).mono ?_
    rintro e' w10 ⟨vx, Fx, he, hx, _, hb⟩
    subst he
    replace hx := (sliceT 3 i64T).ord hx
    have HX : Hid (Rd w10.heap.size .i64 w10 vx (eall (R : Int) 0 cs)) := Lib.hid (rd_of_sl hx)
    clear hx
    replace B9 := Lib.hid (B9.out.trans (hb.mono (HRw'.out _ B9.out).1))
    clear d1
    have d1 := HCs.out _ B9.out
    clear hb
    refine hK.out _ _ d1 (fun _ => ?_)
    clear hK K
    try simp only [Act.put, List.setIfInBounds_toArray, List.set_cons_zero, List.set_cons_succ]
    refine wpAnyH_ready (rs := [3]) (by kernel_rfl) (by simp) ?_
    apply AllReadyH.cons
    · simp only [List.getElem?_toArray, List.getElem?_cons_succ, List.getElem?_cons_zero]
      rfl
    rotate_left
    · exact AllReadyH.nil
    intro K hK
    go_simp
    refine (impl_ans (HRw'.out _ B9.out).2.2.2.1 HX.out (HRw'.out _ B9.out).1 (Nat.le_refl _) HTd.out).mono ?_
    rintro e' w11 ⟨vp, he, hp, hb⟩
    subst he
    obtain ⟨a1, n1, hv, _⟩ := hp.open
    obtain ⟨L1, hL⟩ : ∃ L, L = (ans ds (eall (R : Int) 0 cs)).length := ⟨_, rfl⟩
    rw [← hL] at hv
    subst hv
    clear hL
    have HP := Lib.hid hp.rd
    clear hp HX
    replace B9 := Lib.hid (B9.out.trans (hb.mono (HRw'.out _ B9.out).1))
    clear d1
    have d1 := HCs.out _ B9.out
    clear hb
    refine hK.out _ _ d1 (fun _ => ?_)
    clear hK K
    try simp only [Act.put, List.setIfInBounds_toArray, List.set_cons_zero, List.set_cons_succ]
    refine wpAnyH_ready (rs := [6]) (by kernel_rfl) (by simp) ?_
    apply AllReadyH.cons
    · simp only [List.getElem?_toArray, List.getElem?_cons_succ, List.getElem?_cons_zero]
      rfl
    rotate_left
    · exact AllReadyH.nil
    intro K hK
    go_simp
    refine (impl_eall_t (HRw'.out _ B9.out).2.2.1 (HRw'.out _ B9.out).1).mono ?_
    rintro e' w12 ⟨vy, Fy, he, hy, _, hb⟩
    subst he
    replace hy := (sliceT 3 i64T).ord hy
    have HY : Hid (Rd w12.heap.size .i64 w12 vy (eall (Q : Int) 1 cs)) := Lib.hid (rd_of_sl hy)
    clear hy
    replace HP := Lib.hid ((HP.out.behind hb).mono hb.size)
    replace B9 := Lib.hid (B9.out.trans (hb.mono (HRw'.out _ B9.out).1))
    clear d1
    have d1 := HCs.out _ B9.out
    clear hb
    refine hK.out _ _ d1 (fun _ => ?_)
    clear hK K
    try simp only [Act.put, List.setIfInBounds_toArray, List.set_cons_zero, List.set_cons_succ]
    refine wpAnyH_ready (rs := [7]) (by kernel_rfl) (by simp) ?_
    apply AllReadyH.cons
    · simp only [List.getElem?_toArray, List.getElem?_cons_succ, List.getElem?_cons_zero]
      rfl
    rotate_left
    · exact AllReadyH.nil
    intro K hK
    go_simp
    refine (impl_ans (HRw'.out _ B9.out).2.2.2.1 HY.out (HRw'.out _ B9.out).1 (Nat.le_refl _) HTd.out).mono ?_
    rintro e' w13 ⟨vq, he, hq, hb⟩
    subst he
    obtain ⟨a2, n2, hv, _⟩ := hq.open
    obtain ⟨L2, hL⟩ : ∃ L, L = (ans ds (eall (Q : Int) 1 cs)).length := ⟨_, rfl⟩
    rw [← hL] at hv
    subst hv
    clear hL
    have HQv := Lib.hid hq.rd
    clear hq HY
    replace HP := Lib.hid ((HP.out.behind hb).mono hb.size)
    replace B9 := Lib.hid (B9.out.trans (hb.mono (HRw'.out _ B9.out).1))
    clear d1
    have d1 := HCs.out _ B9.out
    clear hb
    refine hK.out _ _ d1 (fun _ => ?_)
    clear hK K
    try simp only [Act.put, List.setIfInBounds_toArray, List.set_cons_zero, List.set_cons_succ]
    refine wpAnyH_ready (rs := [8]) (by kernel_rfl) (by simp) ?_
    apply AllReadyH.cons
    · simp only [List.getElem?_toArray, List.getElem?_cons_succ, List.getElem?_cons_zero]
      rfl
    rotate_left
    · exact AllReadyH.nil
    intro K hK
    go_simp
    have HTw := Lib.hid (rd2_two HP.out HQv.out (Nat.le_refl _) (Nat.le_refl _) 22)
    have hb : Below w13.heap.size w13 (w13.alloc (.cells #[.slice a1 L1 n1, .slice a2 L2 n2] 22)) := (Below.refl _ _).alloc (Nat.le_refl _) _
    replace B9 := Lib.hid (B9.out.trans (hb.mono (HRw'.out _ B9.out).1))
    clear d1
    have d1 := HCs.out _ B9.out
    clear hb
    refine hK.out _ _ d1 (fun _ => ?_)
    clear hK K
    try simp only [Act.put, List.setIfInBounds_toArray, List.set_cons_zero, List.set_cons_succ]
    refine wpAnyH_ready (rs := [9]) (by kernel_rfl) (by simp) ?_
    apply AllReadyH.cons
    · simp only [List.getElem?_toArray, List.getElem?_cons_succ, List.getElem?_cons_zero]
      rfl
    rotate_left
    · exact AllReadyH.nil
    intro K hK
    go_simp
    refine (impl_ca HTw.out (by simp) HT2a.out).mono ?_
    rw [HRead.out.1, HRead.out.2]
    rintro e' w14 ⟨vc, he, hc, hb⟩
    subst he
    have HC := Lib.hid hc.rd
    clear hc
    replace B9 := Lib.hid (B9.out.trans (hb.mono (HRw'.out _ B9.out).1))
    clear d1
    have d1 := HCs.out _ B9.out
    clear hb
    refine hK.out _ _ d1 (fun _ => ?_)
    clear hK K
    try simp only [Act.put, List.setIfInBounds_toArray, List.set_cons_zero, List.set_cons_succ]
    apply wpAnyH_take (i := 10)
    · simp only [List.getElem?_toArray, List.getElem?_cons_succ, List.getElem?_cons_zero]
      rfl
    · kernel_rfl
    · kernel_rfl
    · kernel_rfl
    · exact fun _ _ _ h => h
    · first
        | exact Or.inr ⟨by rfl, rfl⟩
        | (refine Or.inl ⟨by rfl, fun wq hwq => ?_⟩
           obtain ⟨⟨q0, q1, q2⟩, ⟨q3, q4, q5⟩, q6⟩ := hwq
           go_simp
           first
             | done
             | rfl)
    · exact d1
    simp only [Act.put, List.setIfInBounds_toArray, List.set_cons_zero, List.set_cons_succ]
    apply wpAnyH_take (i := 11)
    · simp only [List.getElem?_toArray, List.getElem?_cons_succ, List.getElem?_cons_zero]
      rfl
    · kernel_rfl
    · kernel_rfl
    · kernel_rfl
    · exact fun _ _ _ h => h
    · first
        | exact Or.inr ⟨by rfl, rfl⟩
        | (refine Or.inl ⟨by rfl, fun wq hwq => ?_⟩
           obtain ⟨⟨q0, q1, q2⟩, ⟨q3, q4, q5⟩, q6⟩ := hwq
           go_simp
           first
             | done
             | rfl)
    · exact d1
    simp only [Act.put, List.setIfInBounds_toArray, List.set_cons_zero, List.set_cons_succ]
    apply wpAnyH_take (i := 12)
    · simp only [List.getElem?_toArray, List.getElem?_cons_succ, List.getElem?_cons_zero]
      rfl
    · kernel_rfl
    · kernel_rfl
    · kernel_rfl
    · exact fun _ _ _ h => h
    · first
        | exact Or.inr ⟨by rfl, rfl⟩
        | (refine Or.inl ⟨by rfl, fun wq hwq => ?_⟩
           obtain ⟨⟨q0, q1, q2⟩, ⟨q3, q4, q5⟩, q6⟩ := hwq
           go_simp
           first
             | done
             | rfl)
    · exact d1
    simp only [Act.put, List.setIfInBounds_toArray, List.set_cons_zero, List.set_cons_succ]
    apply wpAnyH_take (i := 13)
    · simp only [List.getElem?_toArray, List.getElem?_cons_succ, List.getElem?_cons_zero]
      rfl
    · kernel_rfl
    · kernel_rfl
    · kernel_rfl
    · exact fun _ _ _ h => h
    · first
        | exact Or.inr ⟨by rfl, rfl⟩
        | (refine Or.inl ⟨by rfl, fun wq hwq => ?_⟩
           obtain ⟨⟨q0, q1, q2⟩, ⟨q3, q4, q5⟩, q6⟩ := hwq
           go_simp
           first
             | done
             | rfl)
    · exact d1
    simp only [Act.put, List.setIfInBounds_toArray, List.set_cons_zero, List.set_cons_succ]
    apply wpAnyH_take (i := 14)
    · simp only [List.getElem?_toArray, List.getElem?_cons_succ, List.getElem?_cons_zero]
      rfl
    · kernel_rfl
    · kernel_rfl
    · kernel_rfl
    · exact fun _ _ _ h => h
    · first
        | exact Or.inr ⟨by rfl, rfl⟩
        | (refine Or.inl ⟨by rfl, fun wq hwq => ?_⟩
           obtain ⟨⟨q0, q1, q2⟩, ⟨q3, q4, q5⟩, q6⟩ := hwq
           go_simp
           first
             | done
             | rfl)
    · exact d1
    simp only [Act.put, List.setIfInBounds_toArray, List.set_cons_zero, List.set_cons_succ]
    refine wpAnyH_done (by kernel_rfl) ?_ _
    obtain ⟨_, _, cD⟩ := d1
    have cR := (HRw'.out _ B9.out).2.2.2.2.2
    go_wp2_with fail
    refine (sameBytes_same HC.out (HRw'.out _ B9.out).2.2.2.2.1 (Nat.le_refl _) (HRw'.out _ B9.out).1).mono ?_
    rintro e' w15 ⟨rfl, hb⟩
    go_wp2_with fail
    go_ret
    exact ⟨rfl, HB0.out.trans ((B9.out.trans (hb.mono (HRw'.out _ B9.out).1)).mono HB0.out.size)⟩

end Go.Proofs.Ytaekjnacigicoaa
