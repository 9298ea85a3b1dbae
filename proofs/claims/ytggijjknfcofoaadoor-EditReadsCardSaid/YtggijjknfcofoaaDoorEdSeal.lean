
/-
  Layer 9: the reader: seal.
-/
import Derived.Test.YtggijjknfcofoaaDoorEdRead
import Derived.Test.YtggijjknfcofoaaDoorRegion
import Derived.Deep.RegionHeld3
set_option linter.unusedVariables false
set_option linter.unusedSimpArgs false
namespace Go.Proofs.YtggijjknfcofoaaDoor
open Go.RowKit

theorem Bx.set {w : World} {g : Nat} {xs : List Value} (h : Bx w g xs) (j : Nat) (v : Value) (hj : j < xs.length) : Bx (w.setCell ⟨g, j, none⟩ v) g (xs.set j v) := by
  refine ⟨by simpa using h.lt, fun i u hu => ?_, fun i u hu => ?_⟩
  · rw [List.getElem?_set] at hu
    split at hu
    · rename_i e
      subst e
      try rw [if_pos hj] at hu
      injection hu with hu
      subst hu
      exact World.cell?_setCell_same _ _ _ (h.cell j _ (List.getElem?_eq_getElem hj))
    · rename_i e
      rw [World.cell?_setCell_other _ _ _ _ (by intro e'; injection e' with e1 e2; omega)]
      exact h.cell i u hu
  · rw [World.frozen?_setCell]
    have hi : i < xs.length := by have := (List.getElem?_eq_some_iff.1 hu).1; simpa using this
    exact h.free i _ (List.getElem?_eq_getElem hi)
theorem Bx.other {w : World} {g : Nat} {xs : List Value} (h : Bx w g xs) (p : Addr) (v : Value) (hp : p.block ≠ g) : Bx (w.setCell p v) g xs :=
  h.of_block (by simpa using h.lt) (Below.heap_setCell w p v g (fun e => hp e.symm))
theorem RdA.other {w : World} {g : Nat} {l : List UInt8} (h : RdA w g l) (p : Addr) (v : Value) (hp : g < p.block) : RdA (w.setCell p v) g l := by
  obtain ⟨A, c, h1, h2, h3, h4⟩ := h
  exact ⟨A, c, h1.other p v (by omega), h2, h3.setCell (by omega) v, h4⟩
theorem Chg.setNew {M : Nat → Prop} {w w' : World} (h : Chg M w w') (p : Addr) (v : Value) (hp : w.heap.size ≤ p.block) : Chg M w (w'.setCell p v) :=
  ⟨h.os, h.tape, h.output, Nat.le_trans h.size (by simp), fun k hk hn => (Below.heap_setCell w' p v k (by omega)).trans (h.block k hk hn)⟩
theorem Bx.chg {M : Nat → Prop} {w w' : World} {g : Nat} {xs : List Value} (h : Bx w g xs) (hc : Chg M w w') (hM : ¬ M g) : Bx w' g xs :=
  h.of_block (Nat.lt_of_lt_of_le h.lt hc.size) (hc.block g h.lt hM)
theorem Bx.drew {w : World} {g : Nat} {xs : List Value} (h : Bx w g xs) : Bx w.drew g xs := h.of_block (w' := w.drew) h.lt rfl
theorem RdA.drew {w : World} {g : Nat} {l : List UInt8} (h : RdA w g l) : RdA w.drew g l := by
  obtain ⟨A, c, h1, h2, h3, h4⟩ := h
  exact ⟨A, c, h1.drew, h2, h3.drew, h4⟩
/-- the seal that is told, or what is given up with -/
def SealPost (g a : Nat) (l : List UInt8) (w : World) (e : Ending) (w' : World) : Prop := match Ed.sealP a l with
  | .ok (s, r) => e = .returned (slV s) ∧ RdA w' g r ∧ Chg (fun i => i = g) w w'
  | .error c => e = gone c ∧ Chg (fun i => i = g) w w'
theorem SealPost.no {g a c : Nat} {l : List UInt8} {w w' : World} (h : Ed.sealP a l = .error c) (hc : Chg (fun i => i = g) w w') : SealPost g a l w (gone c) w' := by
  unfold SealPost
  rw [h]
  exact ⟨rfl, hc⟩
theorem SealPost.yes {g a : Nat} {s : Ed.Sl} {l r : List UInt8} {w w' : World} (h : Ed.sealP a l = .ok (s, r)) (hr : RdA w' g r) (hc : Chg (fun i => i = g) w w') : SealPost g a l w (.returned (slV s)) w' := by
  unfold SealPost
  rw [h]
  exact ⟨rfl, hr, hc⟩
theorem num_le {lo hi n : Nat} {l r : List UInt8} (h : Ed.num lo hi l = .ok (n, r)) : lo ≤ n ∧ n ≤ hi := by
  obtain ⟨k, _, _, h1, h2, _⟩ := Ed.num_ok h
  exact ⟨h1, h2⟩

set_option maxRecDepth 100000 in
set_option maxHeartbeats 16000000 in
theorem seal_any (g a : Nat) (l : List UInt8) (w : World) (h : RdA w g l) (ha : a < 4294967295) :
    Calls Tryd.prog 57 #[.pointer (some ⟨g, 0, none⟩), .int .u32 a] w (SealPost g a l w) := by
  have hgl := h.lt
  have z1 : IntKind.u64.wrap (a : Int) = (a : Int) := IntWalk.u64_in _ (by omega)
  have z2 : IntKind.u64.wrap ((a : Int) + 1) = (a : Int) + 1 := IntWalk.u64_in _ (by omega)
  have b0 := balloc (bnew w (.cells #[.int .u32 0, .int .u32 0, .int .u32 0, .int .u64 0, .int .u64 0] 28)) (.cells #[.int .u32 0, .int .u32 0, .int .u32 0, .int .u64 0, .int .u64 0] 28)
  have hT := (Bx.new w #[.int .u32 0, .int .u32 0, .int .u32 0, .int .u64 0, .int .u64 0] 28 _ rfl).alloc (.cells #[.int .u32 0, .int .u32 0, .int .u32 0, .int .u64 0, .int .u64 0] 28)
  have hS := Bx.new (w.alloc (.cells #[.int .u32 0, .int .u32 0, .int .u32 0, .int .u64 0, .int .u64 0] 28)) #[.int .u32 0, .int .u32 0, .int .u32 0, .int .u64 0, .int .u64 0] 28 _ rfl
  rw [show (w.alloc (.cells #[.int .u32 0, .int .u32 0, .int .u32 0, .int .u64 0, .int .u64 0] 28)).heap.size = w.heap.size + 1 by simp] at hS
  have hR := h.on b0
  have hC : Chg (fun i => i = g) w ((w.alloc (.cells #[.int .u32 0, .int .u32 0, .int .u32 0, .int .u64 0, .int .u64 0] 28)).alloc (.cells #[.int .u32 0, .int .u32 0, .int .u32 0, .int .u64 0, .int .u64 0] 28)) := Chg.of_below b0
  have h1a := fun (w1 : World) (h1 : RdA w1 g l) (r : List UInt8) (n : Nat) (e : Ed.num (a + 1) 16777215 l = .ok (n, r)) => number_ok g (a + 1, 16777215) l r n w1 h1 e
  have h1b := fun (w1 : World) (h1 : RdA w1 g l) (c : Nat) (e : Ed.num (a + 1) 16777215 l = .error c) => number_er g (a + 1, 16777215) l c w1 h1 e
  rw [show bdV (a + 1, 16777215) = .agg #[.int .u64 ((a : Int) + 1), .int .u64 16777215] by simp [bdV]] at h1a h1b
  have HT := Lib.hid hT
  have HS := Lib.hid hS
  have HR := Lib.hid hR
  have HC := Lib.hid hC
  clear b0 hT hS hR hC h
  go_enter Tryd.func57, Tryd.ntmps57
  go_wp2_with fail
  rcases hn1 : Ed.num (a + 1) 16777215 l with c | ⟨id, l1⟩
  · refine (h1b _ HR.out c hn1).mono ?_
    rintro e w1 ⟨rfl, hb⟩
    go_wp2_with fail
    exact ⟨rfl, SealPost.no (by simp only [Ed.sealP, Ed.bnd, hn1]) (HC.out.trans (M' := fun i => i = g) (Chg.of_below hb) fun i hi => .inl hi)⟩
  refine (h1a _ HR.out l1 id hn1).mono ?_
  rintro e w1 ⟨rfl, hr1, hc1⟩
  have q1 := num_le hn1
  have z3 : IntKind.u32.wrap (id : Int) = (id : Int) := IntWalk.u32_in _ (by omega)
  have s1 := HS.out.chg hc1 (by omega)
  obtain ⟨x0, x1, x2, x3, x4⟩ := s1.at5
  obtain ⟨f0, f1, f2, f3, f4⟩ := s1.free5
  have HS := Lib.hid (s1.set 0 (.int .u32 id) (by simp))
  have HT := Lib.hid ((HT.out.chg hc1 (by omega)).other ⟨w.heap.size + 1, 0, none⟩ (.int .u32 id) (by simp))
  have HR := Lib.hid (hr1.other ⟨w.heap.size + 1, 0, none⟩ (.int .u32 id) (by simp; omega))
  have HC := Lib.hid ((HC.out.trans hc1 fun i hi => .inl hi).setNew ⟨w.heap.size + 1, 0, none⟩ (.int .u32 id) (by simp))
  clear hr1 hc1 s1
  have N1 := Lib.hid hn1
  clear hn1 h1a h1b z1 z2
  go_wp2_with fail
  clear x0 x1 x2 x3 x4 f0 f1 f2 f3 f4
  rcases hn2 : Ed.num 16 16777216 l1 with c | ⟨sz, l2⟩
  · refine (number_er g (16, 16777216) l1 c _ HR.out hn2).mono ?_
    rintro e w1 ⟨rfl, hb⟩
    go_wp2_with fail
    exact ⟨rfl, SealPost.no (by simp only [Ed.sealP, Ed.bnd, N1.out, hn2]) (HC.out.trans (M' := fun i => i = g) (Chg.of_below hb) fun i hi => .inl hi)⟩
  refine (number_ok g (16, 16777216) l1 l2 sz _ HR.out hn2).mono ?_
  rintro e w2 ⟨rfl, hr2, hc2⟩
  have q2 := num_le hn2
  have z4 : IntKind.u32.wrap (sz : Int) = (sz : Int) := IntWalk.u32_in _ (by omega)
  have s2 := HS.out.chg hc2 (by omega)
  obtain ⟨x0, x1, x2, x3, x4⟩ := s2.at5
  obtain ⟨f0, f1, f2, f3, f4⟩ := s2.free5
  have HS := Lib.hid (s2.set 1 (.int .u32 sz) (by simp))
  have HT := Lib.hid ((HT.out.chg hc2 (by omega)).other ⟨w.heap.size + 1, 1, none⟩ (.int .u32 sz) (by simp))
  have HR := Lib.hid (hr2.other ⟨w.heap.size + 1, 1, none⟩ (.int .u32 sz) (by simp; omega))
  have HC := Lib.hid ((HC.out.trans hc2 fun i hi => .inl hi).setNew ⟨w.heap.size + 1, 1, none⟩ (.int .u32 sz) (by simp))
  clear hr2 hc2 s2
  have N2 := Lib.hid hn2
  clear hn2
  go_wp2_with fail
  clear x0 x1 x2 x3 x4 f0 f1 f2 f3 f4
  rcases hn3 : Ed.num 0 4294967295 l2 with c | ⟨many, l3⟩
  · refine (number_er g (0, 4294967295) l2 c _ HR.out hn3).mono ?_
    rintro e w1 ⟨rfl, hb⟩
    go_wp2_with fail
    exact ⟨rfl, SealPost.no (by simp only [Ed.sealP, Ed.bnd, N1.out, N2.out, hn3]) (HC.out.trans (M' := fun i => i = g) (Chg.of_below hb) fun i hi => .inl hi)⟩
  refine (number_ok g (0, 4294967295) l2 l3 many _ HR.out hn3).mono ?_
  rintro e w3 ⟨rfl, hr3, hc3⟩
  have q3 := num_le hn3
  have z5 : IntKind.u32.wrap (many : Int) = (many : Int) := IntWalk.u32_in _ (by omega)
  have s3 := HS.out.chg hc3 (by omega)
  obtain ⟨x0, x1, x2, x3, x4⟩ := s3.at5
  obtain ⟨f0, f1, f2, f3, f4⟩ := s3.free5
  have HS := Lib.hid (s3.set 2 (.int .u32 many) (by simp))
  have HT := Lib.hid ((HT.out.chg hc3 (by omega)).other ⟨w.heap.size + 1, 2, none⟩ (.int .u32 many) (by simp))
  have HR := Lib.hid (hr3.other ⟨w.heap.size + 1, 2, none⟩ (.int .u32 many) (by simp; omega))
  have HC := Lib.hid ((HC.out.trans hc3 fun i hi => .inl hi).setNew ⟨w.heap.size + 1, 2, none⟩ (.int .u32 many) (by simp))
  clear hr3 hc3 s3
  have N3 := Lib.hid hn3
  clear hn3
  by_cases hm0 : many = 0
  · have em : ((many : Int) == 0) = true := by simp [hm0]
    obtain ⟨t0, t1, t2, t3, t4⟩ := HT.out.at5
    obtain ⟨v0, v1, v2, v3, v4⟩ := HT.out.free5
    obtain ⟨y0, y1, y2, y3, y4⟩ := HS.out.at5
    have HE := Lib.hid (show Ed.sealP a l = .ok (⟨id, sz, many, 0, 0⟩, l3) by simp only [Ed.sealP, Ed.bnd, N1.out, N2.out, N3.out]; unfold Ed.sealTail; rw [if_pos hm0, hm0]; rfl)
    clear hm0
    go_wp2_with fail
    have hT5 := (((((HT.out.set 0 (.int .u32 id) (by simp)).set 1 (.int .u32 sz) (by simp)).set 2 (.int .u32 many) (by simp)).set 3 (.int .u64 0) (by simp)).set 4 (.int .u64 0) (by simp))
    have hR5 := (((((HR.out.other ⟨w.heap.size, 0, none⟩ (.int .u32 id) hgl).other ⟨w.heap.size, 1, none⟩ (.int .u32 sz) hgl).other ⟨w.heap.size, 2, none⟩ (.int .u32 many) hgl).other ⟨w.heap.size, 3, none⟩ (.int .u64 0) hgl).other ⟨w.heap.size, 4, none⟩ (.int .u64 0) hgl)
    have hC5 := (((((HC.out.setNew ⟨w.heap.size, 0, none⟩ (.int .u32 id) (Nat.le_refl _)).setNew ⟨w.heap.size, 1, none⟩ (.int .u32 sz) (Nat.le_refl _)).setNew ⟨w.heap.size, 2, none⟩ (.int .u32 many) (Nat.le_refl _)).setNew ⟨w.heap.size, 3, none⟩ (.int .u64 0) (Nat.le_refl _)).setNew ⟨w.heap.size, 4, none⟩ (.int .u64 0) (Nat.le_refl _))
    simp only [List.set_cons_zero, List.set_cons_succ] at hT5
    obtain ⟨u0, u1, u2, u3, u4⟩ := hT5.at5
    exact bodyPost_ret (v := slV ⟨id, sz, many, 0, 0⟩) (by simp [results, Tryd.results57, go_sem, u0, u1, u2, u3, u4, slV]) rfl (SealPost.yes HE.out hR5 hC5)
  · have em : ((many : Int) == 0) = false := by simp [hm0]
    have Hm0 := Lib.hid hm0
    have z6 : IntKind.u64.wrap (many : Int) = (many : Int) := IntWalk.u64_in _ (by omega)
    have z7 : IntKind.u64.wrap ((many : Int) - 1) = (many : Int) - 1 := IntWalk.u64_in _ (by omega)
    have hm1 : 1 ≤ many := by omega
    clear hm0
    go_wp2_with fail
    clear x0 x1 x2 x3 x4 f0 f1 f2 f3 f4
    rcases hn4 : Ed.num 1 1099511627776 l3 with c | ⟨first, l4⟩
    · refine (number_er g (1, 1099511627776) l3 c _ HR.out hn4).mono ?_
      rintro e w1 ⟨rfl, hb⟩
      go_wp2_with fail
      exact ⟨rfl, SealPost.no (by simp only [Ed.sealP, Ed.bnd, N1.out, N2.out, N3.out, hn4, Ed.sealTail, if_neg Hm0.out]) (HC.out.trans (M' := fun i => i = g) (Chg.of_below hb) fun i hi => .inl hi)⟩
    refine (number_ok g (1, 1099511627776) l3 l4 first _ HR.out hn4).mono ?_
    rintro e w4 ⟨rfl, hr4, hc4⟩
    have q4 := num_le hn4
    have s4 := HS.out.chg hc4 (by omega)
    obtain ⟨x0, x1, x2, x3, x4⟩ := s4.at5
    obtain ⟨f0, f1, f2, f3, f4⟩ := s4.free5
    have HS := Lib.hid (s4.set 3 (.int .u64 first) (by simp))
    have HT := Lib.hid ((HT.out.chg hc4 (by omega)).other ⟨w.heap.size + 1, 3, none⟩ (.int .u64 first) (by simp))
    have HR := Lib.hid (hr4.other ⟨w.heap.size + 1, 3, none⟩ (.int .u64 first) (by simp; omega))
    have HC := Lib.hid ((HC.out.trans hc4 fun i hi => .inl hi).setNew ⟨w.heap.size + 1, 3, none⟩ (.int .u64 first) (by simp))
    clear hr4 hc4 s4
    have N4 := Lib.hid hn4
    clear hn4
    have z8 : IntKind.u64.wrap (1099511627776 - (first : Int)) = 1099511627776 - (first : Int) := IntWalk.u64_in _ (by omega)
    have hB : bdV (many - 1, 1099511627776 - first) = .agg #[.int .u64 ((many : Int) - 1), .int .u64 (1099511627776 - (first : Int))] := by
      unfold bdV
      rw [show ((many - 1 : Nat) : Int) = (many : Int) - 1 by omega, show ((1099511627776 - first : Nat) : Int) = 1099511627776 - (first : Int) by omega]
    have HBd := Lib.hid hB
    clear hB
    go_wp2_with fail
    clear x0 x1 x2 x3 x4 f0 f1 f2 f3 f4
    obtain ⟨_, _, y2, y3, _⟩ := HS.out.at5
    refine wp_region_held_drew (S := fun w' : World => w'.cell? ⟨w.heap.size + 1, 2, none⟩ = some (.int .u32 (many : Int)) ∧ w'.cell? ⟨w.heap.size + 1, 3, none⟩ = some (.int .u64 (first : Int))) (by kernel_rfl) ⟨y2, y3⟩ (fun hHeld => ?_)
    have HS := Lib.hid (HS.out.drew)
    have HT := Lib.hid (HT.out.drew)
    have HR := Lib.hid (HR.out.drew)
    have HC := Lib.hid (HC.out.drew)
    clear y2 y3
    generalize World.drew _ = W at *
    refine wpAnyH_take (i := 0) (v := ?_) opAt_0 (by kernel_rfl) (by kernel_rfl) (by kernel_rfl) (fun _ _ _ h => h) (Or.inl ⟨by rfl, ?_⟩) hHeld ?_
    rotate_left
    · (intro w' hSw; obtain ⟨k0, k1⟩ := hSw; go_simp; try with_reducible rfl)
    try simp only [Act.put, List.setIfInBounds_toArray, List.set_cons_zero, List.set_cons_succ]
    refine wpAnyH_take (i := 1) (v := ?_) opAt_1 (by kernel_rfl) (by kernel_rfl) (by kernel_rfl) (fun _ _ _ h => h) (Or.inl ⟨by rfl, ?_⟩) hHeld ?_
    rotate_left
    · (intro w' hSw; obtain ⟨k0, k1⟩ := hSw; go_simp; try with_reducible rfl)
    try simp only [Act.put, List.setIfInBounds_toArray, List.set_cons_zero, List.set_cons_succ]
    refine wpAnyH_take (i := 2) (v := ?_) opAt_2 (by kernel_rfl) (by kernel_rfl) (by kernel_rfl) (fun _ _ _ h => h) (Or.inl ⟨by rfl, ?_⟩) hHeld ?_
    rotate_left
    · (intro w' hSw; obtain ⟨k0, k1⟩ := hSw; go_simp; try with_reducible rfl)
    try simp only [Act.put, List.setIfInBounds_toArray, List.set_cons_zero, List.set_cons_succ]
    refine wpAnyH_take (i := 3) (v := ?_) opAt_3 (by kernel_rfl) (by kernel_rfl) (by kernel_rfl) (fun _ _ _ h => h) (Or.inl ⟨by rfl, ?_⟩) hHeld ?_
    rotate_left
    · (intro w' hSw; obtain ⟨k0, k1⟩ := hSw; go_simp; try with_reducible rfl)
    try simp only [Act.put, List.setIfInBounds_toArray, List.set_cons_zero, List.set_cons_succ]
    refine wpAnyH_take (i := 4) (v := ?_) opAt_4 (by kernel_rfl) (by kernel_rfl) (by kernel_rfl) (fun _ _ _ h => h) (Or.inl ⟨by rfl, ?_⟩) hHeld ?_
    rotate_left
    · (intro w' hSw; obtain ⟨k0, k1⟩ := hSw; go_simp; try with_reducible rfl)
    try simp only [Act.put, List.setIfInBounds_toArray, List.set_cons_zero, List.set_cons_succ]
    refine wpAnyH_take (i := 5) (v := ?_) opAt_5 (by kernel_rfl) (by kernel_rfl) (by kernel_rfl) (fun _ _ _ h => h) (Or.inl ⟨by rfl, ?_⟩) hHeld ?_
    rotate_left
    · (intro w' hSw; obtain ⟨k0, k1⟩ := hSw; go_simp; try with_reducible rfl)
    try simp only [Act.put, List.setIfInBounds_toArray, List.set_cons_zero, List.set_cons_succ]
    refine wpAnyH_take (i := 6) (v := ?_) opAt_6 (by kernel_rfl) (by kernel_rfl) (by kernel_rfl) (fun _ _ _ h => h) (Or.inl ⟨by rfl, ?_⟩) hHeld ?_
    rotate_left
    · (intro w' hSw; obtain ⟨k0, k1⟩ := hSw; go_simp; try with_reducible rfl)
    try simp only [Act.put, List.setIfInBounds_toArray, List.set_cons_zero, List.set_cons_succ]
    refine wpAnyH_take (i := 7) (v := ?_) opAt_7 (by kernel_rfl) (by kernel_rfl) (by kernel_rfl) (fun _ _ _ h => h) (Or.inl ⟨by rfl, ?_⟩) hHeld ?_
    rotate_left
    · (intro w' hSw; obtain ⟨k0, k1⟩ := hSw; go_simp; try with_reducible rfl)
    try simp only [Act.put, List.setIfInBounds_toArray, List.set_cons_zero, List.set_cons_succ]
    refine wpAnyH_take (i := 8) (v := ?_) opAt_8 (by kernel_rfl) (by kernel_rfl) (by kernel_rfl) (fun _ _ _ h => h) (Or.inl ⟨by rfl, ?_⟩) hHeld ?_
    rotate_left
    · (intro w' hSw; obtain ⟨k0, k1⟩ := hSw; go_simp; try with_reducible rfl)
    try simp only [Act.put, List.setIfInBounds_toArray, List.set_cons_zero, List.set_cons_succ]
    refine wpAnyH_take (i := 9) (v := ?_) opAt_9 (by kernel_rfl) (by kernel_rfl) (by kernel_rfl) (fun _ _ _ h => h) (Or.inl ⟨by rfl, ?_⟩) hHeld ?_
    rotate_left
    · (intro w' hSw; obtain ⟨k0, k1⟩ := hSw; go_simp; try with_reducible rfl)
    try simp only [Act.put, List.setIfInBounds_toArray, List.set_cons_zero, List.set_cons_succ]
    refine wpAnyH_take (i := 10) (v := ?_) opAt_10 (by kernel_rfl) (by kernel_rfl) (by kernel_rfl) (fun _ _ _ h => h) (Or.inl ⟨by rfl, ?_⟩) hHeld ?_
    rotate_left
    · (intro w' hSw; obtain ⟨k0, k1⟩ := hSw; go_simp; try with_reducible rfl)
    try simp only [Act.put, List.setIfInBounds_toArray, List.set_cons_zero, List.set_cons_succ]
    refine wpAnyH_ready (rs := [11]) (by kernel_rfl) (by simp) ?_
    refine AllReadyH.cons rfl (fun K hK => ?_) AllReadyH.nil
    go_simp
    rw [← HBd.out]
    rcases hn5 : Ed.num (many - 1) (1099511627776 - first) l4 with c | ⟨d, l5⟩
    · refine (number_er g (many - 1, 1099511627776 - first) l4 c _ HR.out hn5).mono ?_
      rintro e w1 ⟨rfl, hb⟩
      go_wp2_with fail
      exact ⟨rfl, SealPost.no (by simp only [Ed.sealP, Ed.bnd, N1.out, N2.out, N3.out, N4.out, hn5, Ed.sealTail, if_neg Hm0.out]) (HC.out.trans (M' := fun i => i = g) (Chg.of_below hb) fun i hi => .inl hi)⟩
    refine (number_ok g (many - 1, 1099511627776 - first) l4 l5 d _ HR.out hn5).mono ?_
    rintro e w5 ⟨rfl, hr5, hc5⟩
    have q5 := num_le hn5
    have z9 : IntKind.u64.wrap ((first : Int) + (d : Int)) = (first : Int) + (d : Int) := IntWalk.u64_in _ (by omega)
    have s5 := HS.out.chg hc5 (by omega)
    have hk : w5.cell? ⟨w.heap.size + 1, 2, none⟩ = some (.int .u32 (many : Int)) ∧ w5.cell? ⟨w.heap.size + 1, 3, none⟩ = some (.int .u64 (first : Int)) := ⟨s5.at5.2.2.1, s5.at5.2.2.2.1⟩
    have HS := Lib.hid s5
    have HT := Lib.hid (HT.out.chg hc5 (by omega))
    have HR := Lib.hid hr5
    have HC := Lib.hid (HC.out.trans hc5 fun i hi => .inl hi)
    have N5 := Lib.hid hn5
    clear hr5 hc5 s5 hn5
    try go_wp2_with fail
    refine hK.out _ _ hk (fun hHeld => ?_)
    clear hK K
    try simp only [Act.put, List.setIfInBounds_toArray, List.set_cons_zero, List.set_cons_succ]
    refine wpAnyH_take (i := 12) (v := ?_) opAt_12 (by kernel_rfl) (by kernel_rfl) (by kernel_rfl) (fun _ _ _ h => h) (Or.inl ⟨by rfl, ?_⟩) hHeld ?_
    rotate_left
    · (intro w' hSw; obtain ⟨k0, k1⟩ := hSw; go_simp; try with_reducible rfl)
    try simp only [Act.put, List.setIfInBounds_toArray, List.set_cons_zero, List.set_cons_succ]
    refine wpAnyH_take (i := 13) (v := ?_) opAt_13 (by kernel_rfl) (by kernel_rfl) (by kernel_rfl) (fun _ _ _ h => h) (Or.inl ⟨by rfl, ?_⟩) hHeld ?_
    rotate_left
    · (intro w' hSw; obtain ⟨k0, k1⟩ := hSw; go_simp; try with_reducible rfl)
    try simp only [Act.put, List.setIfInBounds_toArray, List.set_cons_zero, List.set_cons_succ]
    refine wpAnyH_ready (rs := [14]) (by kernel_rfl) (by simp) ?_
    refine AllReadyH.cons rfl (fun K hK => ?_) AllReadyH.nil
    obtain ⟨x0, x1, x2, x3, x4⟩ := HS.out.at5
    obtain ⟨f0, f1, f2, f3, f4⟩ := HS.out.free5
    go_simp
    have HS := Lib.hid (HS.out.set 4 (.int .u64 ((first : Int) + (d : Int))) (by simp))
    have HT := Lib.hid (HT.out.other ⟨w.heap.size + 1, 4, none⟩ (.int .u64 ((first : Int) + (d : Int))) (by simp))
    have HR := Lib.hid (HR.out.other ⟨w.heap.size + 1, 4, none⟩ (.int .u64 ((first : Int) + (d : Int))) (by simp; omega))
    have HC := Lib.hid (HC.out.setNew ⟨w.heap.size + 1, 4, none⟩ (.int .u64 ((first : Int) + (d : Int))) (by simp))
    obtain ⟨y0, y1, y2, y3, y4⟩ := HS.out.at5
    refine hK.out _ _ ⟨y2, y3⟩ (fun hHeld => ?_)
    clear hK K
    refine wpAnyH_done (by kernel_rfl) ?_ _
    obtain ⟨t0, t1, t2, t3, t4⟩ := HT.out.at5
    obtain ⟨v0, v1, v2, v3, v4⟩ := HT.out.free5
    have HE := Lib.hid (show Ed.sealP a l = .ok (⟨id, sz, many, first, first + d⟩, l5) by simp only [Ed.sealP, Ed.bnd, N1.out, N2.out, N3.out, N4.out, N5.out, Ed.sealTail, if_neg Hm0.out]; rfl)
    go_wp2_with fail
    have hT5 := (((((HT.out.set 0 (.int .u32 id) (by simp)).set 1 (.int .u32 sz) (by simp)).set 2 (.int .u32 many) (by simp)).set 3 (.int .u64 first) (by simp)).set 4 (.int .u64 ((first : Int) + (d : Int))) (by simp))
    have hR5 := (((((HR.out.other ⟨w.heap.size, 0, none⟩ (.int .u32 id) hgl).other ⟨w.heap.size, 1, none⟩ (.int .u32 sz) hgl).other ⟨w.heap.size, 2, none⟩ (.int .u32 many) hgl).other ⟨w.heap.size, 3, none⟩ (.int .u64 first) hgl).other ⟨w.heap.size, 4, none⟩ (.int .u64 ((first : Int) + (d : Int))) hgl)
    have hC5 := (((((HC.out.setNew ⟨w.heap.size, 0, none⟩ (.int .u32 id) (Nat.le_refl _)).setNew ⟨w.heap.size, 1, none⟩ (.int .u32 sz) (Nat.le_refl _)).setNew ⟨w.heap.size, 2, none⟩ (.int .u32 many) (Nat.le_refl _)).setNew ⟨w.heap.size, 3, none⟩ (.int .u64 first) (Nat.le_refl _)).setNew ⟨w.heap.size, 4, none⟩ (.int .u64 ((first : Int) + (d : Int))) (Nat.le_refl _))
    simp only [List.set_cons_zero, List.set_cons_succ] at hT5
    obtain ⟨u0, u1, u2, u3, u4⟩ := hT5.at5
    exact bodyPost_ret (v := slV ⟨id, sz, many, first, first + d⟩) (by simp [results, Tryd.results57, go_sem, u0, u1, u2, u3, u4, slV]) rfl (SealPost.yes HE.out hR5 hC5)
end Go.Proofs.YtggijjknfcofoaaDoor
