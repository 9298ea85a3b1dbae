
/-
  Layer 3: the contract of the set's Move.
-/
import Derived.Test.YtaekndhchdpobaaLxSetF
set_option linter.unusedVariables false
set_option linter.unusedSimpArgs false
namespace Go.Proofs.Ytaekndhchdpobaa
open Go.RowKit Go.Maps

theorem gdrew {w w' : World} {row : Option Nat} (h : w.grownBy w' row) : w.grownBy w'.drew row := ⟨h.os, h.tape, h.output, h.size, h.block⟩

set_option maxRecDepth 100000 in
set_option maxHeartbeats 4000000 in
theorem move_any {w : World} {bs bm n : Nat} {D : DataW Unit} (h : SetAt w bs bm n D) (hn : n < 1000000) {s o t p : Int} (h0 : 0 ≤ s) (h1 : s < 4294967296) (h2 : 0 ≤ o) (h3 : o < 4294967296) (g0 : 0 ≤ t) (g1 : t < 4294967296) (g2 : 0 ≤ p) (g3 : p < 4294967296) :
    Calls Try.prog 12 #[.pointer (some ⟨bs, 0, none⟩), lv s o, lv t p] w fun e w' => e = .returned (.int .i64 (moveE D s o t p)) ∧ SetAt w' bs bm (n + 1) (moveD D s o t p) ∧ w.grownBy w' (some bm) := by
  have H0 := Lib.hid h
  have H1 := Lib.hid h.own.lt
  have hcb := (look_set h h0 h1 h2 h3).2
  have cb0 := hcb.1
  have cb1 := hcb.2.1
  clear h hcb
  have e1 : moveE D s o t p = if Lx.standsB s o && Lx.standsB t p then (if Maps.has D (kl s o) then (if !decide (t = s ∧ p = o) && Maps.has D (kl t p) then 9 else 0) else 6) else 1 := rfl
  have e2 : moveD D s o t p = if Lx.standsB s o && Lx.standsB t p then (if Maps.has D (kl s o) then (if !decide (t = s ∧ p = o) && Maps.has D (kl t p) then D else (D.del (kl s o)).put (kl t p) (.lit (.int .u64 (laid D s o)))) else D) else D := rfl
  cases hs : Lx.standsB s o
  · rw [hs] at e1 e2
    simp only [Bool.true_and, Bool.and_true, Bool.false_and, Bool.and_false, Bool.not_true, Bool.not_false, if_true, Bool.false_eq_true, if_false] at e1 e2
    rw [e1, e2]
    have Hs := Lib.hid hs
    clear hs e1 e2
    unfold lv
    go_enter Try.func12, Try.ntmps12
    go_wp2_with fail
    have bb := Lib.hid (balloc (bnew w (.cells #[.int .u32 s, .int .u32 o] 31)) (.cells #[.int .u32 t, .int .u32 p] 31))
    have HK := Lib.hid ((LBox.new w s o 31).on (bnew _ (.cells #[.int .u32 t, .int .u32 p] 31)))
    have HK2 := Lib.hid (LBox.new2 w (.cells #[.int .u32 s, .int .u32 o] 31) t p 31)
    replace H0 := Lib.hid (H0.out.on bb.out)
    refine (made_yes H0.out).mono ?_
    rintro e w1 ⟨rfl, hw⟩
    rw [hw] at H0 HK HK2 bb
    clear hw
    obtain ⟨c0, c1, f0, f1, hz⟩ := HK.out
    go_wp2_with fail
    refine (stands_b s o _ h0 h1 h2 h3 _ Hs.out).mono ?_
    rintro e w2 ⟨rfl, hb⟩
    replace bb := Lib.hid (bstep bb.out hb)
    replace HK := Lib.hid (HK.out.on hb)
    replace HK2 := Lib.hid (HK2.out.on hb)
    replace H0 := Lib.hid (H0.out.on hb)
    clear hb c0 c1 f0 f1 hz
    go_wp2_with fail
    go_ret
    exact ⟨rfl, H0.out.mono (Nat.le_succ _), gby bb.out⟩
  cases ht : Lx.standsB t p
  · rw [hs, ht] at e1 e2
    simp only [Bool.true_and, Bool.and_true, Bool.false_and, Bool.and_false, Bool.not_true, Bool.not_false, if_true, Bool.false_eq_true, if_false] at e1 e2
    rw [e1, e2]
    have Hs := Lib.hid hs
    have Ht := Lib.hid ht
    clear hs ht e1 e2
    unfold lv
    go_enter Try.func12, Try.ntmps12
    go_wp2_with fail
    have bb := Lib.hid (balloc (bnew w (.cells #[.int .u32 s, .int .u32 o] 31)) (.cells #[.int .u32 t, .int .u32 p] 31))
    have HK := Lib.hid ((LBox.new w s o 31).on (bnew _ (.cells #[.int .u32 t, .int .u32 p] 31)))
    have HK2 := Lib.hid (LBox.new2 w (.cells #[.int .u32 s, .int .u32 o] 31) t p 31)
    replace H0 := Lib.hid (H0.out.on bb.out)
    refine (made_yes H0.out).mono ?_
    rintro e w1 ⟨rfl, hw⟩
    rw [hw] at H0 HK HK2 bb
    clear hw
    obtain ⟨c0, c1, f0, f1, hz⟩ := HK.out
    go_wp2_with fail
    refine (stands_b s o _ h0 h1 h2 h3 _ Hs.out).mono ?_
    rintro e w2 ⟨rfl, hb⟩
    replace bb := Lib.hid (bstep bb.out hb)
    replace HK := Lib.hid (HK.out.on hb)
    replace HK2 := Lib.hid (HK2.out.on hb)
    replace H0 := Lib.hid (H0.out.on hb)
    clear hb c0 c1 f0 f1 hz
    obtain ⟨c0, c1, f0, f1, hz⟩ := HK2.out
    go_wp2_with fail
    refine (stands_b t p _ g0 g1 g2 g3 _ Ht.out).mono ?_
    rintro e w3 ⟨rfl, hb⟩
    replace bb := Lib.hid (bstep bb.out hb)
    replace HK := Lib.hid (HK.out.on hb)
    replace HK2 := Lib.hid (HK2.out.on hb)
    replace H0 := Lib.hid (H0.out.on hb)
    clear hb c0 c1 f0 f1 hz
    go_wp2_with fail
    go_ret
    exact ⟨rfl, H0.out.mono (Nat.le_succ _), gby bb.out⟩
  cases hq : Maps.has D (kl s o)
  · rw [hs, ht, hq] at e1 e2
    simp only [Bool.true_and, Bool.and_true, Bool.false_and, Bool.and_false, Bool.not_true, Bool.not_false, if_true, Bool.false_eq_true, if_false] at e1 e2
    rw [e1, e2]
    have Hs := Lib.hid hs
    have Ht := Lib.hid ht
    have Hq := Lib.hid hq
    clear hs ht hq e1 e2
    unfold lv
    go_enter Try.func12, Try.ntmps12
    go_wp2_with fail
    have bb := Lib.hid (balloc (bnew w (.cells #[.int .u32 s, .int .u32 o] 31)) (.cells #[.int .u32 t, .int .u32 p] 31))
    have HK := Lib.hid ((LBox.new w s o 31).on (bnew _ (.cells #[.int .u32 t, .int .u32 p] 31)))
    have HK2 := Lib.hid (LBox.new2 w (.cells #[.int .u32 s, .int .u32 o] 31) t p 31)
    replace H0 := Lib.hid (H0.out.on bb.out)
    refine (made_yes H0.out).mono ?_
    rintro e w1 ⟨rfl, hw⟩
    rw [hw] at H0 HK HK2 bb
    clear hw
    obtain ⟨c0, c1, f0, f1, hz⟩ := HK.out
    go_wp2_with fail
    refine (stands_b s o _ h0 h1 h2 h3 _ Hs.out).mono ?_
    rintro e w2 ⟨rfl, hb⟩
    replace bb := Lib.hid (bstep bb.out hb)
    replace HK := Lib.hid (HK.out.on hb)
    replace HK2 := Lib.hid (HK2.out.on hb)
    replace H0 := Lib.hid (H0.out.on hb)
    clear hb c0 c1 f0 f1 hz
    obtain ⟨c0, c1, f0, f1, hz⟩ := HK2.out
    go_wp2_with fail
    refine (stands_b t p _ g0 g1 g2 g3 _ Ht.out).mono ?_
    rintro e w3 ⟨rfl, hb⟩
    replace bb := Lib.hid (bstep bb.out hb)
    replace HK := Lib.hid (HK.out.on hb)
    replace HK2 := Lib.hid (HK2.out.on hb)
    replace H0 := Lib.hid (H0.out.on hb)
    clear hb c0 c1 f0 f1 hz
    go_wp2_with fail
    have hs := H0.out.on (Below.refl _ _).drew
    have hl := (look_set hs h0 h1 h2 h3).1
    generalize hc : laid D s o = c at *
    have Hc := Lib.hid hc
    rw [Hq.out] at hl
    clear hs hc
    refine wp_region_noPanic ?_
    refine wp_region_held_drew (S := fun w' => SK w' bs bm (w.heap.size) s o) (by kernel_rfl) (⟨(H0.out.on (Below.refl _ _).drew).cell, HK.out.drew⟩) (fun hHeld => ?_)
    replace bb := Lib.hid bb.out.drew
    replace H0 := Lib.hid (H0.out.on (Below.refl _ _).drew)
    replace HK := Lib.hid HK.out.drew
    replace HK2 := Lib.hid HK2.out.drew
    generalize World.drew _ = W at *
    refine wpAnyH_take (i := 0) (v := ?_) opAt_0 (by kernel_rfl) (by kernel_rfl) (by kernel_rfl) (fun _ _ _ h => h) (Or.inl ⟨by rfl, ?_⟩) hHeld ?_
    rotate_left
    · (intro w' hSw; obtain ⟨k0, c0, c1, f0, f1, hz⟩ := hSw; go_simp; try with_reducible rfl)
    try simp only [Act.put, List.setIfInBounds_toArray, List.set_cons_zero, List.set_cons_succ]
    refine wpAnyH_take (i := 1) (v := ?_) opAt_1 (by kernel_rfl) (by kernel_rfl) (by kernel_rfl) (fun _ _ _ h => h) (Or.inl ⟨by rfl, ?_⟩) hHeld ?_
    rotate_left
    · (intro w' hSw; obtain ⟨k0, c0, c1, f0, f1, hz⟩ := hSw; go_simp; try with_reducible rfl)
    try simp only [Act.put, List.setIfInBounds_toArray, List.set_cons_zero, List.set_cons_succ]
    refine wpAnyH_take (i := 2) (v := ?_) opAt_2 (by kernel_rfl) (by kernel_rfl) (by kernel_rfl) (fun _ _ _ h => h) (Or.inl ⟨by rfl, ?_⟩) hHeld ?_
    rotate_left
    · (intro w' hSw; obtain ⟨k0, c0, c1, f0, f1, hz⟩ := hSw; go_simp; try with_reducible rfl)
    try simp only [Act.put, List.setIfInBounds_toArray, List.set_cons_zero, List.set_cons_succ]
    refine wpAnyH_take (i := 3) (v := ?_) opAt_3 (by kernel_rfl) (by kernel_rfl) (by kernel_rfl) (fun _ _ _ h => h) (Or.inl ⟨by rfl, ?_⟩) hHeld ?_
    rotate_left
    · (intro w' hSw; obtain ⟨k0, c0, c1, f0, f1, hz⟩ := hSw; go_simp; try with_reducible rfl)
    try simp only [Act.put, List.setIfInBounds_toArray, List.set_cons_zero, List.set_cons_succ]
    refine wpAnyH_take (i := 4) (v := ?_) opAt_4 (by kernel_rfl) (by kernel_rfl) (by kernel_rfl) (fun _ _ _ h => h) (Or.inl ⟨by rfl, ?_⟩) hHeld ?_
    rotate_left
    · (intro w' hSw; obtain ⟨k0, c0, c1, f0, f1, hz⟩ := hSw; go_simp; try with_reducible rfl)
    try simp only [Act.put, List.setIfInBounds_toArray, List.set_cons_zero, List.set_cons_succ]
    refine wpAnyH_ready (rs := [5]) (by kernel_rfl) (by simp) ?_
    refine AllReadyH.cons rfl (fun K hK => ?_) AllReadyH.nil
    go_simp
    refine hK.out _ _ hHeld (fun hHeld => ?_)
    clear hK K
    try simp only [Act.put, List.setIfInBounds_toArray, List.set_cons_zero, List.set_cons_succ]
    refine wpAnyH_take (i := 6) (v := ?_) opAt_6 (by kernel_rfl) (by kernel_rfl) (by kernel_rfl) (fun _ _ _ h => h) (Or.inl ⟨by rfl, ?_⟩) hHeld ?_
    rotate_left
    · (intro w' hSw; obtain ⟨k0, c0, c1, f0, f1, hz⟩ := hSw; go_simp; try with_reducible rfl)
    try simp only [Act.put, List.setIfInBounds_toArray, List.set_cons_zero, List.set_cons_succ]
    refine wpAnyH_take (i := 7) (v := ?_) opAt_7 (by kernel_rfl) (by kernel_rfl) (by kernel_rfl) (fun _ _ _ h => h) (Or.inl ⟨by rfl, ?_⟩) hHeld ?_
    rotate_left
    · (intro w' hSw; obtain ⟨k0, c0, c1, f0, f1, hz⟩ := hSw; go_simp; try with_reducible rfl)
    try simp only [Act.put, List.setIfInBounds_toArray, List.set_cons_zero, List.set_cons_succ]
    refine wpAnyH_take (i := 8) (v := ?_) opAt_8 (by kernel_rfl) (by kernel_rfl) (by kernel_rfl) (fun _ _ _ h => h) (Or.inl ⟨by rfl, ?_⟩) hHeld ?_
    rotate_left
    · (intro w' hSw; obtain ⟨k0, c0, c1, f0, f1, hz⟩ := hSw; go_simp; try with_reducible rfl)
    try simp only [Act.put, List.setIfInBounds_toArray, List.set_cons_zero, List.set_cons_succ]
    refine wpAnyH_take (i := 9) (v := ?_) opAt_9 (by kernel_rfl) (by kernel_rfl) (by kernel_rfl) (fun _ _ _ h => h) (Or.inl ⟨by rfl, ?_⟩) hHeld ?_
    rotate_left
    · (intro w' hSw; obtain ⟨k0, c0, c1, f0, f1, hz⟩ := hSw; go_simp; try with_reducible rfl)
    try simp only [Act.put, List.setIfInBounds_toArray, List.set_cons_zero, List.set_cons_succ]
    refine wpAnyH_take (i := 10) (v := ?_) opAt_10 (by kernel_rfl) (by kernel_rfl) (by kernel_rfl) (fun _ _ _ h => h) (Or.inl ⟨by rfl, ?_⟩) hHeld ?_
    rotate_left
    · (intro w' hSw; obtain ⟨k0, c0, c1, f0, f1, hz⟩ := hSw; go_simp; try with_reducible rfl)
    try simp only [Act.put, List.setIfInBounds_toArray, List.set_cons_zero, List.set_cons_succ]
    refine wpAnyH_done (by kernel_rfl) ?_ _
    refine NoPanic.normal ?_
    go_wp2_with fail
    go_ret
    exact ⟨rfl, H0.out.mono (Nat.le_succ _), gby bb.out⟩
  have hto : (!decide (t = s ∧ p = o) && Maps.has D (kl t p)) = true ∨ (!decide (t = s ∧ p = o) && Maps.has D (kl t p)) = false := by cases (!decide (t = s ∧ p = o) && Maps.has D (kl t p)) <;> simp
  rcases hto with hto | hto
  · rw [hs, ht, hq, hto] at e1 e2
    simp only [Bool.true_and, Bool.and_true, Bool.false_and, Bool.and_false, Bool.not_true, Bool.not_false, if_true, Bool.false_eq_true, if_false] at e1 e2
    rw [e1, e2]
    rw [Bool.and_eq_true] at hto
    obtain ⟨ha, hh⟩ := hto
    have Hs := Lib.hid hs
    have Ht := Lib.hid ht
    have Hq := Lib.hid hq
    have Hh := Lib.hid hh
    clear hs ht hq hh e1 e2
    unfold lv
    go_enter Try.func12, Try.ntmps12
    go_wp2_with fail
    have bb := Lib.hid (balloc (bnew w (.cells #[.int .u32 s, .int .u32 o] 31)) (.cells #[.int .u32 t, .int .u32 p] 31))
    have HK := Lib.hid ((LBox.new w s o 31).on (bnew _ (.cells #[.int .u32 t, .int .u32 p] 31)))
    have HK2 := Lib.hid (LBox.new2 w (.cells #[.int .u32 s, .int .u32 o] 31) t p 31)
    replace H0 := Lib.hid (H0.out.on bb.out)
    refine (made_yes H0.out).mono ?_
    rintro e w1 ⟨rfl, hw⟩
    rw [hw] at H0 HK HK2 bb
    clear hw
    obtain ⟨c0, c1, f0, f1, hz⟩ := HK.out
    go_wp2_with fail
    refine (stands_b s o _ h0 h1 h2 h3 _ Hs.out).mono ?_
    rintro e w2 ⟨rfl, hb⟩
    replace bb := Lib.hid (bstep bb.out hb)
    replace HK := Lib.hid (HK.out.on hb)
    replace HK2 := Lib.hid (HK2.out.on hb)
    replace H0 := Lib.hid (H0.out.on hb)
    clear hb c0 c1 f0 f1 hz
    obtain ⟨c0, c1, f0, f1, hz⟩ := HK2.out
    go_wp2_with fail
    refine (stands_b t p _ g0 g1 g2 g3 _ Ht.out).mono ?_
    rintro e w3 ⟨rfl, hb⟩
    replace bb := Lib.hid (bstep bb.out hb)
    replace HK := Lib.hid (HK.out.on hb)
    replace HK2 := Lib.hid (HK2.out.on hb)
    replace H0 := Lib.hid (H0.out.on hb)
    clear hb c0 c1 f0 f1 hz
    go_wp2_with fail
    have hs := H0.out.on (Below.refl _ _).drew
    have hl := (look_set hs h0 h1 h2 h3).1
    generalize hc : laid D s o = c at *
    have Hc := Lib.hid hc
    rw [Hq.out] at hl
    clear hs hc
    refine wp_region_noPanic ?_
    refine wp_region_held_drew (S := fun w' => SK w' bs bm (w.heap.size) s o) (by kernel_rfl) (⟨(H0.out.on (Below.refl _ _).drew).cell, HK.out.drew⟩) (fun hHeld => ?_)
    replace bb := Lib.hid bb.out.drew
    replace H0 := Lib.hid (H0.out.on (Below.refl _ _).drew)
    replace HK := Lib.hid HK.out.drew
    replace HK2 := Lib.hid HK2.out.drew
    generalize World.drew _ = W at *
    refine wpAnyH_take (i := 0) (v := ?_) opAt_0 (by kernel_rfl) (by kernel_rfl) (by kernel_rfl) (fun _ _ _ h => h) (Or.inl ⟨by rfl, ?_⟩) hHeld ?_
    rotate_left
    · (intro w' hSw; obtain ⟨k0, c0, c1, f0, f1, hz⟩ := hSw; go_simp; try with_reducible rfl)
    try simp only [Act.put, List.setIfInBounds_toArray, List.set_cons_zero, List.set_cons_succ]
    refine wpAnyH_take (i := 1) (v := ?_) opAt_1 (by kernel_rfl) (by kernel_rfl) (by kernel_rfl) (fun _ _ _ h => h) (Or.inl ⟨by rfl, ?_⟩) hHeld ?_
    rotate_left
    · (intro w' hSw; obtain ⟨k0, c0, c1, f0, f1, hz⟩ := hSw; go_simp; try with_reducible rfl)
    try simp only [Act.put, List.setIfInBounds_toArray, List.set_cons_zero, List.set_cons_succ]
    refine wpAnyH_take (i := 2) (v := ?_) opAt_2 (by kernel_rfl) (by kernel_rfl) (by kernel_rfl) (fun _ _ _ h => h) (Or.inl ⟨by rfl, ?_⟩) hHeld ?_
    rotate_left
    · (intro w' hSw; obtain ⟨k0, c0, c1, f0, f1, hz⟩ := hSw; go_simp; try with_reducible rfl)
    try simp only [Act.put, List.setIfInBounds_toArray, List.set_cons_zero, List.set_cons_succ]
    refine wpAnyH_take (i := 3) (v := ?_) opAt_3 (by kernel_rfl) (by kernel_rfl) (by kernel_rfl) (fun _ _ _ h => h) (Or.inl ⟨by rfl, ?_⟩) hHeld ?_
    rotate_left
    · (intro w' hSw; obtain ⟨k0, c0, c1, f0, f1, hz⟩ := hSw; go_simp; try with_reducible rfl)
    try simp only [Act.put, List.setIfInBounds_toArray, List.set_cons_zero, List.set_cons_succ]
    refine wpAnyH_take (i := 4) (v := ?_) opAt_4 (by kernel_rfl) (by kernel_rfl) (by kernel_rfl) (fun _ _ _ h => h) (Or.inl ⟨by rfl, ?_⟩) hHeld ?_
    rotate_left
    · (intro w' hSw; obtain ⟨k0, c0, c1, f0, f1, hz⟩ := hSw; go_simp; try with_reducible rfl)
    try simp only [Act.put, List.setIfInBounds_toArray, List.set_cons_zero, List.set_cons_succ]
    refine wpAnyH_ready (rs := [5]) (by kernel_rfl) (by simp) ?_
    refine AllReadyH.cons rfl (fun K hK => ?_) AllReadyH.nil
    go_simp
    refine hK.out _ _ hHeld (fun hHeld => ?_)
    clear hK K
    try simp only [Act.put, List.setIfInBounds_toArray, List.set_cons_zero, List.set_cons_succ]
    refine wpAnyH_take (i := 6) (v := ?_) opAt_6 (by kernel_rfl) (by kernel_rfl) (by kernel_rfl) (fun _ _ _ h => h) (Or.inl ⟨by rfl, ?_⟩) hHeld ?_
    rotate_left
    · (intro w' hSw; obtain ⟨k0, c0, c1, f0, f1, hz⟩ := hSw; go_simp; try with_reducible rfl)
    try simp only [Act.put, List.setIfInBounds_toArray, List.set_cons_zero, List.set_cons_succ]
    refine wpAnyH_take (i := 7) (v := ?_) opAt_7 (by kernel_rfl) (by kernel_rfl) (by kernel_rfl) (fun _ _ _ h => h) (Or.inl ⟨by rfl, ?_⟩) hHeld ?_
    rotate_left
    · (intro w' hSw; obtain ⟨k0, c0, c1, f0, f1, hz⟩ := hSw; go_simp; try with_reducible rfl)
    try simp only [Act.put, List.setIfInBounds_toArray, List.set_cons_zero, List.set_cons_succ]
    refine wpAnyH_take (i := 8) (v := ?_) opAt_8 (by kernel_rfl) (by kernel_rfl) (by kernel_rfl) (fun _ _ _ h => h) (Or.inl ⟨by rfl, ?_⟩) hHeld ?_
    rotate_left
    · (intro w' hSw; obtain ⟨k0, c0, c1, f0, f1, hz⟩ := hSw; go_simp; try with_reducible rfl)
    try simp only [Act.put, List.setIfInBounds_toArray, List.set_cons_zero, List.set_cons_succ]
    refine wpAnyH_take (i := 9) (v := ?_) opAt_9 (by kernel_rfl) (by kernel_rfl) (by kernel_rfl) (fun _ _ _ h => h) (Or.inl ⟨by rfl, ?_⟩) hHeld ?_
    rotate_left
    · (intro w' hSw; obtain ⟨k0, c0, c1, f0, f1, hz⟩ := hSw; go_simp; try with_reducible rfl)
    try simp only [Act.put, List.setIfInBounds_toArray, List.set_cons_zero, List.set_cons_succ]
    refine wpAnyH_take (i := 10) (v := ?_) opAt_10 (by kernel_rfl) (by kernel_rfl) (by kernel_rfl) (fun _ _ _ h => h) (Or.inl ⟨by rfl, ?_⟩) hHeld ?_
    rotate_left
    · (intro w' hSw; obtain ⟨k0, c0, c1, f0, f1, hz⟩ := hSw; go_simp; try with_reducible rfl)
    try simp only [Act.put, List.setIfInBounds_toArray, List.set_cons_zero, List.set_cons_succ]
    refine wpAnyH_done (by kernel_rfl) ?_ _
    refine NoPanic.normal ?_
    have hnl := fun w => run_neq_loc t p s o w
    have hgl := guard_loc
    rw [ha] at hnl
    obtain ⟨c0, c1, f0, f1, hz⟩ := HK.out
    obtain ⟨d0, d1, k0, k1, hy⟩ := HK2.out
    go_wp2_with fail
    refine (has_b H0.out g0 g1 g2 g3 _ Hh.out).mono ?_
    rintro e w5 ⟨rfl, hb⟩
    replace bb := Lib.hid (bstep bb.out hb)
    replace H0 := Lib.hid (H0.out.on hb)
    clear hb c0 c1 f0 f1 hz d0 d1 k0 k1 hy hnl hgl
    go_wp2_with fail
    go_ret
    exact ⟨rfl, H0.out.mono (Nat.le_succ _), gby bb.out⟩
  · rw [hs, ht, hq, hto] at e1 e2
    simp only [Bool.true_and, Bool.and_true, Bool.false_and, Bool.and_false, Bool.not_true, Bool.not_false, if_true, Bool.false_eq_true, if_false] at e1 e2
    rw [e1, e2]
    have Hs := Lib.hid hs
    have Ht := Lib.hid ht
    have Hq := Lib.hid hq
    clear hs ht hq e1 e2
    rcases hd : decide (t = s ∧ p = o) with _ | _
    · rw [hd] at hto
      simp only [Bool.not_false, Bool.true_and] at hto
      have Hh := Lib.hid hto
      have Hd := Lib.hid hd
      clear hto hd
      unfold lv
      go_enter Try.func12, Try.ntmps12
      go_wp2_with fail
      have bb := Lib.hid (balloc (bnew w (.cells #[.int .u32 s, .int .u32 o] 31)) (.cells #[.int .u32 t, .int .u32 p] 31))
      have HK := Lib.hid ((LBox.new w s o 31).on (bnew _ (.cells #[.int .u32 t, .int .u32 p] 31)))
      have HK2 := Lib.hid (LBox.new2 w (.cells #[.int .u32 s, .int .u32 o] 31) t p 31)
      replace H0 := Lib.hid (H0.out.on bb.out)
      refine (made_yes H0.out).mono ?_
      rintro e w1 ⟨rfl, hw⟩
      rw [hw] at H0 HK HK2 bb
      clear hw
      obtain ⟨c0, c1, f0, f1, hz⟩ := HK.out
      go_wp2_with fail
      refine (stands_b s o _ h0 h1 h2 h3 _ Hs.out).mono ?_
      rintro e w2 ⟨rfl, hb⟩
      replace bb := Lib.hid (bstep bb.out hb)
      replace HK := Lib.hid (HK.out.on hb)
      replace HK2 := Lib.hid (HK2.out.on hb)
      replace H0 := Lib.hid (H0.out.on hb)
      clear hb c0 c1 f0 f1 hz
      obtain ⟨c0, c1, f0, f1, hz⟩ := HK2.out
      go_wp2_with fail
      refine (stands_b t p _ g0 g1 g2 g3 _ Ht.out).mono ?_
      rintro e w3 ⟨rfl, hb⟩
      replace bb := Lib.hid (bstep bb.out hb)
      replace HK := Lib.hid (HK.out.on hb)
      replace HK2 := Lib.hid (HK2.out.on hb)
      replace H0 := Lib.hid (H0.out.on hb)
      clear hb c0 c1 f0 f1 hz
      go_wp2_with fail
      have hs := H0.out.on (Below.refl _ _).drew
      have hl := (look_set hs h0 h1 h2 h3).1
      generalize hc : laid D s o = c at *
      have Hc := Lib.hid hc
      rw [Hq.out] at hl
      clear hs hc
      refine wp_region_noPanic ?_
      refine wp_region_held_drew (S := fun w' => SK w' bs bm (w.heap.size) s o) (by kernel_rfl) (⟨(H0.out.on (Below.refl _ _).drew).cell, HK.out.drew⟩) (fun hHeld => ?_)
      replace bb := Lib.hid bb.out.drew
      replace H0 := Lib.hid (H0.out.on (Below.refl _ _).drew)
      replace HK := Lib.hid HK.out.drew
      replace HK2 := Lib.hid HK2.out.drew
      generalize World.drew _ = W at *
      refine wpAnyH_take (i := 0) (v := ?_) opAt_0 (by kernel_rfl) (by kernel_rfl) (by kernel_rfl) (fun _ _ _ h => h) (Or.inl ⟨by rfl, ?_⟩) hHeld ?_
      rotate_left
      · (intro w' hSw; obtain ⟨k0, c0, c1, f0, f1, hz⟩ := hSw; go_simp; try with_reducible rfl)
      try simp only [Act.put, List.setIfInBounds_toArray, List.set_cons_zero, List.set_cons_succ]
      refine wpAnyH_take (i := 1) (v := ?_) opAt_1 (by kernel_rfl) (by kernel_rfl) (by kernel_rfl) (fun _ _ _ h => h) (Or.inl ⟨by rfl, ?_⟩) hHeld ?_
      rotate_left
      · (intro w' hSw; obtain ⟨k0, c0, c1, f0, f1, hz⟩ := hSw; go_simp; try with_reducible rfl)
      try simp only [Act.put, List.setIfInBounds_toArray, List.set_cons_zero, List.set_cons_succ]
      refine wpAnyH_take (i := 2) (v := ?_) opAt_2 (by kernel_rfl) (by kernel_rfl) (by kernel_rfl) (fun _ _ _ h => h) (Or.inl ⟨by rfl, ?_⟩) hHeld ?_
      rotate_left
      · (intro w' hSw; obtain ⟨k0, c0, c1, f0, f1, hz⟩ := hSw; go_simp; try with_reducible rfl)
      try simp only [Act.put, List.setIfInBounds_toArray, List.set_cons_zero, List.set_cons_succ]
      refine wpAnyH_take (i := 3) (v := ?_) opAt_3 (by kernel_rfl) (by kernel_rfl) (by kernel_rfl) (fun _ _ _ h => h) (Or.inl ⟨by rfl, ?_⟩) hHeld ?_
      rotate_left
      · (intro w' hSw; obtain ⟨k0, c0, c1, f0, f1, hz⟩ := hSw; go_simp; try with_reducible rfl)
      try simp only [Act.put, List.setIfInBounds_toArray, List.set_cons_zero, List.set_cons_succ]
      refine wpAnyH_take (i := 4) (v := ?_) opAt_4 (by kernel_rfl) (by kernel_rfl) (by kernel_rfl) (fun _ _ _ h => h) (Or.inl ⟨by rfl, ?_⟩) hHeld ?_
      rotate_left
      · (intro w' hSw; obtain ⟨k0, c0, c1, f0, f1, hz⟩ := hSw; go_simp; try with_reducible rfl)
      try simp only [Act.put, List.setIfInBounds_toArray, List.set_cons_zero, List.set_cons_succ]
      refine wpAnyH_ready (rs := [5]) (by kernel_rfl) (by simp) ?_
      refine AllReadyH.cons rfl (fun K hK => ?_) AllReadyH.nil
      go_simp
      refine hK.out _ _ hHeld (fun hHeld => ?_)
      clear hK K
      try simp only [Act.put, List.setIfInBounds_toArray, List.set_cons_zero, List.set_cons_succ]
      refine wpAnyH_take (i := 6) (v := ?_) opAt_6 (by kernel_rfl) (by kernel_rfl) (by kernel_rfl) (fun _ _ _ h => h) (Or.inl ⟨by rfl, ?_⟩) hHeld ?_
      rotate_left
      · (intro w' hSw; obtain ⟨k0, c0, c1, f0, f1, hz⟩ := hSw; go_simp; try with_reducible rfl)
      try simp only [Act.put, List.setIfInBounds_toArray, List.set_cons_zero, List.set_cons_succ]
      refine wpAnyH_take (i := 7) (v := ?_) opAt_7 (by kernel_rfl) (by kernel_rfl) (by kernel_rfl) (fun _ _ _ h => h) (Or.inl ⟨by rfl, ?_⟩) hHeld ?_
      rotate_left
      · (intro w' hSw; obtain ⟨k0, c0, c1, f0, f1, hz⟩ := hSw; go_simp; try with_reducible rfl)
      try simp only [Act.put, List.setIfInBounds_toArray, List.set_cons_zero, List.set_cons_succ]
      refine wpAnyH_take (i := 8) (v := ?_) opAt_8 (by kernel_rfl) (by kernel_rfl) (by kernel_rfl) (fun _ _ _ h => h) (Or.inl ⟨by rfl, ?_⟩) hHeld ?_
      rotate_left
      · (intro w' hSw; obtain ⟨k0, c0, c1, f0, f1, hz⟩ := hSw; go_simp; try with_reducible rfl)
      try simp only [Act.put, List.setIfInBounds_toArray, List.set_cons_zero, List.set_cons_succ]
      refine wpAnyH_take (i := 9) (v := ?_) opAt_9 (by kernel_rfl) (by kernel_rfl) (by kernel_rfl) (fun _ _ _ h => h) (Or.inl ⟨by rfl, ?_⟩) hHeld ?_
      rotate_left
      · (intro w' hSw; obtain ⟨k0, c0, c1, f0, f1, hz⟩ := hSw; go_simp; try with_reducible rfl)
      try simp only [Act.put, List.setIfInBounds_toArray, List.set_cons_zero, List.set_cons_succ]
      refine wpAnyH_take (i := 10) (v := ?_) opAt_10 (by kernel_rfl) (by kernel_rfl) (by kernel_rfl) (fun _ _ _ h => h) (Or.inl ⟨by rfl, ?_⟩) hHeld ?_
      rotate_left
      · (intro w' hSw; obtain ⟨k0, c0, c1, f0, f1, hz⟩ := hSw; go_simp; try with_reducible rfl)
      try simp only [Act.put, List.setIfInBounds_toArray, List.set_cons_zero, List.set_cons_succ]
      refine wpAnyH_done (by kernel_rfl) ?_ _
      refine NoPanic.normal ?_
      have hnl := fun w => run_neq_loc t p s o w
      have hgl := guard_loc
      rw [Hd.out] at hnl
      simp only [Bool.not_false] at hnl
      obtain ⟨c0, c1, f0, f1, hz⟩ := HK.out
      obtain ⟨d0, d1, k0, k1, hy⟩ := HK2.out
      go_wp2_with fail
      refine (has_b H0.out g0 g1 g2 g3 _ Hh.out).mono ?_
      rintro e w5 ⟨rfl, hb⟩
      replace bb := Lib.hid (bstep bb.out hb)
      replace H0 := Lib.hid (H0.out.on hb)
      replace HK := Lib.hid (HK.out.on hb)
      replace HK2 := Lib.hid (HK2.out.on hb)
      clear hb c0 c1 f0 f1 hz d0 d1 k0 k1 hy hnl hgl
      go_wp2_with fail
      refine wp_region_noPanic ?_
      refine wp_region_held_drew (S := fun w' => SK w' bs bm (w.heap.size) s o) (by kernel_rfl) (⟨(H0.out.on (Below.refl _ _).drew).cell, HK.out.drew⟩) (fun hHeld => ?_)
      replace bb := Lib.hid bb.out.drew
      replace H0 := Lib.hid (H0.out.on (Below.refl _ _).drew)
      replace HK := Lib.hid HK.out.drew
      replace HK2 := Lib.hid HK2.out.drew
      generalize World.drew _ = W1 at *
      refine wpAnyH_take (i := 0) (v := ?_) opAt_0 (by kernel_rfl) (by kernel_rfl) (by kernel_rfl) (fun _ _ _ h => h) (Or.inl ⟨by rfl, ?_⟩) hHeld ?_
      rotate_left
      · (intro w' hSw; obtain ⟨k0, c0, c1, f0, f1, hz⟩ := hSw; go_simp; try with_reducible rfl)
      try simp only [Act.put, List.setIfInBounds_toArray, List.set_cons_zero, List.set_cons_succ]
      refine wpAnyH_take (i := 1) (v := ?_) opAt_1 (by kernel_rfl) (by kernel_rfl) (by kernel_rfl) (fun _ _ _ h => h) (Or.inl ⟨by rfl, ?_⟩) hHeld ?_
      rotate_left
      · (intro w' hSw; obtain ⟨k0, c0, c1, f0, f1, hz⟩ := hSw; go_simp; try with_reducible rfl)
      try simp only [Act.put, List.setIfInBounds_toArray, List.set_cons_zero, List.set_cons_succ]
      refine wpAnyH_take (i := 2) (v := ?_) opAt_2 (by kernel_rfl) (by kernel_rfl) (by kernel_rfl) (fun _ _ _ h => h) (Or.inl ⟨by rfl, ?_⟩) hHeld ?_
      rotate_left
      · (intro w' hSw; obtain ⟨k0, c0, c1, f0, f1, hz⟩ := hSw; go_simp; try with_reducible rfl)
      try simp only [Act.put, List.setIfInBounds_toArray, List.set_cons_zero, List.set_cons_succ]
      refine wpAnyH_take (i := 3) (v := ?_) opAt_3 (by kernel_rfl) (by kernel_rfl) (by kernel_rfl) (fun _ _ _ h => h) (Or.inl ⟨by rfl, ?_⟩) hHeld ?_
      rotate_left
      · (intro w' hSw; obtain ⟨k0, c0, c1, f0, f1, hz⟩ := hSw; go_simp; try with_reducible rfl)
      try simp only [Act.put, List.setIfInBounds_toArray, List.set_cons_zero, List.set_cons_succ]
      refine wpAnyH_take (i := 4) (v := ?_) opAt_4 (by kernel_rfl) (by kernel_rfl) (by kernel_rfl) (fun _ _ _ h => h) (Or.inl ⟨by rfl, ?_⟩) hHeld ?_
      rotate_left
      · (intro w' hSw; obtain ⟨k0, c0, c1, f0, f1, hz⟩ := hSw; go_simp; try with_reducible rfl)
      try simp only [Act.put, List.setIfInBounds_toArray, List.set_cons_zero, List.set_cons_succ]
      refine wpAnyH_ready (rs := [5]) (by kernel_rfl) (by simp) ?_
      refine AllReadyH.cons rfl (fun K hK => ?_) AllReadyH.nil
      obtain ⟨w9, hrun, hown, hturn⟩ := H0.out.own.drop keyedLoc Try.underlying74 (keyOf_loc h0 h1 h2 h3) _
      refine step_delete rfl (.tmp 42) (.tmp 43) 74 31 rfl bm (.agg #[.int .u32 s, .int .u32 o]) (by rfl) (by rfl) hrun ?_
      have hg := hturn.grown
      have hne := H0.out.ne
      replace H0 : Hid (SetAt w9 bs bm n (D.del (kl s o))) := ⟨(World.cell?_of_block (hg.block bs H0.out.lt (by simpa using hne))).trans H0.out.cell, hown⟩
      have bg : Hid (w.grownBy w9 (some bm)) := (gby (row := some bm) bb.out).trans hg
      have hbox : LBox w9 w.heap.size s o := HK.out.grown hg (fun k hk => by injection hk with hk; subst hk; have := H1.out; omega)
      replace HK2 := Lib.hid (HK2.out.grown hg (fun k hk => by injection hk with hk; subst hk; have := H1.out; omega))
      clear hturn hrun hown hg hne HK bb
      refine hK.out _ _ ⟨H0.out.cell, hbox⟩ (fun hHeld => ?_)
      clear hK K
      try simp only [Act.put, List.setIfInBounds_toArray, List.set_cons_zero, List.set_cons_succ]
      refine wpAnyH_done (by kernel_rfl) ?_ _
      refine NoPanic.normal ?_
      go_wp2_with fail
      refine wp_region_noPanic ?_
      refine wp_region_held_drew (S := fun w' => SK w' bs bm (w.heap.size + 1) t p) (by kernel_rfl) (⟨(H0.out.on (Below.refl _ _).drew).cell, HK2.out.drew⟩) (fun hHeld => ?_)
      replace bg := Lib.hid (gdrew bg.out)
      replace H0 := Lib.hid (H0.out.on (Below.refl _ _).drew)
      replace HK2 := Lib.hid HK2.out.drew
      generalize World.drew _ = W2 at *
      refine wpAnyH_take (i := 0) (v := ?_) opAt_0 (by kernel_rfl) (by kernel_rfl) (by kernel_rfl) (fun _ _ _ h => h) (Or.inl ⟨by rfl, ?_⟩) hHeld ?_
      rotate_left
      · (intro w' hSw; obtain ⟨k0, c0, c1, f0, f1, hz⟩ := hSw; go_simp; try with_reducible rfl)
      try simp only [Act.put, List.setIfInBounds_toArray, List.set_cons_zero, List.set_cons_succ]
      refine wpAnyH_take (i := 1) (v := ?_) opAt_1 (by kernel_rfl) (by kernel_rfl) (by kernel_rfl) (fun _ _ _ h => h) (Or.inl ⟨by rfl, ?_⟩) hHeld ?_
      rotate_left
      · (intro w' hSw; obtain ⟨k0, c0, c1, f0, f1, hz⟩ := hSw; go_simp; try with_reducible rfl)
      try simp only [Act.put, List.setIfInBounds_toArray, List.set_cons_zero, List.set_cons_succ]
      refine wpAnyH_take (i := 2) (v := ?_) opAt_2 (by kernel_rfl) (by kernel_rfl) (by kernel_rfl) (fun _ _ _ h => h) (Or.inl ⟨by rfl, ?_⟩) hHeld ?_
      rotate_left
      · (intro w' hSw; obtain ⟨k0, c0, c1, f0, f1, hz⟩ := hSw; go_simp; try with_reducible rfl)
      try simp only [Act.put, List.setIfInBounds_toArray, List.set_cons_zero, List.set_cons_succ]
      refine wpAnyH_take (i := 3) (v := ?_) opAt_3 (by kernel_rfl) (by kernel_rfl) (by kernel_rfl) (fun _ _ _ h => h) (Or.inl ⟨by rfl, ?_⟩) hHeld ?_
      rotate_left
      · (intro w' hSw; obtain ⟨k0, c0, c1, f0, f1, hz⟩ := hSw; go_simp; try with_reducible rfl)
      try simp only [Act.put, List.setIfInBounds_toArray, List.set_cons_zero, List.set_cons_succ]
      refine wpAnyH_take (i := 4) (v := ?_) opAt_4 (by kernel_rfl) (by kernel_rfl) (by kernel_rfl) (fun _ _ _ h => h) (Or.inl ⟨by rfl, ?_⟩) hHeld ?_
      rotate_left
      · (intro w' hSw; obtain ⟨k0, c0, c1, f0, f1, hz⟩ := hSw; go_simp; try with_reducible rfl)
      try simp only [Act.put, List.setIfInBounds_toArray, List.set_cons_zero, List.set_cons_succ]
      refine wpAnyH_take (i := 5) (v := ?_) opAt_5 (by kernel_rfl) (by kernel_rfl) (by kernel_rfl) (fun _ _ _ h => h) (Or.inl ⟨by rfl, ?_⟩) hHeld ?_
      rotate_left
      · (intro w' hSw; obtain ⟨k0, c0, c1, f0, f1, hz⟩ := hSw; go_simp; try with_reducible rfl)
      try simp only [Act.put, List.setIfInBounds_toArray, List.set_cons_zero, List.set_cons_succ]
      refine wpAnyH_ready (rs := [6]) (by kernel_rfl) (by simp) ?_
      refine AllReadyH.cons rfl (fun K hK => ?_) AllReadyH.nil
      obtain ⟨w8, hrun, hown, hturn⟩ := H0.out.own.store keyedLoc Try.underlying74 (by unfold maxLen; omega) (keyOf_loc g0 g1 g2 g3) (plainElem_int Try.underlying32 (wf_u64 cb0 cb1))
      go_simp
      have hg := hturn.grown
      have hne := H0.out.ne
      have HE : Hid (SetAt w8 bs bm _ _) := ⟨(World.cell?_of_block (hg.block bs H0.out.lt (by simpa using hne))).trans H0.out.cell, hown⟩
      have HF : Hid (w.grownBy w8 (some bm)) := bg.out.trans hg
      have hbox : LBox w8 (w.heap.size + 1) t p := HK2.out.grown hg (fun k hk => by injection hk with hk; subst hk; have := H1.out; omega)
      clear hturn hrun hown hg hne
      refine hK.out _ _ ⟨HE.out.cell, hbox⟩ (fun hHeld => ?_)
      clear hK K
      try simp only [Act.put, List.setIfInBounds_toArray, List.set_cons_zero, List.set_cons_succ]
      refine wpAnyH_done (by kernel_rfl) ?_ _
      refine NoPanic.normal ?_
      go_wp2_with fail
      go_ret
      exact ⟨by rfl, by first | exact HE.out | (rw [Hc.out]; exact HE.out), HF.out⟩
    · have Hd := Lib.hid hd
      clear hto hd
      unfold lv
      go_enter Try.func12, Try.ntmps12
      go_wp2_with fail
      have bb := Lib.hid (balloc (bnew w (.cells #[.int .u32 s, .int .u32 o] 31)) (.cells #[.int .u32 t, .int .u32 p] 31))
      have HK := Lib.hid ((LBox.new w s o 31).on (bnew _ (.cells #[.int .u32 t, .int .u32 p] 31)))
      have HK2 := Lib.hid (LBox.new2 w (.cells #[.int .u32 s, .int .u32 o] 31) t p 31)
      replace H0 := Lib.hid (H0.out.on bb.out)
      refine (made_yes H0.out).mono ?_
      rintro e w1 ⟨rfl, hw⟩
      rw [hw] at H0 HK HK2 bb
      clear hw
      obtain ⟨c0, c1, f0, f1, hz⟩ := HK.out
      go_wp2_with fail
      refine (stands_b s o _ h0 h1 h2 h3 _ Hs.out).mono ?_
      rintro e w2 ⟨rfl, hb⟩
      replace bb := Lib.hid (bstep bb.out hb)
      replace HK := Lib.hid (HK.out.on hb)
      replace HK2 := Lib.hid (HK2.out.on hb)
      replace H0 := Lib.hid (H0.out.on hb)
      clear hb c0 c1 f0 f1 hz
      obtain ⟨c0, c1, f0, f1, hz⟩ := HK2.out
      go_wp2_with fail
      refine (stands_b t p _ g0 g1 g2 g3 _ Ht.out).mono ?_
      rintro e w3 ⟨rfl, hb⟩
      replace bb := Lib.hid (bstep bb.out hb)
      replace HK := Lib.hid (HK.out.on hb)
      replace HK2 := Lib.hid (HK2.out.on hb)
      replace H0 := Lib.hid (H0.out.on hb)
      clear hb c0 c1 f0 f1 hz
      go_wp2_with fail
      have hs := H0.out.on (Below.refl _ _).drew
      have hl := (look_set hs h0 h1 h2 h3).1
      generalize hc : laid D s o = c at *
      have Hc := Lib.hid hc
      rw [Hq.out] at hl
      clear hs hc
      refine wp_region_noPanic ?_
      refine wp_region_held_drew (S := fun w' => SK w' bs bm (w.heap.size) s o) (by kernel_rfl) (⟨(H0.out.on (Below.refl _ _).drew).cell, HK.out.drew⟩) (fun hHeld => ?_)
      replace bb := Lib.hid bb.out.drew
      replace H0 := Lib.hid (H0.out.on (Below.refl _ _).drew)
      replace HK := Lib.hid HK.out.drew
      replace HK2 := Lib.hid HK2.out.drew
      generalize World.drew _ = W at *
      refine wpAnyH_take (i := 0) (v := ?_) opAt_0 (by kernel_rfl) (by kernel_rfl) (by kernel_rfl) (fun _ _ _ h => h) (Or.inl ⟨by rfl, ?_⟩) hHeld ?_
      rotate_left
      · (intro w' hSw; obtain ⟨k0, c0, c1, f0, f1, hz⟩ := hSw; go_simp; try with_reducible rfl)
      try simp only [Act.put, List.setIfInBounds_toArray, List.set_cons_zero, List.set_cons_succ]
      refine wpAnyH_take (i := 1) (v := ?_) opAt_1 (by kernel_rfl) (by kernel_rfl) (by kernel_rfl) (fun _ _ _ h => h) (Or.inl ⟨by rfl, ?_⟩) hHeld ?_
      rotate_left
      · (intro w' hSw; obtain ⟨k0, c0, c1, f0, f1, hz⟩ := hSw; go_simp; try with_reducible rfl)
      try simp only [Act.put, List.setIfInBounds_toArray, List.set_cons_zero, List.set_cons_succ]
      refine wpAnyH_take (i := 2) (v := ?_) opAt_2 (by kernel_rfl) (by kernel_rfl) (by kernel_rfl) (fun _ _ _ h => h) (Or.inl ⟨by rfl, ?_⟩) hHeld ?_
      rotate_left
      · (intro w' hSw; obtain ⟨k0, c0, c1, f0, f1, hz⟩ := hSw; go_simp; try with_reducible rfl)
      try simp only [Act.put, List.setIfInBounds_toArray, List.set_cons_zero, List.set_cons_succ]
      refine wpAnyH_take (i := 3) (v := ?_) opAt_3 (by kernel_rfl) (by kernel_rfl) (by kernel_rfl) (fun _ _ _ h => h) (Or.inl ⟨by rfl, ?_⟩) hHeld ?_
      rotate_left
      · (intro w' hSw; obtain ⟨k0, c0, c1, f0, f1, hz⟩ := hSw; go_simp; try with_reducible rfl)
      try simp only [Act.put, List.setIfInBounds_toArray, List.set_cons_zero, List.set_cons_succ]
      refine wpAnyH_take (i := 4) (v := ?_) opAt_4 (by kernel_rfl) (by kernel_rfl) (by kernel_rfl) (fun _ _ _ h => h) (Or.inl ⟨by rfl, ?_⟩) hHeld ?_
      rotate_left
      · (intro w' hSw; obtain ⟨k0, c0, c1, f0, f1, hz⟩ := hSw; go_simp; try with_reducible rfl)
      try simp only [Act.put, List.setIfInBounds_toArray, List.set_cons_zero, List.set_cons_succ]
      refine wpAnyH_ready (rs := [5]) (by kernel_rfl) (by simp) ?_
      refine AllReadyH.cons rfl (fun K hK => ?_) AllReadyH.nil
      go_simp
      refine hK.out _ _ hHeld (fun hHeld => ?_)
      clear hK K
      try simp only [Act.put, List.setIfInBounds_toArray, List.set_cons_zero, List.set_cons_succ]
      refine wpAnyH_take (i := 6) (v := ?_) opAt_6 (by kernel_rfl) (by kernel_rfl) (by kernel_rfl) (fun _ _ _ h => h) (Or.inl ⟨by rfl, ?_⟩) hHeld ?_
      rotate_left
      · (intro w' hSw; obtain ⟨k0, c0, c1, f0, f1, hz⟩ := hSw; go_simp; try with_reducible rfl)
      try simp only [Act.put, List.setIfInBounds_toArray, List.set_cons_zero, List.set_cons_succ]
      refine wpAnyH_take (i := 7) (v := ?_) opAt_7 (by kernel_rfl) (by kernel_rfl) (by kernel_rfl) (fun _ _ _ h => h) (Or.inl ⟨by rfl, ?_⟩) hHeld ?_
      rotate_left
      · (intro w' hSw; obtain ⟨k0, c0, c1, f0, f1, hz⟩ := hSw; go_simp; try with_reducible rfl)
      try simp only [Act.put, List.setIfInBounds_toArray, List.set_cons_zero, List.set_cons_succ]
      refine wpAnyH_take (i := 8) (v := ?_) opAt_8 (by kernel_rfl) (by kernel_rfl) (by kernel_rfl) (fun _ _ _ h => h) (Or.inl ⟨by rfl, ?_⟩) hHeld ?_
      rotate_left
      · (intro w' hSw; obtain ⟨k0, c0, c1, f0, f1, hz⟩ := hSw; go_simp; try with_reducible rfl)
      try simp only [Act.put, List.setIfInBounds_toArray, List.set_cons_zero, List.set_cons_succ]
      refine wpAnyH_take (i := 9) (v := ?_) opAt_9 (by kernel_rfl) (by kernel_rfl) (by kernel_rfl) (fun _ _ _ h => h) (Or.inl ⟨by rfl, ?_⟩) hHeld ?_
      rotate_left
      · (intro w' hSw; obtain ⟨k0, c0, c1, f0, f1, hz⟩ := hSw; go_simp; try with_reducible rfl)
      try simp only [Act.put, List.setIfInBounds_toArray, List.set_cons_zero, List.set_cons_succ]
      refine wpAnyH_take (i := 10) (v := ?_) opAt_10 (by kernel_rfl) (by kernel_rfl) (by kernel_rfl) (fun _ _ _ h => h) (Or.inl ⟨by rfl, ?_⟩) hHeld ?_
      rotate_left
      · (intro w' hSw; obtain ⟨k0, c0, c1, f0, f1, hz⟩ := hSw; go_simp; try with_reducible rfl)
      try simp only [Act.put, List.setIfInBounds_toArray, List.set_cons_zero, List.set_cons_succ]
      refine wpAnyH_done (by kernel_rfl) ?_ _
      refine NoPanic.normal ?_
      have hnl := fun w => run_neq_loc t p s o w
      have hgl := guard_loc
      rw [Hd.out] at hnl
      simp only [Bool.not_true] at hnl
      obtain ⟨c0, c1, f0, f1, hz⟩ := HK.out
      obtain ⟨d0, d1, k0, k1, hy⟩ := HK2.out
      go_wp2_with fail
      clear c0 c1 f0 f1 hz d0 d1 k0 k1 hy hnl hgl
      refine wp_region_noPanic ?_
      refine wp_region_held_drew (S := fun w' => SK w' bs bm (w.heap.size) s o) (by kernel_rfl) (⟨(H0.out.on (Below.refl _ _).drew).cell, HK.out.drew⟩) (fun hHeld => ?_)
      replace bb := Lib.hid bb.out.drew
      replace H0 := Lib.hid (H0.out.on (Below.refl _ _).drew)
      replace HK := Lib.hid HK.out.drew
      replace HK2 := Lib.hid HK2.out.drew
      generalize World.drew _ = W1 at *
      refine wpAnyH_take (i := 0) (v := ?_) opAt_0 (by kernel_rfl) (by kernel_rfl) (by kernel_rfl) (fun _ _ _ h => h) (Or.inl ⟨by rfl, ?_⟩) hHeld ?_
      rotate_left
      · (intro w' hSw; obtain ⟨k0, c0, c1, f0, f1, hz⟩ := hSw; go_simp; try with_reducible rfl)
      try simp only [Act.put, List.setIfInBounds_toArray, List.set_cons_zero, List.set_cons_succ]
      refine wpAnyH_take (i := 1) (v := ?_) opAt_1 (by kernel_rfl) (by kernel_rfl) (by kernel_rfl) (fun _ _ _ h => h) (Or.inl ⟨by rfl, ?_⟩) hHeld ?_
      rotate_left
      · (intro w' hSw; obtain ⟨k0, c0, c1, f0, f1, hz⟩ := hSw; go_simp; try with_reducible rfl)
      try simp only [Act.put, List.setIfInBounds_toArray, List.set_cons_zero, List.set_cons_succ]
      refine wpAnyH_take (i := 2) (v := ?_) opAt_2 (by kernel_rfl) (by kernel_rfl) (by kernel_rfl) (fun _ _ _ h => h) (Or.inl ⟨by rfl, ?_⟩) hHeld ?_
      rotate_left
      · (intro w' hSw; obtain ⟨k0, c0, c1, f0, f1, hz⟩ := hSw; go_simp; try with_reducible rfl)
      try simp only [Act.put, List.setIfInBounds_toArray, List.set_cons_zero, List.set_cons_succ]
      refine wpAnyH_take (i := 3) (v := ?_) opAt_3 (by kernel_rfl) (by kernel_rfl) (by kernel_rfl) (fun _ _ _ h => h) (Or.inl ⟨by rfl, ?_⟩) hHeld ?_
      rotate_left
      · (intro w' hSw; obtain ⟨k0, c0, c1, f0, f1, hz⟩ := hSw; go_simp; try with_reducible rfl)
      try simp only [Act.put, List.setIfInBounds_toArray, List.set_cons_zero, List.set_cons_succ]
      refine wpAnyH_take (i := 4) (v := ?_) opAt_4 (by kernel_rfl) (by kernel_rfl) (by kernel_rfl) (fun _ _ _ h => h) (Or.inl ⟨by rfl, ?_⟩) hHeld ?_
      rotate_left
      · (intro w' hSw; obtain ⟨k0, c0, c1, f0, f1, hz⟩ := hSw; go_simp; try with_reducible rfl)
      try simp only [Act.put, List.setIfInBounds_toArray, List.set_cons_zero, List.set_cons_succ]
      refine wpAnyH_ready (rs := [5]) (by kernel_rfl) (by simp) ?_
      refine AllReadyH.cons rfl (fun K hK => ?_) AllReadyH.nil
      obtain ⟨w9, hrun, hown, hturn⟩ := H0.out.own.drop keyedLoc Try.underlying74 (keyOf_loc h0 h1 h2 h3) _
      refine step_delete rfl (.tmp 42) (.tmp 43) 74 31 rfl bm (.agg #[.int .u32 s, .int .u32 o]) (by rfl) (by rfl) hrun ?_
      have hg := hturn.grown
      have hne := H0.out.ne
      replace H0 : Hid (SetAt w9 bs bm n (D.del (kl s o))) := ⟨(World.cell?_of_block (hg.block bs H0.out.lt (by simpa using hne))).trans H0.out.cell, hown⟩
      have bg : Hid (w.grownBy w9 (some bm)) := (gby (row := some bm) bb.out).trans hg
      have hbox : LBox w9 w.heap.size s o := HK.out.grown hg (fun k hk => by injection hk with hk; subst hk; have := H1.out; omega)
      replace HK2 := Lib.hid (HK2.out.grown hg (fun k hk => by injection hk with hk; subst hk; have := H1.out; omega))
      clear hturn hrun hown hg hne HK bb
      refine hK.out _ _ ⟨H0.out.cell, hbox⟩ (fun hHeld => ?_)
      clear hK K
      try simp only [Act.put, List.setIfInBounds_toArray, List.set_cons_zero, List.set_cons_succ]
      refine wpAnyH_done (by kernel_rfl) ?_ _
      refine NoPanic.normal ?_
      go_wp2_with fail
      refine wp_region_noPanic ?_
      refine wp_region_held_drew (S := fun w' => SK w' bs bm (w.heap.size + 1) t p) (by kernel_rfl) (⟨(H0.out.on (Below.refl _ _).drew).cell, HK2.out.drew⟩) (fun hHeld => ?_)
      replace bg := Lib.hid (gdrew bg.out)
      replace H0 := Lib.hid (H0.out.on (Below.refl _ _).drew)
      replace HK2 := Lib.hid HK2.out.drew
      generalize World.drew _ = W2 at *
      refine wpAnyH_take (i := 0) (v := ?_) opAt_0 (by kernel_rfl) (by kernel_rfl) (by kernel_rfl) (fun _ _ _ h => h) (Or.inl ⟨by rfl, ?_⟩) hHeld ?_
      rotate_left
      · (intro w' hSw; obtain ⟨k0, c0, c1, f0, f1, hz⟩ := hSw; go_simp; try with_reducible rfl)
      try simp only [Act.put, List.setIfInBounds_toArray, List.set_cons_zero, List.set_cons_succ]
      refine wpAnyH_take (i := 1) (v := ?_) opAt_1 (by kernel_rfl) (by kernel_rfl) (by kernel_rfl) (fun _ _ _ h => h) (Or.inl ⟨by rfl, ?_⟩) hHeld ?_
      rotate_left
      · (intro w' hSw; obtain ⟨k0, c0, c1, f0, f1, hz⟩ := hSw; go_simp; try with_reducible rfl)
      try simp only [Act.put, List.setIfInBounds_toArray, List.set_cons_zero, List.set_cons_succ]
      refine wpAnyH_take (i := 2) (v := ?_) opAt_2 (by kernel_rfl) (by kernel_rfl) (by kernel_rfl) (fun _ _ _ h => h) (Or.inl ⟨by rfl, ?_⟩) hHeld ?_
      rotate_left
      · (intro w' hSw; obtain ⟨k0, c0, c1, f0, f1, hz⟩ := hSw; go_simp; try with_reducible rfl)
      try simp only [Act.put, List.setIfInBounds_toArray, List.set_cons_zero, List.set_cons_succ]
      refine wpAnyH_take (i := 3) (v := ?_) opAt_3 (by kernel_rfl) (by kernel_rfl) (by kernel_rfl) (fun _ _ _ h => h) (Or.inl ⟨by rfl, ?_⟩) hHeld ?_
      rotate_left
      · (intro w' hSw; obtain ⟨k0, c0, c1, f0, f1, hz⟩ := hSw; go_simp; try with_reducible rfl)
      try simp only [Act.put, List.setIfInBounds_toArray, List.set_cons_zero, List.set_cons_succ]
      refine wpAnyH_take (i := 4) (v := ?_) opAt_4 (by kernel_rfl) (by kernel_rfl) (by kernel_rfl) (fun _ _ _ h => h) (Or.inl ⟨by rfl, ?_⟩) hHeld ?_
      rotate_left
      · (intro w' hSw; obtain ⟨k0, c0, c1, f0, f1, hz⟩ := hSw; go_simp; try with_reducible rfl)
      try simp only [Act.put, List.setIfInBounds_toArray, List.set_cons_zero, List.set_cons_succ]
      refine wpAnyH_take (i := 5) (v := ?_) opAt_5 (by kernel_rfl) (by kernel_rfl) (by kernel_rfl) (fun _ _ _ h => h) (Or.inl ⟨by rfl, ?_⟩) hHeld ?_
      rotate_left
      · (intro w' hSw; obtain ⟨k0, c0, c1, f0, f1, hz⟩ := hSw; go_simp; try with_reducible rfl)
      try simp only [Act.put, List.setIfInBounds_toArray, List.set_cons_zero, List.set_cons_succ]
      refine wpAnyH_ready (rs := [6]) (by kernel_rfl) (by simp) ?_
      refine AllReadyH.cons rfl (fun K hK => ?_) AllReadyH.nil
      obtain ⟨w8, hrun, hown, hturn⟩ := H0.out.own.store keyedLoc Try.underlying74 (by unfold maxLen; omega) (keyOf_loc g0 g1 g2 g3) (plainElem_int Try.underlying32 (wf_u64 cb0 cb1))
      go_simp
      have hg := hturn.grown
      have hne := H0.out.ne
      have HE : Hid (SetAt w8 bs bm _ _) := ⟨(World.cell?_of_block (hg.block bs H0.out.lt (by simpa using hne))).trans H0.out.cell, hown⟩
      have HF : Hid (w.grownBy w8 (some bm)) := bg.out.trans hg
      have hbox : LBox w8 (w.heap.size + 1) t p := HK2.out.grown hg (fun k hk => by injection hk with hk; subst hk; have := H1.out; omega)
      clear hturn hrun hown hg hne
      refine hK.out _ _ ⟨HE.out.cell, hbox⟩ (fun hHeld => ?_)
      clear hK K
      try simp only [Act.put, List.setIfInBounds_toArray, List.set_cons_zero, List.set_cons_succ]
      refine wpAnyH_done (by kernel_rfl) ?_ _
      refine NoPanic.normal ?_
      go_wp2_with fail
      go_ret
      exact ⟨by rfl, by first | exact HE.out | (rw [Hc.out]; exact HE.out), HF.out⟩
end Go.Proofs.Ytaekndhchdpobaa
