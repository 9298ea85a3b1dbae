
/-
  Layer 3: the contracts of the set's functions.
-/
import Derived.Test.YtaekndhchdpobaaLxSet
set_option linter.unusedVariables false
set_option linter.unusedSimpArgs false
namespace Go.Proofs.Ytaekndhchdpobaa
open Go.RowKit Go.Maps

/-- a delete, at a step of a region that draws its order -/
theorem step_delete {P : Program} {w w' : World} {ops : Array Oper} {o : Oper} {a : Act} {K : Act → World → Prop} {Q : Exit → Act → World → Prop} {E : Prop} (hgd : o.guard = none) (m x : Operand) (t k : TypeId)
    (hop : o.op = Op.call { callee := Callee.builtin Builtin.delete, args := #[m, x], argTypes := #[t, k] }) (b : Nat) (key : Value) (hm : a.eval m = .map (some b)) (hx : a.eval x = key)
    (hrun : (Builtin.delete_ #[t, k] o.type #[.map (some b), key]).run P w = .ok (.tuple #[]) w') (h : K (a.put o.dst (.tuple #[])) w') :
    if Region.wanted o (yielded ops a.tmps) = true then Oper.wp P o a w K Q else E := by
  have hw : Region.wanted o (yielded ops a.tmps) = true := by simp [Region.wanted, hgd]
  rw [if_pos hw]
  unfold Oper.wp
  simp [execOp, hop, resolve, invoke, builtin, hm, hx, hrun, Result.andThen]
  exact h
theorem has_b {w : World} {bs bm n : Nat} {D : DataW Unit} (h : SetAt w bs bm n D) {s o : Int} (h0 : 0 ≤ s) (h1 : s < 4294967296) (h2 : 0 ≤ o) (h3 : o < 4294967296) (b : Bool) (hb : Maps.has D (kl s o) = b) :
    Calls Try.prog 38 #[.pointer (some ⟨bs, 0, none⟩), lv s o] w fun e w' => e = .returned (.bool b) ∧ Below w.heap.size w w' := hb ▸ has_any h h0 h1 h2 h3

def dropE (D : DataW Unit) (s o : Int) : Int := if Maps.has D (kl s o) then 0 else 6
def dropD (D : DataW Unit) (s o : Int) : DataW Unit := if Maps.has D (kl s o) then D.del (kl s o) else D
def addE (D : DataW Unit) (s o : Int) : Int := if Lx.standsB s o then (if Maps.has D (kl s o) then 9 else 0) else 1
def addD (D : DataW Unit) (s o n : Int) : DataW Unit := if Lx.standsB s o then (if Maps.has D (kl s o) then D else D.put (kl s o) (.lit (.int .u64 n))) else D
def moveE (D : DataW Unit) (s o t p : Int) : Int := if Lx.standsB s o && Lx.standsB t p then (if Maps.has D (kl s o) then (if !decide (t = s ∧ p = o) && Maps.has D (kl t p) then 9 else 0) else 6) else 1
def moveD (D : DataW Unit) (s o t p : Int) : DataW Unit := if Lx.standsB s o && Lx.standsB t p then (if Maps.has D (kl s o) then (if !decide (t = s ∧ p = o) && Maps.has D (kl t p) then D else (D.del (kl s o)).put (kl t p) (.lit (.int .u64 (laid D s o)))) else D) else D

set_option maxRecDepth 100000 in
theorem at_any {w : World} {bs bm n : Nat} {D : DataW Unit} (h : SetAt w bs bm n D) {s o : Int} (h0 : 0 ≤ s) (h1 : s < 4294967296) (h2 : 0 ≤ o) (h3 : o < 4294967296) :
    Calls Try.prog 17 #[.pointer (some ⟨bs, 0, none⟩), lv s o] w fun e w' => e = .returned (.tuple #[.int .u64 (laid D s o), .bool (Maps.has D (kl s o))]) ∧ Below w.heap.size w w' := by
  have H0 := Lib.hid h
  clear h
  unfold lv
  go_enter Try.func17, Try.ntmps17
  go_wp2_with fail
  have bb := Lib.hid (bnew w (.cells #[.int .u32 s, .int .u32 o] 31))
  have HK := Lib.hid (LBox.new w s o 31)
  replace H0 := Lib.hid (H0.out.on bb.out)
  refine (made_yes H0.out).mono ?_
  rintro e w1 ⟨rfl, hw⟩
  rw [hw] at H0 HK bb
  clear hw
  generalize hq : Maps.has D (kl s o) = hb at *
  have Hq := Lib.hid hq
  clear hq
  go_wp2_with fail
  have hs := H0.out.on (Below.refl _ _).drew
  have hl := (look_set hs h0 h1 h2 h3).1
  generalize hc : laid D s o = c at *
  have Hc := Lib.hid hc
  rw [Hq.out] at hl
  clear hs hc
  refine wp_region_noPanic ?_
  refine wp_region_held_drew (S := fun w' => SK w' bs bm (w.heap.size) s o) (by kernel_rfl) (⟨(H0.out.on (Below.refl _ _).drew).cell, HK.out.drew⟩) (fun hHeld => ?_)
  replace bb := Lib.hid bb.out.drew
  replace H0 := Lib.hid (H0.out.on (Below.refl _ _).drew)
  replace HK := Lib.hid HK.out.drew
  generalize World.drew _ = W at *
  refine wpAnyH_take (i := 0) (v := ?_) opAt_0 (by kernel_rfl) (by kernel_rfl) (by kernel_rfl) (fun _ _ _ h => h) (Or.inl ⟨by rfl, ?_⟩) hHeld ?_
  rotate_left
  · (intro w' hSw; obtain ⟨k0, c0, c1, f0, f1, hz⟩ := hSw; go_simp; try with_reducible rfl)
  try simp only [Act.put, List.setIfInBounds_toArray, List.set_cons_zero, List.set_cons_succ]
  refine wpAnyH_take (i := 1) (v := ?_) opAt_1 (by kernel_rfl) (by kernel_rfl) (by kernel_rfl) (fun _ _ _ h => h) (Or.inl ⟨by rfl, ?_⟩) hHeld ?_
  rotate_left
  · (intro w' hSw; obtain ⟨k0, c0, c1, f0, f1, hz⟩ := hSw; go_simp; try with_reducible rfl)
  try simp only [Act.put, List.setIfInBounds_toArray, List.set_cons_zero, List.set_cons_succ]
  refine wpAnyH_take (i := 2) (v := ?_) opAt_2 (by kernel_rfl) (by kernel_rfl) (by kernel_rfl) (fun _ _ _ h => h) (Or.inl ⟨by rfl, ?_⟩) hHeld ?_
  rotate_left
  · (intro w' hSw; obtain ⟨k0, c0, c1, f0, f1, hz⟩ := hSw; go_simp; try with_reducible rfl)
  try simp only [Act.put, List.setIfInBounds_toArray, List.set_cons_zero, List.set_cons_succ]
  refine wpAnyH_take (i := 3) (v := ?_) opAt_3 (by kernel_rfl) (by kernel_rfl) (by kernel_rfl) (fun _ _ _ h => h) (Or.inl ⟨by rfl, ?_⟩) hHeld ?_
  rotate_left
  · (intro w' hSw; obtain ⟨k0, c0, c1, f0, f1, hz⟩ := hSw; go_simp; try with_reducible rfl)
  try simp only [Act.put, List.setIfInBounds_toArray, List.set_cons_zero, List.set_cons_succ]
  refine wpAnyH_take (i := 4) (v := ?_) opAt_4 (by kernel_rfl) (by kernel_rfl) (by kernel_rfl) (fun _ _ _ h => h) (Or.inl ⟨by rfl, ?_⟩) hHeld ?_
  rotate_left
  · (intro w' hSw; obtain ⟨k0, c0, c1, f0, f1, hz⟩ := hSw; go_simp; try with_reducible rfl)
  try simp only [Act.put, List.setIfInBounds_toArray, List.set_cons_zero, List.set_cons_succ]
  refine wpAnyH_ready (rs := [5]) (by kernel_rfl) (by simp) ?_
  refine AllReadyH.cons rfl (fun K hK => ?_) AllReadyH.nil
  go_simp
  refine hK.out _ _ hHeld (fun hHeld => ?_)
  clear hK K
  try simp only [Act.put, List.setIfInBounds_toArray, List.set_cons_zero, List.set_cons_succ]
  refine wpAnyH_take (i := 6) (v := ?_) opAt_6 (by kernel_rfl) (by kernel_rfl) (by kernel_rfl) (fun _ _ _ h => h) (Or.inl ⟨by rfl, ?_⟩) hHeld ?_
  rotate_left
  · (intro w' hSw; obtain ⟨k0, c0, c1, f0, f1, hz⟩ := hSw; go_simp; try with_reducible rfl)
  try simp only [Act.put, List.setIfInBounds_toArray, List.set_cons_zero, List.set_cons_succ]
  refine wpAnyH_take (i := 7) (v := ?_) opAt_7 (by kernel_rfl) (by kernel_rfl) (by kernel_rfl) (fun _ _ _ h => h) (Or.inl ⟨by rfl, ?_⟩) hHeld ?_
  rotate_left
  · (intro w' hSw; obtain ⟨k0, c0, c1, f0, f1, hz⟩ := hSw; go_simp; try with_reducible rfl)
  try simp only [Act.put, List.setIfInBounds_toArray, List.set_cons_zero, List.set_cons_succ]
  refine wpAnyH_take (i := 8) (v := ?_) opAt_8 (by kernel_rfl) (by kernel_rfl) (by kernel_rfl) (fun _ _ _ h => h) (Or.inl ⟨by rfl, ?_⟩) hHeld ?_
  rotate_left
  · (intro w' hSw; obtain ⟨k0, c0, c1, f0, f1, hz⟩ := hSw; go_simp; try with_reducible rfl)
  try simp only [Act.put, List.setIfInBounds_toArray, List.set_cons_zero, List.set_cons_succ]
  refine wpAnyH_take (i := 9) (v := ?_) opAt_9 (by kernel_rfl) (by kernel_rfl) (by kernel_rfl) (fun _ _ _ h => h) (Or.inl ⟨by rfl, ?_⟩) hHeld ?_
  rotate_left
  · (intro w' hSw; obtain ⟨k0, c0, c1, f0, f1, hz⟩ := hSw; go_simp; try with_reducible rfl)
  try simp only [Act.put, List.setIfInBounds_toArray, List.set_cons_zero, List.set_cons_succ]
  refine wpAnyH_take (i := 10) (v := ?_) opAt_10 (by kernel_rfl) (by kernel_rfl) (by kernel_rfl) (fun _ _ _ h => h) (Or.inl ⟨by rfl, ?_⟩) hHeld ?_
  rotate_left
  · (intro w' hSw; obtain ⟨k0, c0, c1, f0, f1, hz⟩ := hSw; go_simp; try with_reducible rfl)
  try simp only [Act.put, List.setIfInBounds_toArray, List.set_cons_zero, List.set_cons_succ]
  refine wpAnyH_done (by kernel_rfl) ?_ _
  refine NoPanic.normal ?_
  go_wp2_with fail
  go_ret2
  exact ⟨by rw [Hq.out, Hc.out]; rfl, bb.out⟩

theorem at_nil (v : Value) (hv : ∃ s o, v = lv s o) (w : World) : Calls Try.prog 17 #[.pointer none, v] w fun e w' => e = .returned (.tuple #[.int .u64 0, .bool false]) ∧ Below w.heap.size w w' := by
  obtain ⟨s, o, rfl⟩ := hv
  unfold lv
  go_enter Try.func17, Try.ntmps17
  go_wp2_with fail
  refine (made_no _).mono ?_
  rintro e w1 ⟨rfl, rfl⟩
  go_wp2_with fail
  go_ret2
  exact ⟨rfl, bnew _ _⟩

set_option maxRecDepth 100000 in
theorem len_any {w : World} {bs bm n : Nat} {D : DataW Unit} (h : SetAt w bs bm n D) :
    Calls Try.prog 19 #[.pointer (some ⟨bs, 0, none⟩)] w fun e w' => e = .returned (.int .i64 (Maps.size D)) ∧ w = w' := by
  have hc := h.cell
  have ho := h.own
  have Ho := Lib.hid ho
  have H0 := Lib.hid h
  clear h ho
  go_enter Try.func19, Try.ntmps19
  go_wp2_with fail
  refine (made_yes H0.out).mono ?_
  rintro e w1 ⟨rfl, rfl⟩
  go_wp2_with (at_len; refine wpList_len_own _ rfl _ 74 rfl 31 32 Try.underlying74 _ bm n D rfl Ho.out ?_)
  go_ret
  exact ⟨rfl, rfl⟩
theorem len_nil (w : World) : Calls Try.prog 19 #[.pointer none] w fun e w' => e = .returned (.int .i64 0) ∧ w = w' := by
  go_enter Try.func19, Try.ntmps19
  go_wp2_with fail
  refine (made_no _).mono ?_
  rintro e w1 ⟨rfl, rfl⟩
  go_wp2_with fail
  go_ret
  exact ⟨rfl, rfl⟩

theorem new_any (w : World) : Calls Try.prog 9 #[] w fun e w' => e = .returned (.pointer (some ⟨w.heap.size + 1, 0, none⟩)) ∧ SetAt w' (w.heap.size + 1) w.heap.size 0 (.map []) ∧ Below w.heap.size w w' := by
  have hmm := @run_makeMap Try.prog
  go_enter Try.func9, Try.ntmps9
  go_wp2
  go_ret
  refine ⟨rfl, ⟨by simp, (World.ownsMap_made w _ _ _).alloc _⟩, balloc (bnew _ _) _⟩

set_option maxRecDepth 100000 in
theorem drop_any {w : World} {bs bm n : Nat} {D : DataW Unit} (h : SetAt w bs bm n D) {s o : Int} (h0 : 0 ≤ s) (h1 : s < 4294967296) (h2 : 0 ≤ o) (h3 : o < 4294967296) :
    Calls Try.prog 14 #[.pointer (some ⟨bs, 0, none⟩), lv s o] w fun e w' => e = .returned (.int .i64 (dropE D s o)) ∧ SetAt w' bs bm n (dropD D s o) ∧ w.grownBy w' (some bm) := by
  have H0 := Lib.hid h
  have H1 := Lib.hid h.own.lt
  clear h
  have e1 : dropE D s o = if Maps.has D (kl s o) then 0 else 6 := rfl
  have e2 : dropD D s o = if Maps.has D (kl s o) then D.del (kl s o) else D := rfl
  cases hq : Maps.has D (kl s o)
  all_goals
    rw [hq] at e1 e2
    simp only [if_true, Bool.false_eq_true, if_false] at e1 e2
    rw [e1, e2]
    have Hq := Lib.hid hq
    clear hq e1 e2
    unfold lv
    go_enter Try.func14, Try.ntmps14
    go_wp2_with fail
    have bb := Lib.hid (bnew w (.cells #[.int .u32 s, .int .u32 o] 31))
    have HK := Lib.hid (LBox.new w s o 31)
    replace H0 := Lib.hid (H0.out.on bb.out)
    refine (made_yes H0.out).mono ?_
    rintro e w1 ⟨rfl, hw⟩
    rw [hw] at H0 HK bb
    clear hw
    obtain ⟨c0, c1, f0, f1, hz⟩ := HK.out
    go_wp2_with fail
    refine (has_b H0.out h0 h1 h2 h3 _ Hq.out).mono ?_
    rintro e w2 ⟨rfl, hb⟩
    replace bb := Lib.hid (bstep bb.out hb)
    replace HK := Lib.hid (HK.out.on hb)
    replace H0 := Lib.hid (H0.out.on hb)
    clear hb c0 c1 f0 f1 hz
    go_wp2_with fail
  · go_ret
    exact ⟨rfl, H0.out, gby bb.out⟩
  · skip
    refine wp_region_noPanic ?_
    refine wp_region_held_drew (S := fun w' => SK w' bs bm (w.heap.size) s o) (by kernel_rfl) (⟨(H0.out.on (Below.refl _ _).drew).cell, HK.out.drew⟩) (fun hHeld => ?_)
    replace bb := Lib.hid bb.out.drew
    replace H0 := Lib.hid (H0.out.on (Below.refl _ _).drew)
    replace HK := Lib.hid HK.out.drew
    generalize World.drew _ = W at *
    refine wpAnyH_take (i := 0) (v := ?_) opAt_0 (by kernel_rfl) (by kernel_rfl) (by kernel_rfl) (fun _ _ _ h => h) (Or.inl ⟨by rfl, ?_⟩) hHeld ?_
    rotate_left
    · (intro w' hSw; obtain ⟨k0, c0, c1, f0, f1, hz⟩ := hSw; go_simp; try with_reducible rfl)
    try simp only [Act.put, List.setIfInBounds_toArray, List.set_cons_zero, List.set_cons_succ]
    refine wpAnyH_take (i := 1) (v := ?_) opAt_1 (by kernel_rfl) (by kernel_rfl) (by kernel_rfl) (fun _ _ _ h => h) (Or.inl ⟨by rfl, ?_⟩) hHeld ?_
    rotate_left
    · (intro w' hSw; obtain ⟨k0, c0, c1, f0, f1, hz⟩ := hSw; go_simp; try with_reducible rfl)
    try simp only [Act.put, List.setIfInBounds_toArray, List.set_cons_zero, List.set_cons_succ]
    refine wpAnyH_take (i := 2) (v := ?_) opAt_2 (by kernel_rfl) (by kernel_rfl) (by kernel_rfl) (fun _ _ _ h => h) (Or.inl ⟨by rfl, ?_⟩) hHeld ?_
    rotate_left
    · (intro w' hSw; obtain ⟨k0, c0, c1, f0, f1, hz⟩ := hSw; go_simp; try with_reducible rfl)
    try simp only [Act.put, List.setIfInBounds_toArray, List.set_cons_zero, List.set_cons_succ]
    refine wpAnyH_take (i := 3) (v := ?_) opAt_3 (by kernel_rfl) (by kernel_rfl) (by kernel_rfl) (fun _ _ _ h => h) (Or.inl ⟨by rfl, ?_⟩) hHeld ?_
    rotate_left
    · (intro w' hSw; obtain ⟨k0, c0, c1, f0, f1, hz⟩ := hSw; go_simp; try with_reducible rfl)
    try simp only [Act.put, List.setIfInBounds_toArray, List.set_cons_zero, List.set_cons_succ]
    refine wpAnyH_take (i := 4) (v := ?_) opAt_4 (by kernel_rfl) (by kernel_rfl) (by kernel_rfl) (fun _ _ _ h => h) (Or.inl ⟨by rfl, ?_⟩) hHeld ?_
    rotate_left
    · (intro w' hSw; obtain ⟨k0, c0, c1, f0, f1, hz⟩ := hSw; go_simp; try with_reducible rfl)
    try simp only [Act.put, List.setIfInBounds_toArray, List.set_cons_zero, List.set_cons_succ]
    refine wpAnyH_ready (rs := [5]) (by kernel_rfl) (by simp) ?_
    refine AllReadyH.cons rfl (fun K hK => ?_) AllReadyH.nil
    obtain ⟨w9, hrun, hown, hturn⟩ := H0.out.own.drop keyedLoc Try.underlying74 (keyOf_loc h0 h1 h2 h3) _
    refine step_delete rfl (.tmp 15) (.tmp 16) 74 31 rfl bm (.agg #[.int .u32 s, .int .u32 o]) (by rfl) (by rfl) hrun ?_
    have hg := hturn.grown
    have hne := H0.out.ne
    have HE : Hid (SetAt w9 bs bm n (D.del (kl s o))) := ⟨(World.cell?_of_block (hg.block bs H0.out.lt (by simpa using hne))).trans H0.out.cell, hown⟩
    have HF : Hid (w.grownBy w9 (some bm)) := (gby (row := some bm) bb.out).trans hg
    have hbox : LBox w9 w.heap.size s o := HK.out.grown hg (fun k hk => by injection hk with hk; subst hk; have := H1.out; omega)
    clear hturn hrun hown hg hne
    refine hK.out _ _ ⟨HE.out.cell, hbox⟩ (fun hHeld => ?_)
    clear hK K
    try simp only [Act.put, List.setIfInBounds_toArray, List.set_cons_zero, List.set_cons_succ]
    refine wpAnyH_done (by kernel_rfl) ?_ _
    refine NoPanic.normal ?_
    go_wp2_with fail
    go_ret
    exact ⟨rfl, HE.out, HF.out⟩

set_option maxRecDepth 100000 in
set_option maxHeartbeats 2000000 in
theorem add_any {w : World} {bs bm n : Nat} {D : DataW Unit} (h : SetAt w bs bm n D) (hn : n < 1000000) {s o v : Int} (h0 : 0 ≤ s) (h1 : s < 4294967296) (h2 : 0 ≤ o) (h3 : o < 4294967296) (v0 : 0 ≤ v) (v1 : v < 18446744073709551616) :
    Calls Try.prog 10 #[.pointer (some ⟨bs, 0, none⟩), lv s o, .int .u64 v] w fun e w' => e = .returned (.int .i64 (addE D s o)) ∧ SetAt w' bs bm (n + 1) (addD D s o v) ∧ w.grownBy w' (some bm) := by
  have H0 := Lib.hid h
  have H1 := Lib.hid h.own.lt
  clear h
  have e1 : addE D s o = if Lx.standsB s o then (if Maps.has D (kl s o) then 9 else 0) else 1 := rfl
  have e2 : addD D s o v = if Lx.standsB s o then (if Maps.has D (kl s o) then D else D.put (kl s o) (.lit (.int .u64 v))) else D := rfl
  cases hs : Lx.standsB s o
  · rw [hs] at e1 e2
    simp only [if_true, Bool.false_eq_true, if_false] at e1 e2
    rw [e1, e2]
    have Hs := Lib.hid hs
    clear hs e1 e2
    unfold lv
    go_enter Try.func10, Try.ntmps10
    go_wp2_with fail
    have bb := Lib.hid (bnew w (.cells #[.int .u32 s, .int .u32 o] 31))
    have HK := Lib.hid (LBox.new w s o 31)
    replace H0 := Lib.hid (H0.out.on bb.out)
    refine (made_yes H0.out).mono ?_
    rintro e w1 ⟨rfl, hw⟩
    rw [hw] at H0 HK bb
    clear hw
    obtain ⟨c0, c1, f0, f1, hz⟩ := HK.out
    go_wp2_with fail
    refine (stands_b s o _ h0 h1 h2 h3 _ Hs.out).mono ?_
    rintro e w2 ⟨rfl, hb⟩
    replace bb := Lib.hid (bstep bb.out hb)
    replace HK := Lib.hid (HK.out.on hb)
    replace H0 := Lib.hid (H0.out.on hb)
    clear hb c0 c1 f0 f1 hz
    go_wp2_with fail
    go_ret
    exact ⟨rfl, H0.out.mono (Nat.le_succ _), gby bb.out⟩
  rw [hs] at e1 e2
  simp only [if_true] at e1 e2
  have Hs := Lib.hid hs
  clear hs
  cases hq : Maps.has D (kl s o)
  · rw [hq] at e1 e2
    simp only [if_true, Bool.false_eq_true, if_false] at e1 e2
    rw [e1, e2]
    have Hq := Lib.hid hq
    clear hq e1 e2
    unfold lv
    go_enter Try.func10, Try.ntmps10
    go_wp2_with fail
    have bb := Lib.hid (bnew w (.cells #[.int .u32 s, .int .u32 o] 31))
    have HK := Lib.hid (LBox.new w s o 31)
    replace H0 := Lib.hid (H0.out.on bb.out)
    refine (made_yes H0.out).mono ?_
    rintro e w1 ⟨rfl, hw⟩
    rw [hw] at H0 HK bb
    clear hw
    obtain ⟨c0, c1, f0, f1, hz⟩ := HK.out
    go_wp2_with fail
    refine (stands_b s o _ h0 h1 h2 h3 _ Hs.out).mono ?_
    rintro e w2 ⟨rfl, hb⟩
    replace bb := Lib.hid (bstep bb.out hb)
    replace HK := Lib.hid (HK.out.on hb)
    replace H0 := Lib.hid (H0.out.on hb)
    clear hb c0 c1 f0 f1 hz
    obtain ⟨c0, c1, f0, f1, hz⟩ := HK.out
    go_wp2_with fail
    refine (has_b H0.out h0 h1 h2 h3 _ Hq.out).mono ?_
    rintro e w3 ⟨rfl, hb⟩
    replace bb := Lib.hid (bstep bb.out hb)
    replace HK := Lib.hid (HK.out.on hb)
    replace H0 := Lib.hid (H0.out.on hb)
    clear hb c0 c1 f0 f1 hz
    go_wp2_with fail
    refine wp_region_noPanic ?_
    refine wp_region_held_drew (S := fun w' => SK w' bs bm (w.heap.size) s o) (by kernel_rfl) (⟨(H0.out.on (Below.refl _ _).drew).cell, HK.out.drew⟩) (fun hHeld => ?_)
    replace bb := Lib.hid bb.out.drew
    replace H0 := Lib.hid (H0.out.on (Below.refl _ _).drew)
    replace HK := Lib.hid HK.out.drew
    generalize World.drew _ = W at *
    refine wpAnyH_take (i := 0) (v := ?_) opAt_0 (by kernel_rfl) (by kernel_rfl) (by kernel_rfl) (fun _ _ _ h => h) (Or.inl ⟨by rfl, ?_⟩) hHeld ?_
    rotate_left
    · (intro w' hSw; obtain ⟨k0, c0, c1, f0, f1, hz⟩ := hSw; go_simp; try with_reducible rfl)
    try simp only [Act.put, List.setIfInBounds_toArray, List.set_cons_zero, List.set_cons_succ]
    refine wpAnyH_take (i := 1) (v := ?_) opAt_1 (by kernel_rfl) (by kernel_rfl) (by kernel_rfl) (fun _ _ _ h => h) (Or.inl ⟨by rfl, ?_⟩) hHeld ?_
    rotate_left
    · (intro w' hSw; obtain ⟨k0, c0, c1, f0, f1, hz⟩ := hSw; go_simp; try with_reducible rfl)
    try simp only [Act.put, List.setIfInBounds_toArray, List.set_cons_zero, List.set_cons_succ]
    refine wpAnyH_take (i := 2) (v := ?_) opAt_2 (by kernel_rfl) (by kernel_rfl) (by kernel_rfl) (fun _ _ _ h => h) (Or.inl ⟨by rfl, ?_⟩) hHeld ?_
    rotate_left
    · (intro w' hSw; obtain ⟨k0, c0, c1, f0, f1, hz⟩ := hSw; go_simp; try with_reducible rfl)
    try simp only [Act.put, List.setIfInBounds_toArray, List.set_cons_zero, List.set_cons_succ]
    refine wpAnyH_take (i := 3) (v := ?_) opAt_3 (by kernel_rfl) (by kernel_rfl) (by kernel_rfl) (fun _ _ _ h => h) (Or.inl ⟨by rfl, ?_⟩) hHeld ?_
    rotate_left
    · (intro w' hSw; obtain ⟨k0, c0, c1, f0, f1, hz⟩ := hSw; go_simp; try with_reducible rfl)
    try simp only [Act.put, List.setIfInBounds_toArray, List.set_cons_zero, List.set_cons_succ]
    refine wpAnyH_take (i := 4) (v := ?_) opAt_4 (by kernel_rfl) (by kernel_rfl) (by kernel_rfl) (fun _ _ _ h => h) (Or.inl ⟨by rfl, ?_⟩) hHeld ?_
    rotate_left
    · (intro w' hSw; obtain ⟨k0, c0, c1, f0, f1, hz⟩ := hSw; go_simp; try with_reducible rfl)
    try simp only [Act.put, List.setIfInBounds_toArray, List.set_cons_zero, List.set_cons_succ]
    refine wpAnyH_take (i := 5) (v := ?_) opAt_5 (by kernel_rfl) (by kernel_rfl) (by kernel_rfl) (fun _ _ _ h => h) (Or.inl ⟨by rfl, ?_⟩) hHeld ?_
    rotate_left
    · (intro w' hSw; obtain ⟨k0, c0, c1, f0, f1, hz⟩ := hSw; go_simp; try with_reducible rfl)
    try simp only [Act.put, List.setIfInBounds_toArray, List.set_cons_zero, List.set_cons_succ]
    refine wpAnyH_ready (rs := [6]) (by kernel_rfl) (by simp) ?_
    refine AllReadyH.cons rfl (fun K hK => ?_) AllReadyH.nil
    obtain ⟨w9, hrun, hown, hturn⟩ := H0.out.own.store keyedLoc Try.underlying74 (by unfold maxLen; omega) (keyOf_loc h0 h1 h2 h3) (plainElem_int Try.underlying32 (wf_u64 v0 v1))
    go_simp
    have hg := hturn.grown
    have hne := H0.out.ne
    have HE : Hid (SetAt w9 bs bm _ _) := ⟨(World.cell?_of_block (hg.block bs H0.out.lt (by simpa using hne))).trans H0.out.cell, hown⟩
    have HF : Hid (w.grownBy w9 (some bm)) := (gby (row := some bm) bb.out).trans hg
    have hbox : LBox w9 w.heap.size s o := HK.out.grown hg (fun k hk => by injection hk with hk; subst hk; have := H1.out; omega)
    clear hturn hrun hown hg hne
    refine hK.out _ _ ⟨HE.out.cell, hbox⟩ (fun hHeld => ?_)
    clear hK K
    try simp only [Act.put, List.setIfInBounds_toArray, List.set_cons_zero, List.set_cons_succ]
    refine wpAnyH_done (by kernel_rfl) ?_ _
    refine NoPanic.normal ?_
    go_wp2_with fail
    go_ret
    exact ⟨rfl, HE.out, HF.out⟩
  · rw [hq] at e1 e2
    simp only [if_true, Bool.false_eq_true, if_false] at e1 e2
    rw [e1, e2]
    have Hq := Lib.hid hq
    clear hq e1 e2
    unfold lv
    go_enter Try.func10, Try.ntmps10
    go_wp2_with fail
    have bb := Lib.hid (bnew w (.cells #[.int .u32 s, .int .u32 o] 31))
    have HK := Lib.hid (LBox.new w s o 31)
    replace H0 := Lib.hid (H0.out.on bb.out)
    refine (made_yes H0.out).mono ?_
    rintro e w1 ⟨rfl, hw⟩
    rw [hw] at H0 HK bb
    clear hw
    obtain ⟨c0, c1, f0, f1, hz⟩ := HK.out
    go_wp2_with fail
    refine (stands_b s o _ h0 h1 h2 h3 _ Hs.out).mono ?_
    rintro e w2 ⟨rfl, hb⟩
    replace bb := Lib.hid (bstep bb.out hb)
    replace HK := Lib.hid (HK.out.on hb)
    replace H0 := Lib.hid (H0.out.on hb)
    clear hb c0 c1 f0 f1 hz
    obtain ⟨c0, c1, f0, f1, hz⟩ := HK.out
    go_wp2_with fail
    refine (has_b H0.out h0 h1 h2 h3 _ Hq.out).mono ?_
    rintro e w3 ⟨rfl, hb⟩
    replace bb := Lib.hid (bstep bb.out hb)
    replace HK := Lib.hid (HK.out.on hb)
    replace H0 := Lib.hid (H0.out.on hb)
    clear hb c0 c1 f0 f1 hz
    go_wp2_with fail
    go_ret
    exact ⟨rfl, H0.out.mono (Nat.le_succ _), gby bb.out⟩

set_option maxRecDepth 100000 in
theorem add_nil (s o v : Int) (w : World) : Calls Try.prog 10 #[.pointer none, lv s o, .int .u64 v] w fun e w' => e = .returned (.int .i64 2) ∧ Below w.heap.size w w' := by
  unfold lv
  go_enter Try.func10, Try.ntmps10
  go_wp2_with fail
  refine (made_no _).mono ?_
  rintro e w1 ⟨rfl, rfl⟩
  go_wp2_with fail
  go_ret
  exact ⟨rfl, bnew _ _⟩

set_option maxRecDepth 100000 in
theorem move_nil (s o t p : Int) (w : World) : Calls Try.prog 12 #[.pointer none, lv s o, lv t p] w fun e w' => e = .returned (.int .i64 2) ∧ Below w.heap.size w w' := by
  unfold lv
  go_enter Try.func12, Try.ntmps12
  go_wp2_with fail
  refine (made_no _).mono ?_
  rintro e w1 ⟨rfl, rfl⟩
  go_wp2_with fail
  go_ret
  exact ⟨rfl, balloc (bnew _ _) _⟩

set_option maxRecDepth 100000 in
theorem drop_nil (s o : Int) (w : World) : Calls Try.prog 14 #[.pointer none, lv s o] w fun e w' => e = .returned (.int .i64 2) ∧ Below w.heap.size w w' := by
  unfold lv
  go_enter Try.func14, Try.ntmps14
  go_wp2_with fail
  refine (made_no _).mono ?_
  rintro e w1 ⟨rfl, rfl⟩
  go_wp2_with fail
  go_ret
  exact ⟨rfl, bnew _ _⟩

set_option maxRecDepth 100000 in
theorem of_nil (g : Int) (w : World) : Calls Try.prog 21 #[.pointer none, .int .u32 g] w fun e w' => e = .returned (.slice none 0 0) ∧ Below w.heap.size w w' := by
  go_enter Try.func21, Try.ntmps21
  go_wp2_with fail
  refine (made_no _).mono ?_
  rintro e w1 ⟨rfl, rfl⟩
  go_wp2_with fail
  go_ret
  exact ⟨rfl, Below.refl _ _⟩

set_option maxRecDepth 100000 in
theorem copy_nil (w : World) : Calls Try.prog 16 #[.pointer none] w fun e w' => e = .returned (.pointer none) ∧ Below w.heap.size w w' := by
  go_enter Try.func16, Try.ntmps16
  go_wp2_with fail
  refine (made_no _).mono ?_
  rintro e w1 ⟨rfl, rfl⟩
  go_wp2_with fail
  go_ret
  exact ⟨rfl, Below.refl _ _⟩

end Go.Proofs.Ytaekndhchdpobaa
