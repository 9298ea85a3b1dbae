
/-
  Layer 4: the walk of Print.Key.
-/
import Derived.Test.YtaekndhchdpobaaKyEqP
import Derived.Test.YtaekndhchdpobaaRegion
import Derived.Deep.RegionHeld3
import Derived.BigQuiet
import Derived.Deep.LoopGhost
set_option linter.unusedVariables false
set_option linter.unusedSimpArgs false
namespace Go.Proofs.Ytaekndhchdpobaa
open Go.RowKit

/-- the byte at a place of a print's words -/
def keyB (f : Nat → Nat) (i : Nat) : UInt8 := UInt8.ofNat (f (i / 8) / 2 ^ (8 * (i % 8)) % 256)
def keyL (n : Nat) (f : Nat → Nat) : List UInt8 := (List.range n).map (keyB f)
theorem keyL_length (n : Nat) (f : Nat → Nat) : (keyL n f).length = n := by simp [keyL]
theorem keyL_succ (n : Nat) (f : Nat → Nat) : keyL (n + 1) f = keyL n f ++ [keyB f n] := by simp [keyL, List.range_succ]
theorem keyB_val (f : Nat → Nat) (i : Nat) : ((f (i / 8) : Int) / 2 ^ (8 * (i % 8))) % 256 = ((keyB f i).toNat : Int) := by
  unfold keyB
  rw [UInt8.toNat_ofNat_of_lt' (by simp [UInt8.size]; omega)]
  simp
/-- Key tells back the row whose words they are -/
theorem keyL_words (l : List UInt8) : keyL l.length (words l) = l := by
  apply List.ext_getElem (keyL_length _ _)
  intro i h1 h2
  have e : (Ky.word (l.drop (8 * (i / 8)))) / 2 ^ (8 * (i % 8)) % 256 = (l[i]).toNat := by
    unfold Ky.word
    rw [Ky.rdN_at _ _ _ (by rw [List.length_drop]; omega), List.getD_eq_getElem?_getD, List.getElem?_drop, show 8 * (i / 8) + i % 8 = i by omega, List.getElem?_eq_getElem h2]
    rfl
  simp only [keyL, List.getElem_map, List.getElem_range]
  unfold keyB words
  rw [e]
  exact UInt8.ofNat_toNat

/-- is it the print of the row that it tells? -/
def okB (n : Nat) (f : Nat → Nat) : Bool := (List.range 8).all fun i => words (keyL n f) i == f i
theorem okB_words (l : List UInt8) : okB l.length (words l) = true := by
  unfold okB
  rw [keyL_words]
  simp
theorem guard_pr : Try.prog.eqGuardType Try.prog.depth 58 = false := by kernel_rfl
theorem okB_iff (n : Nat) (f : Nat → Nat) : okB n f = true ↔ n = n ∧ ∀ i, i < 8 → words (keyL n f) i = f i := by
  unfold okB
  rw [List.all_eq_true]
  simp only [List.mem_range, beq_iff_eq, true_and]
/-- what Key tells of the print of n bytes and words f -/
def KeyPost (n : Nat) (f : Nat → Nat) (b : Bool) (e : Ending) (w' : World) : Prop := ∃ r, e = .returned (.tuple #[r, .bool b]) ∧ (b = true → Bs w' w'.heap.size r (keyL n f)) ∧ (b = false → r = .slice none 0 0)
theorem made_zeros4 {w : World} {v : Value} {base n : Nat} {e : TypeId} (h : w.ownsRow base e 1 v n (madeCells (Value.int .u8 0).cells (n * 1)).toList) : w.ownsRow base e 1 v n (bvs (List.replicate n 0)) := by
  rw [Nat.mul_one, show (Value.int .u8 0).cells = #[Value.int .u8 0] by rfl, toList_madeCells_one] at h
  have : bvs (List.replicate n 0) = List.replicate n (.int .u8 0) := by unfold bvs; rw [List.map_replicate]; rfl
  rw [this]
  exact h
theorem keyL_set (n j : Nat) (f : Nat → Nat) (h : j < n) : (bvs (keyL j f ++ List.replicate (n - j) 0)).set j (.int .u8 ((keyB f j).toNat : Int)) = bvs (keyL (j + 1) f ++ List.replicate (n - (j + 1)) 0) := by
  obtain ⟨d, hd⟩ : ∃ d, n - j = d + 1 := ⟨n - j - 1, by omega⟩
  rw [hd, show n - (j + 1) = d by omega, keyL_succ, bvs_append, List.set_append_right _ _ (by rw [bvs_length, keyL_length]; exact Nat.le_refl _), bvs_length, keyL_length, Nat.sub_self, List.append_assoc, bvs_append]
  rfl
theorem key_bad (n : Nat) (f : Nat → Nat) (w : World) (hn : n < 256) (h : n = 0 ∨ 64 < n) :
    Calls Try.prog 30 #[prv n f] w fun e w' => e = .returned (.tuple #[.slice none 0 0, .bool false]) ∧ Below w.heap.size w w' := by
  have hd : decide ((n : Int) < 1) = true ∨ (decide ((n : Int) < 1) = false ∧ decide ((64 : Int) < n) = true) := by simp; omega
  unfold prv
  have c0 := (PrAt.new w n f).range 0 _ rfl
  rw [Nat.zero_add] at c0
  have HB := Lib.hid (bnew4 w (.cells (prCells n f).toArray 58))
  rcases hd with d | ⟨d1, d2⟩
  all_goals
    go_enter Try.func30, Try.ntmps30
    go_wp2_with fail
    go_ret2
    exact ⟨rfl, HB.out⟩

set_option maxRecDepth 100000 in
set_option maxHeartbeats 4000000 in
theorem key_any (n : Nat) (f : Nat → Nat) (w : World) (hF : Fit n f) (h0 : 1 ≤ n) (h1 : n ≤ 64) (b : Bool) (hb : b = okB n f) :
    Calls Try.prog 30 #[prv n f] w fun e w' => KeyPost n f b e w' ∧ Below w.heap.size w w' := by
  obtain ⟨i0, hi0, hz0, hz1, hz2⟩ := info_parts byte_info
  have d1 : decide ((n : Int) < 1) = false := by simp; omega
  have d2 : decide ((64 : Int) < n) = false := by simp; omega
  unfold prv
  have hp := PrAt.new w n f
  have c0 := hp.range 0 _ rfl
  rw [Nat.zero_add] at c0
  have HP := Lib.hid hp
  have HB := Lib.hid (bnew4 w (.cells (prCells n f).toArray 58))
  obtain ⟨w1, hrun, hown, hgr⟩ := run_make_full (P := Try.prog) (w.alloc (.cells (prCells n f).toArray 58)) (w.alloc (.cells (prCells n f).toArray 58)).heap.size 53 5 i0 (.int .u8 0) 1 Try.underlying53 hi0 hz0 hz1 .u8 .u8 n (by rw [hz2]; omega) (by unfold maxLen; omega) (Nat.le_refl _)
  have b1 := HB.out.trans ((show Below _ _ w1 from (Below.refl _ _).grown hgr (Nat.le_refl _) (by simp)).mono HB.out.size)
  have HP1 := Lib.hid (HP.out.on (show Below _ _ w1 from (Below.refl _ _).grown hgr (Nat.le_refl _) (by simp)))
  have HB1 := Lib.hid b1
  clear hp hgr b1
  go_enter Try.func30, Try.ntmps30
  go_wp2_with fail
  have hsz : (w.alloc (.cells (prCells n f).toArray 58)).heap.size = w.heap.size + 1 := by simp
  rw [hsz] at hown
  have hown0 := made_zeros4 hown
  have HO := Lib.hid hown0
  have HBd := Lib.hid hb
  clear hown hown0 hrun hsz c0 hb
  go_loopw [19] (fun i wr => ∃ j : Nat, j ≤ n ∧ i = .int .i64 j ∧ wr.ownsRow (w.heap.size + 1) 5 1 (.slice (some ⟨w.heap.size + 1, 0, none⟩) n n) n (bvs (keyL j f ++ List.replicate (n - j) 0)) ∧ PrAt wr w.heap.size n f ∧ Below w.heap.size w wr) (fun i _ => n - (intOf i).toNat)
  case atStart => exact ⟨0, by omega, rfl, HO.out, HP1.out, HB1.out⟩
  case round =>
    obtain ⟨j, hj, rfl, hown, hpr, hbl⟩ := hrel
    have HBl := Lib.hid hbl
    have HPr := Lib.hid hpr
    have HOw := Lib.hid hown
    clear HO HP1 HB1 HP HB hbl hpr
    by_cases hlt : j < n
    · obtain ⟨q, hq⟩ : ∃ q, j / 8 = q := ⟨_, rfl⟩
      obtain ⟨m, hm⟩ : ∃ m, j % 8 = m := ⟨_, rfl⟩
      have hq8 : q < 8 := by omega
      have hm8 : m < 8 := by omega
      have e1 : (j : Int) / 8 = (q : Int) := by omega
      have e2 : (j : Int) % 8 = (m : Int) := by omega
      have hv := keyB_val f j
      rw [hq, hm] at hv
      obtain ⟨c1, _⟩ := HPr.out.at q hq8
      have hst := hown.stored j (.int .u8 ((keyB f j).toNat : Int))
      rw [keyL_set n j f hlt] at hst
      have hc := hown.cellAt j (by omega)
      have hfz := hown.frozenAt j
      have hsome : ∃ u, (bvs (keyL j f ++ List.replicate (n - j) 0))[j]? = some u := by
        refine ⟨_, List.getElem?_eq_getElem ?_⟩
        rw [bvs_length, List.length_append, keyL_length, List.length_replicate]; omega
      obtain ⟨u, hu⟩ := hsome
      rw [hu] at hc
      have HSt := Lib.hid hst
      obtain ⟨y, hy⟩ : ∃ y : Nat, (keyB f j).toNat = y := ⟨_, rfl⟩
      rw [hy] at hv
      obtain ⟨fq, hfq⟩ : ∃ x, f q = x := ⟨_, rfl⟩
      rw [hfq] at hv c1
      have HY := Lib.hid hy
      have HF := Lib.hid hfq
      clear hst hown hq hm hu hy hfq
      go_wp2_with fail
      go_roundw
      case rel => exact ⟨j + 1, by omega, by go_num, by rw [← HY.out]; exact HSt.out.1, HPr.out.other (by omega) _, HBl.out.setCell (by simp) _⟩
      case measure => simp [intOf]; omega
    · obtain rfl : j = n := by omega
      rw [Nat.sub_self, List.replicate_zero, List.append_nil] at hown
      have hbs : Bs wr wr.heap.size (.slice (some ⟨w.heap.size + 1, 0, none⟩) j j) (keyL j f) := Bs.of_own hown
      have HBs := Lib.hid hbs
      clear hown hbs HOw
      have hl := keyL_length j f
      have HFw := Lib.hid (fit_words (keyL j f) (by rw [hl]; exact h1))
      rw [hl] at HFw
      have hne := neq_pr HFw.out hF b (by rw [HBd.out]; exact okB_iff j f)
      have hg := guard_pr
      have HL := Lib.hid hl
      clear hl
      go_wp2_with fail
      refine wp_region_noPanic ?_
      have HPr2 := Lib.hid (HPr.out.drewN 1)
      refine wp_region_held_drew (S := fun w' => PrAt w' w.heap.size j f) (by kernel_rfl) (HPr2.out) (fun hHeld => ?_)
      have HBl2 := Lib.hid (bdrewN4 HBl.out 1)
      replace HBs : Hid (Bs wr.drew wr.drew.heap.size (.slice (some ⟨w.heap.size + 1, 0, none⟩) j j) (keyL j f)) := HBs
      clear hHeld HPr HBl
      have HPr3 : Hid (PrAt wr.drew w.heap.size j f) := HPr2
      have HBl3 : Hid (Below w.heap.size w wr.drew) := HBl2
      clear HPr2 HBl2
      generalize World.drew wr = W2 at *
      have hHeld := HPr3.out
      refine wpAnyH_take (i := 0) (v := ?_) opAt_0 (by kernel_rfl) (by kernel_rfl) (by kernel_rfl) (fun _ _ _ h => h) (Or.inl ⟨by rfl, ?_⟩) hHeld ?_
      rotate_left
      · (intro w hSw; go_simp; try with_reducible rfl)
      try simp only [Act.put, List.setIfInBounds_toArray, List.set_cons_zero, List.set_cons_succ]
      refine wpAnyH_take (i := 2) (v := .agg (prCells j f).toArray) opAt_2 (by kernel_rfl) (by kernel_rfl) (by kernel_rfl) (fun _ _ _ h => h) (yieldsIf_load_mid rfl 58 (.tmp 1) rfl w.heap.size 0 rfl (prCells j f) _ (fun w h => PrAt.range h) Try.underlying58 (by kernel_rfl) (by kernel_rfl)) hHeld ?_
      try simp only [Act.put, List.setIfInBounds_toArray, List.set_cons_zero, List.set_cons_succ]
      refine wpAnyH_ready (rs := [1]) (by kernel_rfl) (by simp) ?_
      refine AllReadyH.cons rfl (fun K hK => ?_) AllReadyH.nil
      go_simp
      clear hHeld
      refine (of_yes _ _ _ _ HBs.out (Nat.le_refl _) (by rw [HL.out]; exact h0) (by rw [HL.out]; exact h1)).mono ?_
      rintro e w2 ⟨rfl, hb2⟩
      rw [HL.out]
      unfold prv
      have HPr4 := Lib.hid (HPr3.out.on hb2)
      have HBs4 := Lib.hid (Bs.keepB HBs.out hb2)
      have HBl4 := Lib.hid (HBl3.out.trans (hb2.mono HBl3.out.size))
      clear hb2 HPr3 HBs HBl3
      go_wp2_with fail
      refine hK.out _ _ HPr4.out (fun hHeld => ?_)
      clear hK K
      try simp only [Act.put, List.setIfInBounds_toArray, List.set_cons_zero, List.set_cons_succ]
      refine wpAnyH_take (i := 3) (v := ?_) opAt_3 (by kernel_rfl) (by kernel_rfl) (by kernel_rfl) (fun _ _ _ h => h) (Or.inl ⟨by rfl, ?_⟩) hHeld ?_
      rotate_left
      · (intro w hSw; go_simp; try with_reducible rfl)
      try simp only [Act.put, List.setIfInBounds_toArray, List.set_cons_zero, List.set_cons_succ]
      refine wpAnyH_done (by kernel_rfl) ?_ _
      refine NoPanic.normal ?_
      clear hHeld hne hg
      cases b
      · go_wp2_with fail
        go_ret2
        exact ⟨⟨_, rfl, (fun h => by cases h), fun _ => rfl⟩, HBl4.out⟩
      · go_wp2_with fail
        go_ret2
        exact ⟨⟨_, rfl, (fun _ => HBs4.out), (fun h => by cases h)⟩, HBl4.out⟩
end Go.Proofs.Ytaekndhchdpobaa
