
/-
  The walk of the law KeyPrints: it returns true, and writes nothing that was there.
-/
import Derived.Test.YtaekndhchdpobaaKyCut
import Derived.Test.YtaekndhchdpobaaKyUpd
import Derived.Test.YtaekndhchdpobaaOrdL
import Derived.Test.YtaekndhchdpobaaRegion
import Derived.Test.YtaekndhchdpobaaStep
import Derived.OpenShut
import Derived.IntWalk
import Derived.Deep.RegionHeld3
set_option linter.unusedVariables false
set_option linter.unusedSimpArgs false
namespace Go.Proofs.Ytaekndhchdpobaa.keyPrints
open Go.RowKit

/-- what lies in memory from here on -/
structure Ctx (w w' : World) (P5 P7 n : Nat) (f : Nat → Nat) (va : Value) (a : List UInt8) (vb : Value) (b : List UInt8) : Prop where
  p5 : PrAt w' P5 n f
  p7 : PrAt w' P7 a.length (words a)
  p8 : PrAt w' (P7 + 1) b.length (words b)
  sa : Bs w' w'.heap.size va a
  sb : Bs w' w'.heap.size vb b
  below : Below w.heap.size w w'
theorem Ctx.on {w w1 w2 : World} {P5 P7 n : Nat} {f : Nat → Nat} {va : Value} {a : List UInt8} {vb : Value} {b : List UInt8} (h : Ctx w w1 P5 P7 n f va a vb b) (hb : Below w1.heap.size w1 w2) : Ctx w w2 P5 P7 n f va a vb b :=
  ⟨h.p5.on hb, h.p7.on hb, h.p8.on hb, Bs.keepB h.sa hb, Bs.keepB h.sb hb, h.below.trans (hb.mono h.below.size)⟩
theorem Ctx.drewN {w w1 : World} {P5 P7 n : Nat} {f : Nat → Nat} {va : Value} {a : List UInt8} {vb : Value} {b : List UInt8} (h : Ctx w w1 P5 P7 n f va a vb b) (k : Nat) : Ctx w (w1.drewN k) P5 P7 n f va a vb b :=
  ⟨h.p5.drewN k, h.p7.drewN k, h.p8.drewN k, h.sa, h.sb, bdrewN4 h.below k⟩
theorem grown_trans {w1 w2 w3 : World} {row : Option Nat} (h : w1.grownBy w2 row) (k : w2.grownBy w3 row) : w1.grownBy w3 row :=
  ⟨k.os.trans h.os, k.tape.trans h.tape, k.output.trans h.output, Nat.le_trans h.size k.size, fun i hi hne => (k.block i (Nat.lt_of_lt_of_le hi h.size) hne).trans (h.block i hi hne)⟩
theorem words_inj {a b : List UInt8} (ha : a.length ≤ 64) (hl : a.length = b.length) (h : ∀ i, i < 8 → words a i = words b i) : a = b := by
  rw [← keyL_words a, ← keyL_words b, ← hl]
  unfold keyL
  apply List.map_congr_left
  intro i hi
  rw [List.mem_range] at hi
  unfold keyB
  rw [h (i / 8) (by omega)]

set_option maxRecDepth 100000 in
set_option maxHeartbeats 8000000 in
theorem walk (v0 : Value) (z0 : List Int) (v1 : Value) (z1 : List Int) (n2 : Nat) (f2 : Nat → Nat) (w : World) (w0 : Ints w w.heap.size .u8 v0 z0) (g0 : ∀ n ∈ z0, (Lit.int .u8 n).wf = true) (s0 : z0.length * 1 ≤ 140737488351232) (w1 : Ints w w.heap.size .u8 v1 z1) (g1 : ∀ n ∈ z1, (Lit.int .u8 n).wf = true) (s1 : z1.length * 1 ≤ 140737488351232) (pn2 : Fit n2 f2) :
    Calls Try.prog 5 #[v0, v1, prv n2 f2] w fun e w' => e = .returned (.bool true) ∧ Below w.heap.size w w' := by
  obtain ⟨i0, hi0, hz0, hz1, hz2⟩ := info_parts byte_info
  have hb0 := bs_of_ints w0 (fun z hz => bounds_u8 (g0 z hz))
  have hb1 := bs_of_ints w1 (fun z hz => bounds_u8 (g1 z hz))
  have hl0 : (z0.map fun z => UInt8.ofNat z.toNat).length ≤ 9223372036854775807 := by rw [List.length_map]; omega
  have hl1 : (z1.map fun z => UInt8.ofNat z.toNat).length ≤ 9223372036854775807 := by rw [List.length_map]; omega
  generalize z0.map (fun z => UInt8.ofNat z.toNat) = a0 at hb0 hl0
  generalize z1.map (fun z => UInt8.ofNat z.toNat) = b0 at hb1 hl1
  clear w0 w1 g0 g1 s0 s1
  have H0 := Lib.hid hb0
  have H1 := Lib.hid hb1
  clear hb0 hb1
  unfold prv
  go_enter Try.func5, Try.ntmps5
  go_wp2_with fail
  have HP := Lib.hid (PrAt.new w n2 f2)
  have HB := Lib.hid (bnew4 w (.cells (prCells n2 f2).toArray 58))
  replace H0 := Lib.hid (Bs.keepB H0.out HB.out)
  replace H1 := Lib.hid (Bs.keepB H1.out HB.out)
  generalize World.alloc _ _ = W1 at *
  refine (cut_any _ _ _ H0.out hl0).mono ?_
  rintro e w2 ⟨va, a, rfl, hsa, ⟨ha1, ha2⟩, hb2⟩
  have HA := Lib.hid hsa
  replace H1 := Lib.hid (Bs.keepB H1.out hb2)
  replace HP := Lib.hid (HP.out.on hb2)
  replace HB := Lib.hid (HB.out.trans (hb2.mono HB.out.size))
  clear hsa hb2 H0 hl0
  go_wp2_with fail
  refine (cut_any _ _ _ H1.out hl1).mono ?_
  rintro e w3 ⟨vb, b, rfl, hsb, ⟨hbb1, hbb2⟩, hb3⟩
  have HBb := Lib.hid hsb
  replace HA := Lib.hid (Bs.keepB HA.out hb3)
  replace HP := Lib.hid (HP.out.on hb3)
  replace HB := Lib.hid (HB.out.trans (hb3.mono HB.out.size))
  clear hsb hb3 H1 hl1
  go_wp2_with fail
  refine (of_yes _ a _ _ HA.out (Nat.le_refl _) (by omega) ha2).mono ?_
  rintro e w4 ⟨rfl, hb4⟩
  replace HBb := Lib.hid (Bs.keepB HBb.out hb4)
  replace HA := Lib.hid (Bs.keepB HA.out hb4)
  replace HP := Lib.hid (HP.out.on hb4)
  replace HB := Lib.hid (HB.out.trans (hb4.mono HB.out.size))
  clear hb4
  go_wp2_with fail
  refine (of_yes _ b _ _ HBb.out (Nat.le_refl _) (by omega) hbb2).mono ?_
  rintro e w5 ⟨rfl, hb5⟩
  replace HBb := Lib.hid (Bs.keepB HBb.out hb5)
  replace HA := Lib.hid (Bs.keepB HA.out hb5)
  replace HP := Lib.hid (HP.out.on hb5)
  replace HB := Lib.hid (HB.out.trans (hb5.mono HB.out.size))
  clear hb5
  unfold prv
  have hA0 : PrAt ((w5.alloc (.cells #[.int .u8 0, .int .u64 0, .int .u64 0, .int .u64 0, .int .u64 0, .int .u64 0, .int .u64 0, .int .u64 0, .int .u64 0] 58)).alloc (.cells #[.int .u8 0, .int .u64 0, .int .u64 0, .int .u64 0, .int .u64 0, .int .u64 0, .int .u64 0, .int .u64 0, .int .u64 0] 58)) w5.heap.size 0 (fun _ => 0) := (PrAt.new w5 0 (fun _ => 0)).on (bnew4 (w5.alloc (.cells #[.int .u8 0, .int .u64 0, .int .u64 0, .int .u64 0, .int .u64 0, .int .u64 0, .int .u64 0, .int .u64 0, .int .u64 0] 58)) _)
  have hB0 : PrAt ((w5.alloc (.cells #[.int .u8 0, .int .u64 0, .int .u64 0, .int .u64 0, .int .u64 0, .int .u64 0, .int .u64 0, .int .u64 0, .int .u64 0] 58)).alloc (.cells #[.int .u8 0, .int .u64 0, .int .u64 0, .int .u64 0, .int .u64 0, .int .u64 0, .int .u64 0, .int .u64 0, .int .u64 0] 58)) (w5.heap.size + 1) 0 (fun _ => 0) := by
    have := PrAt.new (w5.alloc (.cells #[.int .u8 0, .int .u64 0, .int .u64 0, .int .u64 0, .int .u64 0, .int .u64 0, .int .u64 0, .int .u64 0, .int .u64 0] 58)) 0 (fun _ => 0)
    rw [show (w5.alloc (.cells #[.int .u8 0, .int .u64 0, .int .u64 0, .int .u64 0, .int .u64 0, .int .u64 0, .int .u64 0, .int .u64 0, .int .u64 0] 58)).heap.size = w5.heap.size + 1 by simp] at this
    exact this
  have hbW : Below w5.heap.size w5 ((w5.alloc (.cells #[.int .u8 0, .int .u64 0, .int .u64 0, .int .u64 0, .int .u64 0, .int .u64 0, .int .u64 0, .int .u64 0, .int .u64 0] 58)).alloc (.cells #[.int .u8 0, .int .u64 0, .int .u64 0, .int .u64 0, .int .u64 0, .int .u64 0, .int .u64 0, .int .u64 0, .int .u64 0] 58)) := ((Below.refl _ _).alloc (Nat.le_refl _) _).alloc (by simp) _
  have T7 := Lib.hid hA0.there
  obtain ⟨W7, hW7⟩ : ∃ W7, World.setCells ((w5.alloc (.cells #[.int .u8 0, .int .u64 0, .int .u64 0, .int .u64 0, .int .u64 0, .int .u64 0, .int .u64 0, .int .u64 0, .int .u64 0] 58)).alloc (.cells #[.int .u8 0, .int .u64 0, .int .u64 0, .int .u64 0, .int .u64 0, .int .u64 0, .int .u64 0, .int .u64 0, .int .u64 0] 58)) w5.heap.size 0 (prCells a.length (words a)).toArray.toList = W7 := ⟨_, rfl⟩
  have hP7 : PrAt W7 w5.heap.size a.length (words a) := by rw [← hW7]; exact hA0.stored a.length (words a)
  have hB7 : PrAt W7 (w5.heap.size + 1) 0 (fun _ => 0) := by rw [← hW7]; exact PrAt.apart hB0 _ _ _ (by omega)
  have hb7 : Below w5.heap.size w5 W7 := by rw [← hW7]; exact below_setCells hbW _ _ _ (Nat.le_refl _)
  have T8 := Lib.hid hB7.there
  obtain ⟨W8, hW8⟩ : ∃ W8, World.setCells W7 (w5.heap.size + 1) 0 (prCells b.length (words b)).toArray.toList = W8 := ⟨_, rfl⟩
  have P7 : Hid (PrAt W8 w5.heap.size a.length (words a)) := Lib.hid (by rw [← hW8]; exact PrAt.apart hP7 _ _ _ (by omega))
  have P8 : Hid (PrAt W8 (w5.heap.size + 1) b.length (words b)) := Lib.hid (by rw [← hW8]; exact hB7.stored b.length (words b))
  have hb8 : Below w5.heap.size w5 W8 := by rw [← hW8]; exact below_setCells hb7 _ _ _ (by omega)
  replace HBb := Lib.hid (Bs.keepB HBb.out hb8)
  replace HA := Lib.hid (Bs.keepB HA.out hb8)
  replace HP := Lib.hid (HP.out.on hb8)
  have hPlt := HP.out.lt
  replace HB := Lib.hid (HB.out.trans (hb8.mono HB.out.size))
  have HW7 := Lib.hid hW7
  have HW8 := Lib.hid hW8
  clear hA0 hB0 hbW hP7 hB7 hb7 hb8 hW7 hW8
  go_wp2_with (first | (refine wpList_store_mid rfl 58 (.tmp 7) (.tmp 18) rfl w5.heap.size 0 (prCells a.length (words a)).toArray rfl rfl T7.out (by kernel_rfl) (prCells_one _ _) ?_; rw [HW7.out]; dsimp only [Act.put]) | (refine wpList_store_mid rfl 58 (.tmp 8) (.tmp 20) rfl (w5.heap.size + 1) 0 (prCells b.length (words b)).toArray rfl rfl T8.out (by kernel_rfl) (prCells_one _ _) ?_; rw [HW8.out]; dsimp only [Act.put]))
  have HC8 : Hid (Ctx w W8 w.heap.size w5.heap.size n2 f2 va a vb b) := Lib.hid ⟨HP.out, P7.out, P8.out, HA.out, HBb.out, HB.out⟩
  have FA := fit_words a ha2
  have FB := fit_words b hbb2
  have hab : ((a == b) = true ∧ a = b) ∨ ((a == b) = false ∧ a ≠ b) := by
    by_cases h : a = b
    · exact .inl ⟨by simp [h], h⟩
    · exact .inr ⟨by simp [h], h⟩
  have hguard := guard_pr
  clear HP P7 P8 HA HBb HB T7 T8 HW7 HW8
  obtain ⟨q, hq, hq2⟩ : ∃ q, (a == b) = q ∧ (q = true ↔ a = b) := ⟨_, rfl, by simp⟩
  have heq := eql_pr FA FB q (hq2.trans ⟨fun h => by rw [h]; exact ⟨rfl, fun _ _ => rfl⟩, fun h => words_inj ha2 h.1 h.2⟩)
  have HQ := Lib.hid hq
  have HQ2 := Lib.hid hq2
  have HAB := Lib.hid hab
  clear hq hq2 hab
  refine wp_region_noPanic ?_
  refine wp_region_held_drew (S := fun w' => Ctx w w' w.heap.size w5.heap.size n2 f2 va a vb b) (by kernel_rfl) (HC8.out.drewN 1) (fun hHeld => ?_)
  have HC : Hid (Ctx w W8.drew w.heap.size w5.heap.size n2 f2 va a vb b) := Lib.hid (HC8.out.drewN 1)
  clear HC8 hHeld
  generalize World.drew W8 = W9 at *
  have hHeld := HC.out
  refine wpAnyH_take (i := 0) (v := .agg (prCells a.length (words a)).toArray) opAt_0 (by kernel_rfl) (by kernel_rfl) (by kernel_rfl) (fun _ _ _ h => h) (yieldsIf_load_mid rfl 58 (.tmp 7) rfl (w5.heap.size) 0 rfl (prCells a.length (words a)) _ (fun w h => (Ctx.p7 h).range) Try.underlying58 (by kernel_rfl) (by kernel_rfl)) hHeld ?_
  try simp only [Act.put, List.setIfInBounds_toArray, List.set_cons_zero, List.set_cons_succ]
  refine wpAnyH_take (i := 1) (v := .agg (prCells b.length (words b)).toArray) opAt_1 (by kernel_rfl) (by kernel_rfl) (by kernel_rfl) (fun _ _ _ h => h) (yieldsIf_load_mid rfl 58 (.tmp 8) rfl (w5.heap.size + 1) 0 rfl (prCells b.length (words b)) _ (fun w h => (Ctx.p8 h).range) Try.underlying58 (by kernel_rfl) (by kernel_rfl)) hHeld ?_
  try simp only [Act.put, List.setIfInBounds_toArray, List.set_cons_zero, List.set_cons_succ]
  refine wpAnyH_take (i := 2) (v := ?_) opAt_2 (by kernel_rfl) (by kernel_rfl) (by kernel_rfl) (fun _ _ _ h => h) (Or.inl ⟨by rfl, ?_⟩) hHeld ?_
  rotate_left
  · (intro w hSw; (try dsimp only at hSw); go_simp; try with_reducible rfl)
  try simp only [Act.put, List.setIfInBounds_toArray, List.set_cons_zero, List.set_cons_succ]
  refine wpAnyH_take (i := 3) (v := ?_) opAt_3 (by kernel_rfl) (by kernel_rfl) (by kernel_rfl) (fun _ _ _ h => h) (Or.inl ⟨by rfl, ?_⟩) hHeld ?_
  rotate_left
  · (intro w hSw; (try dsimp only at hSw); go_simp; try with_reducible rfl)
  try simp only [Act.put, List.setIfInBounds_toArray, List.set_cons_zero, List.set_cons_succ]
  refine wpAnyH_take (i := 4) (v := ?_) opAt_4 (by kernel_rfl) (by kernel_rfl) (by kernel_rfl) (fun _ _ _ h => h) (Or.inl ⟨by rfl, ?_⟩) hHeld ?_
  rotate_left
  · (intro w hSw; (try dsimp only at hSw); go_simp; try with_reducible rfl)
  try simp only [Act.put, List.setIfInBounds_toArray, List.set_cons_zero, List.set_cons_succ]
  refine wpAnyH_ready (rs := [5]) (by kernel_rfl) (by simp) ?_
  refine AllReadyH.cons rfl (fun K hK => ?_) AllReadyH.nil
  go_simp
  (refine (equal_b va vb a b _ _ W9 HC.out.sa HC.out.sb).mono ?_)
  rintro e w9 ⟨rfl, rfl⟩
  rw [HQ.out]
  go_wp2_with fail
  refine hK.out _ _ (HC.out) (fun hHeld => ?_)
  clear hK K
  try simp only [Act.put, List.setIfInBounds_toArray, List.set_cons_zero, List.set_cons_succ]
  refine wpAnyH_take (i := 6) (v := ?_) opAt_6 (by kernel_rfl) (by kernel_rfl) (by kernel_rfl) (fun _ _ _ h => h) (Or.inl ⟨by rfl, ?_⟩) hHeld ?_
  rotate_left
  · (intro w hSw; (try dsimp only at hSw); go_simp; try with_reducible rfl)
  try simp only [Act.put, List.setIfInBounds_toArray, List.set_cons_zero, List.set_cons_succ]
  refine wpAnyH_done (by kernel_rfl) ?_ _
  refine NoPanic.normal ?_
  clear hHeld heq hguard
  go_wp2_with (refine wpList_load_mid rfl 58 (.tmp 7) rfl w5.heap.size 0 rfl (prCells a.length (words a)) _ HC.out.p7.range Try.underlying58 (by kernel_rfl) (by kernel_rfl) ?_)
  refine (key_any a.length (words a) _ FA (by omega) ha2 true (okB_words a).symm).mono ?_
  rintro e w10 ⟨⟨r10, rfl, hr10, _⟩, hb10⟩
  have hs10 := hr10 rfl
  rw [keyL_words] at hs10
  have HC10 := Lib.hid (HC.out.on hb10)
  have HS10 := Lib.hid hs10
  clear hs10 hr10 hb10 HC
  go_wp2_with fail
  refine (equal_b _ _ a a _ _ _ HS10.out HC10.out.sa).mono ?_
  rintro e w11 ⟨rfl, rfl⟩
  rw [show (a == a) = true by simp]
  clear HS10
  obtain ⟨B, hB⟩ : ∃ B, w10.heap.size = B := ⟨_, rfl⟩
  have hmm : (Instr.makeMap 64 none).run Try.prog w10 = .ok (.map (some B)) (w10.alloc (.map #[] 0)) := by rw [← hB]; rfl
  have hm0 : MapIs (w10.alloc (.map #[] 0)) B #[] 0 := by rw [← hB]; exact heap_alloc_new w10 _
  have hput := run_put0 hm0 FA (.int .i64 1)
  have hm1 := (hm0.set #[⟨prv a.length (words a), .int .i64 1, 0⟩] 1)
  have HC11 := Lib.hid (HC10.out.on (bnew4 w10 (.map #[] 0)))
  have hcB : ∀ Wn, (w10.alloc (.map #[] 0)).grownBy Wn (some B) → Ctx w Wn w.heap.size w5.heap.size n2 f2 va a vb b := fun Wn hg => HC10.out.on ((bnew4 w10 (.map #[] 0)).trans ((Below.refl _ _).grown hg (by simp) (fun k hk => by injection hk with hk; omega)))
  have HC12 := Lib.hid (hcB _ hm1.2)
  have HM12 := Lib.hid hm1.1
  have HF0 := Lib.hid (fun Wn (hg : (setM (w10.alloc (.map #[] 0)) B #[⟨prv a.length (words a), .int .i64 1, 0⟩] 1).grownBy Wn (some B)) => hcB Wn (grown_trans hm1.2 hg))
  unfold prv at hput HM12 HC12
  unfold prv at HF0
  generalize setM _ B _ 1 = W12 at *
  have HF : Hid (∀ Wn, W12.drew.grownBy Wn (some B) → Ctx w Wn w.heap.size w5.heap.size n2 f2 va a vb b) := Lib.hid (fun Wn hg => HF0.out Wn ⟨hg.os, hg.tape, hg.output, hg.size, hg.block⟩)
  have hBg := hB ▸ (Nat.le_refl w10.heap.size)
  clear hm0 hm1 hcB
  go_wp2_with (first | (refine wpList_load_mid rfl 58 (.tmp 7) rfl w5.heap.size 0 rfl (prCells a.length (words a)) _ HC11.out.p7.range Try.underlying58 (by kernel_rfl) (by kernel_rfl) ?_))
  clear hmm hput HC10 HC11
  have HM13 : Hid (MapIs W12.drew B #[⟨prv a.length (words a), .int .i64 1, 0⟩] 1) := HM12
  have HC13 : Hid (Ctx w W12.drew w.heap.size w5.heap.size n2 f2 va a vb b) := Lib.hid (HC12.out.drewN 1)
  have hBl : ∀ Wn, W12.drew.grownBy Wn (some B) → Ctx w Wn w.heap.size w5.heap.size n2 f2 va a vb b := fun Wn hg => HF.out Wn hg
  obtain ⟨x, y, st, k, v, W14, W15, es, c, hx0, hx1, ⟨hy1, hy2, hy3, hy4⟩, hent, hsto, hg1, hg2, hm, ⟨hk, hkq⟩, hfin⟩ := upd HM13.out FA FB q (HQ2.out.trans ⟨fun h => by rw [h], fun h => words_inj ha2 (prv_inj.1 h).1.symm (fun i hi => ((prv_inj.1 h).2 i hi).symm)⟩)
  clear hy1
  have hy1 : IntKind.i64.wrap y = y := IntWalk.i64_in _ (by omega)
  have HC14 : Hid (Ctx w W14 w.heap.size w5.heap.size n2 f2 va a vb b) := Lib.hid (HF.out W14 hg1)
  have HC15 : Hid (Ctx w W15 w.heap.size w5.heap.size n2 f2 va a vb b) := Lib.hid (HF.out W15 (grown_trans hg1 hg2))
  have HM15 := Lib.hid hm
  have HFin := Lib.hid hfin
  have HKq := Lib.hid hkq
  have HK := Lib.hid hk
  clear HM12 HC12 hBl hg1 hg2 hm hfin hkq hk HF
  refine wp_region_noPanic ?_
  refine OrdL.wpL_region (fun w' => Ctx w w' w.heap.size w5.heap.size n2 f2 va a vb b ∧ (Instr.lookup 64 (.map (some B)) (.agg (prCells b.length (words b)).toArray) false).run Try.prog w' = .ok (.int .i64 x) w') 6 (by kernel_rfl) ?_
  generalize World.drew W12 = W13 at *
  have hHeld : Ctx w W13 w.heap.size w5.heap.size n2 f2 va a vb b ∧ (Instr.lookup 64 (.map (some B)) (.agg (prCells b.length (words b)).toArray) false).run Try.prog W13 = .ok (.int .i64 x) W13 := ⟨HC13.out, hx0⟩
  refine OrdL.wpL_take (i := 0) (v := ?_) opAt_0 [] (by kernel_rfl) (by kernel_rfl) (by kernel_rfl) (by kernel_rfl) (by kernel_rfl) (by kernel_rfl) (fun _ _ _ h => h) (Or.inl ⟨by rfl, ?_⟩) hHeld ?_
  rotate_left
  · (intro w' hSw; have hSw2 := hSw.2; go_simp; try with_reducible rfl)
  try simp only [Act.put, List.setIfInBounds_toArray, List.set_cons_zero, List.set_cons_succ]
  refine OrdL.wpL_take (i := 1) (v := .agg (prCells b.length (words b)).toArray) opAt_1 [] (by kernel_rfl) (by kernel_rfl) (by kernel_rfl) (by kernel_rfl) (by kernel_rfl) (by kernel_rfl) (fun _ _ _ h => h) (yieldsIf_load_mid rfl 58 (.tmp 8) rfl (w5.heap.size + 1) 0 rfl (prCells b.length (words b)) _ (fun w h => (Ctx.p8 h.1).range) Try.underlying58 (by kernel_rfl) (by kernel_rfl)) hHeld ?_
  try simp only [Act.put, List.setIfInBounds_toArray, List.set_cons_zero, List.set_cons_succ]
  refine OrdL.wpL_take (i := 2) (v := ?_) opAt_2 [] (by kernel_rfl) (by kernel_rfl) (by kernel_rfl) (by kernel_rfl) (by kernel_rfl) (by kernel_rfl) (fun _ _ _ h => h) (Or.inl ⟨by rfl, ?_⟩) hHeld ?_
  rotate_left
  · (intro w' hSw; have hSw2 := hSw.2; go_simp; try with_reducible rfl)
  try simp only [Act.put, List.setIfInBounds_toArray, List.set_cons_zero, List.set_cons_succ]
  refine OrdL.wpL_take (i := 3) (v := ?_) opAt_3 [] (by kernel_rfl) (by kernel_rfl) (by kernel_rfl) (by kernel_rfl) (by kernel_rfl) (by kernel_rfl) (fun _ _ _ h => h) (Or.inl ⟨by rfl, ?_⟩) hHeld ?_
  rotate_left
  · (intro w' hSw; have hSw2 := hSw.2; go_simp; try with_reducible rfl)
  try simp only [Act.put, List.setIfInBounds_toArray, List.set_cons_zero, List.set_cons_succ]
  refine OrdL.wpL_ready (rs := [4]) (by kernel_rfl) (by simp) ?_
  refine OrdL.AllL.cons rfl (fun K hK => ?_) OrdL.AllL.nil
  go_simp
  refine hK.out _ _ (fun _ => ⟨HC14.out, hx1⟩) ?_
  clear hK K hHeld
  try simp only [Act.put, List.setIfInBounds_toArray, List.set_cons_zero, List.set_cons_succ]
  have hHeld : Ctx w W14 w.heap.size w5.heap.size n2 f2 va a vb b ∧ (Instr.lookup 64 (.map (some B)) (.agg (prCells b.length (words b)).toArray) false).run Try.prog W14 = .ok (.int .i64 x) W14 := ⟨HC14.out, hx1⟩
  refine OrdL.wpL_take (i := 5) (v := ?_) opAt_5 [] (by kernel_rfl) (by kernel_rfl) (by kernel_rfl) (by kernel_rfl) (by kernel_rfl) (by kernel_rfl) (fun _ _ _ h => h) (Or.inl ⟨by rfl, ?_⟩) hHeld ?_
  rotate_left
  · (intro w' hSw; have hSw2 := hSw.2; go_simp; try with_reducible rfl)
  try simp only [Act.put, List.setIfInBounds_toArray, List.set_cons_zero, List.set_cons_succ]
  refine OrdL.wpL_ready (rs := [6]) (by kernel_rfl) (by simp) ?_
  refine OrdL.AllL.cons rfl (fun K hK => ?_) OrdL.AllL.nil
  go_simp
  refine hK.out _ _ (fun h => absurd h (by decide)) ?_
  clear hK K hHeld
  try simp only [Act.put, List.setIfInBounds_toArray, List.set_cons_zero, List.set_cons_succ]
  refine OrdL.wpL_done (by kernel_rfl) ?_ _
  refine NoPanic.normal ?_
  clear hx0 hx1 hent hsto hy1 hy2
  have hlen : (Builtin.len_ #[64] 3 #[.map (some B)]).run Try.prog W15 = .ok (.int .i64 (k : Int)) W15 := by
    have h15 : W15.heap[B]? = some (.map es c) := HM15.out
    have hmt : Try.prog.underlying 64 = some (.map (Try.prog.mapKeyOf 64) (Try.prog.mapElemOf 64)) := by kernel_rfl
    rw [run_len_map _ 64 3 B es c hmt h15, HK.out]
    rfl
  have hkq15 := HKq.out
  go_wp2_with fail
  refine (equal_b va vb a b _ _ _ HC15.out.sa HC15.out.sb).mono ?_
  rintro e w16 ⟨rfl, rfl⟩
  rw [HQ.out]
  clear hlen hkq15
  obtain ⟨Ab, cb, rfl, hcb, hrb⟩ := HC15.out.sb
  have HRb := Lib.hid hrb
  have hlook := fun w' (h : Ctx w w' w.heap.size w5.heap.size n2 f2 va a (.slice Ab b.length cb) b) => h
  clear hcb hrb hlook
  have hdl : decide (y < 2) = false := by simp; omega
  go_wp2_with (at_builtin; (refine wpList_append_rd_g _ (by rfl) (.const (.slice none 0 0)) (.tmp 59) 53 rfl W15.heap.size 5 i0 (.int .u8 0) 1 1 Try.underlying53 hi0 hz0 hz1 hz2 rfl (by omega) (.slice none 0 0) 0 [] rfl (World.ownsRow_nil _ _ _ _) W15.heap.size Ab b.length cb (bvs b) rfl (by rw [bvs_length]; omega) HRb.out (bvs_one _) (by unfold maxLen; omega) (by omega) (Nat.le_refl _) ?_); intro v17 w17 hown17 hb17)
  have hs17 : Bs w17 w17.heap.size v17 b := Bs.of_own (n := 0 + b.length) (by simpa using hown17)
  have HS17 := Lib.hid hs17
  have HB17 := Lib.hid hb17
  have HC17 := Lib.hid (HC15.out.on hb17)
  clear hs17 hown17 hb17
  refine (of_yes v17 b _ _ HS17.out (Nat.le_refl _) (by omega) hbb2).mono ?_
  rintro e w18 ⟨rfl, hb18⟩
  have HC18 := Lib.hid (HC17.out.on hb18)
  have hm18 : MapIs w18 B es c := by
    have hl : B < W15.heap.size := HM15.out.lt
    exact (hb18.block B (Nat.lt_of_lt_of_le hl HB17.out.size)).trans ((HB17.out.block B hl).trans HM15.out)
  have hlook := HFin.out w18 hm18
  clear hb18 hm18 HC17 HS17 HB17
  unfold prv
  have HP18 := Lib.hid HC18.out.p5
  have HB18 := Lib.hid HC18.out.below
  go_wp2_with (refine wpList_load_mid rfl 58 (.tmp 5) rfl w.heap.size 0 rfl (prCells n2 f2) _ HP18.out.range Try.underlying58 (by kernel_rfl) (by kernel_rfl) ?_)
  clear hlook hdl
  have hway : (n2 = 0 ∨ 64 < n2) ∨ (1 ≤ n2 ∧ n2 ≤ 64) := by omega
  rcases hway with hbad | ⟨hn1, hn2⟩
  · have hn := pn2.1
    refine (key_bad n2 f2 _ hn hbad).mono ?_
    rintro e w19 ⟨rfl, hb19⟩
    have HB19 := Lib.hid (HB18.out.trans (hb19.mono HB18.out.size))
    clear hb19 hbad hn
    go_wp2_with fail
    refine (knows4 _).mono ?_
    rintro e w20 ⟨rfl, hb20⟩
    go_wp2_with fail
    go_ret
    exact ⟨rfl, HB19.out.trans (hb20.mono HB19.out.size)⟩
  · obtain ⟨qb, hqb⟩ : ∃ qb, qb = okB n2 f2 := ⟨_, rfl⟩
    refine (key_any n2 f2 _ pn2 hn1 hn2 qb hqb).mono ?_
    rintro e w19 ⟨⟨r19, rfl, hr1, hr2⟩, hb19⟩
    have HB19 := Lib.hid (HB18.out.trans (hb19.mono HB18.out.size))
    have HP19 := Lib.hid (HP18.out.on hb19)
    have HQb := Lib.hid hqb
    clear hb19 hqb
    cases qb
    · obtain rfl := hr2 rfl
      clear hr1 hr2
      go_wp2_with fail
      refine (knows4 _).mono ?_
      rintro e w20 ⟨rfl, hb20⟩
      go_wp2_with fail
      go_ret
      exact ⟨rfl, HB19.out.trans (hb20.mono HB19.out.size)⟩
    · have hs19 := hr1 rfl
      have HS19 := Lib.hid hs19
      have hl := keyL_length n2 f2
      have HL := Lib.hid hl
      have hFw := fit_words (keyL n2 f2) (by rw [hl]; exact hn2)
      rw [hl] at hFw
      have heq := eql_pr hFw pn2 true ⟨fun _ => (okB_iff n2 f2).1 HQb.out.symm, fun _ => rfl⟩
      have hguard := guard_pr
      clear hr1 hr2 hs19 hl
      go_wp2_with fail
      refine wp_region_noPanic ?_
      have HP20 : Hid (PrAt w19.drew w.heap.size n2 f2) := Lib.hid (HP19.out.drewN 1)
      have HB20 : Hid (Below w.heap.size w w19.drew) := Lib.hid (bdrewN4 HB19.out 1)
      have HS20 : Hid (Bs w19.drew w19.drew.heap.size r19 (keyL n2 f2)) := HS19
      refine wp_region_held_drew (S := fun w' => PrAt w' w.heap.size n2 f2) (by kernel_rfl) (HP20.out) (fun hHeld => ?_)
      clear HP19 HB19 HS19 hHeld
      generalize World.drew w19 = W20 at *
      have hHeld := HP20.out
      refine wpAnyH_take (i := 0) (v := ?_) opAt_0 (by kernel_rfl) (by kernel_rfl) (by kernel_rfl) (fun _ _ _ h => h) (Or.inl ⟨by rfl, ?_⟩) hHeld ?_
      rotate_left
      · (intro w hSw; (try dsimp only at hSw); go_simp; try with_reducible rfl)
      try simp only [Act.put, List.setIfInBounds_toArray, List.set_cons_zero, List.set_cons_succ]
      refine wpAnyH_ready (rs := [1]) (by kernel_rfl) (by simp) ?_
      refine AllReadyH.cons rfl (fun K hK => ?_) AllReadyH.nil
      go_simp
      (refine (may_yes_b _ _ _ W20 HS20.out (by rw [HL.out]; omega) (by rw [HL.out]; omega)).mono ?_)
      rintro e w21 ⟨rfl, rfl⟩
      go_wp2_with fail
      refine hK.out _ _ (HP20.out) (fun _ => ?_)
      clear hK K
      try simp only [Act.put, List.setIfInBounds_toArray, List.set_cons_zero, List.set_cons_succ]
      refine wpAnyH_take (i := 2) (v := ?_) opAt_2 (by kernel_rfl) (by kernel_rfl) (by kernel_rfl) (fun _ _ _ h => h) (Or.inl ⟨by rfl, ?_⟩) hHeld ?_
      rotate_left
      · (intro w hSw; (try dsimp only at hSw); go_simp; try with_reducible rfl)
      try simp only [Act.put, List.setIfInBounds_toArray, List.set_cons_zero, List.set_cons_succ]
      refine wpAnyH_take (i := 3) (v := ?_) opAt_3 (by kernel_rfl) (by kernel_rfl) (by kernel_rfl) (fun _ _ _ h => h) (Or.inl ⟨by rfl, ?_⟩) hHeld ?_
      rotate_left
      · (intro w hSw; (try dsimp only at hSw); go_simp; try with_reducible rfl)
      try simp only [Act.put, List.setIfInBounds_toArray, List.set_cons_zero, List.set_cons_succ]
      refine wpAnyH_take (i := 5) (v := .agg (prCells n2 f2).toArray) opAt_5 (by kernel_rfl) (by kernel_rfl) (by kernel_rfl) (fun _ _ _ h => h) (yieldsIf_load_mid (by rfl) 58 (.tmp 5) rfl (w.heap.size) 0 rfl (prCells n2 f2) _ (fun w h => PrAt.range h) Try.underlying58 (by kernel_rfl) (by kernel_rfl)) hHeld ?_
      try simp only [Act.put, List.setIfInBounds_toArray, List.set_cons_zero, List.set_cons_succ]
      refine wpAnyH_ready (rs := [4]) (by kernel_rfl) (by simp) ?_
      refine AllReadyH.cons rfl (fun K hK => ?_) AllReadyH.nil
      go_simp
      clear hHeld
      (refine (of_yes _ _ _ W20 HS20.out (Nat.le_refl _) (by rw [HL.out]; omega) (by rw [HL.out]; omega)).mono ?_)
      rintro e w21 ⟨rfl, hb21⟩
      rw [HL.out]
      unfold prv
      have HP21 := Lib.hid (HP20.out.on hb21)
      have HB21 := Lib.hid (HB20.out.trans (hb21.mono HB20.out.size))
      clear hb21
      go_wp2_with fail
      refine hK.out _ _ (HP21.out) (fun _ => ?_)
      clear hK K
      try simp only [Act.put, List.setIfInBounds_toArray, List.set_cons_zero, List.set_cons_succ]
      have hHeld := HP21.out
      refine wpAnyH_take (i := 6) (v := ?_) opAt_6 (by kernel_rfl) (by kernel_rfl) (by kernel_rfl) (fun _ _ _ h => h) (Or.inl ⟨by rfl, ?_⟩) hHeld ?_
      rotate_left
      · (intro w hSw; (try dsimp only at hSw); go_simp; try with_reducible rfl)
      try simp only [Act.put, List.setIfInBounds_toArray, List.set_cons_zero, List.set_cons_succ]
      refine wpAnyH_take (i := 7) (v := ?_) opAt_7 (by kernel_rfl) (by kernel_rfl) (by kernel_rfl) (fun _ _ _ h => h) (Or.inl ⟨by rfl, ?_⟩) hHeld ?_
      rotate_left
      · (intro w hSw; (try dsimp only at hSw); go_simp; try with_reducible rfl)
      try simp only [Act.put, List.setIfInBounds_toArray, List.set_cons_zero, List.set_cons_succ]
      refine wpAnyH_take (i := 8) (v := ?_) opAt_8 (by kernel_rfl) (by kernel_rfl) (by kernel_rfl) (fun _ _ _ h => h) (Or.inl ⟨by rfl, ?_⟩) hHeld ?_
      rotate_left
      · (intro w hSw; (try dsimp only at hSw); go_simp; try with_reducible rfl)
      try simp only [Act.put, List.setIfInBounds_toArray, List.set_cons_zero, List.set_cons_succ]
      refine wpAnyH_ready (rs := [9]) (by kernel_rfl) (by simp) ?_
      refine AllReadyH.cons rfl (fun K hK => ?_) AllReadyH.nil
      go_simp
      clear hHeld heq
      refine (knows4 _).mono ?_
      rintro e w22 ⟨rfl, hb22⟩
      have HP22 := Lib.hid (HP21.out.on hb22)
      have HB22 := Lib.hid (HB21.out.trans (hb22.mono HB21.out.size))
      clear hb22
      go_wp2_with fail
      refine hK.out _ _ (HP22.out) (fun _ => ?_)
      clear hK K
      try simp only [Act.put, List.setIfInBounds_toArray, List.set_cons_zero, List.set_cons_succ]
      have hHeld := HP22.out
      refine wpAnyH_take (i := 10) (v := ?_) opAt_10 (by kernel_rfl) (by kernel_rfl) (by kernel_rfl) (fun _ _ _ h => h) (Or.inl ⟨by rfl, ?_⟩) hHeld ?_
      rotate_left
      · (intro w hSw; (try dsimp only at hSw); go_simp; try with_reducible rfl)
      try simp only [Act.put, List.setIfInBounds_toArray, List.set_cons_zero, List.set_cons_succ]
      refine wpAnyH_take (i := 11) (v := ?_) opAt_11 (by kernel_rfl) (by kernel_rfl) (by kernel_rfl) (fun _ _ _ h => h) (Or.inl ⟨by rfl, ?_⟩) hHeld ?_
      rotate_left
      · (intro w hSw; (try dsimp only at hSw); go_simp; try with_reducible rfl)
      try simp only [Act.put, List.setIfInBounds_toArray, List.set_cons_zero, List.set_cons_succ]
      refine wpAnyH_done (by kernel_rfl) ?_ _
      refine NoPanic.normal ?_
      clear hHeld
      go_wp2_with fail
      go_ret
      exact ⟨rfl, HB22.out⟩
end Go.Proofs.Ytaekndhchdpobaa.keyPrints
