/-
  ScanKnown, part 14 of what the law's proof leans on: ScKnows, ScKnQ, ScKnC.
-/
import Derived.Deep.RegionHeld3
import Derived.OpenShut
import Derived.Test.YtfabodpefbdbjaaDoorScanKnownQ10
import Derived.Test.YtfabodpefbdbjaaDoorScanKnownQ12
import Derived.Test.YtfabodpefbdbjaaDoorScanKnownQ13
import Derived.Test.YtfabodpefbdbjaaDoorScanKnownQ1
import Derived.Test.YtfabodpefbdbjaaDoorScanKnownQ9
/- ScKnows -/

/-
  Layer 12: what the laws know of the chapter's rows.
-/
set_option linter.unusedVariables false
set_option linter.unusedSimpArgs false
namespace Go.Proofs.YtfabodpefbdbjaaDoor.Sc
open Go Go.RowKit

section
variable {w w' : World} {N : Nat → Prop} {lo : Nat} {v : Value}
theorem RowIn.chg {l : List UInt8} (h : RowIn w lo v l) (hc : Chg N w w') (hN : ∀ i, N i → i < lo) : RowIn w' lo v l := by
  rcases h with ⟨rfl, rfl⟩ | ⟨g, rfl, h1, h⟩
  · exact .inl ⟨rfl, rfl⟩
  · exact .inr ⟨g, rfl, h1, (hc.block g h.lt (fun hn => by have := hN g hn; omega)).trans h⟩
theorem own_chg {base size n : Nat} {e : TypeId} {xs : List Value} (h : w.ownsRow base e size v n xs) (hc : Chg N w w') (hN : ∀ i, N i → i < base) : w'.ownsRow base e size v n xs :=
  hc.own h fun g hv hn => by have := (h.lt g hv).1; have := hN g hn; omega
theorem ScanV.chg {T : TypeId} {s : S} (h : ScanV T w lo v s) (hc : Chg N w w') (hN : ∀ i, N i → i < lo) : ScanV T w' lo v s := by
  obtain ⟨vf, vp, q, h1, h2, h3, h4, h5⟩ := h
  exact ⟨vf, vp, q, h1, h2, own_chg h3 hc hN, fun x hx => ⟨RowIn.chg (h4 x hx).key hc hN, RowIn.chg (h4 x hx).val hc hN⟩, own_chg h5 hc hN⟩
/-- a scan's value, its numbers spelled out -/
theorem ScanV.lit {T : TypeId} {s : S} (h : ScanV T w lo v s) (i st wy : Int) (n np : Nat) (h1 : (s.id : Int) = i) (h2 : s.found.length = n) (h3 : s.passed.length = np) (h4 : (s.stop : Int) = st) (h5 : (s.why : Int) = wy) :
    ∃ Af cf Ap cp, ∃ q : List Fq, v = .agg #[.int .u32 i, .slice Af n cf, .slice Ap np cp, .int .i64 st, .int .i64 wy] ∧ q.map (·.1) = s.found ∧ n ≤ cf ∧ np ≤ cp ∧ w.ownsRow lo T 9 (.slice Af n cf) n (rowF s.id q) ∧ w.ownsRow lo 3 1 (.slice Ap np cp) np (s.passed.map fun n : Nat => Value.int .i64 (n : Int)) := by
  obtain ⟨Af, nf, cf, Ap, np', cp, q, e, hq, hn, hp, hf, e1, e2, e3, e4, o1, _, o2⟩ := h.open
  subst h1 h2 h3 h4 h5
  subst hf hp
  exact ⟨Af, cf, Ap, cp, q, e, hq, e1, e3, o1, o2⟩
theorem Rd.set1 {B g j : Nat} {xs : List Value} {x : Value} (h : Rd w B (some ⟨g, 0, none⟩) xs) (hj : j < xs.length) : Rd (w.setCell ⟨g, j, none⟩ x) B (some ⟨g, 0, none⟩) (xs.set j x) := fun hx => by
  obtain ⟨b, o, e, hb, hc⟩ := h (by intro e; rw [e] at hj; simp at hj)
  injection e with e
  injection e with e1 e2 _
  subst e1 e2
  refine ⟨g, 0, rfl, hb, fun k u hu => ?_⟩
  rw [Nat.zero_add]
  rw [List.getElem?_set] at hu
  by_cases hk : j = k
  · subst hk
    rw [if_pos rfl, if_pos hj] at hu
    injection hu with hu
    subst hu
    have := hc j _ (List.getElem?_eq_getElem hj)
    rw [Nat.zero_add] at this
    exact World.cell?_setCell_same' _ _ _ (by rw [this]; rfl)
  · rw [if_neg hk] at hu
    have := hc k u hu
    rw [Nat.zero_add] at this
    rw [← this]
    exact World.cell?_setCell_other _ _ _ _ (by intro e; injection e with _ e _; exact hk e)
end
set_option maxRecDepth 100000 in
set_option maxHeartbeats 16000000 in
theorem knows12 (w : World) (ht : RTab w) : Calls Tryd.prog 15 #[] w fun e w' => e = .returned (.bool true) ∧ Below w.heap.size w w' := by
  have HRZ := Lib.hid (show Rise ⟨3, [⟨16, 27, kv 1⟩, ⟨70, 27, kv 5⟩], [43], 97, 0⟩ by obtain ⟨c, hc⟩ : ∃ c, kn[69]? = some c := ⟨_, List.getElem?_eq_getElem (by rw [kn_len]; decide)⟩; have := of_rise 3 (kn.set 69 (c ^^^ 1)); rwa [kn_z c hc] at this)
  obtain ⟨g0, hg0⟩ : ∃ g, w.heap.size = g := ⟨_, rfl⟩
  obtain ⟨W1, hW1⟩ : ∃ V, w.alloc (.cells #[.int .u64 1, .int .u64 2, .int .u64 5] 24) = V := ⟨_, rfl⟩
  have hb1 : Below w.heap.size w W1 := by rw [← hW1]; exact (Below.refl _ _).alloc (Nat.le_refl _) _
  have k1 : W1.heap[g0]? = some (.cells #[.int .u64 1, .int .u64 2, .int .u64 5] 24 (0, 0)) := by rw [← hW1, ← hg0]; exact heap_alloc_new w _
  have hrd : Rd W1 (g0 + 1) (some ⟨g0, 0, none⟩) (([1, 2, 5] : List Nat).map fun n : Nat => Value.int .u64 (n : Int)) := fun _ => ⟨g0, 0, rfl, by omega, fun j u hu => by
    rw [cell_of_row W1 g0 (0 + j) _ _ _ k1]
    simpa using hu⟩
  have HL := Lib.hid (slaid [1, 2, 5] (c := 3) hrd (by have := (Array.getElem?_eq_some_iff.1 k1).1; omega) (by decide) (by decide))
  have HB1 := Lib.hid hb1
  have HT := Lib.hid ht
  have HG0 := Lib.hid hg0
  clear hb1 k1 hrd ht
  go_enter Tryd.func15, Tryd.ntmps15
  go_wp2_with fail
  refine HL.out.mono ?_
  rintro e w2 ⟨v, rfl, hown, hb2⟩
  have hown : w2.ownsRow W1.heap.size 5 1 v 97 (bvs kn) := hown
  obtain ⟨Ab, cb, rfl, hcb, _, _⟩ := own_slice hown
  obtain ⟨gb, rfl, hgb⟩ := own_at hown (by omega)
  have HO := Lib.hid hown
  have HB2 := Lib.hid (HB1.out.trans (hb2.mono HB1.out.size))
  have HOf := Lib.hid (sof (.slice (some ⟨gb, 0, none⟩) 97 cb) kn 3 w2 (by have := Bs.of_own (l := kn) hown; exact this) (by rw [kn_len]; decide) (by decide) (HT.out.on HB2.out))
  rw [kn_x] at HOf
  clear hown hb2
  go_wp2_with fail
  refine HOf.out.mono ?_
  rintro e w3 ⟨rv, rfl, hsx, hb3⟩
  obtain ⟨Afx, cfx, Apx, cpx, qx, rfl, hx1, hx2, hx3, hxo, hxp⟩ := hsx.lit 3 97 0 3 0 rfl rfl rfl rfl rfl
  obtain ⟨gfx, rfl, hgx⟩ := own_at hxo (by omega)
  obtain ⟨g2, hg2⟩ : ∃ g, w3.heap.size = g := ⟨_, rfl⟩
  have hg2ge : w2.heap.size ≤ g2 := by rw [← hg2]; exact hb3.size
  obtain ⟨W4, hW4⟩ : ∃ V, w3.alloc (.cells #[.int .u32 3, .slice (some ⟨gfx, 0, none⟩) 3 cfx, .slice Apx 0 cpx, .int .i64 97, .int .i64 0] 31) = V := ⟨_, rfl⟩
  have hb4 : Below w3.heap.size w3 W4 := by rw [← hW4]; exact (Below.refl _ _).alloc (Nat.le_refl _) _
  have k2 : W4.heap[g2]? = some (.cells #[.int .u32 3, .slice (some ⟨gfx, 0, none⟩) 3 cfx, .slice Apx 0 cpx, .int .i64 97, .int .i64 0] 31 (0, 0)) := by rw [← hW4, ← hg2]; exact heap_alloc_new w3 _
  have hb24 : Below w2.heap.size w2 W4 := hb3.trans (hb4.mono hb3.size)
  have hO4 := own_below HO.out hb24 (Nat.le_refl _)
  have HO4 := Lib.hid hO4
  have HX4 := Lib.hid (hsx.on hb4)
  have HXQ := Lib.hid (And.intro hx1 (own_below hxo hb4 (Nat.le_refl _)))
  have HK2 := Lib.hid k2
  have HB4 := Lib.hid (HB2.out.trans (hb24.mono HB2.out.size))
  have hgb2 : gb < w2.heap.size := (HO.out.lt gb rfl).2
  have HGB := Lib.hid (And.intro hgb2 (show w2.heap.size ≤ W4.heap.size from hb24.size))
  have HOf4 := Lib.hid (sof (.slice (some ⟨gb, 0, none⟩) 96 cb) (kn.take 96) 3 W4 ⟨_, cb, by rw [List.length_take, kn_len]; rfl, by rw [List.length_take, kn_len]; omega, by rw [bvs_take]; exact (Rd.of_own hO4).take 96⟩ (by rw [List.length_take, kn_len]; decide) (by decide) (HT.out.on HB4.out))
  rw [kn_y] at HOf4
  have HW4 := Lib.hid hW4
  clear hb4 k2 hb24 hO4 hsx hb3 hxo hxp hx1 hgb2 hW4
  go_wp2_with fail
  rw [HW4.out]
  refine HOf4.out.mono ?_
  rintro e w5 ⟨rv, rfl, hsy, hb5⟩
  obtain ⟨Afy, cfy, Apy, cpy, qy, rfl, hy1, hy2, hy3, hyo, hyp⟩ := hsy.lit 3 70 22 2 0 rfl rfl rfl rfl rfl
  obtain ⟨g3, hg3⟩ : ∃ g, w5.heap.size = g := ⟨_, rfl⟩
  obtain ⟨W6, hW6⟩ : ∃ V, w5.alloc (.cells #[.int .u32 3, .slice Afy 2 cfy, .slice Apy 0 cpy, .int .i64 70, .int .i64 22] 31) = V := ⟨_, rfl⟩
  have hb6 : Below w5.heap.size w5 W6 := by rw [← hW6]; exact (Below.refl _ _).alloc (Nat.le_refl _) _
  have k3 : W6.heap[g3]? = some (.cells #[.int .u32 3, .slice Afy 2 cfy, .slice Apy 0 cpy, .int .i64 70, .int .i64 22] 31 (0, 0)) := by rw [← hW6, ← hg3]; exact heap_alloc_new w5 _
  have hb46 : Below W4.heap.size W4 W6 := hb5.trans (hb6.mono hb5.size)
  have HO6 := Lib.hid (own_below HO4.out hb46 (Nat.le_refl _))
  have HX6 := Lib.hid (HX4.out.on hb46)
  have HXQ6 := Lib.hid (And.intro HXQ.out.1 (own_below HXQ.out.2 hb46 (Nat.le_refl _)))
  have HK6 := Lib.hid (And.intro ((hb46.block g2 (Array.getElem?_eq_some_iff.1 HK2.out).1).trans HK2.out) k3)
  have HB6 := Lib.hid (HB4.out.trans (hb46.mono HB4.out.size))
  obtain ⟨c, hc⟩ : ∃ c, kn[69]? = some c := ⟨_, List.getElem?_eq_getElem (by rw [kn_len]; decide)⟩
  have hcc : W6.cell? ⟨gb, 69, none⟩ = some (.int .u8 (c.toNat : Int)) := by
    have := HO6.out.cells (g := gb) rfl 69 (.int .u8 (c.toNat : Int)) (by simp [bvs, hc]; rfl)
    rwa [addr_add1] at this
  have hff : W6.frozen? ⟨gb, 69, none⟩ = false := HO6.out.frozenAt 69
  obtain ⟨d, hd⟩ : ∃ d : UInt8, c ^^^ 1 = d := ⟨_, rfl⟩
  have hxr : bits .xor .u8 (c.toNat : Int) 1 = (d.toNat : Int) := by
    rw [← hd, show (1 : Int) = (((1 : UInt8).toNat : Nat) : Int) by rfl, u8_xor_nat _ _ (UInt8.toNat_lt c) (UInt8.toNat_lt _), UInt8.toNat_xor]
  have hz := kn_z c hc
  rw [hd] at hz
  have hbl : (kn.set 69 d).length = 97 := by rw [List.length_set, kn_len]
  obtain ⟨W7, hW7⟩ : ∃ V, W6.setCell ⟨gb, 69, none⟩ (.int .u8 (d.toNat : Int)) = V := ⟨_, rfl⟩
  have hc7 : Chg (fun i => i = gb) W6 W7 := by rw [← hW7]; exact chg1 W6 gb 69 _
  have hrd7 : Rd W7 W6.heap.size (some ⟨gb, 0, none⟩) (bvs (kn.set 69 d)) := by
    have := Rd.set1 (j := 69) (x := .int .u8 (d.toNat : Int)) (Rd.of_own HO6.out) (by rw [bvs_length, kn_len]; decide)
    rw [hW7] at this
    have e : (bvs kn).set 69 (.int .u8 (d.toNat : Int)) = bvs (kn.set 69 d) := by
      unfold bvs
      rw [List.map_set]
      rfl
    rwa [e] at this
  have hsz7 : W6.heap.size = W7.heap.size := by rw [← hW7]; simp
  have hgbB : W1.heap.size ≤ gb := hgb
  have HB7 := Lib.hid (HB6.out.trans (hc7.below HB6.out.size (fun i e => by have := HB1.out.size; omega)))
  have HX7 := Lib.hid (HX6.out.chg hc7 (fun i e => by have := HGB.out.1; omega))
  have HXQ7 := Lib.hid (And.intro HXQ6.out.1 (own_chg HXQ6.out.2 hc7 (fun i e => by have := HGB.out.1; omega)))
  have hg2lt : W4.heap.size ≤ W6.heap.size := by have h1 := hb5.size; have h2 := hb6.size; omega
  have k2lt := (Array.getElem?_eq_some_iff.1 HK2.out).1
  have hg3ge : w2.heap.size ≤ g3 := by rw [← hg3]; have h1 := HGB.out.2; have h2 := hb5.size; omega
  have HK7 := Lib.hid (And.intro ((hc7.block g2 (Array.getElem?_eq_some_iff.1 HK6.out.1).1 (fun e => by have := HGB.out.1; omega)).trans HK6.out.1) ((hc7.block g3 (Array.getElem?_eq_some_iff.1 HK6.out.2).1 (fun e => by have := HGB.out.1; omega)).trans HK6.out.2))
  have HOf7 := Lib.hid (sof (.slice (some ⟨gb, 0, none⟩) 97 cb) (kn.set 69 d) 3 W7 ⟨_, cb, by rw [hbl], by rw [hbl]; exact hcb, by rw [← hsz7]; exact hrd7⟩ (by rw [hbl]; decide) (by decide) (HT.out.on HB7.out))
  rw [hz] at HOf7
  clear hb6 k3 hb46 hsy hb5 hyo hyp hy1 HO6 HX6 HXQ6 HK6 HB6 hc hz hbl hc7 hrd7 hg2lt k2lt hd
  go_wp2_with fail
  refine HOf7.out.mono ?_
  rintro e w8 ⟨rv, rfl, hsz, hb8⟩
  obtain ⟨Afz, cfz, Apz, cpz, qz, rfl, hz1, hz2, hz3, hzo, hzp⟩ := hsz.lit 3 97 0 2 1 rfl rfl rfl rfl rfl
  obtain ⟨gfz, rfl, _⟩ := own_at hzo (by omega)
  obtain ⟨gpz, rfl, _⟩ := own_at hzp (by omega)
  obtain ⟨g4, hg4⟩ : ∃ g, w8.heap.size = g := ⟨_, rfl⟩
  obtain ⟨W9, hW9⟩ : ∃ V, w8.alloc (.cells #[.int .u32 3, .slice (some ⟨gfz, 0, none⟩) 2 cfz, .slice (some ⟨gpz, 0, none⟩) 1 cpz, .int .i64 97, .int .i64 0] 31) = V := ⟨_, rfl⟩
  have hb9 : Below w8.heap.size w8 W9 := by rw [← hW9]; exact (Below.refl _ _).alloc (Nat.le_refl _) _
  have k4 : W9.heap[g4]? = some (.cells #[.int .u32 3, .slice (some ⟨gfz, 0, none⟩) 2 cfz, .slice (some ⟨gpz, 0, none⟩) 1 cpz, .int .i64 97, .int .i64 0] 31 (0, 0)) := by rw [← hW9, ← hg4]; exact heap_alloc_new w8 _
  have hb79 : Below W7.heap.size W7 W9 := hb8.trans (hb9.mono hb8.size)
  have HX9 := Lib.hid (HX7.out.on hb79)
  have HZ9 := Lib.hid (hsz.on hb9)
  have HK9 := Lib.hid (show W9.heap[g2]? = some (.cells #[.int .u32 3, .slice (some ⟨gfx, 0, none⟩) 3 cfx, .slice Apx 0 cpx, .int .i64 97, .int .i64 0] 31 (0, 0)) ∧ W9.heap[g3]? = some (.cells #[.int .u32 3, .slice Afy 2 cfy, .slice Apy 0 cpy, .int .i64 70, .int .i64 22] 31 (0, 0)) ∧ W9.heap[g4]? = some (.cells #[.int .u32 3, .slice (some ⟨gfz, 0, none⟩) 2 cfz, .slice (some ⟨gpz, 0, none⟩) 1 cpz, .int .i64 97, .int .i64 0] 31 (0, 0)) from ⟨(hb79.block g2 (Array.getElem?_eq_some_iff.1 HK7.out.1).1).trans HK7.out.1, (hb79.block g3 (Array.getElem?_eq_some_iff.1 HK7.out.2).1).trans HK7.out.2, k4⟩)
  have HB9 := Lib.hid (HB7.out.trans (hb79.mono HB7.out.size))
  have HXQ9 := Lib.hid (And.intro HXQ7.out.1 (own_below HXQ7.out.2 hb79 (Nat.le_refl _)))
  have HZQ9 := Lib.hid (own_below hzp hb9 (Nat.le_refl _))
  have HW9 := Lib.hid hW9
  clear hb9 k4 hb79 hsz hb8 hzo hzp hz1 hW9 HX7 HXQ7 HK7 HB7 HK2 HX4 HXQ HO4 HB4 hW7 hxr
  go_wp2_with fail
  rw [HW9.out]
  refine wp_region_noPanic ?_
  refine wp_region_held_drew (S := fun w' => w'.cell? ⟨g2, 0, none⟩ = some (.int .u32 3) ∧ w'.cell? ⟨g2, 1, none⟩ = some (.slice (some ⟨gfx, 0, none⟩) 3 cfx) ∧ w'.cell? ⟨g2, 2, none⟩ = some (.slice Apx 0 cpx) ∧ w'.cell? ⟨g2, 3, none⟩ = some (.int .i64 97) ∧ w'.cell? ⟨g2, 4, none⟩ = some (.int .i64 0) ∧ w'.cell? ⟨g4, 0, none⟩ = some (.int .u32 3) ∧ w'.cell? ⟨g4, 1, none⟩ = some (.slice (some ⟨gfz, 0, none⟩) 2 cfz) ∧ w'.cell? ⟨g4, 2, none⟩ = some (.slice (some ⟨gpz, 0, none⟩) 1 cpz) ∧ w'.cell? ⟨g4, 3, none⟩ = some (.int .i64 97) ∧ w'.cell? ⟨g4, 4, none⟩ = some (.int .i64 0)) (by kernel_rfl) (show _ from s55 (rw5 HK9.out.1) (rw5 HK9.out.2.2)) (fun hHeld => ?_)
  have hdr : Below W9.heap.size W9 W9.drew := (Below.refl W9.heap.size W9).drew
  have HXV := Lib.hid (HX9.out.on hdr)
  have HZV := Lib.hid (HZ9.out.on hdr)
  have HBV := Lib.hid (HB9.out.trans (hdr.mono HB9.out.size))
  have HBW := Lib.hid hdr
  generalize World.drew W9 = V at *
  clear hdr
  refine wpAnyH_take (i := 0) (v := ?_) opAt_0 (by kernel_rfl) (by kernel_rfl) (by kernel_rfl) (fun _ _ _ h => h) (Or.inl ⟨by rfl, ?_⟩) (by assumption) ?_
  rotate_left
  · (intro w hSw; obtain ⟨y0, y1, y2, y3, y4, x0, x1, x2, x3, x4⟩ := hSw; go_simp; try with_reducible rfl)
  try simp only [Act.put, List.setIfInBounds_toArray, List.set_cons_zero, List.set_cons_succ]
  refine wpAnyH_take (i := 1) (v := ?_) opAt_1 (by kernel_rfl) (by kernel_rfl) (by kernel_rfl) (fun _ _ _ h => h) (Or.inl ⟨by rfl, ?_⟩) (by assumption) ?_
  rotate_left
  · (intro w hSw; obtain ⟨y0, y1, y2, y3, y4, x0, x1, x2, x3, x4⟩ := hSw; go_simp; try with_reducible rfl)
  try simp only [Act.put, List.setIfInBounds_toArray, List.set_cons_zero, List.set_cons_succ]
  refine wpAnyH_ready (rs := [2]) (by kernel_rfl) (by simp) ?_
  refine AllReadyH.cons rfl (fun K hK => ?_) AllReadyH.nil
  go_simp
  refine (sseal12 HXV.out (by decide) (by decide) (by decide) (by intro f hf; simp at hf; rcases hf with rfl | rfl | rfl <;> decide)).mono ?_
  rintro e V1 ⟨rfl, hbn⟩
  have HBW1 := Lib.hid (HBW.out.trans (hbn.mono HBW.out.size))
  have HZ1 := Lib.hid (HZV.out.on hbn)
  go_wp2_with fail
  refine hK.out _ _ (show _ from s55 (rw5 ((HBW1.out.block g2 (Array.getElem?_eq_some_iff.1 HK9.out.1).1).trans HK9.out.1)) (rw5 ((HBW1.out.block g4 (Array.getElem?_eq_some_iff.1 HK9.out.2.2).1).trans HK9.out.2.2))) (fun hHeld => ?_)
  clear hK K hbn
  try simp only [Act.put, List.setIfInBounds_toArray, List.set_cons_zero, List.set_cons_succ]
  refine wpAnyH_ready (rs := [3]) (by kernel_rfl) (by simp) ?_
  refine AllReadyH.cons rfl (fun K hK => ?_) AllReadyH.nil
  go_simp
  refine (slost (x := seal_ ⟨3, [⟨16, 27, kv 1⟩, ⟨43, 27, kv 2⟩, ⟨70, 27, kv 5⟩], [], 97, 0⟩) HZ1.out HRZ.out (by decide) (by decide) (by decide) ⟨by decide, by decide, by decide, by decide, by decide⟩).mono ?_
  rintro e V2 ⟨rv, rfl, hlv, hbn⟩
  rw [kn_lost] at hlv
  have HBW2 := Lib.hid (HBW1.out.trans (hbn.mono HBW1.out.size))
  obtain ⟨Al, nl, cl, rfl, hnl, hol⟩ := hlv
  have hnl : 1 = nl := hnl
  subst hnl
  obtain ⟨gl, rfl, _⟩ := own_at hol (by omega)
  have l0 := hol.cells (g := gl) rfl 0 (.int .u64 2) rfl
  have l1 := hol.cells (g := gl) rfl 1 (.int .u64 4) rfl
  rw [addr_add1] at l0 l1
  go_wp2_with fail
  refine hK.out _ _ (show _ from s55 (rw5 ((HBW2.out.block g2 (Array.getElem?_eq_some_iff.1 HK9.out.1).1).trans HK9.out.1)) (rw5 ((HBW2.out.block g4 (Array.getElem?_eq_some_iff.1 HK9.out.2.2).1).trans HK9.out.2.2))) (fun hHeld => ?_)
  clear hK K hbn hol
  try simp only [Act.put, List.setIfInBounds_toArray, List.set_cons_zero, List.set_cons_succ]
  refine wpAnyH_take (i := 4) (v := ?_) opAt_4 (by kernel_rfl) (by kernel_rfl) (by kernel_rfl) (fun _ _ _ h => h) (Or.inl ⟨by rfl, ?_⟩) (by assumption) ?_
  rotate_left
  · (intro w hSw; obtain ⟨y0, y1, y2, y3, y4, x0, x1, x2, x3, x4⟩ := hSw; go_simp; try with_reducible rfl)
  try simp only [Act.put, List.setIfInBounds_toArray, List.set_cons_zero, List.set_cons_succ]
  refine wpAnyH_done (by kernel_rfl) ?_ _
  refine NoPanic.normal ?_
  obtain ⟨x0, x1, x2, x3, x4, z0, z1, z2, z3, z4⟩ := hHeld
  obtain ⟨y0, y1, y2, y3, y4⟩ := rw5 ((HBW2.out.block g3 (Array.getElem?_eq_some_iff.1 HK9.out.2.1).1).trans HK9.out.2.1)
  have hq2 : ∃ a b, qx[2]? = some (⟨70, 27, kv 5⟩, a, b) := by
    have h1 := congrArg (·[2]?) HXQ9.out.1
    simp only [List.getElem?_map] at h1
    rcases hh : qx[2]? with _ | ⟨f, a, b⟩
    · rw [hh] at h1; cases h1
    · rw [hh] at h1; injection h1 with h1; simp only at h1; exact ⟨a, b, by rw [h1]⟩
  obtain ⟨qa, qb, hq2⟩ := hq2
  have hOx := own_below HXQ9.out.2 HBW2.out (Nat.le_refl _)
  have f0 : V2.cell? ⟨gfx, 18, none⟩ = some (.int .u32 3) := found_cell hOx hq2 0 (by omega)
  have f1 : V2.cell? ⟨gfx, 19, none⟩ = some (.int .u32 70) := found_cell hOx hq2 1 (by omega)
  have p0 := (own_below HZQ9.out HBW2.out (Nat.le_refl _)).cells (g := gpz) rfl 0 (.int .i64 43) rfl
  rw [addr_add1] at p0
  have HBF := Lib.hid (HB9.out.trans (HBW2.out.mono HB9.out.size))
  clear hOx hq2
  go_wp2_with fail
  go_ret
  exact ⟨rfl, HBF.out⟩
end Go.Proofs.YtfabodpefbdbjaaDoor.Sc

/- ScKnQ -/

/-
  Layer 12, plain mathematics: numbers that do not rise, a segment of nothing, seals that do not fit.
-/
set_option linter.unusedVariables false
set_option linter.unusedSimpArgs false
namespace Go.Proofs.YtfabodpefbdbjaaDoor.Sc
open Go Go.RowKit

/-- one run, and what begins badly behind it -/
theorem kv_then (n : Nat) (h : 1 ≤ n ∧ n ≤ 1099511627776) (m : List UInt8) (hm : 0 < m.length) (r : Rc.Rec) (z e : Nat) (hg : Rc.getQ m = (r, z, e)) (he : e ≠ 22) (hb : (e = 0 ∧ r.seq ≤ (n : Int)) ∨ (e ≠ 0 ∧ z = 0)) : of 3 (layB 3 [kv n] ++ m) = ⟨3, [⟨16, 27, kv n⟩], [], 43, 23⟩ := by
  have hc : Hd.checkN (layB 3 [kv n] ++ m) 1 ((3 : Nat) : Int) = 0 := by
    unfold layB
    rw [List.append_assoc, Hd.check_head hid3, if_pos ⟨rfl, rfl⟩]
  unfold of
  rw [if_pos hc]
  have h0 : (layB 3 [kv n]).length = 43 := by rw [layB_length]; rfl
  have hr : (runsL [kv n]).length = 27 := kv_len [n]
  have e1 : layB 3 [kv n] ++ m = Hd.headL 1 3 ++ (runsL [kv n] ++ m) := by unfold layB; simp
  obtain ⟨k, hk⟩ : ∃ k, (layB 3 [kv n] ++ m).length + 1 = (k + 1) + [kv n].length := ⟨(layB 3 [kv n] ++ m).length - 1, by rw [List.length_append, h0]; simp; omega⟩
  rw [hk]
  have g := go_runs 3 m [kv n] (Hd.headL 1 3) 0 [] [] (k + 1) ⟨kv_may n h.1 h.2, by show (0 : Int) < (n : Int); omega, trivial⟩ (by rw [Hd.headL_length, hr]; decide)
  rw [← e1, Hd.headL_length, List.nil_append] at g
  rw [g]
  unfold go
  have hd : (layB 3 [kv n] ++ m).drop (16 + (runsL [kv n]).length) = m := List.drop_left' h0
  rw [hd, hg, if_pos (by rw [List.length_append, h0]; rw [hr]; omega), if_neg (by rw [hr]; decide), if_neg he]
  dsimp only
  rcases hb with ⟨rfl, hs⟩ | ⟨he0, rfl⟩
  · rw [if_pos rfl, if_pos (show r.seq ≤ lastOf 0 [kv n] from hs), hr]
    rfl
  · rw [if_neg he0, if_pos rfl, hr]
    rfl
theorem kq_a : of 3 (layB 3 ([5, 5].map kv)) = ⟨3, [⟨16, 27, kv 5⟩], [], 43, 23⟩ := by
  have e : layB 3 ([5, 5].map kv) = layB 3 [kv 5] ++ (Rc.runL (kv 5) ++ []) := by
    show layB 3 ([kv 5] ++ [kv 5]) = _
    rw [layB_snoc, List.append_nil]
  rw [e]
  exact kv_then 5 (by decide) _ (by rw [List.append_nil, Rc.runL_length]; decide) (kv 5) 27 0 (Rc.get_run (kv_may 5 (by decide) (by decide)) []) (by decide) (.inl ⟨rfl, Int.le_refl _⟩)
theorem kq_b : of 3 (layB 3 (([] : List Nat).map kv)) = ⟨3, [], [], 16, 0⟩ := kv_of [] (by decide) (by decide) (by decide)
theorem kq_c : of 3 [] = ⟨3, [], [], 0, 22⟩ := of_short 3 (by decide)
theorem kq_d : of 0 (layB 3 (([] : List Nat).map kv)) = ⟨0, [], [], 0, 23⟩ := by
  have := of_other 3 0 hid3 (by decide) []
  exact this
theorem zeros_bad : Rc.getQ (List.replicate 21 0) = (Rc.none, 0, 23) := by
  unfold Rc.getQ
  rw [if_neg (by decide), if_pos (by decide +kernel)]
theorem kq_e : of 3 (layB 3 ([4].map kv) ++ List.replicate 21 0) = ⟨3, [⟨16, 27, kv 4⟩], [], 43, 23⟩ :=
  kv_then 4 (by decide) _ (by decide) Rc.none 0 23 zeros_bad (by decide) (.inr ⟨by decide, rfl⟩)
def kqW : S := ⟨3, [⟨16, 27, kv 2⟩, ⟨43, 27, kv 4⟩, ⟨70, 27, kv 9⟩], [], 97, 0⟩
theorem kq_w : of 3 (layB 3 ([2, 4, 9].map kv)) = kqW := kv_of [2, 4, 9] (by decide) (by decide) (by decide)
theorem kq_l : lostL kqW ⟨4, 97, 3, 2, 9⟩ = [(2, 9)] := by decide
theorem kq_m : lostL kqW ⟨3, 97, 3, 2, 8⟩ = [(2, 8)] := by decide
theorem kq_n : lostL kqW ⟨3, 98, 4, 2, 12⟩ = [(10, 12)] := by decide
theorem kq_o : lostL kqW ⟨3, 97, 3, 2, 9⟩ = [] := by decide
theorem kq_p : lostL ⟨3, [], [], 0, 22⟩ ⟨3, 97, 3, 2, 9⟩ = [(2, 9)] := by decide
theorem kq_q : lostL ⟨3, [], [], 0, 22⟩ ⟨3, 16, 0, 0, 0⟩ = [] := by decide
end Go.Proofs.YtfabodpefbdbjaaDoor.Sc

/- ScKnC -/

/-
  Layer 12: ScanKnown's closure, and a scan in a block of its own.
-/
set_option linter.unusedVariables false
set_option linter.unusedSimpArgs false
set_option maxRecDepth 100000
set_option maxHeartbeats 8000000
namespace Go.Proofs.YtfabodpefbdbjaaDoor.Sc
open Go.RowKit Go.Proofs.YtfabodpefbdbjaaDoor

/-- a scan in block g -/
def ScBox (w : World) (lo g : Nat) (s : S) (Af : Option Addr) (cf : Nat) (Ap : Option Addr) (cp : Nat) : Prop := w.heap[g]? = some (.cells #[.int .u32 (s.id : Int), .slice Af s.found.length cf, .slice Ap s.passed.length cp, .int .i64 (s.stop : Int), .int .i64 (s.why : Int)] 31 (0, 0)) ∧
  ScanV 52 w lo (.agg #[.int .u32 (s.id : Int), .slice Af s.found.length cf, .slice Ap s.passed.length cp, .int .i64 (s.stop : Int), .int .i64 (s.why : Int)]) s

theorem ScBox.on {w w' : World} {lo g : Nat} {s : S} {Af : Option Addr} {cf : Nat} {Ap : Option Addr} {cp : Nat} (h : ScBox w lo g s Af cf Ap cp) (hb : Below w.heap.size w w') : ScBox w' lo g s Af cf Ap cp :=
  ⟨(hb.block g (Array.getElem?_eq_some_iff.1 h.1).1).trans h.1, h.2.on hb⟩

/-- the box as the walk makes it -/
theorem ScanV.boxed {w : World} {lo : Nat} {v : Value} {s : S} (h : ScanV 52 w lo v s) : ∃ Af cf Ap cp, v = .agg #[.int .u32 (s.id : Int), .slice Af s.found.length cf, .slice Ap s.passed.length cp, .int .i64 (s.stop : Int), .int .i64 (s.why : Int)] ∧
    ∀ W, W = w.alloc (.cells #[.int .u32 (s.id : Int), .slice Af s.found.length cf, .slice Ap s.passed.length cp, .int .i64 (s.stop : Int), .int .i64 (s.why : Int)] 31) → ScBox W lo w.heap.size s Af cf Ap cp ∧ Below w.heap.size w W ∧ W.heap.size = w.heap.size + 1 := by
  have h0 := h
  obtain ⟨Af, cf, Ap, cp, q, rfl, _⟩ := h.lit s.id s.stop s.why s.found.length s.passed.length rfl rfl rfl rfl rfl
  refine ⟨Af, cf, Ap, cp, rfl, ?_⟩
  rintro W rfl
  have hb : Below w.heap.size w (w.alloc (.cells #[.int .u32 (s.id : Int), .slice Af s.found.length cf, .slice Ap s.passed.length cp, .int .i64 (s.stop : Int), .int .i64 (s.why : Int)] 31)) := (Below.refl _ _).alloc (Nat.le_refl _) _
  exact ⟨⟨heap_alloc_new w _, h0.on hb⟩, hb, by simp⟩

theorem one_any {w : World} {lo : Nat} {v : Value} {a b : Int} (h : LostV w lo v [(a, b)]) : Calls Tryd.prog 19 #[v, .int .u64 a, .int .u64 b] w fun e w' => e = .returned (.bool true) ∧ Below w.heap.size w w' := by
  obtain ⟨Al, nl, cl, rfl, hnl, hol⟩ := h
  have hnl : 1 = nl := hnl
  subst hnl
  obtain ⟨gl, rfl, _⟩ := own_at hol (by omega)
  have l0 := hol.cells (g := gl) rfl 0 (.int .u64 a) rfl
  have l1 := hol.cells (g := gl) rfl 1 (.int .u64 b) rfl
  rw [addr_add1] at l0 l1
  clear hol
  go_enter Tryd.func19, Tryd.ntmps19
  go_wp2_with fail
  go_ret
  exact ⟨rfl, Below.refl _ _⟩
end Go.Proofs.YtfabodpefbdbjaaDoor.Sc

