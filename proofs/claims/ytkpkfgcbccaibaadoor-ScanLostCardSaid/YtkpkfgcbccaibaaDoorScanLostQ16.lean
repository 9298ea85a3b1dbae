/-
  ScanLost, part 16 of what the law's proof leans on: ScKnows, ScLays, ScCut, ScKnC, ScTwo.
-/
import Derived.Deep.RegionHeld3
import Derived.OpenShut
import Derived.Test.YtkpkfgcbccaibaaDoorScanLostQ12
import Derived.Test.YtkpkfgcbccaibaaDoorScanLostQ14
import Derived.Test.YtkpkfgcbccaibaaDoorScanLostQ15
import Derived.Test.YtkpkfgcbccaibaaDoorScanLostQ1
import Derived.Deep.DeepCutAuto
import Derived.Test.YtkpkfgcbccaibaaDoorScanLostQ3
import Derived.Test.YtkpkfgcbccaibaaDoorScanLostQ4
import Derived.Test.YtkpkfgcbccaibaaDoorScanLostQ6
import Derived.Lib.AppendZerosOnto
import Derived.Deep.RegionLaw
/- ScKnows -/

/-
  Layer 12: what the laws know of the chapter's rows.
-/
set_option linter.unusedVariables false
set_option linter.unusedSimpArgs false
namespace Go.Proofs.YtkpkfgcbccaibaaDoor.Sc
open Go Go.RowKit

section
variable {w w' : World} {N : Nat → Prop} {lo : Nat} {v : Value}
theorem RowIn.chg {l : List UInt8} (h : RowIn w lo v l) (hc : Chg N w w') (hN : ∀ i, N i → i < lo) : RowIn w' lo v l := by
  rcases h with ⟨rfl, rfl⟩ | ⟨g, rfl, h1, h⟩
  · exact .inl ⟨rfl, rfl⟩
  · exact .inr ⟨g, rfl, h1, (hc.block g h.lt (fun hn => by have := hN g hn; omega)).trans h⟩
theorem own_chg {base size n : Nat} {e : TypeId} {xs : List Value} (h : w.ownsRow base e size v n xs) (hc : Chg N w w') (hN : ∀ i, N i → i < base) : w'.ownsRow base e size v n xs :=
  hc.own h fun g hv hn => by have := (h.lt g hv).1; have := hN g hn; omega
theorem ScanV.chg {T : TypeId} {s : S} (h : ScanV T w lo v s) (hc : Chg N w w') (hN : ∀ i, N i → i < lo) : ScanV T w' lo v s := by
  obtain ⟨vf, vp, q, h1, h2, h3, h4, h5⟩ := h
  exact ⟨vf, vp, q, h1, h2, own_chg h3 hc hN, fun x hx => ⟨RowIn.chg (h4 x hx).key hc hN, RowIn.chg (h4 x hx).val hc hN⟩, own_chg h5 hc hN⟩
/-- a scan's value, its numbers spelled out -/
theorem ScanV.lit {T : TypeId} {s : S} (h : ScanV T w lo v s) (i st wy : Int) (n np : Nat) (h1 : (s.id : Int) = i) (h2 : s.found.length = n) (h3 : s.passed.length = np) (h4 : (s.stop : Int) = st) (h5 : (s.why : Int) = wy) :
    ∃ Af cf Ap cp, ∃ q : List Fq, v = .agg #[.int .u32 i, .slice Af n cf, .slice Ap np cp, .int .i64 st, .int .i64 wy] ∧ q.map (·.1) = s.found ∧ n ≤ cf ∧ np ≤ cp ∧ w.ownsRow lo T 9 (.slice Af n cf) n (rowF s.id q) ∧ w.ownsRow lo 3 1 (.slice Ap np cp) np (s.passed.map fun n : Nat => Value.int .i64 (n : Int)) := by
  obtain ⟨Af, nf, cf, Ap, np', cp, q, e, hq, hn, hp, hf, e1, e2, e3, e4, o1, _, o2⟩ := h.open
  subst h1 h2 h3 h4 h5
  subst hf hp
  exact ⟨Af, cf, Ap, cp, q, e, hq, e1, e3, o1, o2⟩
theorem Rd.set1 {B g j : Nat} {xs : List Value} {x : Value} (h : Rd w B (some ⟨g, 0, none⟩) xs) (hj : j < xs.length) : Rd (w.setCell ⟨g, j, none⟩ x) B (some ⟨g, 0, none⟩) (xs.set j x) := fun hx => by
  obtain ⟨b, o, e, hb, hc⟩ := h (by intro e; rw [e] at hj; simp at hj)
  injection e with e
  injection e with e1 e2 _
  subst e1 e2
  refine ⟨g, 0, rfl, hb, fun k u hu => ?_⟩
  rw [Nat.zero_add]
  rw [List.getElem?_set] at hu
  by_cases hk : j = k
  · subst hk
    rw [if_pos rfl, if_pos hj] at hu
    injection hu with hu
    subst hu
    have := hc j _ (List.getElem?_eq_getElem hj)
    rw [Nat.zero_add] at this
    exact World.cell?_setCell_same' _ _ _ (by rw [this]; rfl)
  · rw [if_neg hk] at hu
    have := hc k u hu
    rw [Nat.zero_add] at this
    rw [← this]
    exact World.cell?_setCell_other _ _ _ _ (by intro e; injection e with _ e _; exact hk e)
end
set_option maxRecDepth 100000 in
set_option maxHeartbeats 16000000 in
theorem knows12 (w : World) (ht : RTab w) : Calls Tryd.prog 14 #[] w fun e w' => e = .returned (.bool true) ∧ Below w.heap.size w w' := by
  have HRZ := Lib.hid (show Rise ⟨3, [⟨16, 27, kv 1⟩, ⟨70, 27, kv 5⟩], [43], 97, 0⟩ by obtain ⟨c, hc⟩ : ∃ c, kn[69]? = some c := ⟨_, List.getElem?_eq_getElem (by rw [kn_len]; decide)⟩; have := of_rise 3 (kn.set 69 (c ^^^ 1)); rwa [kn_z c hc] at this)
  obtain ⟨g0, hg0⟩ : ∃ g, w.heap.size = g := ⟨_, rfl⟩
  obtain ⟨W1, hW1⟩ : ∃ V, w.alloc (.cells #[.int .u64 1, .int .u64 2, .int .u64 5] 24) = V := ⟨_, rfl⟩
  have hb1 : Below w.heap.size w W1 := by rw [← hW1]; exact (Below.refl _ _).alloc (Nat.le_refl _) _
  have k1 : W1.heap[g0]? = some (.cells #[.int .u64 1, .int .u64 2, .int .u64 5] 24 (0, 0)) := by rw [← hW1, ← hg0]; exact heap_alloc_new w _
  have hrd : Rd W1 (g0 + 1) (some ⟨g0, 0, none⟩) (([1, 2, 5] : List Nat).map fun n : Nat => Value.int .u64 (n : Int)) := fun _ => ⟨g0, 0, rfl, by omega, fun j u hu => by
    rw [cell_of_row W1 g0 (0 + j) _ _ _ k1]
    simpa using hu⟩
  have HL := Lib.hid (slaid [1, 2, 5] (c := 3) hrd (by have := (Array.getElem?_eq_some_iff.1 k1).1; omega) (by decide) (by decide))
  have HB1 := Lib.hid hb1
  have HT := Lib.hid ht
  have HG0 := Lib.hid hg0
  clear hb1 k1 hrd ht
  go_enter Tryd.func14, Tryd.ntmps14
  go_wp2_with fail
  refine HL.out.mono ?_
  rintro e w2 ⟨v, rfl, hown, hb2⟩
  have hown : w2.ownsRow W1.heap.size 5 1 v 97 (bvs kn) := hown
  obtain ⟨Ab, cb, rfl, hcb, _, _⟩ := own_slice hown
  obtain ⟨gb, rfl, hgb⟩ := own_at hown (by omega)
  have HO := Lib.hid hown
  have HB2 := Lib.hid (HB1.out.trans (hb2.mono HB1.out.size))
  have HOf := Lib.hid (sof (.slice (some ⟨gb, 0, none⟩) 97 cb) kn 3 w2 (by have := Bs.of_own (l := kn) hown; exact this) (by rw [kn_len]; decide) (by decide) (HT.out.on HB2.out))
  rw [kn_x] at HOf
  clear hown hb2
  go_wp2_with fail
  refine HOf.out.mono ?_
  rintro e w3 ⟨rv, rfl, hsx, hb3⟩
  obtain ⟨Afx, cfx, Apx, cpx, qx, rfl, hx1, hx2, hx3, hxo, hxp⟩ := hsx.lit 3 97 0 3 0 rfl rfl rfl rfl rfl
  obtain ⟨gfx, rfl, hgx⟩ := own_at hxo (by omega)
  obtain ⟨g2, hg2⟩ : ∃ g, w3.heap.size = g := ⟨_, rfl⟩
  have hg2ge : w2.heap.size ≤ g2 := by rw [← hg2]; exact hb3.size
  obtain ⟨W4, hW4⟩ : ∃ V, w3.alloc (.cells #[.int .u32 3, .slice (some ⟨gfx, 0, none⟩) 3 cfx, .slice Apx 0 cpx, .int .i64 97, .int .i64 0] 31) = V := ⟨_, rfl⟩
  have hb4 : Below w3.heap.size w3 W4 := by rw [← hW4]; exact (Below.refl _ _).alloc (Nat.le_refl _) _
  have k2 : W4.heap[g2]? = some (.cells #[.int .u32 3, .slice (some ⟨gfx, 0, none⟩) 3 cfx, .slice Apx 0 cpx, .int .i64 97, .int .i64 0] 31 (0, 0)) := by rw [← hW4, ← hg2]; exact heap_alloc_new w3 _
  have hb24 : Below w2.heap.size w2 W4 := hb3.trans (hb4.mono hb3.size)
  have hO4 := own_below HO.out hb24 (Nat.le_refl _)
  have HO4 := Lib.hid hO4
  have HX4 := Lib.hid (hsx.on hb4)
  have HXQ := Lib.hid (And.intro hx1 (own_below hxo hb4 (Nat.le_refl _)))
  have HK2 := Lib.hid k2
  have HB4 := Lib.hid (HB2.out.trans (hb24.mono HB2.out.size))
  have hgb2 : gb < w2.heap.size := (HO.out.lt gb rfl).2
  have HGB := Lib.hid (And.intro hgb2 (show w2.heap.size ≤ W4.heap.size from hb24.size))
  have HOf4 := Lib.hid (sof (.slice (some ⟨gb, 0, none⟩) 96 cb) (kn.take 96) 3 W4 ⟨_, cb, by rw [List.length_take, kn_len]; rfl, by rw [List.length_take, kn_len]; omega, by rw [bvs_take]; exact (Rd.of_own hO4).take 96⟩ (by rw [List.length_take, kn_len]; decide) (by decide) (HT.out.on HB4.out))
  rw [kn_y] at HOf4
  have HW4 := Lib.hid hW4
  clear hb4 k2 hb24 hO4 hsx hb3 hxo hxp hx1 hgb2 hW4
  go_wp2_with fail
  rw [HW4.out]
  refine HOf4.out.mono ?_
  rintro e w5 ⟨rv, rfl, hsy, hb5⟩
  obtain ⟨Afy, cfy, Apy, cpy, qy, rfl, hy1, hy2, hy3, hyo, hyp⟩ := hsy.lit 3 70 22 2 0 rfl rfl rfl rfl rfl
  obtain ⟨g3, hg3⟩ : ∃ g, w5.heap.size = g := ⟨_, rfl⟩
  obtain ⟨W6, hW6⟩ : ∃ V, w5.alloc (.cells #[.int .u32 3, .slice Afy 2 cfy, .slice Apy 0 cpy, .int .i64 70, .int .i64 22] 31) = V := ⟨_, rfl⟩
  have hb6 : Below w5.heap.size w5 W6 := by rw [← hW6]; exact (Below.refl _ _).alloc (Nat.le_refl _) _
  have k3 : W6.heap[g3]? = some (.cells #[.int .u32 3, .slice Afy 2 cfy, .slice Apy 0 cpy, .int .i64 70, .int .i64 22] 31 (0, 0)) := by rw [← hW6, ← hg3]; exact heap_alloc_new w5 _
  have hb46 : Below W4.heap.size W4 W6 := hb5.trans (hb6.mono hb5.size)
  have HO6 := Lib.hid (own_below HO4.out hb46 (Nat.le_refl _))
  have HX6 := Lib.hid (HX4.out.on hb46)
  have HXQ6 := Lib.hid (And.intro HXQ.out.1 (own_below HXQ.out.2 hb46 (Nat.le_refl _)))
  have HK6 := Lib.hid (And.intro ((hb46.block g2 (Array.getElem?_eq_some_iff.1 HK2.out).1).trans HK2.out) k3)
  have HB6 := Lib.hid (HB4.out.trans (hb46.mono HB4.out.size))
  obtain ⟨c, hc⟩ : ∃ c, kn[69]? = some c := ⟨_, List.getElem?_eq_getElem (by rw [kn_len]; decide)⟩
  have hcc : W6.cell? ⟨gb, 69, none⟩ = some (.int .u8 (c.toNat : Int)) := by
    have := HO6.out.cells (g := gb) rfl 69 (.int .u8 (c.toNat : Int)) (by simp [bvs, hc]; rfl)
    rwa [addr_add1] at this
  have hff : W6.frozen? ⟨gb, 69, none⟩ = false := HO6.out.frozenAt 69
  obtain ⟨d, hd⟩ : ∃ d : UInt8, c ^^^ 1 = d := ⟨_, rfl⟩
  have hxr : bits .xor .u8 (c.toNat : Int) 1 = (d.toNat : Int) := by
    rw [← hd, show (1 : Int) = (((1 : UInt8).toNat : Nat) : Int) by rfl, u8_xor_nat _ _ (UInt8.toNat_lt c) (UInt8.toNat_lt _), UInt8.toNat_xor]
  have hz := kn_z c hc
  rw [hd] at hz
  have hbl : (kn.set 69 d).length = 97 := by rw [List.length_set, kn_len]
  obtain ⟨W7, hW7⟩ : ∃ V, W6.setCell ⟨gb, 69, none⟩ (.int .u8 (d.toNat : Int)) = V := ⟨_, rfl⟩
  have hc7 : Chg (fun i => i = gb) W6 W7 := by rw [← hW7]; exact chg1 W6 gb 69 _
  have hrd7 : Rd W7 W6.heap.size (some ⟨gb, 0, none⟩) (bvs (kn.set 69 d)) := by
    have := Rd.set1 (j := 69) (x := .int .u8 (d.toNat : Int)) (Rd.of_own HO6.out) (by rw [bvs_length, kn_len]; decide)
    rw [hW7] at this
    have e : (bvs kn).set 69 (.int .u8 (d.toNat : Int)) = bvs (kn.set 69 d) := by
      unfold bvs
      rw [List.map_set]
      rfl
    rwa [e] at this
  have hsz7 : W6.heap.size = W7.heap.size := by rw [← hW7]; simp
  have hgbB : W1.heap.size ≤ gb := hgb
  have HB7 := Lib.hid (HB6.out.trans (hc7.below HB6.out.size (fun i e => by have := HB1.out.size; omega)))
  have HX7 := Lib.hid (HX6.out.chg hc7 (fun i e => by have := HGB.out.1; omega))
  have HXQ7 := Lib.hid (And.intro HXQ6.out.1 (own_chg HXQ6.out.2 hc7 (fun i e => by have := HGB.out.1; omega)))
  have hg2lt : W4.heap.size ≤ W6.heap.size := by have h1 := hb5.size; have h2 := hb6.size; omega
  have k2lt := (Array.getElem?_eq_some_iff.1 HK2.out).1
  have hg3ge : w2.heap.size ≤ g3 := by rw [← hg3]; have h1 := HGB.out.2; have h2 := hb5.size; omega
  have HK7 := Lib.hid (And.intro ((hc7.block g2 (Array.getElem?_eq_some_iff.1 HK6.out.1).1 (fun e => by have := HGB.out.1; omega)).trans HK6.out.1) ((hc7.block g3 (Array.getElem?_eq_some_iff.1 HK6.out.2).1 (fun e => by have := HGB.out.1; omega)).trans HK6.out.2))
  have HOf7 := Lib.hid (sof (.slice (some ⟨gb, 0, none⟩) 97 cb) (kn.set 69 d) 3 W7 ⟨_, cb, by rw [hbl], by rw [hbl]; exact hcb, by rw [← hsz7]; exact hrd7⟩ (by rw [hbl]; decide) (by decide) (HT.out.on HB7.out))
  rw [hz] at HOf7
  clear hb6 k3 hb46 hsy hb5 hyo hyp hy1 HO6 HX6 HXQ6 HK6 HB6 hc hz hbl hc7 hrd7 hg2lt k2lt hd
  go_wp2_with fail
  refine HOf7.out.mono ?_
  rintro e w8 ⟨rv, rfl, hsz, hb8⟩
  obtain ⟨Afz, cfz, Apz, cpz, qz, rfl, hz1, hz2, hz3, hzo, hzp⟩ := hsz.lit 3 97 0 2 1 rfl rfl rfl rfl rfl
  obtain ⟨gfz, rfl, _⟩ := own_at hzo (by omega)
  obtain ⟨gpz, rfl, _⟩ := own_at hzp (by omega)
  obtain ⟨g4, hg4⟩ : ∃ g, w8.heap.size = g := ⟨_, rfl⟩
  obtain ⟨W9, hW9⟩ : ∃ V, w8.alloc (.cells #[.int .u32 3, .slice (some ⟨gfz, 0, none⟩) 2 cfz, .slice (some ⟨gpz, 0, none⟩) 1 cpz, .int .i64 97, .int .i64 0] 31) = V := ⟨_, rfl⟩
  have hb9 : Below w8.heap.size w8 W9 := by rw [← hW9]; exact (Below.refl _ _).alloc (Nat.le_refl _) _
  have k4 : W9.heap[g4]? = some (.cells #[.int .u32 3, .slice (some ⟨gfz, 0, none⟩) 2 cfz, .slice (some ⟨gpz, 0, none⟩) 1 cpz, .int .i64 97, .int .i64 0] 31 (0, 0)) := by rw [← hW9, ← hg4]; exact heap_alloc_new w8 _
  have hb79 : Below W7.heap.size W7 W9 := hb8.trans (hb9.mono hb8.size)
  have HX9 := Lib.hid (HX7.out.on hb79)
  have HZ9 := Lib.hid (hsz.on hb9)
  have HK9 := Lib.hid (show W9.heap[g2]? = some (.cells #[.int .u32 3, .slice (some ⟨gfx, 0, none⟩) 3 cfx, .slice Apx 0 cpx, .int .i64 97, .int .i64 0] 31 (0, 0)) ∧ W9.heap[g3]? = some (.cells #[.int .u32 3, .slice Afy 2 cfy, .slice Apy 0 cpy, .int .i64 70, .int .i64 22] 31 (0, 0)) ∧ W9.heap[g4]? = some (.cells #[.int .u32 3, .slice (some ⟨gfz, 0, none⟩) 2 cfz, .slice (some ⟨gpz, 0, none⟩) 1 cpz, .int .i64 97, .int .i64 0] 31 (0, 0)) from ⟨(hb79.block g2 (Array.getElem?_eq_some_iff.1 HK7.out.1).1).trans HK7.out.1, (hb79.block g3 (Array.getElem?_eq_some_iff.1 HK7.out.2).1).trans HK7.out.2, k4⟩)
  have HB9 := Lib.hid (HB7.out.trans (hb79.mono HB7.out.size))
  have HXQ9 := Lib.hid (And.intro HXQ7.out.1 (own_below HXQ7.out.2 hb79 (Nat.le_refl _)))
  have HZQ9 := Lib.hid (own_below hzp hb9 (Nat.le_refl _))
  have HW9 := Lib.hid hW9
  clear hb9 k4 hb79 hsz hb8 hzo hzp hz1 hW9 HX7 HXQ7 HK7 HB7 HK2 HX4 HXQ HO4 HB4 hW7 hxr
  go_wp2_with fail
  rw [HW9.out]
  refine wp_region_noPanic ?_
  refine wp_region_held_drew (S := fun w' => w'.cell? ⟨g2, 0, none⟩ = some (.int .u32 3) ∧ w'.cell? ⟨g2, 1, none⟩ = some (.slice (some ⟨gfx, 0, none⟩) 3 cfx) ∧ w'.cell? ⟨g2, 2, none⟩ = some (.slice Apx 0 cpx) ∧ w'.cell? ⟨g2, 3, none⟩ = some (.int .i64 97) ∧ w'.cell? ⟨g2, 4, none⟩ = some (.int .i64 0) ∧ w'.cell? ⟨g4, 0, none⟩ = some (.int .u32 3) ∧ w'.cell? ⟨g4, 1, none⟩ = some (.slice (some ⟨gfz, 0, none⟩) 2 cfz) ∧ w'.cell? ⟨g4, 2, none⟩ = some (.slice (some ⟨gpz, 0, none⟩) 1 cpz) ∧ w'.cell? ⟨g4, 3, none⟩ = some (.int .i64 97) ∧ w'.cell? ⟨g4, 4, none⟩ = some (.int .i64 0)) (by kernel_rfl) (show _ from s55 (rw5 HK9.out.1) (rw5 HK9.out.2.2)) (fun hHeld => ?_)
  have hdr : Below W9.heap.size W9 W9.drew := (Below.refl W9.heap.size W9).drew
  have HXV := Lib.hid (HX9.out.on hdr)
  have HZV := Lib.hid (HZ9.out.on hdr)
  have HBV := Lib.hid (HB9.out.trans (hdr.mono HB9.out.size))
  have HBW := Lib.hid hdr
  generalize World.drew W9 = V at *
  clear hdr
  refine wpAnyH_take (i := 0) (v := ?_) opAt_0 (by kernel_rfl) (by kernel_rfl) (by kernel_rfl) (fun _ _ _ h => h) (Or.inl ⟨by rfl, ?_⟩) (by assumption) ?_
  rotate_left
  · (intro w hSw; obtain ⟨y0, y1, y2, y3, y4, x0, x1, x2, x3, x4⟩ := hSw; go_simp; try with_reducible rfl)
  try simp only [Act.put, List.setIfInBounds_toArray, List.set_cons_zero, List.set_cons_succ]
  refine wpAnyH_take (i := 1) (v := ?_) opAt_1 (by kernel_rfl) (by kernel_rfl) (by kernel_rfl) (fun _ _ _ h => h) (Or.inl ⟨by rfl, ?_⟩) (by assumption) ?_
  rotate_left
  · (intro w hSw; obtain ⟨y0, y1, y2, y3, y4, x0, x1, x2, x3, x4⟩ := hSw; go_simp; try with_reducible rfl)
  try simp only [Act.put, List.setIfInBounds_toArray, List.set_cons_zero, List.set_cons_succ]
  refine wpAnyH_ready (rs := [2]) (by kernel_rfl) (by simp) ?_
  refine AllReadyH.cons rfl (fun K hK => ?_) AllReadyH.nil
  go_simp
  refine (sseal12 HXV.out (by decide) (by decide) (by decide) (by intro f hf; simp at hf; rcases hf with rfl | rfl | rfl <;> decide)).mono ?_
  rintro e V1 ⟨rfl, hbn⟩
  have HBW1 := Lib.hid (HBW.out.trans (hbn.mono HBW.out.size))
  have HZ1 := Lib.hid (HZV.out.on hbn)
  go_wp2_with fail
  refine hK.out _ _ (show _ from s55 (rw5 ((HBW1.out.block g2 (Array.getElem?_eq_some_iff.1 HK9.out.1).1).trans HK9.out.1)) (rw5 ((HBW1.out.block g4 (Array.getElem?_eq_some_iff.1 HK9.out.2.2).1).trans HK9.out.2.2))) (fun hHeld => ?_)
  clear hK K hbn
  try simp only [Act.put, List.setIfInBounds_toArray, List.set_cons_zero, List.set_cons_succ]
  refine wpAnyH_ready (rs := [3]) (by kernel_rfl) (by simp) ?_
  refine AllReadyH.cons rfl (fun K hK => ?_) AllReadyH.nil
  go_simp
  refine (slost (x := seal_ ⟨3, [⟨16, 27, kv 1⟩, ⟨43, 27, kv 2⟩, ⟨70, 27, kv 5⟩], [], 97, 0⟩) HZ1.out HRZ.out (by decide) (by decide) (by decide) ⟨by decide, by decide, by decide, by decide, by decide⟩).mono ?_
  rintro e V2 ⟨rv, rfl, hlv, hbn⟩
  rw [kn_lost] at hlv
  have HBW2 := Lib.hid (HBW1.out.trans (hbn.mono HBW1.out.size))
  obtain ⟨Al, nl, cl, rfl, hnl, hol⟩ := hlv
  have hnl : 1 = nl := hnl
  subst hnl
  obtain ⟨gl, rfl, _⟩ := own_at hol (by omega)
  have l0 := hol.cells (g := gl) rfl 0 (.int .u64 2) rfl
  have l1 := hol.cells (g := gl) rfl 1 (.int .u64 4) rfl
  rw [addr_add1] at l0 l1
  go_wp2_with fail
  refine hK.out _ _ (show _ from s55 (rw5 ((HBW2.out.block g2 (Array.getElem?_eq_some_iff.1 HK9.out.1).1).trans HK9.out.1)) (rw5 ((HBW2.out.block g4 (Array.getElem?_eq_some_iff.1 HK9.out.2.2).1).trans HK9.out.2.2))) (fun hHeld => ?_)
  clear hK K hbn hol
  try simp only [Act.put, List.setIfInBounds_toArray, List.set_cons_zero, List.set_cons_succ]
  refine wpAnyH_take (i := 4) (v := ?_) opAt_4 (by kernel_rfl) (by kernel_rfl) (by kernel_rfl) (fun _ _ _ h => h) (Or.inl ⟨by rfl, ?_⟩) (by assumption) ?_
  rotate_left
  · (intro w hSw; obtain ⟨y0, y1, y2, y3, y4, x0, x1, x2, x3, x4⟩ := hSw; go_simp; try with_reducible rfl)
  try simp only [Act.put, List.setIfInBounds_toArray, List.set_cons_zero, List.set_cons_succ]
  refine wpAnyH_done (by kernel_rfl) ?_ _
  refine NoPanic.normal ?_
  obtain ⟨x0, x1, x2, x3, x4, z0, z1, z2, z3, z4⟩ := hHeld
  obtain ⟨y0, y1, y2, y3, y4⟩ := rw5 ((HBW2.out.block g3 (Array.getElem?_eq_some_iff.1 HK9.out.2.1).1).trans HK9.out.2.1)
  have hq2 : ∃ a b, qx[2]? = some (⟨70, 27, kv 5⟩, a, b) := by
    have h1 := congrArg (·[2]?) HXQ9.out.1
    simp only [List.getElem?_map] at h1
    rcases hh : qx[2]? with _ | ⟨f, a, b⟩
    · rw [hh] at h1; cases h1
    · rw [hh] at h1; injection h1 with h1; simp only at h1; exact ⟨a, b, by rw [h1]⟩
  obtain ⟨qa, qb, hq2⟩ := hq2
  have hOx := own_below HXQ9.out.2 HBW2.out (Nat.le_refl _)
  have f0 : V2.cell? ⟨gfx, 18, none⟩ = some (.int .u32 3) := found_cell hOx hq2 0 (by omega)
  have f1 : V2.cell? ⟨gfx, 19, none⟩ = some (.int .u32 70) := found_cell hOx hq2 1 (by omega)
  have p0 := (own_below HZQ9.out HBW2.out (Nat.le_refl _)).cells (g := gpz) rfl 0 (.int .i64 43) rfl
  rw [addr_add1] at p0
  have HBF := Lib.hid (HB9.out.trans (HBW2.out.mono HB9.out.size))
  clear hOx hq2
  go_wp2_with fail
  go_ret
  exact ⟨rfl, HBF.out⟩
end Go.Proofs.YtkpkfgcbccaibaaDoor.Sc

/- ScLays -/

/-
  Layer 12: the laws' own bytes: a head of id 7, and runs of plain records, with where they stand.
-/
set_option linter.unusedVariables false
set_option linter.unusedSimpArgs false
namespace Go.Proofs.YtkpkfgcbccaibaaDoor.Sc
open Go Go.RowKit

/-- the record of a plain one -/
def mkP (i seq : Nat) (a : Pl) : Rc.Rec := ⟨(seq : Int), 1, UInt8.ofNat i :: List.replicate (a.key % 64) 0, List.replicate (a.val % 201) 0, 0, 0⟩
/-- the last number -/
def seqN : Nat → List Pl → Nat
  | s, [] => s
  | s, a :: l => seqN (s + (1 + a.above)) l
def recsP : Nat → Nat → List Pl → List Rc.Rec
  | _, _, [] => []
  | i, s, a :: l => mkP i (s + (1 + a.above)) a :: recsP (i + 1) (s + (1 + a.above)) l
theorem seqN_snoc : ∀ (l : List Pl) (s : Nat) (a : Pl), seqN s (l ++ [a]) = seqN s l + (1 + a.above)
  | [], s, a => rfl
  | b :: l, s, a => seqN_snoc l _ a
theorem recsP_snoc : ∀ (l : List Pl) (i s : Nat) (a : Pl), recsP i s (l ++ [a]) = recsP i s l ++ [mkP (i + l.length) (seqN s l + (1 + a.above)) a]
  | [], i, s, a => rfl
  | b :: l, i, s, a => by
    simp only [List.cons_append, recsP, recsP_snoc l, seqN, List.length_cons]
    congr 4
    omega
theorem recsP_len : ∀ (l : List Pl) (i s : Nat), (recsP i s l).length = l.length
  | [], _, _ => rfl
  | a :: l, i, s => by simp [recsP, recsP_len l]
theorem seqN_le : ∀ (l : List Pl) (s : Nat), (∀ a ∈ l, a.above < 256) → s ≤ seqN s l ∧ seqN s l ≤ s + 256 * l.length
  | [], s, _ => ⟨Nat.le_refl _, by simp [seqN]⟩
  | a :: l, s, h => by
    have h1 := h a (by simp)
    have h2 := seqN_le l (s + (1 + a.above)) fun b hb => h b (by simp [hb])
    simp only [seqN, List.length_cons]
    omega
theorem mkP_may (i seq : Nat) (a : Pl) (h1 : 1 ≤ seq) (h2 : seq ≤ 1099511627776) : Rc.mayB (mkP i seq a) = true := by
  have e1 : (1 : Int) ≤ (seq : Int) := by omega
  have e2 : (seq : Int) ≤ 1099511627776 := by omega
  have e3 : a.key % 64 + 1 ≤ 64 := by omega
  have e4 : a.val % 201 ≤ 1024 := by omega
  simp [Rc.mayB, Rc.kindB, Lx.mayB, Lx.noneB, Lx.standsB, mkP, e1, e2, e4]
  omega
theorem mkP_size (i seq : Nat) (a : Pl) : Rc.sizeN (mkP i seq a) = 26 + a.key % 64 + a.val % 201 := by
  unfold Rc.sizeN mkP
  simp
  omega
theorem recsP_up : ∀ (l : List Pl) (i s : Nat) (b : Int), (∀ a ∈ l, a.above < 256) → b ≤ s → s + 256 * l.length ≤ 1099511627776 → Up b (recsP i s l)
  | [], _, _, _, _, _, _ => trivial
  | a :: l, i, s, b, h, hb, hs => by
    have h1 := h a (by simp)
    simp only [List.length_cons] at hs
    refine ⟨mkP_may _ _ a (by omega) (by omega), ?_, recsP_up l _ _ _ (fun c hc => h c (by simp [hc])) (Int.le_refl _) (by omega)⟩
    show b < ((s + (1 + a.above) : Nat) : Int)
    omega
theorem runsP_len : ∀ (l : List Pl) (i s : Nat), (runsL (recsP i s l)).length ≤ 290 * l.length
  | [], _, _ => Nat.le_refl _
  | a :: l, i, s => by
    have := runsP_len l (i + 1) (s + (1 + a.above))
    simp only [recsP, runsL, List.length_append, Rc.runL_length, mkP_size, List.length_cons]
    omega
/-- where runs stand, as cells -/
def rowL12 (l : List Fd) : List Value := l.flatMap fun f => [.int .i64 (f.off : Int), .int .i64 ((f.off + f.size : Nat) : Int), .int .u64 f.r.seq]
theorem rowL12_snoc (l : List Fd) (f : Fd) : rowL12 (l ++ [f]) = rowL12 l ++ [.int .i64 (f.off : Int), .int .i64 ((f.off + f.size : Nat) : Int), .int .u64 f.r.seq] := by simp [rowL12]
theorem places_snoc : ∀ (l : List Rc.Rec) (p : Nat) (r : Rc.Rec), places p (l ++ [r]) = places p l ++ [⟨p + (runsL l).length, Rc.sizeN r, r⟩]
  | [], p, r => by simp [places, runsL]
  | x :: l, p, r => by
    simp only [List.cons_append, places, places_snoc l, runsL, List.length_append, Rc.runL_length]
    congr 4
    omega
theorem placed_info : (Tryd.prog.info? 61).map (fun i => (i.zero, i.size, i.bytes)) = some (some (.agg #[.int .i64 0, .int .i64 0, .int .u64 0]), 3, 24) := by kernel_rfl
/-- three blocks made in whatever order -/
def Made3 (wr V : World) (rb kb vb : Nat) (sq : Int) (kk vl : Nat) : Prop :=
  Below wr.heap.size wr V ∧ kb ≠ vb ∧ kb ≠ rb ∧ vb ≠ rb ∧ wr.heap.size ≤ kb ∧ wr.heap.size ≤ vb ∧ wr.heap.size ≤ rb ∧ RowAt V kb (List.replicate kk 0) ∧ RowAt V vb (List.replicate vl 0) ∧
    V.heap[rb]? = some (.cells #[.int .u64 sq, .int .i64 1, .slice (some ⟨kb, 0, none⟩) kk kk, .slice (some ⟨vb, 0, none⟩) vl vl, .int .u32 0, .int .u32 0] 50 (0, 0))
theorem fblock_of_cell12 {w : World} {b o : Nat} {v : Value} (h : w.cell? ⟨b, o, none⟩ = some v) : b < w.heap.size := by
  unfold World.cell? at h
  by_cases hb : b < w.heap.size
  · exact hb
  · simp [Array.getElem?_eq_none (Nat.not_lt.1 hb)] at h
set_option maxRecDepth 100000 in
set_option maxHeartbeats 16000000 in
theorem slays {w : World} {v : Value} {l : List Pl} (hv : Pls w w.heap.size v l) :
    Calls Tryd.prog 15 #[v] w fun e w' => ∃ vb va, ∃ n : Nat, e = .returned (.tuple #[vb, va]) ∧ w'.ownsRow w.heap.size 5 1 vb n (bvs (layB 7 (recsP 0 0 (l.take 20)))) ∧ n = (layB 7 (recsP 0 0 (l.take 20))).length ∧
      w'.ownsRow w.heap.size 61 3 va (l.take 20).length (rowL12 (places 16 (recsP 0 0 (l.take 20)))) ∧ Below w.heap.size w w' := by
  obtain ⟨i0, hi0, hz0, hz1, hz2⟩ := info_parts byte_infoS
  obtain ⟨p0, hp0, hpz0, hpz1, hpz2⟩ := info_parts placed_info
  obtain ⟨A, c, rfl, hlc, hcm, hpl⟩ := hv
  obtain ⟨ln, hln⟩ : ∃ ln, ln = l.length := ⟨_, rfl⟩
  have HPL := Lib.hid hpl
  have HLN := Lib.hid hln
  rw [← hln] at hlc ⊢
  clear hpl hln
  go_enter Tryd.func15, Tryd.ntmps15
  go_wp2_with fail
  refine (Hd.rput_one 7 (by decide) (by decide) w).mono ?_
  rintro e w1 ⟨v1, rfl, hown1, hb1⟩
  obtain ⟨A1, c1, rfl, _, _, _⟩ := own_slice hown1
  have HO1 := Lib.hid hown1
  have HB1 := Lib.hid hb1
  clear hown1 hb1
  go_wp2_with fail
  have fin : ∀ i : Nat, i ≤ ln → i ≤ 20 → ¬ (i < ln ∧ i < 20) → l.take 20 = l.take i ∧ (l.take i).length = i := fun i h1 h2 h3 => by
    have := HLN.out
    exact ⟨by rw [List.take_eq_take_iff]; omega, by rw [List.length_take]; omega⟩
  go_loopw [4, 6, 7, 8] (fun b at_ sv ix wr => ∃ (i n sq : Nat) (A2 A3 : Option Addr) (c2 c3 : Nat), b = .slice A2 n c2 ∧ at_ = .slice A3 i c3 ∧ sv = .int .u64 (sq : Int) ∧ ix = .int .i64 (i : Int) ∧ i ≤ ln ∧ i ≤ 20 ∧ n ≤ 6000 ∧ sq ≤ 6000 ∧ Hid (n = (layB 7 (recsP 0 0 (l.take i))).length ∧ sq = seqN 0 (l.take i) ∧ wr.ownsRow w.heap.size 5 1 (.slice A2 n c2) n (bvs (layB 7 (recsP 0 0 (l.take i)))) ∧ wr.ownsRow w.heap.size 61 3 (.slice A3 i c3) i (rowL12 (places 16 (recsP 0 0 (l.take i)))) ∧ Below w.heap.size w wr)) (fun _ _ _ ix _ => 20 - (RowKit.intOf ix).toNat)
  case atStart => exact ⟨0, 16, 0, A1, none, c1, 0, rfl, rfl, rfl, rfl, Nat.zero_le _, by omega, by omega, by omega, Lib.hid ⟨by rw [layB_length]; rfl, rfl, by simpa [layB, runsL, recsP] using HO1.out, World.ownsRow_nil _ _ _ _, HB1.out⟩⟩
  case round =>
    obtain ⟨i, n, sq, A2, A3, c2, c3, rfl, rfl, rfl, rfl, hi, hi20, hn6, hsq6, hh⟩ := hrel
    rename World => wr
    by_cases him : i < ln
    · by_cases hi2 : i < 20
      · obtain ⟨a, ha⟩ : ∃ a, l[i]? = some a := ⟨_, List.getElem?_eq_getElem (by rw [← HLN.out]; exact him)⟩
        obtain ⟨bb, oo, rfl, hbB, q0, q1, q2, ba, bk, bv⟩ := HPL.out i a ha
        have hbW := hh.out.2.2.2.2
        have q0 : wr.cell? ⟨bb, oo + i * 3, none⟩ = some (.int .u8 (a.above : Int)) := (hbW.cell (p := ⟨bb, oo + i * 3, none⟩) hbB).trans q0
        have q1 : wr.cell? ⟨bb, oo + i * 3 + 1, none⟩ = some (.int .u8 (a.key : Int)) := (hbW.cell (p := ⟨bb, oo + i * 3 + 1, none⟩) hbB).trans q1
        have q2 : wr.cell? ⟨bb, oo + i * 3 + 2, none⟩ = some (.int .u16 (a.val : Int)) := (hbW.cell (p := ⟨bb, oo + i * 3 + 2, none⟩) hbB).trans q2
        obtain ⟨sq', hsq'⟩ : ∃ x, x = sq + (1 + a.above) := ⟨_, rfl⟩
        obtain ⟨kl, hkl⟩ : ∃ x, x = a.key % 64 := ⟨_, rfl⟩
        obtain ⟨kk, hkk⟩ : ∃ x, x = 1 + kl := ⟨_, rfl⟩
        obtain ⟨vl, hvl⟩ : ∃ x, x = a.val % 201 := ⟨_, rfl⟩
        have u1 : IntKind.u64.wrap (1 + (a.above : Int)) = 1 + (a.above : Int) := IntWalk.u64_in _ (by omega)
        have u2 : IntKind.u64.wrap ((sq : Int) + (1 + (a.above : Int))) = (sq' : Int) := by rw [IntWalk.u64_in _ (by omega)]; omega
        have u3 : (a.key : Int).tmod 64 = (kl : Int) := by rw [Int.tmod_eq_emod_of_nonneg (by omega)]; omega
        have u4 : (a.key : Int) % 64 = (kl : Int) := by omega
        have u5 : IntKind.u8.wrap (1 + (kl : Int)) = (kk : Int) := by rw [IntWalk.u8_in _ (by omega)]; omega
        have u6 : (a.val : Int).tmod 201 = (vl : Int) := by rw [Int.tmod_eq_emod_of_nonneg (by omega)]; omega
        have u7 : (a.val : Int) % 201 = (vl : Int) := by omega
        have m1 := run_make_b .u8 .u8 kk (by omega)
        have m2 := run_make_b .u16 .u16 vl (by omega)
        have hkk2 : kk ≤ 64 := by omega
        have hkk1 : 1 ≤ kk := by omega
        have hvl2 : vl ≤ 200 := by omega
        have hsq7 : sq' ≤ 7000 := by omega
        have HA := Lib.hid (And.intro ha (And.intro hsq' (And.intro hkl (And.intro hkk (And.intro hvl (And.intro ba (And.intro bk bv)))))))
        clear ha hsq' hkl hkk hvl hbB
        go_upto_region 8 with fail
        have hdi : decide ((i : Int) < 20) = true := decide_eq_true (by omega)
        simp only [hdi]
        go_cut [9] from 35 to 51 (fun s9 wx => ∃ rb kb vb : Nat, s9 = .pointer (some ⟨rb, 0, none⟩) ∧ Made3 wr wx rb kb vb (sq' : Int) kk vl)
        case first =>
          have hbl : bb < wr.heap.size := fblock_of_cell12 q0
          refine wp_region_noPanic ?_
          refine wp_region_held_drew (S := fun w' => w'.cell? ⟨bb, oo + i * 3, none⟩ = some (.int .u8 (a.above : Int)) ∧ w'.cell? ⟨bb, oo + i * 3 + 1, none⟩ = some (.int .u8 (a.key : Int)) ∧ w'.cell? ⟨bb, oo + i * 3 + 2, none⟩ = some (.int .u16 (a.val : Int))) (by kernel_rfl) (show _ from ⟨q0, q1, q2⟩) (fun hHeld => ?_)
          have hb0 : Below wr.heap.size wr wr.drew := (Below.refl _ _).drew
          have hszV : wr.heap.size = wr.drew.heap.size := rfl
          generalize World.drew wr = V0 at *
          refine wpAnyH_take (i := 0) (v := ?_) opAt_0 (by kernel_rfl) (by kernel_rfl) (by kernel_rfl) (fun _ _ _ h => h) (Or.inl ⟨by rfl, ?_⟩) (by assumption) ?_
          rotate_left
          · (intro w hSw; obtain ⟨q0, q1, q2⟩ := hSw; go_simp; try with_reducible rfl)
          try simp only [Act.put, List.setIfInBounds_toArray, List.set_cons_zero, List.set_cons_succ]
          refine wpAnyH_take (i := 1) (v := ?_) opAt_1 (by kernel_rfl) (by kernel_rfl) (by kernel_rfl) (fun _ _ _ h => h) (Or.inl ⟨by rfl, ?_⟩) (by assumption) ?_
          rotate_left
          · (intro w hSw; obtain ⟨q0, q1, q2⟩ := hSw; go_simp; try with_reducible rfl)
          try simp only [Act.put, List.setIfInBounds_toArray, List.set_cons_zero, List.set_cons_succ]
          refine wpAnyH_take (i := 2) (v := ?_) opAt_2 (by kernel_rfl) (by kernel_rfl) (by kernel_rfl) (fun _ _ _ h => h) (Or.inl ⟨by rfl, ?_⟩) (by assumption) ?_
          rotate_left
          · (intro w hSw; obtain ⟨q0, q1, q2⟩ := hSw; go_simp; try with_reducible rfl)
          try simp only [Act.put, List.setIfInBounds_toArray, List.set_cons_zero, List.set_cons_succ]
          refine wpAnyH_take (i := 3) (v := ?_) opAt_3 (by kernel_rfl) (by kernel_rfl) (by kernel_rfl) (fun _ _ _ h => h) (Or.inl ⟨by rfl, ?_⟩) (by assumption) ?_
          rotate_left
          · (intro w hSw; obtain ⟨q0, q1, q2⟩ := hSw; go_simp; try with_reducible rfl)
          try simp only [Act.put, List.setIfInBounds_toArray, List.set_cons_zero, List.set_cons_succ]
          refine wpAnyH_take (i := 4) (v := ?_) opAt_4 (by kernel_rfl) (by kernel_rfl) (by kernel_rfl) (fun _ _ _ h => h) (Or.inl ⟨by rfl, ?_⟩) (by assumption) ?_
          rotate_left
          · (intro w hSw; obtain ⟨q0, q1, q2⟩ := hSw; go_simp; try with_reducible rfl)
          try simp only [Act.put, List.setIfInBounds_toArray, List.set_cons_zero, List.set_cons_succ]
          refine wpAnyH_take (i := 5) (v := ?_) opAt_5 (by kernel_rfl) (by kernel_rfl) (by kernel_rfl) (fun _ _ _ h => h) (Or.inl ⟨by rfl, ?_⟩) (by assumption) ?_
          rotate_left
          · (intro w hSw; obtain ⟨q0, q1, q2⟩ := hSw; go_simp; try with_reducible rfl)
          try simp only [Act.put, List.setIfInBounds_toArray, List.set_cons_zero, List.set_cons_succ]
          refine wpAnyH_take (i := 6) (v := ?_) opAt_6 (by kernel_rfl) (by kernel_rfl) (by kernel_rfl) (fun _ _ _ h => h) (Or.inl ⟨by rfl, ?_⟩) (by assumption) ?_
          rotate_left
          · (intro w hSw; obtain ⟨q0, q1, q2⟩ := hSw; go_simp; try with_reducible rfl)
          try simp only [Act.put, List.setIfInBounds_toArray, List.set_cons_zero, List.set_cons_succ]
          refine wpAnyH_take (i := 7) (v := ?_) opAt_7 (by kernel_rfl) (by kernel_rfl) (by kernel_rfl) (fun _ _ _ h => h) (Or.inl ⟨by rfl, ?_⟩) (by assumption) ?_
          rotate_left
          · (intro w hSw; obtain ⟨q0, q1, q2⟩ := hSw; go_simp; try with_reducible rfl)
          try simp only [Act.put, List.setIfInBounds_toArray, List.set_cons_zero, List.set_cons_succ]
          refine wpAnyH_take (i := 9) (v := ?_) opAt_9 (by kernel_rfl) (by kernel_rfl) (by kernel_rfl) (fun _ _ _ h => h) (Or.inl ⟨by rfl, ?_⟩) (by assumption) ?_
          rotate_left
          · (intro w hSw; obtain ⟨q0, q1, q2⟩ := hSw; go_simp; try with_reducible rfl)
          try simp only [Act.put, List.setIfInBounds_toArray, List.set_cons_zero, List.set_cons_succ]
          refine wpAnyH_take (i := 10) (v := ?_) opAt_10 (by kernel_rfl) (by kernel_rfl) (by kernel_rfl) (fun _ _ _ h => h) (Or.inl ⟨by rfl, ?_⟩) (by assumption) ?_
          rotate_left
          · (intro w hSw; obtain ⟨q0, q1, q2⟩ := hSw; go_simp; try with_reducible rfl)
          try simp only [Act.put, List.setIfInBounds_toArray, List.set_cons_zero, List.set_cons_succ]
          refine wpAnyH_take (i := 11) (v := ?_) opAt_11 (by kernel_rfl) (by kernel_rfl) (by kernel_rfl) (fun _ _ _ h => h) (Or.inl ⟨by rfl, ?_⟩) (by assumption) ?_
          rotate_left
          · (intro w hSw; obtain ⟨q0, q1, q2⟩ := hSw; go_simp; try with_reducible rfl)
          try simp only [Act.put, List.setIfInBounds_toArray, List.set_cons_zero, List.set_cons_succ]
          refine wpAnyH_take (i := 12) (v := ?_) opAt_12 (by kernel_rfl) (by kernel_rfl) (by kernel_rfl) (fun _ _ _ h => h) (Or.inl ⟨by rfl, ?_⟩) (by assumption) ?_
          rotate_left
          · (intro w hSw; obtain ⟨q0, q1, q2⟩ := hSw; go_simp; try with_reducible rfl)
          try simp only [Act.put, List.setIfInBounds_toArray, List.set_cons_zero, List.set_cons_succ]
          refine wpAnyH_take (i := 13) (v := ?_) opAt_13 (by kernel_rfl) (by kernel_rfl) (by kernel_rfl) (fun _ _ _ h => h) (Or.inl ⟨by rfl, ?_⟩) (by assumption) ?_
          rotate_left
          · (intro w hSw; obtain ⟨q0, q1, q2⟩ := hSw; go_simp; try with_reducible rfl)
          try simp only [Act.put, List.setIfInBounds_toArray, List.set_cons_zero, List.set_cons_succ]
          refine wpAnyH_take (i := 14) (v := ?_) opAt_14 (by kernel_rfl) (by kernel_rfl) (by kernel_rfl) (fun _ _ _ h => h) (Or.inl ⟨by rfl, ?_⟩) (by assumption) ?_
          rotate_left
          · (intro w hSw; obtain ⟨q0, q1, q2⟩ := hSw; go_simp; try with_reducible rfl)
          try simp only [Act.put, List.setIfInBounds_toArray, List.set_cons_zero, List.set_cons_succ]
          refine wpAnyH_ready (rs := [8, 15, 17]) (by kernel_rfl) (by simp) ?_
          refine AllReadyH.cons rfl (fun K hK => ?_) (AllReadyH.cons rfl (fun K hK => ?_) (AllReadyH.cons rfl (fun K hK => ?_) AllReadyH.nil))
          · go_simp
            obtain ⟨kb, hkb⟩ : ∃ g, V0.heap.size = g := ⟨_, rfl⟩
            try rw [hkb]
            have n0 : (V0.alloc (.cells (zer kk) 5)).heap[V0.heap.size]? = some (.cells (zer kk) 5 (0, 0)) := heap_alloc_new V0 _
            rw [hkb] at n0
            have nb : Below V0.heap.size V0 (V0.alloc (.cells (zer kk) 5)) := (Below.refl _ _).alloc (Nat.le_refl _) _
            have ns : (V0.alloc (.cells (zer kk) 5)).heap.size = kb + 1 := by rw [World.size_alloc, hkb]
            generalize V0.alloc (.cells (zer kk) 5) = V1 at *
            have Hkb : Hid (V1.heap[kb]? = some (.cells (zer kk) 5 (0, 0))) := Lib.hid n0
            have hb1 : Below wr.heap.size wr V1 := hb0.trans (nb.mono hb0.size)
            have Ns1 := Lib.hid ns
            clear n0 nb ns
            refine hK.out _ _ (show _ from ⟨(hb1.cell (p := ⟨bb, oo + i * 3, none⟩) hbl).trans q0, (hb1.cell (p := ⟨bb, oo + i * 3 + 1, none⟩) hbl).trans q1, (hb1.cell (p := ⟨bb, oo + i * 3 + 2, none⟩) hbl).trans q2⟩) (fun hHeld => ?_)
            clear hK K
            try simp only [Act.put, List.setIfInBounds_toArray, List.set_cons_zero, List.set_cons_succ]
            refine wpAnyH_ready (rs := [15, 17]) (by kernel_rfl) (by simp) ?_
            refine AllReadyH.cons rfl (fun K hK => ?_) (AllReadyH.cons rfl (fun K hK => ?_) AllReadyH.nil)
            · go_simp
              obtain ⟨vb, hvb⟩ : ∃ g, V1.heap.size = g := ⟨_, rfl⟩
              try rw [hvb]
              have n0 : (V1.alloc (.cells (zer vl) 5)).heap[V1.heap.size]? = some (.cells (zer vl) 5 (0, 0)) := heap_alloc_new V1 _
              rw [hvb] at n0
              have nb : Below V1.heap.size V1 (V1.alloc (.cells (zer vl) 5)) := (Below.refl _ _).alloc (Nat.le_refl _) _
              have ns : (V1.alloc (.cells (zer vl) 5)).heap.size = vb + 1 := by rw [World.size_alloc, hvb]
              generalize V1.alloc (.cells (zer vl) 5) = V2 at *
              have Hvb : Hid (V2.heap[vb]? = some (.cells (zer vl) 5 (0, 0))) := Lib.hid n0
              have hb2 : Below wr.heap.size wr V2 := hb1.trans (nb.mono hb1.size)
              have Hkb := Lib.hid ((nb.block kb (by have := hvb; have e1 := Ns1.out; omega)).trans Hkb.out)
              have Ns2 := Lib.hid ns
              clear n0 nb ns
              refine hK.out _ _ (show _ from ⟨(hb2.cell (p := ⟨bb, oo + i * 3, none⟩) hbl).trans q0, (hb2.cell (p := ⟨bb, oo + i * 3 + 1, none⟩) hbl).trans q1, (hb2.cell (p := ⟨bb, oo + i * 3 + 2, none⟩) hbl).trans q2⟩) (fun hHeld => ?_)
              clear hK K
              try simp only [Act.put, List.setIfInBounds_toArray, List.set_cons_zero, List.set_cons_succ]
              refine wpAnyH_take (i := 16) (v := ?_) opAt_16 (by kernel_rfl) (by kernel_rfl) (by kernel_rfl) (fun _ _ _ h => h) (Or.inl ⟨by rfl, ?_⟩) (by assumption) ?_
              rotate_left
              · (intro w hSw; obtain ⟨q0, q1, q2⟩ := hSw; go_simp; try with_reducible rfl)
              try simp only [Act.put, List.setIfInBounds_toArray, List.set_cons_zero, List.set_cons_succ]
              refine wpAnyH_ready (rs := [17]) (by kernel_rfl) (by simp) ?_
              refine AllReadyH.cons rfl (fun K hK => ?_) AllReadyH.nil
              go_simp
              obtain ⟨rb, hrb⟩ : ∃ g, V2.heap.size = g := ⟨_, rfl⟩
              rw [hrb]
              have n0 : (V2.alloc (.cells #[.int .u64 0, .int .i64 0, .slice none 0 0, .slice none 0 0, .int .u32 0, .int .u32 0] 50)).heap[V2.heap.size]? = some (.cells #[.int .u64 0, .int .i64 0, .slice none 0 0, .slice none 0 0, .int .u32 0, .int .u32 0] 50 (0, 0)) := heap_alloc_new V2 _
              rw [hrb] at n0
              have nb : Below V2.heap.size V2 (V2.alloc (.cells #[.int .u64 0, .int .i64 0, .slice none 0 0, .slice none 0 0, .int .u32 0, .int .u32 0] 50)) := (Below.refl _ _).alloc (Nat.le_refl _) _
              have ns : (V2.alloc (.cells #[.int .u64 0, .int .i64 0, .slice none 0 0, .slice none 0 0, .int .u32 0, .int .u32 0] 50)).heap.size = rb + 1 := by rw [World.size_alloc, hrb]
              generalize V2.alloc (.cells #[.int .u64 0, .int .i64 0, .slice none 0 0, .slice none 0 0, .int .u32 0, .int .u32 0] 50) = V3 at *
              have Hrb : Hid (V3.heap[rb]? = some (.cells #[.int .u64 0, .int .i64 0, .slice none 0 0, .slice none 0 0, .int .u32 0, .int .u32 0] 50 (0, 0))) := Lib.hid n0
              have hb3 : Below wr.heap.size wr V3 := hb2.trans (nb.mono hb2.size)
              have Hkb := Lib.hid ((nb.block kb (by have := hrb; have e1 := Ns1.out; have e2 := Ns2.out; omega)).trans Hkb.out)
              have Hvb := Lib.hid ((nb.block vb (by have := hrb; have e1 := Ns1.out; have e2 := Ns2.out; omega)).trans Hvb.out)
              have Ns3 := Lib.hid ns
              clear n0 nb ns
              refine hK.out _ _ (show _ from ⟨(hb3.cell (p := ⟨bb, oo + i * 3, none⟩) hbl).trans q0, (hb3.cell (p := ⟨bb, oo + i * 3 + 1, none⟩) hbl).trans q1, (hb3.cell (p := ⟨bb, oo + i * 3 + 2, none⟩) hbl).trans q2⟩) (fun hHeld => ?_)
              clear hK K
              try simp only [Act.put, List.setIfInBounds_toArray, List.set_cons_zero, List.set_cons_succ]
              obtain ⟨z0, z1, z2, z3, z4, z5⟩ := box6h Hrb.out
              obtain ⟨f0, f1, f2, f3, f4, f5⟩ := box6hf Hrb.out
              refine wpAnyH_ready (rs := [18]) (by kernel_rfl) (by simp) ?_
              refine AllReadyH.cons rfl (fun K hK => ?_) AllReadyH.nil
              go_simp
              have e1 := Ns1.out
              have e2 := Ns2.out
              have e3 := Ns3.out
              have hz := set6_at Hrb.out (.int .u64 (sq' : Int)) (.int .i64 1) (.slice (some ⟨kb, 0, none⟩) kk kk) (.slice (some ⟨vb, 0, none⟩) vl vl) (.int .u32 0) (.int .u32 0)
              have hX : Made3 wr (set6 V3 rb (.int .u64 (sq' : Int)) (.int .i64 1) (.slice (some ⟨kb, 0, none⟩) kk kk) (.slice (some ⟨vb, 0, none⟩) vl vl) (.int .u32 0) (.int .u32 0)) rb kb vb (sq' : Int) kk vl := ⟨set6_below hb3 (by omega) _ _ _ _ _ _, by omega, by omega, by omega, by omega, by omega, by omega, (set6_other (by omega) _ _ _ _ _ _).trans Hkb.out, (set6_other (by omega) _ _ _ _ _ _).trans Hvb.out, hz⟩
              change K _ (set6 V3 rb _ _ _ _ _ _)
              have HX := Lib.hid hX
              have hcells := fun (j : Nat) => World.cell?_of_block (a := ⟨bb, j, none⟩) (set6_other (w := V3) (g := rb) (k := bb) (by omega) (.int .u64 (sq' : Int)) (.int .i64 1) (.slice (some ⟨kb, 0, none⟩) kk kk) (.slice (some ⟨vb, 0, none⟩) vl vl) (.int .u32 0) (.int .u32 0))
              refine hK.out _ _ (show _ from ⟨(hcells _).trans hHeld.1, (hcells _).trans hHeld.2.1, (hcells _).trans hHeld.2.2⟩) (fun hHeld => ?_)
              clear hK K e1 e2 e3
              try simp only [Act.put, List.setIfInBounds_toArray, List.set_cons_zero, List.set_cons_succ]
              refine wpAnyH_done (by kernel_rfl) ?_ _
              refine NoPanic.normal ?_
              go_wp2_with fail
              go_meet
              case rel => exact ⟨rb, kb, vb, rfl, HX.out⟩
            · go_simp
              obtain ⟨rb, hrb⟩ : ∃ g, V1.heap.size = g := ⟨_, rfl⟩
              rw [hrb]
              have n0 : (V1.alloc (.cells #[.int .u64 0, .int .i64 0, .slice none 0 0, .slice none 0 0, .int .u32 0, .int .u32 0] 50)).heap[V1.heap.size]? = some (.cells #[.int .u64 0, .int .i64 0, .slice none 0 0, .slice none 0 0, .int .u32 0, .int .u32 0] 50 (0, 0)) := heap_alloc_new V1 _
              rw [hrb] at n0
              have nb : Below V1.heap.size V1 (V1.alloc (.cells #[.int .u64 0, .int .i64 0, .slice none 0 0, .slice none 0 0, .int .u32 0, .int .u32 0] 50)) := (Below.refl _ _).alloc (Nat.le_refl _) _
              have ns : (V1.alloc (.cells #[.int .u64 0, .int .i64 0, .slice none 0 0, .slice none 0 0, .int .u32 0, .int .u32 0] 50)).heap.size = rb + 1 := by rw [World.size_alloc, hrb]
              generalize V1.alloc (.cells #[.int .u64 0, .int .i64 0, .slice none 0 0, .slice none 0 0, .int .u32 0, .int .u32 0] 50) = V2 at *
              have Hrb : Hid (V2.heap[rb]? = some (.cells #[.int .u64 0, .int .i64 0, .slice none 0 0, .slice none 0 0, .int .u32 0, .int .u32 0] 50 (0, 0))) := Lib.hid n0
              have hb2 : Below wr.heap.size wr V2 := hb1.trans (nb.mono hb1.size)
              have Hkb := Lib.hid ((nb.block kb (by have := hrb; have e1 := Ns1.out; omega)).trans Hkb.out)
              have Ns2 := Lib.hid ns
              clear n0 nb ns
              refine hK.out _ _ (show _ from ⟨(hb2.cell (p := ⟨bb, oo + i * 3, none⟩) hbl).trans q0, (hb2.cell (p := ⟨bb, oo + i * 3 + 1, none⟩) hbl).trans q1, (hb2.cell (p := ⟨bb, oo + i * 3 + 2, none⟩) hbl).trans q2⟩) (fun hHeld => ?_)
              clear hK K
              try simp only [Act.put, List.setIfInBounds_toArray, List.set_cons_zero, List.set_cons_succ]
              refine wpAnyH_ready (rs := [15]) (by kernel_rfl) (by simp) ?_
              refine AllReadyH.cons rfl (fun K hK => ?_) AllReadyH.nil
              go_simp
              obtain ⟨vb, hvb⟩ : ∃ g, V2.heap.size = g := ⟨_, rfl⟩
              try rw [hvb]
              have n0 : (V2.alloc (.cells (zer vl) 5)).heap[V2.heap.size]? = some (.cells (zer vl) 5 (0, 0)) := heap_alloc_new V2 _
              rw [hvb] at n0
              have nb : Below V2.heap.size V2 (V2.alloc (.cells (zer vl) 5)) := (Below.refl _ _).alloc (Nat.le_refl _) _
              have ns : (V2.alloc (.cells (zer vl) 5)).heap.size = vb + 1 := by rw [World.size_alloc, hvb]
              generalize V2.alloc (.cells (zer vl) 5) = V3 at *
              have Hvb : Hid (V3.heap[vb]? = some (.cells (zer vl) 5 (0, 0))) := Lib.hid n0
              have hb3 : Below wr.heap.size wr V3 := hb2.trans (nb.mono hb2.size)
              have Hkb := Lib.hid ((nb.block kb (by have := hvb; have e1 := Ns1.out; have e2 := Ns2.out; omega)).trans Hkb.out)
              have Hrb := Lib.hid ((nb.block rb (by have := hvb; have e1 := Ns1.out; have e2 := Ns2.out; omega)).trans Hrb.out)
              have Ns3 := Lib.hid ns
              clear n0 nb ns
              refine hK.out _ _ (show _ from ⟨(hb3.cell (p := ⟨bb, oo + i * 3, none⟩) hbl).trans q0, (hb3.cell (p := ⟨bb, oo + i * 3 + 1, none⟩) hbl).trans q1, (hb3.cell (p := ⟨bb, oo + i * 3 + 2, none⟩) hbl).trans q2⟩) (fun hHeld => ?_)
              clear hK K
              try simp only [Act.put, List.setIfInBounds_toArray, List.set_cons_zero, List.set_cons_succ]
              refine wpAnyH_take (i := 16) (v := ?_) opAt_16 (by kernel_rfl) (by kernel_rfl) (by kernel_rfl) (fun _ _ _ h => h) (Or.inl ⟨by rfl, ?_⟩) (by assumption) ?_
              rotate_left
              · (intro w hSw; obtain ⟨q0, q1, q2⟩ := hSw; go_simp; try with_reducible rfl)
              try simp only [Act.put, List.setIfInBounds_toArray, List.set_cons_zero, List.set_cons_succ]
              obtain ⟨z0, z1, z2, z3, z4, z5⟩ := box6h Hrb.out
              obtain ⟨f0, f1, f2, f3, f4, f5⟩ := box6hf Hrb.out
              refine wpAnyH_ready (rs := [18]) (by kernel_rfl) (by simp) ?_
              refine AllReadyH.cons rfl (fun K hK => ?_) AllReadyH.nil
              go_simp
              have e1 := Ns1.out
              have e2 := Ns2.out
              have e3 := Ns3.out
              have hz := set6_at Hrb.out (.int .u64 (sq' : Int)) (.int .i64 1) (.slice (some ⟨kb, 0, none⟩) kk kk) (.slice (some ⟨vb, 0, none⟩) vl vl) (.int .u32 0) (.int .u32 0)
              have hX : Made3 wr (set6 V3 rb (.int .u64 (sq' : Int)) (.int .i64 1) (.slice (some ⟨kb, 0, none⟩) kk kk) (.slice (some ⟨vb, 0, none⟩) vl vl) (.int .u32 0) (.int .u32 0)) rb kb vb (sq' : Int) kk vl := ⟨set6_below hb3 (by omega) _ _ _ _ _ _, by omega, by omega, by omega, by omega, by omega, by omega, (set6_other (by omega) _ _ _ _ _ _).trans Hkb.out, (set6_other (by omega) _ _ _ _ _ _).trans Hvb.out, hz⟩
              change K _ (set6 V3 rb _ _ _ _ _ _)
              have HX := Lib.hid hX
              have hcells := fun (j : Nat) => World.cell?_of_block (a := ⟨bb, j, none⟩) (set6_other (w := V3) (g := rb) (k := bb) (by omega) (.int .u64 (sq' : Int)) (.int .i64 1) (.slice (some ⟨kb, 0, none⟩) kk kk) (.slice (some ⟨vb, 0, none⟩) vl vl) (.int .u32 0) (.int .u32 0))
              refine hK.out _ _ (show _ from ⟨(hcells _).trans hHeld.1, (hcells _).trans hHeld.2.1, (hcells _).trans hHeld.2.2⟩) (fun hHeld => ?_)
              clear hK K e1 e2 e3
              try simp only [Act.put, List.setIfInBounds_toArray, List.set_cons_zero, List.set_cons_succ]
              refine wpAnyH_done (by kernel_rfl) ?_ _
              refine NoPanic.normal ?_
              go_wp2_with fail
              go_meet
              case rel => exact ⟨rb, kb, vb, rfl, HX.out⟩
          · go_simp
            obtain ⟨vb, hvb⟩ : ∃ g, V0.heap.size = g := ⟨_, rfl⟩
            try rw [hvb]
            have n0 : (V0.alloc (.cells (zer vl) 5)).heap[V0.heap.size]? = some (.cells (zer vl) 5 (0, 0)) := heap_alloc_new V0 _
            rw [hvb] at n0
            have nb : Below V0.heap.size V0 (V0.alloc (.cells (zer vl) 5)) := (Below.refl _ _).alloc (Nat.le_refl _) _
            have ns : (V0.alloc (.cells (zer vl) 5)).heap.size = vb + 1 := by rw [World.size_alloc, hvb]
            generalize V0.alloc (.cells (zer vl) 5) = V1 at *
            have Hvb : Hid (V1.heap[vb]? = some (.cells (zer vl) 5 (0, 0))) := Lib.hid n0
            have hb1 : Below wr.heap.size wr V1 := hb0.trans (nb.mono hb0.size)
            have Ns1 := Lib.hid ns
            clear n0 nb ns
            refine hK.out _ _ (show _ from ⟨(hb1.cell (p := ⟨bb, oo + i * 3, none⟩) hbl).trans q0, (hb1.cell (p := ⟨bb, oo + i * 3 + 1, none⟩) hbl).trans q1, (hb1.cell (p := ⟨bb, oo + i * 3 + 2, none⟩) hbl).trans q2⟩) (fun hHeld => ?_)
            clear hK K
            try simp only [Act.put, List.setIfInBounds_toArray, List.set_cons_zero, List.set_cons_succ]
            refine wpAnyH_ready (rs := [8, 17]) (by kernel_rfl) (by simp) ?_
            refine AllReadyH.cons rfl (fun K hK => ?_) (AllReadyH.cons rfl (fun K hK => ?_) AllReadyH.nil)
            · go_simp
              obtain ⟨kb, hkb⟩ : ∃ g, V1.heap.size = g := ⟨_, rfl⟩
              try rw [hkb]
              have n0 : (V1.alloc (.cells (zer kk) 5)).heap[V1.heap.size]? = some (.cells (zer kk) 5 (0, 0)) := heap_alloc_new V1 _
              rw [hkb] at n0
              have nb : Below V1.heap.size V1 (V1.alloc (.cells (zer kk) 5)) := (Below.refl _ _).alloc (Nat.le_refl _) _
              have ns : (V1.alloc (.cells (zer kk) 5)).heap.size = kb + 1 := by rw [World.size_alloc, hkb]
              generalize V1.alloc (.cells (zer kk) 5) = V2 at *
              have Hkb : Hid (V2.heap[kb]? = some (.cells (zer kk) 5 (0, 0))) := Lib.hid n0
              have hb2 : Below wr.heap.size wr V2 := hb1.trans (nb.mono hb1.size)
              have Hvb := Lib.hid ((nb.block vb (by have := hkb; have e1 := Ns1.out; omega)).trans Hvb.out)
              have Ns2 := Lib.hid ns
              clear n0 nb ns
              refine hK.out _ _ (show _ from ⟨(hb2.cell (p := ⟨bb, oo + i * 3, none⟩) hbl).trans q0, (hb2.cell (p := ⟨bb, oo + i * 3 + 1, none⟩) hbl).trans q1, (hb2.cell (p := ⟨bb, oo + i * 3 + 2, none⟩) hbl).trans q2⟩) (fun hHeld => ?_)
              clear hK K
              try simp only [Act.put, List.setIfInBounds_toArray, List.set_cons_zero, List.set_cons_succ]
              refine wpAnyH_take (i := 16) (v := ?_) opAt_16 (by kernel_rfl) (by kernel_rfl) (by kernel_rfl) (fun _ _ _ h => h) (Or.inl ⟨by rfl, ?_⟩) (by assumption) ?_
              rotate_left
              · (intro w hSw; obtain ⟨q0, q1, q2⟩ := hSw; go_simp; try with_reducible rfl)
              try simp only [Act.put, List.setIfInBounds_toArray, List.set_cons_zero, List.set_cons_succ]
              refine wpAnyH_ready (rs := [17]) (by kernel_rfl) (by simp) ?_
              refine AllReadyH.cons rfl (fun K hK => ?_) AllReadyH.nil
              go_simp
              obtain ⟨rb, hrb⟩ : ∃ g, V2.heap.size = g := ⟨_, rfl⟩
              rw [hrb]
              have n0 : (V2.alloc (.cells #[.int .u64 0, .int .i64 0, .slice none 0 0, .slice none 0 0, .int .u32 0, .int .u32 0] 50)).heap[V2.heap.size]? = some (.cells #[.int .u64 0, .int .i64 0, .slice none 0 0, .slice none 0 0, .int .u32 0, .int .u32 0] 50 (0, 0)) := heap_alloc_new V2 _
              rw [hrb] at n0
              have nb : Below V2.heap.size V2 (V2.alloc (.cells #[.int .u64 0, .int .i64 0, .slice none 0 0, .slice none 0 0, .int .u32 0, .int .u32 0] 50)) := (Below.refl _ _).alloc (Nat.le_refl _) _
              have ns : (V2.alloc (.cells #[.int .u64 0, .int .i64 0, .slice none 0 0, .slice none 0 0, .int .u32 0, .int .u32 0] 50)).heap.size = rb + 1 := by rw [World.size_alloc, hrb]
              generalize V2.alloc (.cells #[.int .u64 0, .int .i64 0, .slice none 0 0, .slice none 0 0, .int .u32 0, .int .u32 0] 50) = V3 at *
              have Hrb : Hid (V3.heap[rb]? = some (.cells #[.int .u64 0, .int .i64 0, .slice none 0 0, .slice none 0 0, .int .u32 0, .int .u32 0] 50 (0, 0))) := Lib.hid n0
              have hb3 : Below wr.heap.size wr V3 := hb2.trans (nb.mono hb2.size)
              have Hkb := Lib.hid ((nb.block kb (by have := hrb; have e1 := Ns1.out; have e2 := Ns2.out; omega)).trans Hkb.out)
              have Hvb := Lib.hid ((nb.block vb (by have := hrb; have e1 := Ns1.out; have e2 := Ns2.out; omega)).trans Hvb.out)
              have Ns3 := Lib.hid ns
              clear n0 nb ns
              refine hK.out _ _ (show _ from ⟨(hb3.cell (p := ⟨bb, oo + i * 3, none⟩) hbl).trans q0, (hb3.cell (p := ⟨bb, oo + i * 3 + 1, none⟩) hbl).trans q1, (hb3.cell (p := ⟨bb, oo + i * 3 + 2, none⟩) hbl).trans q2⟩) (fun hHeld => ?_)
              clear hK K
              try simp only [Act.put, List.setIfInBounds_toArray, List.set_cons_zero, List.set_cons_succ]
              obtain ⟨z0, z1, z2, z3, z4, z5⟩ := box6h Hrb.out
              obtain ⟨f0, f1, f2, f3, f4, f5⟩ := box6hf Hrb.out
              refine wpAnyH_ready (rs := [18]) (by kernel_rfl) (by simp) ?_
              refine AllReadyH.cons rfl (fun K hK => ?_) AllReadyH.nil
              go_simp
              have e1 := Ns1.out
              have e2 := Ns2.out
              have e3 := Ns3.out
              have hz := set6_at Hrb.out (.int .u64 (sq' : Int)) (.int .i64 1) (.slice (some ⟨kb, 0, none⟩) kk kk) (.slice (some ⟨vb, 0, none⟩) vl vl) (.int .u32 0) (.int .u32 0)
              have hX : Made3 wr (set6 V3 rb (.int .u64 (sq' : Int)) (.int .i64 1) (.slice (some ⟨kb, 0, none⟩) kk kk) (.slice (some ⟨vb, 0, none⟩) vl vl) (.int .u32 0) (.int .u32 0)) rb kb vb (sq' : Int) kk vl := ⟨set6_below hb3 (by omega) _ _ _ _ _ _, by omega, by omega, by omega, by omega, by omega, by omega, (set6_other (by omega) _ _ _ _ _ _).trans Hkb.out, (set6_other (by omega) _ _ _ _ _ _).trans Hvb.out, hz⟩
              change K _ (set6 V3 rb _ _ _ _ _ _)
              have HX := Lib.hid hX
              have hcells := fun (j : Nat) => World.cell?_of_block (a := ⟨bb, j, none⟩) (set6_other (w := V3) (g := rb) (k := bb) (by omega) (.int .u64 (sq' : Int)) (.int .i64 1) (.slice (some ⟨kb, 0, none⟩) kk kk) (.slice (some ⟨vb, 0, none⟩) vl vl) (.int .u32 0) (.int .u32 0))
              refine hK.out _ _ (show _ from ⟨(hcells _).trans hHeld.1, (hcells _).trans hHeld.2.1, (hcells _).trans hHeld.2.2⟩) (fun hHeld => ?_)
              clear hK K e1 e2 e3
              try simp only [Act.put, List.setIfInBounds_toArray, List.set_cons_zero, List.set_cons_succ]
              refine wpAnyH_done (by kernel_rfl) ?_ _
              refine NoPanic.normal ?_
              go_wp2_with fail
              go_meet
              case rel => exact ⟨rb, kb, vb, rfl, HX.out⟩
            · go_simp
              obtain ⟨rb, hrb⟩ : ∃ g, V1.heap.size = g := ⟨_, rfl⟩
              rw [hrb]
              have n0 : (V1.alloc (.cells #[.int .u64 0, .int .i64 0, .slice none 0 0, .slice none 0 0, .int .u32 0, .int .u32 0] 50)).heap[V1.heap.size]? = some (.cells #[.int .u64 0, .int .i64 0, .slice none 0 0, .slice none 0 0, .int .u32 0, .int .u32 0] 50 (0, 0)) := heap_alloc_new V1 _
              rw [hrb] at n0
              have nb : Below V1.heap.size V1 (V1.alloc (.cells #[.int .u64 0, .int .i64 0, .slice none 0 0, .slice none 0 0, .int .u32 0, .int .u32 0] 50)) := (Below.refl _ _).alloc (Nat.le_refl _) _
              have ns : (V1.alloc (.cells #[.int .u64 0, .int .i64 0, .slice none 0 0, .slice none 0 0, .int .u32 0, .int .u32 0] 50)).heap.size = rb + 1 := by rw [World.size_alloc, hrb]
              generalize V1.alloc (.cells #[.int .u64 0, .int .i64 0, .slice none 0 0, .slice none 0 0, .int .u32 0, .int .u32 0] 50) = V2 at *
              have Hrb : Hid (V2.heap[rb]? = some (.cells #[.int .u64 0, .int .i64 0, .slice none 0 0, .slice none 0 0, .int .u32 0, .int .u32 0] 50 (0, 0))) := Lib.hid n0
              have hb2 : Below wr.heap.size wr V2 := hb1.trans (nb.mono hb1.size)
              have Hvb := Lib.hid ((nb.block vb (by have := hrb; have e1 := Ns1.out; omega)).trans Hvb.out)
              have Ns2 := Lib.hid ns
              clear n0 nb ns
              refine hK.out _ _ (show _ from ⟨(hb2.cell (p := ⟨bb, oo + i * 3, none⟩) hbl).trans q0, (hb2.cell (p := ⟨bb, oo + i * 3 + 1, none⟩) hbl).trans q1, (hb2.cell (p := ⟨bb, oo + i * 3 + 2, none⟩) hbl).trans q2⟩) (fun hHeld => ?_)
              clear hK K
              try simp only [Act.put, List.setIfInBounds_toArray, List.set_cons_zero, List.set_cons_succ]
              refine wpAnyH_ready (rs := [8]) (by kernel_rfl) (by simp) ?_
              refine AllReadyH.cons rfl (fun K hK => ?_) AllReadyH.nil
              go_simp
              obtain ⟨kb, hkb⟩ : ∃ g, V2.heap.size = g := ⟨_, rfl⟩
              try rw [hkb]
              have n0 : (V2.alloc (.cells (zer kk) 5)).heap[V2.heap.size]? = some (.cells (zer kk) 5 (0, 0)) := heap_alloc_new V2 _
              rw [hkb] at n0
              have nb : Below V2.heap.size V2 (V2.alloc (.cells (zer kk) 5)) := (Below.refl _ _).alloc (Nat.le_refl _) _
              have ns : (V2.alloc (.cells (zer kk) 5)).heap.size = kb + 1 := by rw [World.size_alloc, hkb]
              generalize V2.alloc (.cells (zer kk) 5) = V3 at *
              have Hkb : Hid (V3.heap[kb]? = some (.cells (zer kk) 5 (0, 0))) := Lib.hid n0
              have hb3 : Below wr.heap.size wr V3 := hb2.trans (nb.mono hb2.size)
              have Hvb := Lib.hid ((nb.block vb (by have := hkb; have e1 := Ns1.out; have e2 := Ns2.out; omega)).trans Hvb.out)
              have Hrb := Lib.hid ((nb.block rb (by have := hkb; have e1 := Ns1.out; have e2 := Ns2.out; omega)).trans Hrb.out)
              have Ns3 := Lib.hid ns
              clear n0 nb ns
              refine hK.out _ _ (show _ from ⟨(hb3.cell (p := ⟨bb, oo + i * 3, none⟩) hbl).trans q0, (hb3.cell (p := ⟨bb, oo + i * 3 + 1, none⟩) hbl).trans q1, (hb3.cell (p := ⟨bb, oo + i * 3 + 2, none⟩) hbl).trans q2⟩) (fun hHeld => ?_)
              clear hK K
              try simp only [Act.put, List.setIfInBounds_toArray, List.set_cons_zero, List.set_cons_succ]
              refine wpAnyH_take (i := 16) (v := ?_) opAt_16 (by kernel_rfl) (by kernel_rfl) (by kernel_rfl) (fun _ _ _ h => h) (Or.inl ⟨by rfl, ?_⟩) (by assumption) ?_
              rotate_left
              · (intro w hSw; obtain ⟨q0, q1, q2⟩ := hSw; go_simp; try with_reducible rfl)
              try simp only [Act.put, List.setIfInBounds_toArray, List.set_cons_zero, List.set_cons_succ]
              obtain ⟨z0, z1, z2, z3, z4, z5⟩ := box6h Hrb.out
              obtain ⟨f0, f1, f2, f3, f4, f5⟩ := box6hf Hrb.out
              refine wpAnyH_ready (rs := [18]) (by kernel_rfl) (by simp) ?_
              refine AllReadyH.cons rfl (fun K hK => ?_) AllReadyH.nil
              go_simp
              have e1 := Ns1.out
              have e2 := Ns2.out
              have e3 := Ns3.out
              have hz := set6_at Hrb.out (.int .u64 (sq' : Int)) (.int .i64 1) (.slice (some ⟨kb, 0, none⟩) kk kk) (.slice (some ⟨vb, 0, none⟩) vl vl) (.int .u32 0) (.int .u32 0)
              have hX : Made3 wr (set6 V3 rb (.int .u64 (sq' : Int)) (.int .i64 1) (.slice (some ⟨kb, 0, none⟩) kk kk) (.slice (some ⟨vb, 0, none⟩) vl vl) (.int .u32 0) (.int .u32 0)) rb kb vb (sq' : Int) kk vl := ⟨set6_below hb3 (by omega) _ _ _ _ _ _, by omega, by omega, by omega, by omega, by omega, by omega, (set6_other (by omega) _ _ _ _ _ _).trans Hkb.out, (set6_other (by omega) _ _ _ _ _ _).trans Hvb.out, hz⟩
              change K _ (set6 V3 rb _ _ _ _ _ _)
              have HX := Lib.hid hX
              have hcells := fun (j : Nat) => World.cell?_of_block (a := ⟨bb, j, none⟩) (set6_other (w := V3) (g := rb) (k := bb) (by omega) (.int .u64 (sq' : Int)) (.int .i64 1) (.slice (some ⟨kb, 0, none⟩) kk kk) (.slice (some ⟨vb, 0, none⟩) vl vl) (.int .u32 0) (.int .u32 0))
              refine hK.out _ _ (show _ from ⟨(hcells _).trans hHeld.1, (hcells _).trans hHeld.2.1, (hcells _).trans hHeld.2.2⟩) (fun hHeld => ?_)
              clear hK K e1 e2 e3
              try simp only [Act.put, List.setIfInBounds_toArray, List.set_cons_zero, List.set_cons_succ]
              refine wpAnyH_done (by kernel_rfl) ?_ _
              refine NoPanic.normal ?_
              go_wp2_with fail
              go_meet
              case rel => exact ⟨rb, kb, vb, rfl, HX.out⟩
          · go_simp
            obtain ⟨rb, hrb⟩ : ∃ g, V0.heap.size = g := ⟨_, rfl⟩
            rw [hrb]
            have n0 : (V0.alloc (.cells #[.int .u64 0, .int .i64 0, .slice none 0 0, .slice none 0 0, .int .u32 0, .int .u32 0] 50)).heap[V0.heap.size]? = some (.cells #[.int .u64 0, .int .i64 0, .slice none 0 0, .slice none 0 0, .int .u32 0, .int .u32 0] 50 (0, 0)) := heap_alloc_new V0 _
            rw [hrb] at n0
            have nb : Below V0.heap.size V0 (V0.alloc (.cells #[.int .u64 0, .int .i64 0, .slice none 0 0, .slice none 0 0, .int .u32 0, .int .u32 0] 50)) := (Below.refl _ _).alloc (Nat.le_refl _) _
            have ns : (V0.alloc (.cells #[.int .u64 0, .int .i64 0, .slice none 0 0, .slice none 0 0, .int .u32 0, .int .u32 0] 50)).heap.size = rb + 1 := by rw [World.size_alloc, hrb]
            generalize V0.alloc (.cells #[.int .u64 0, .int .i64 0, .slice none 0 0, .slice none 0 0, .int .u32 0, .int .u32 0] 50) = V1 at *
            have Hrb : Hid (V1.heap[rb]? = some (.cells #[.int .u64 0, .int .i64 0, .slice none 0 0, .slice none 0 0, .int .u32 0, .int .u32 0] 50 (0, 0))) := Lib.hid n0
            have hb1 : Below wr.heap.size wr V1 := hb0.trans (nb.mono hb0.size)
            have Ns1 := Lib.hid ns
            clear n0 nb ns
            refine hK.out _ _ (show _ from ⟨(hb1.cell (p := ⟨bb, oo + i * 3, none⟩) hbl).trans q0, (hb1.cell (p := ⟨bb, oo + i * 3 + 1, none⟩) hbl).trans q1, (hb1.cell (p := ⟨bb, oo + i * 3 + 2, none⟩) hbl).trans q2⟩) (fun hHeld => ?_)
            clear hK K
            try simp only [Act.put, List.setIfInBounds_toArray, List.set_cons_zero, List.set_cons_succ]
            refine wpAnyH_ready (rs := [8, 15]) (by kernel_rfl) (by simp) ?_
            refine AllReadyH.cons rfl (fun K hK => ?_) (AllReadyH.cons rfl (fun K hK => ?_) AllReadyH.nil)
            · go_simp
              obtain ⟨kb, hkb⟩ : ∃ g, V1.heap.size = g := ⟨_, rfl⟩
              try rw [hkb]
              have n0 : (V1.alloc (.cells (zer kk) 5)).heap[V1.heap.size]? = some (.cells (zer kk) 5 (0, 0)) := heap_alloc_new V1 _
              rw [hkb] at n0
              have nb : Below V1.heap.size V1 (V1.alloc (.cells (zer kk) 5)) := (Below.refl _ _).alloc (Nat.le_refl _) _
              have ns : (V1.alloc (.cells (zer kk) 5)).heap.size = kb + 1 := by rw [World.size_alloc, hkb]
              generalize V1.alloc (.cells (zer kk) 5) = V2 at *
              have Hkb : Hid (V2.heap[kb]? = some (.cells (zer kk) 5 (0, 0))) := Lib.hid n0
              have hb2 : Below wr.heap.size wr V2 := hb1.trans (nb.mono hb1.size)
              have Hrb := Lib.hid ((nb.block rb (by have := hkb; have e1 := Ns1.out; omega)).trans Hrb.out)
              have Ns2 := Lib.hid ns
              clear n0 nb ns
              refine hK.out _ _ (show _ from ⟨(hb2.cell (p := ⟨bb, oo + i * 3, none⟩) hbl).trans q0, (hb2.cell (p := ⟨bb, oo + i * 3 + 1, none⟩) hbl).trans q1, (hb2.cell (p := ⟨bb, oo + i * 3 + 2, none⟩) hbl).trans q2⟩) (fun hHeld => ?_)
              clear hK K
              try simp only [Act.put, List.setIfInBounds_toArray, List.set_cons_zero, List.set_cons_succ]
              refine wpAnyH_ready (rs := [15]) (by kernel_rfl) (by simp) ?_
              refine AllReadyH.cons rfl (fun K hK => ?_) AllReadyH.nil
              go_simp
              obtain ⟨vb, hvb⟩ : ∃ g, V2.heap.size = g := ⟨_, rfl⟩
              try rw [hvb]
              have n0 : (V2.alloc (.cells (zer vl) 5)).heap[V2.heap.size]? = some (.cells (zer vl) 5 (0, 0)) := heap_alloc_new V2 _
              rw [hvb] at n0
              have nb : Below V2.heap.size V2 (V2.alloc (.cells (zer vl) 5)) := (Below.refl _ _).alloc (Nat.le_refl _) _
              have ns : (V2.alloc (.cells (zer vl) 5)).heap.size = vb + 1 := by rw [World.size_alloc, hvb]
              generalize V2.alloc (.cells (zer vl) 5) = V3 at *
              have Hvb : Hid (V3.heap[vb]? = some (.cells (zer vl) 5 (0, 0))) := Lib.hid n0
              have hb3 : Below wr.heap.size wr V3 := hb2.trans (nb.mono hb2.size)
              have Hkb := Lib.hid ((nb.block kb (by have := hvb; have e1 := Ns1.out; have e2 := Ns2.out; omega)).trans Hkb.out)
              have Hrb := Lib.hid ((nb.block rb (by have := hvb; have e1 := Ns1.out; have e2 := Ns2.out; omega)).trans Hrb.out)
              have Ns3 := Lib.hid ns
              clear n0 nb ns
              refine hK.out _ _ (show _ from ⟨(hb3.cell (p := ⟨bb, oo + i * 3, none⟩) hbl).trans q0, (hb3.cell (p := ⟨bb, oo + i * 3 + 1, none⟩) hbl).trans q1, (hb3.cell (p := ⟨bb, oo + i * 3 + 2, none⟩) hbl).trans q2⟩) (fun hHeld => ?_)
              clear hK K
              try simp only [Act.put, List.setIfInBounds_toArray, List.set_cons_zero, List.set_cons_succ]
              refine wpAnyH_take (i := 16) (v := ?_) opAt_16 (by kernel_rfl) (by kernel_rfl) (by kernel_rfl) (fun _ _ _ h => h) (Or.inl ⟨by rfl, ?_⟩) (by assumption) ?_
              rotate_left
              · (intro w hSw; obtain ⟨q0, q1, q2⟩ := hSw; go_simp; try with_reducible rfl)
              try simp only [Act.put, List.setIfInBounds_toArray, List.set_cons_zero, List.set_cons_succ]
              obtain ⟨z0, z1, z2, z3, z4, z5⟩ := box6h Hrb.out
              obtain ⟨f0, f1, f2, f3, f4, f5⟩ := box6hf Hrb.out
              refine wpAnyH_ready (rs := [18]) (by kernel_rfl) (by simp) ?_
              refine AllReadyH.cons rfl (fun K hK => ?_) AllReadyH.nil
              go_simp
              have e1 := Ns1.out
              have e2 := Ns2.out
              have e3 := Ns3.out
              have hz := set6_at Hrb.out (.int .u64 (sq' : Int)) (.int .i64 1) (.slice (some ⟨kb, 0, none⟩) kk kk) (.slice (some ⟨vb, 0, none⟩) vl vl) (.int .u32 0) (.int .u32 0)
              have hX : Made3 wr (set6 V3 rb (.int .u64 (sq' : Int)) (.int .i64 1) (.slice (some ⟨kb, 0, none⟩) kk kk) (.slice (some ⟨vb, 0, none⟩) vl vl) (.int .u32 0) (.int .u32 0)) rb kb vb (sq' : Int) kk vl := ⟨set6_below hb3 (by omega) _ _ _ _ _ _, by omega, by omega, by omega, by omega, by omega, by omega, (set6_other (by omega) _ _ _ _ _ _).trans Hkb.out, (set6_other (by omega) _ _ _ _ _ _).trans Hvb.out, hz⟩
              change K _ (set6 V3 rb _ _ _ _ _ _)
              have HX := Lib.hid hX
              have hcells := fun (j : Nat) => World.cell?_of_block (a := ⟨bb, j, none⟩) (set6_other (w := V3) (g := rb) (k := bb) (by omega) (.int .u64 (sq' : Int)) (.int .i64 1) (.slice (some ⟨kb, 0, none⟩) kk kk) (.slice (some ⟨vb, 0, none⟩) vl vl) (.int .u32 0) (.int .u32 0))
              refine hK.out _ _ (show _ from ⟨(hcells _).trans hHeld.1, (hcells _).trans hHeld.2.1, (hcells _).trans hHeld.2.2⟩) (fun hHeld => ?_)
              clear hK K e1 e2 e3
              try simp only [Act.put, List.setIfInBounds_toArray, List.set_cons_zero, List.set_cons_succ]
              refine wpAnyH_done (by kernel_rfl) ?_ _
              refine NoPanic.normal ?_
              go_wp2_with fail
              go_meet
              case rel => exact ⟨rb, kb, vb, rfl, HX.out⟩
            · go_simp
              obtain ⟨vb, hvb⟩ : ∃ g, V1.heap.size = g := ⟨_, rfl⟩
              try rw [hvb]
              have n0 : (V1.alloc (.cells (zer vl) 5)).heap[V1.heap.size]? = some (.cells (zer vl) 5 (0, 0)) := heap_alloc_new V1 _
              rw [hvb] at n0
              have nb : Below V1.heap.size V1 (V1.alloc (.cells (zer vl) 5)) := (Below.refl _ _).alloc (Nat.le_refl _) _
              have ns : (V1.alloc (.cells (zer vl) 5)).heap.size = vb + 1 := by rw [World.size_alloc, hvb]
              generalize V1.alloc (.cells (zer vl) 5) = V2 at *
              have Hvb : Hid (V2.heap[vb]? = some (.cells (zer vl) 5 (0, 0))) := Lib.hid n0
              have hb2 : Below wr.heap.size wr V2 := hb1.trans (nb.mono hb1.size)
              have Hrb := Lib.hid ((nb.block rb (by have := hvb; have e1 := Ns1.out; omega)).trans Hrb.out)
              have Ns2 := Lib.hid ns
              clear n0 nb ns
              refine hK.out _ _ (show _ from ⟨(hb2.cell (p := ⟨bb, oo + i * 3, none⟩) hbl).trans q0, (hb2.cell (p := ⟨bb, oo + i * 3 + 1, none⟩) hbl).trans q1, (hb2.cell (p := ⟨bb, oo + i * 3 + 2, none⟩) hbl).trans q2⟩) (fun hHeld => ?_)
              clear hK K
              try simp only [Act.put, List.setIfInBounds_toArray, List.set_cons_zero, List.set_cons_succ]
              refine wpAnyH_ready (rs := [8]) (by kernel_rfl) (by simp) ?_
              refine AllReadyH.cons rfl (fun K hK => ?_) AllReadyH.nil
              go_simp
              obtain ⟨kb, hkb⟩ : ∃ g, V2.heap.size = g := ⟨_, rfl⟩
              try rw [hkb]
              have n0 : (V2.alloc (.cells (zer kk) 5)).heap[V2.heap.size]? = some (.cells (zer kk) 5 (0, 0)) := heap_alloc_new V2 _
              rw [hkb] at n0
              have nb : Below V2.heap.size V2 (V2.alloc (.cells (zer kk) 5)) := (Below.refl _ _).alloc (Nat.le_refl _) _
              have ns : (V2.alloc (.cells (zer kk) 5)).heap.size = kb + 1 := by rw [World.size_alloc, hkb]
              generalize V2.alloc (.cells (zer kk) 5) = V3 at *
              have Hkb : Hid (V3.heap[kb]? = some (.cells (zer kk) 5 (0, 0))) := Lib.hid n0
              have hb3 : Below wr.heap.size wr V3 := hb2.trans (nb.mono hb2.size)
              have Hvb := Lib.hid ((nb.block vb (by have := hkb; have e1 := Ns1.out; have e2 := Ns2.out; omega)).trans Hvb.out)
              have Hrb := Lib.hid ((nb.block rb (by have := hkb; have e1 := Ns1.out; have e2 := Ns2.out; omega)).trans Hrb.out)
              have Ns3 := Lib.hid ns
              clear n0 nb ns
              refine hK.out _ _ (show _ from ⟨(hb3.cell (p := ⟨bb, oo + i * 3, none⟩) hbl).trans q0, (hb3.cell (p := ⟨bb, oo + i * 3 + 1, none⟩) hbl).trans q1, (hb3.cell (p := ⟨bb, oo + i * 3 + 2, none⟩) hbl).trans q2⟩) (fun hHeld => ?_)
              clear hK K
              try simp only [Act.put, List.setIfInBounds_toArray, List.set_cons_zero, List.set_cons_succ]
              refine wpAnyH_take (i := 16) (v := ?_) opAt_16 (by kernel_rfl) (by kernel_rfl) (by kernel_rfl) (fun _ _ _ h => h) (Or.inl ⟨by rfl, ?_⟩) (by assumption) ?_
              rotate_left
              · (intro w hSw; obtain ⟨q0, q1, q2⟩ := hSw; go_simp; try with_reducible rfl)
              try simp only [Act.put, List.setIfInBounds_toArray, List.set_cons_zero, List.set_cons_succ]
              obtain ⟨z0, z1, z2, z3, z4, z5⟩ := box6h Hrb.out
              obtain ⟨f0, f1, f2, f3, f4, f5⟩ := box6hf Hrb.out
              refine wpAnyH_ready (rs := [18]) (by kernel_rfl) (by simp) ?_
              refine AllReadyH.cons rfl (fun K hK => ?_) AllReadyH.nil
              go_simp
              have e1 := Ns1.out
              have e2 := Ns2.out
              have e3 := Ns3.out
              have hz := set6_at Hrb.out (.int .u64 (sq' : Int)) (.int .i64 1) (.slice (some ⟨kb, 0, none⟩) kk kk) (.slice (some ⟨vb, 0, none⟩) vl vl) (.int .u32 0) (.int .u32 0)
              have hX : Made3 wr (set6 V3 rb (.int .u64 (sq' : Int)) (.int .i64 1) (.slice (some ⟨kb, 0, none⟩) kk kk) (.slice (some ⟨vb, 0, none⟩) vl vl) (.int .u32 0) (.int .u32 0)) rb kb vb (sq' : Int) kk vl := ⟨set6_below hb3 (by omega) _ _ _ _ _ _, by omega, by omega, by omega, by omega, by omega, by omega, (set6_other (by omega) _ _ _ _ _ _).trans Hkb.out, (set6_other (by omega) _ _ _ _ _ _).trans Hvb.out, hz⟩
              change K _ (set6 V3 rb _ _ _ _ _ _)
              have HX := Lib.hid hX
              have hcells := fun (j : Nat) => World.cell?_of_block (a := ⟨bb, j, none⟩) (set6_other (w := V3) (g := rb) (k := bb) (by omega) (.int .u64 (sq' : Int)) (.int .i64 1) (.slice (some ⟨kb, 0, none⟩) kk kk) (.slice (some ⟨vb, 0, none⟩) vl vl) (.int .u32 0) (.int .u32 0))
              refine hK.out _ _ (show _ from ⟨(hcells _).trans hHeld.1, (hcells _).trans hHeld.2.1, (hcells _).trans hHeld.2.2⟩) (fun hHeld => ?_)
              clear hK K e1 e2 e3
              try simp only [Act.put, List.setIfInBounds_toArray, List.set_cons_zero, List.set_cons_succ]
              refine wpAnyH_done (by kernel_rfl) ?_ _
              refine NoPanic.normal ?_
              go_wp2_with fail
              go_meet
              case rel => exact ⟨rb, kb, vb, rfl, HX.out⟩
        case rest =>
          obtain ⟨rb, kb, vb, rfl, hm3⟩ := hcut
          obtain ⟨m0, m1, m2, m3, m4, m5, m6, m7, m8, m9⟩ := hm3
          have hkc : wc.cell? ⟨kb, 0, none⟩ = some (.int .u8 0) := by
            have := cell_of_row wc kb 0 _ _ _ m7
            rw [this]
            cases kk with
            | zero => omega
            | succ t => rfl
          have hkf : wc.frozen? ⟨kb, 0, none⟩ = false := by simp [World.frozen?, show wc.heap[kb]? = _ from m7]
          obtain ⟨z0, z1, z2, z3, z4, z5⟩ := box6h m9
          have u8i : IntKind.u8.wrap (i : Int) = (i : Int) := IntWalk.u8_in _ (by omega)
          obtain ⟨W2, hW2⟩ : ∃ V, wc.setCell ⟨kb, 0, none⟩ (.int .u8 (i : Int)) = V := ⟨_, rfl⟩
          have hc2 : Chg (fun j => j = kb) wc W2 := by rw [← hW2]; exact chg1 wc kb 0 _
          have hrk : Rd W2 wc.heap.size (some ⟨kb, 0, none⟩) (bvs (UInt8.ofNat i :: List.replicate kl 0)) := by
            obtain ⟨A', c', e', _, h1⟩ := m7.bs (B := wc.heap.size) m7.lt
            injection e' with e1 e2 e3
            subst e1
            have := Rd.set1 (j := 0) (x := .int .u8 (i : Int)) h1 (by rw [bvs_length, List.length_replicate]; omega)
            rw [hW2] at this
            have e : (bvs (List.replicate kk 0)).set 0 (.int .u8 (i : Int)) = bvs (UInt8.ofNat i :: List.replicate kl 0) := by
              rw [HA.out.2.2.2.1, Nat.add_comm 1 kl, List.replicate_succ]
              have : (UInt8.ofNat i).toNat = i := by simp; omega
              simp only [bvs, List.map_cons, List.set_cons_zero]
              show Value.int .u8 (i : Int) :: _ = Value.int .u8 (((UInt8.ofNat i).toNat : Nat) : Int) :: _
              rw [this]
            rwa [e] at this
          have hbW : Below wr.heap.size wr W2 := m0.trans (hc2.below m0.size (fun j e => by omega))
          have m8' : RowAt W2 vb (List.replicate vl 0) := (hc2.block vb m8.lt (fun e => m1 e.symm)).trans m8
          obtain ⟨y0, y1, y2, y3, y4, y5⟩ := box6h ((hc2.block rb (Array.getElem?_eq_some_iff.1 m9).1 (fun e => m2 e.symm)).trans m9)
          have hsz2 : wc.heap.size = W2.heap.size := by rw [← hW2]; simp
          have hrec : RecV W2 W2.heap.size (recV (sq' : Int) 1 (.slice (some ⟨kb, 0, none⟩) kk kk) (.slice (some ⟨vb, 0, none⟩) vl vl) 0 0) (mkP i sq' a) := by
            refine ⟨_, _, rfl, ⟨some ⟨kb, 0, none⟩, kk, ?_, ?_, ?_⟩, ?_⟩
            · show _ = Value.slice _ (mkP i sq' a).key.length _
              rw [show (mkP i sq' a).key.length = kk by unfold mkP; simp only [List.length_cons, List.length_replicate]; have := HA.out.2.2.1; have := HA.out.2.2.2.1; omega]
            · rw [show (mkP i sq' a).key.length = kk by unfold mkP; simp only [List.length_cons, List.length_replicate]; have := HA.out.2.2.1; have := HA.out.2.2.2.1; omega]
              exact Nat.le_refl _
            · rw [← hsz2, show (mkP i sq' a).key = UInt8.ofNat i :: List.replicate kl 0 by unfold mkP; rw [← HA.out.2.2.1]]
              exact hrk
            · have := m8'.bs (B := W2.heap.size) m8'.lt
              rw [List.length_replicate] at this
              rw [show (mkP i sq' a).val = List.replicate vl 0 by unfold mkP; rw [← HA.out.2.2.2.2.1]]
              exact this
          have HP := Lib.hid (rput8_ok _ (mkP i sq' a) W2.heap.size W2 hrec (Nat.le_refl _) (mkP_may i sq' a (by have := HA.out.2.1; omega) (by omega)))
          have HBX := Lib.hid hbW
          unfold recV at HP
          rw [mkP_size] at HP
          obtain ⟨sz, hsz⟩ : ∃ x, x = 26 + a.key % 64 + a.val % 201 := ⟨_, rfl⟩
          rw [← hsz] at HP
          have hsz3 : sz ≤ 300 := by omega
          have HSZ := Lib.hid hsz
          clear hsz
          clear hrec hbW hrk m8' hc2 m7 m8 m9 m0
          go_wp2_with fail
          refine HP.out.mono ?_
          rintro e w3 ⟨v3, rfl, hown3, hb3⟩
          obtain ⟨A3', c3', rfl, _, _, _⟩ := own_slice hown3
          have HO3 := Lib.hid hown3
          have hb03 : Below wr.heap.size wr w3 := HBX.out.trans (hb3.mono HBX.out.size)
          have HH := Lib.hid (And.intro (own_below hh.out.2.2.1 hb03 (Nat.le_refl _)) (own_below hh.out.2.2.2.1 hb03 (Nat.le_refl _)))
          have HB3 := Lib.hid (hh.out.2.2.2.2.trans (hb03.mono hh.out.2.2.2.2.size))
          clear hown3 hb3 hb03
          obtain ⟨g6, hg6⟩ : ∃ g6, w3.heap.size = g6 := ⟨_, rfl⟩
          obtain ⟨W6, hW6⟩ : ∃ W6, w3.alloc (.cells #[.int .i64 (n : Int), .int .i64 ((n : Int) + (sz : Int)), .int .u64 (sq' : Int)] 61) = W6 := ⟨_, rfl⟩
          have hb6 : Below w3.heap.size w3 W6 := by rw [← hW6]; exact (Below.refl _ _).alloc (Nat.le_refl _) _
          have hbk6 : W6.heap[g6]? = some (.cells #[.int .i64 (n : Int), .int .i64 ((n : Int) + (sz : Int)), .int .u64 (sq' : Int)] 61 (0, 0)) := by rw [← hW6, ← hg6]; exact heap_alloc_new w3 _
          have hrd6 : Rd W6 (g6 + 1) (some ⟨g6, 0, none⟩) [.int .i64 (n : Int), .int .i64 ((n : Int) + (sz : Int)), .int .u64 (sq' : Int)] := fun _ => ⟨g6, 0, rfl, by omega, fun j u hu => by
            rw [cell_of_row W6 g6 (0 + j) _ _ _ hbk6]
            simpa using hu⟩
          have HRD6 := Lib.hid hrd6
          have HO6 := Lib.hid (own_below HO3.out hb6 (Nat.le_refl _))
          have HH6 := Lib.hid (And.intro (own_below HH.out.1 hb6 (Nat.le_refl _)) (own_below HH.out.2 hb6 (Nat.le_refl _)))
          have HB6 := Lib.hid (HB3.out.trans (hb6.mono HB3.out.size))
          have HTY := Lib.hid (own_typed HH6.out.2)
          have hsz6 : w3.heap.size ≤ W6.heap.size := hb6.size
          have hg67 : g6 + 1 ≤ W6.heap.size := by have := (Array.getElem?_eq_some_iff.1 hbk6).1; omega
          clear hb6 hbk6 hrd6
          go_wp2_with (at_builtin; first | ((refine wpList_append_rd _ rfl _ _ 57 rfl w.heap.size 61 p0 (.agg #[.int .i64 0, .int .i64 0, .int .u64 0]) 3 24 Tryd.underlying57 hp0 hpz0 hpz1 hpz2 rfl (by omega) (.slice A3 i c3) i (rowL12 (places 16 (recsP 0 0 (l.take i)))) rfl HH6.out.2 (g6 + 1) (some ⟨g6, 0, none⟩) 1 1 [.int .i64 (n : Int), .int .i64 ((n : Int) + (sz : Int)), .int .u64 (sq' : Int)] rfl rfl HRD6.out (by simp [Value.oneCell']) (by unfold maxLen; omega) (by omega) HB6.out.size ?_); intro v7 W7 hown7 hb7 hg7 hv7; (obtain ⟨A7, c7, rfl, _, _, _⟩ := own_slice hown7); (have HO7 := Lib.hid hown7); (have HB7 := Lib.hid hb7); (have HC7 := Lib.hid (Chg.of_grown (M := fun g => (Value.slice A3 i c3).ownBlock = some g) hg7 (fun g h => h))); (have HOB7 := Lib.hid (HTY.out.own (by decide) HC7.out HH6.out.1)); (have HR7 := Lib.hid (HTY.out.own (by decide) HC7.out HO6.out)); (clear hown7 hb7 hg7 hv7)) | ((refine wpList_append_rd _ rfl _ _ 23 rfl w.heap.size 5 i0 (.int .u8 0) 1 1 Tryd.underlying23 hi0 hz0 hz1 hz2 rfl (by omega) (.slice A2 n c2) n (bvs (layB 7 (recsP 0 0 (l.take i)))) rfl HOB7.out W7.heap.size A3' sz c3' (bvs (Rc.runL (mkP i sq' a))) rfl (by rw [bvs_length, Rc.runL_length, mkP_size]; have := HSZ.out; omega) (Rd.of_own HR7.out) (bvs_one _) (by unfold maxLen; omega) (by omega) (Nat.le_trans HB6.out.size HB7.out.size) ?_); intro v8 W8 hown8 hb8 hg8 hv8; (obtain ⟨A8, c8, rfl, _, _, _⟩ := own_slice hown8); (have HO8 := Lib.hid hown8); (have HB8 := Lib.hid hb8); (have HC8 := Lib.hid (Chg.of_grown (M := fun g => (Value.slice A2 n c2).ownBlock = some g) hg8 (fun g h => h))); (have HOA8 := Lib.hid ((own_typed HOB7.out).own (by decide) HC8.out HO7.out)); (clear hown8 hb8 hg8 hv8)))
          have ha := HA.out.1
          have hi1 : i < l.length := by rw [← HLN.out]; exact him
          have ht1 : l.take (i + 1) = l.take i ++ [a] := by rw [List.take_add_one, ha]; rfl
          have hti : (l.take i).length = i := by rw [List.length_take]; omega
          have hab : ∀ b ∈ l.take (i + 1), b.above < 256 := by
            intro b hb
            obtain ⟨j, hj⟩ := List.getElem?_of_mem (List.mem_of_mem_take hb)
            obtain ⟨_, _, _, _, _, _, _, h, _⟩ := HPL.out j b hj
            omega
          have hr1 : recsP 0 0 (l.take (i + 1)) = recsP 0 0 (l.take i) ++ [mkP i sq' a] := by
            rw [ht1, recsP_snoc, hti, Nat.zero_add, ← hh.out.2.1, ← HA.out.2.1]
          have hs1 : seqN 0 (l.take (i + 1)) = sq' := by rw [ht1, seqN_snoc, ← hh.out.2.1, ← HA.out.2.1]
          have hlen1 : (layB 7 (recsP 0 0 (l.take (i + 1)))).length = n + sz := by
            rw [hr1, layB_length, runsL_append, List.length_append]
            have h1 := hh.out.1
            rw [layB_length] at h1
            simp only [runsL, List.append_nil, Rc.runL_length, mkP_size]
            have := HSZ.out
            omega
          have hrl := runsP_len (l.take (i + 1)) 0 0
          have htl : (l.take (i + 1)).length = i + 1 := by rw [List.length_take]; omega
          have hsq := seqN_le (l.take (i + 1)) 0 hab
          rw [hs1, htl] at hsq
          rw [htl] at hrl
          have hl2 := hlen1
          rw [layB_length] at hl2
          refine ⟨⟨i + 1, n + sz, sq', A8, A7, c8, c7, rfl, rfl, rfl, by push_cast; rfl, by omega, by omega, by omega, by omega, Lib.hid ⟨hlen1.symm, hs1.symm, ?_, ?_, (HB6.out.trans HB7.out).trans HB8.out⟩⟩, by simp [RowKit.intOf]; omega⟩
          · rw [hr1, layB_snoc, bvs_app]
            exact HO8.out
          · rw [hr1, places_snoc, rowL12_snoc]
            have h1 := hh.out.1
            rw [layB_length] at h1
            have := HOA8.out
            have hz : Rc.sizeN (mkP i sq' a) = sz := by rw [mkP_size, HSZ.out]
            simp only [hz, ← h1]
            show W8.ownsRow _ _ _ _ _ (_ ++ [Value.int .i64 (n : Int), Value.int .i64 ((n + sz : Nat) : Int), Value.int .u64 (sq' : Int)])
            rw [Int.natCast_add]
            exact this
      · have hs' : ¬ ((i : Int) < 20) := by omega
        have HF := Lib.hid (fin i hi hi20 (by omega))
        go_wp2_with fail
        go_ret2
        obtain ⟨ft, fl⟩ := HF.out
        have hq := hh.out
        have e20 : min 20 l.length = i := by have := HLN.out; omega
        try rw [ft]
        try rw [fl]
        try rw [e20]
        exact ⟨_, _, rfl, n, hq.2.2.1, hq.1, hq.2.2.2.1, hq.2.2.2.2⟩
    · have hs' : ¬ ((i : Int) < ln) := by omega
      have HF := Lib.hid (fin i hi hi20 (by omega))
      go_wp2_with fail
      go_ret2
      obtain ⟨ft, fl⟩ := HF.out
      have hq := hh.out
      have e20 : min 20 l.length = i := by have := HLN.out; omega
      try rw [ft]
      try rw [fl]
      try rw [e20]
      exact ⟨_, _, rfl, n, hq.2.2.1, hq.1, hq.2.2.2.1, hq.2.2.2.2⟩
end Go.Proofs.YtkpkfgcbccaibaaDoor.Sc

/- ScCut -/

/-
  Layer 12, plain mathematics: a segment's bytes cut anywhere.
-/
set_option linter.unusedVariables false
set_option linter.unusedSimpArgs false
namespace Go.Proofs.YtkpkfgcbccaibaaDoor.Sc
open Go.RowKit

/-- where the i first runs end -/
def endN (l : List Rc.Rec) (i : Nat) : Nat := 16 + (runsL (l.take i)).length
theorem endN_zero (l : List Rc.Rec) : endN l 0 = 16 := by simp [endN, runsL]
theorem endN_step {l : List Rc.Rec} {i : Nat} {r : Rc.Rec} (h : l[i]? = some r) : endN l (i + 1) = endN l i + Rc.sizeN r := by
  unfold endN
  rw [List.take_add_one, h, runsL_append]
  simp [runsL, Rc.runL_length]
  omega
theorem endN_all {l : List Rc.Rec} {i : Nat} (h : l.length ≤ i) : endN l i = 16 + (runsL l).length := by unfold endN; rw [List.take_of_length_le h]
theorem endN_mono (l : List Rc.Rec) {i j : Nat} (h : i ≤ j) : endN l i ≤ endN l j := by
  induction j with
  | zero => obtain rfl : i = 0 := by omega
            exact Nat.le_refl _
  | succ j ih =>
    by_cases e : i = j + 1
    · subst e; exact Nat.le_refl _
    · refine Nat.le_trans (ih (by omega)) ?_
      by_cases hj : j < l.length
      · rw [endN_step (List.getElem?_eq_getElem hj)]
        omega
      · rw [endN_all (by omega), endN_all (by omega)]
        exact Nat.le_refl _
theorem endN_lt {l : List Rc.Rec} {i j : Nat} (h : i < j) (hj : j ≤ l.length) : endN l i < endN l j := by
  have e := endN_step (l := l) (i := i) (List.getElem?_eq_getElem (by omega))
  have := endN_mono l (i := i + 1) (j := j) h
  have := size_pos (l[i]'(by omega))
  omega
theorem places_at : ∀ {l : List Rc.Rec} {i : Nat} {r : Rc.Rec} (p : Nat), l[i]? = some r → (places p l)[i]? = some ⟨p + (runsL (l.take i)).length, Rc.sizeN r, r⟩
  | [], i, r, p, h => by simp at h
  | x :: l, 0, r, p, h => by
    simp at h
    subst h
    simp [places, runsL]
  | x :: l, i + 1, r, p, h => by
    have := places_at (l := l) (p + Rc.sizeN x) (show l[i]? = some r by simpa using h)
    simp only [places, List.getElem?_cons_succ, this, List.take_succ_cons, runsL, List.length_append, Rc.runL_length]
    congr 2
    omega
theorem places_endN {l : List Rc.Rec} {i : Nat} {r : Rc.Rec} (h : l[i]? = some r) : (places 16 l)[i]? = some ⟨endN l i, Rc.sizeN r, r⟩ := places_at 16 h
theorem places_take : ∀ (l : List Rc.Rec) (p i : Nat), places p (l.take i) = (places p l).take i
  | [], p, i => by simp [places]
  | r :: l, p, 0 => rfl
  | r :: l, p, i + 1 => by simp [places, places_take l]
end Go.Proofs.YtkpkfgcbccaibaaDoor.Sc

/- ScKnC -/

/-
  Layer 12: ScanKnown's closure, and a scan in a block of its own.
-/
set_option linter.unusedVariables false
set_option linter.unusedSimpArgs false
set_option maxRecDepth 100000
set_option maxHeartbeats 8000000
namespace Go.Proofs.YtkpkfgcbccaibaaDoor.Sc
open Go.RowKit Go.Proofs.YtkpkfgcbccaibaaDoor

/-- a scan in block g -/
def ScBox (w : World) (lo g : Nat) (s : S) (Af : Option Addr) (cf : Nat) (Ap : Option Addr) (cp : Nat) : Prop := w.heap[g]? = some (.cells #[.int .u32 (s.id : Int), .slice Af s.found.length cf, .slice Ap s.passed.length cp, .int .i64 (s.stop : Int), .int .i64 (s.why : Int)] 31 (0, 0)) ∧
  ScanV 52 w lo (.agg #[.int .u32 (s.id : Int), .slice Af s.found.length cf, .slice Ap s.passed.length cp, .int .i64 (s.stop : Int), .int .i64 (s.why : Int)]) s

theorem ScBox.on {w w' : World} {lo g : Nat} {s : S} {Af : Option Addr} {cf : Nat} {Ap : Option Addr} {cp : Nat} (h : ScBox w lo g s Af cf Ap cp) (hb : Below w.heap.size w w') : ScBox w' lo g s Af cf Ap cp :=
  ⟨(hb.block g (Array.getElem?_eq_some_iff.1 h.1).1).trans h.1, h.2.on hb⟩

end Go.Proofs.YtkpkfgcbccaibaaDoor.Sc

/- ScTwo -/

/-
  Layer 12: two scans, each stored in a block of its own.
-/
set_option linter.unusedVariables false
set_option linter.unusedSimpArgs false
namespace Go.Proofs.YtkpkfgcbccaibaaDoor.Sc
open Go Go.RowKit Go.Proofs.YtkpkfgcbccaibaaDoor

/-- a block of a scan is changed: other scans' values are as they were -/
theorem ScanV.apart {T : TypeId} {w w' : World} {lo : Nat} {v : Value} {s : S} {N : Nat → Prop} {T' : TypeId} (h : ScanV T w lo v s) (hg : Typed w T' N) (h1 : T ≠ T') (h2 : T' ≠ 5) (h3 : 3 ≠ T') (hc : Chg N w w') : ScanV T w' lo v s := by
  obtain ⟨vf, vp, q, e1, e2, e3, e4, e5⟩ := h
  exact ⟨vf, vp, q, e1, e2, hg.own h1 hc e3, fun x hx => FqOk.apart hg h2 hc (e4 x hx), hg.own h3 hc e5⟩
/-- the block g holds the scan s, whose memory is from lo on -/
def AtScan (w : World) (B g : Nat) (s : S) : Prop := B ≤ g ∧ ∃ lo Af cf Ap cp, B ≤ lo ∧ ScBox w lo g s Af cf Ap cp
theorem AtScan.on {w w' : World} {B g : Nat} {s : S} (h : AtScan w B g s) (hb : Below w.heap.size w w') : AtScan w' B g s := by
  obtain ⟨h0, lo, Af, cf, Ap, cp, h1, h2⟩ := h
  exact ⟨h0, lo, Af, cf, Ap, cp, h1, h2.on hb⟩
/-- a call's scan, not stored yet -/
def TellS (w : World) (B : Nat) (v : Value) (s : S) : Prop := ∃ lo, B ≤ lo ∧ ScanV 52 w lo v s
theorem TellS.on {w w' : World} {B : Nat} {v : Value} {s : S} (h : TellS w B v s) (hb : Below w.heap.size w w') : TellS w' B v s := by
  obtain ⟨lo, h1, h2⟩ := h
  exact ⟨lo, h1, h2.on hb⟩
theorem TellS.lit {w : World} {B : Nat} {v : Value} {s : S} (h : TellS w B v s) (i st wy : Int) (n np : Nat) (h1 : (s.id : Int) = i) (h2 : s.found.length = n) (h3 : s.passed.length = np) (h4 : (s.stop : Int) = st) (h5 : (s.why : Int) = wy) :
    ∃ Af cf Ap cp, v = .agg #[.int .u32 i, .slice Af n cf, .slice Ap np cp, .int .i64 st, .int .i64 wy] := by
  obtain ⟨lo, _, hs⟩ := h
  obtain ⟨Af, cf, Ap, cp, q, rfl, _⟩ := hs.lit i st wy n np h1 h2 h3 h4 h5
  exact ⟨Af, cf, Ap, cp, rfl⟩
theorem ScanV.cells {w : World} {lo : Nat} {s : S} {Af Ap : Option Addr} {nf cf np cp : Nat} {i st wy : Int} (h : ScanV 52 w lo (.agg #[.int .u32 i, .slice Af nf cf, .slice Ap np cp, .int .i64 st, .int .i64 wy]) s) :
    i = (s.id : Int) ∧ nf = s.found.length ∧ np = s.passed.length ∧ st = (s.stop : Int) ∧ wy = (s.why : Int) := by
  obtain ⟨Af', nf', cf', Ap', np', cp', q, e, h1, h2, h3, h4, _⟩ := h.open
  simp only [Value.agg.injEq, Array.mk.injEq, List.cons.injEq, Value.int.injEq, Value.slice.injEq, and_true, true_and] at e
  obtain ⟨e0, ⟨_, e1, _⟩, ⟨_, e2, _⟩, e3, e4⟩ := e
  exact ⟨e0, by rw [e1, h4], by rw [e2, h3], e3, e4⟩
/-- a scan in a block, its numbers spelled out -/
theorem AtScan.lit {w : World} {B g : Nat} {s : S} (h : AtScan w B g s) (i st wy : Int) (n np : Nat) (h1 : (s.id : Int) = i) (h2 : s.found.length = n) (h3 : s.passed.length = np) (h4 : (s.stop : Int) = st) (h5 : (s.why : Int) = wy) :
    B ≤ g ∧ ∃ lo Af cf Ap cp, ∃ q : List Fq, B ≤ lo ∧ w.heap[g]? = some (.cells #[.int .u32 i, .slice Af n cf, .slice Ap np cp, .int .i64 st, .int .i64 wy] 31 (0, 0)) ∧
      ScanV 52 w lo (.agg #[.int .u32 i, .slice Af n cf, .slice Ap np cp, .int .i64 st, .int .i64 wy]) s ∧ q.map (·.1) = s.found ∧ n ≤ cf ∧ cf ≤ maxLen ∧ w.ownsRow lo 52 9 (.slice Af n cf) n (rowF s.id q) ∧ (∀ x ∈ q, FqOk w lo x) := by
  obtain ⟨hg, lo, Af, cf, Ap, cp, hlo, hb, hs⟩ := h
  subst h1 h2 h3 h4 h5
  obtain ⟨Af', nf', cf', Ap', np', cp', q, e, hq, hn, hp, hf, e1, e2, e3, e4, o1, o2, o3⟩ := hs.open
  simp only [Value.agg.injEq, Array.mk.injEq, List.cons.injEq, Value.int.injEq, Value.slice.injEq, and_true, true_and] at e
  obtain ⟨⟨rfl, rfl, rfl⟩, ⟨rfl, rfl, rfl⟩⟩ := e
  exact ⟨hg, lo, Af, cf, Ap, cp, q, hlo, hb, hs, hq, e1, e2, o1, o2⟩
end Go.Proofs.YtkpkfgcbccaibaaDoor.Sc

