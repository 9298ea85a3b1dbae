
/-
  Layer 7: Copy.
-/
import Derived.Test.YtboeiadfmknidaaGreatJfSee
import Derived.Maps.Range
import Derived.Maps.RangeWalk
set_option linter.unusedVariables false
set_option linter.unusedSimpArgs false
namespace Go.Proofs.YtboeiadfmknidaaGreat
open Go.RowKit Go.Maps

theorem FsC.set0 {w : World} {A X B q u st : Nat} {on : Bool} {hv : Value} (h : FsC w A X B q u st on hv) (k : Nat) : FsC (w.setCell ⟨A, 0, none⟩ (.pointer (some ⟨k, 0, none⟩))) A k B q u st on hv := by
  obtain ⟨c0, c1, c2, c3, c4, c5, c6, f0, f1, f2, f3, f4, f5, f6⟩ := h
  refine ⟨World.cell?_setCell_same _ _ _ c0, ?_, ?_, ?_, ?_, ?_, ?_, by rw [World.frozen?_setCell]; assumption, by rw [World.frozen?_setCell]; assumption, by rw [World.frozen?_setCell]; assumption, by rw [World.frozen?_setCell]; assumption, by rw [World.frozen?_setCell]; assumption, by rw [World.frozen?_setCell]; assumption, by rw [World.frozen?_setCell]; assumption⟩ <;>
    (rw [World.cell?_setCell_other _ _ _ _ (by intro e; injection e with e1 e2; omega)]; assumption)
theorem upd_self (g : Nat → FSt) (i : Nat) : upd g i (g i) = g := by
  funext j
  by_cases e : j = i
  · subst e; exact upd_same _ _ _
  · exact upd_other _ _ e
theorem grown_below {w w' : World} (h : Below w.heap.size w w') : w.grownBy w' none := ⟨h.os, h.tape, h.output, h.size, fun i hi _ => h.block i hi⟩
theorem sameKey_ku {i j : Nat} (h : (ku i).sameKey (ku j) = true) : i = j := by
  have h2 : (i : Int) = j := by simpa [ku, Lit.sameKey] using h
  omega
theorem fElem_ptr {v : Value} {y : DataW Unit × List MemPlace} (h : fElem v = some y) : ∃ c, v = .pointer c := by
  unfold fElem at h
  split at h
  · exact ⟨_, rfl⟩
  · exact ⟨_, rfl⟩
  · cases h
section
variable {w w' : World} {A u q T : Nat} {M R : Nat → Prop} {s : FsP}
set_option maxRecDepth 100000 in
set_option maxHeartbeats 8000000 in
theorem kcopy (h : FsM w A u M R s) (hf : FInv s q T) (hT : T ≤ 1000000) :
    Calls Tryz.prog 22 #[.pointer (some ⟨A, 0, none⟩)] w fun e w' => ∃ A' M', e = .returned (.pointer (some ⟨A', 0, none⟩)) ∧ FsM w' A' u M' R s ∧ Below w.heap.size w w' ∧ ∀ i, M' i → w.heap.size ≤ i := by
  obtain ⟨X, B, n, hv, K, g, MX, MF, ha, hn1, hn2, hn3, hn4, hn5⟩ := h.kfacts hf
  obtain ⟨hfn, hcap, rfl⟩ := ha.hvf
  have Ha := Lib.hid ha
  have HF := Lib.hid hf
  have Hn := Lib.hid (show n ≤ s.dir.last + 1 ∧ (∀ i, i ∈ K → i ≤ s.dir.last) ∧ (∀ i, i ∈ s.dir.live → i ∈ K) ∧ (∀ i, i ∈ K → (s.file i).big ≤ T) from ⟨hn1, hn2, hn3, hn5⟩)
  have hc := ha.cells
  obtain ⟨onb, honb⟩ : ∃ onb, onb = !s.off := ⟨_, rfl⟩
  rw [← honb] at hc
  have HC := Lib.hid hc
  obtain ⟨k0, k1, k2, k3, k4, k5, k6, _⟩ := hc
  have Honb := Lib.hid honb
  clear honb
  obtain ⟨W, hW⟩ : ∃ W, W = w.alloc (.cells #[.pointer (some ⟨X, 0, none⟩), .map (some B), .int .i64 (s.quota : Int), .int .i64 (u : Int), .int .i64 (s.steps : Int), .bool onb, .func (.func hfn) #[] hcap] 60) := ⟨_, rfl⟩
  have kW0 := cell_al k0 (.cells #[.pointer (some ⟨X, 0, none⟩), .map (some B), .int .i64 (s.quota : Int), .int .i64 (u : Int), .int .i64 (s.steps : Int), .bool onb, .func (.func hfn) #[] hcap] 60)
  have hb : Below w.heap.size w W := by rw [hW]; exact (Below.refl _ _).alloc (Nat.le_refl _) _
  have hsW : W.heap.size = w.heap.size + 1 := by rw [hW]; simp
  have hcN : FsC W w.heap.size X B s.quota u s.steps onb (.func (.func hfn) #[] hcap) := by rw [hW]; exact FsC.new w X B s.quota u s.steps onb _ _
  obtain ⟨A', hA'⟩ : ∃ A', A' = w.heap.size := ⟨_, rfl⟩
  rw [← hA'] at hcN
  have HA' := Lib.hid hA'
  have HaW := Lib.hid (Ha.out.on hb)
  have HcN := Lib.hid hcN
  have HBw := Lib.hid hb
  have HsW := Lib.hid hsW
  clear h ha hf hn1 hn2 hn3 hn4 hn5 hb hsW hcN
  go_enter Tryz.func22, Tryz.ntmps22
  go_wp2_with (go_at_call 43; refine (kmade HC.out).mono ?_; rintro e w' ⟨rfl, rfl⟩)
  rw [← hW, ← hA']
  clear hW kW0 hA' k0 k1 k2 k3 k4 k5 k6
  refine (hcopy HaW.out.dir).mono ?_
  rintro e w1 ⟨X', MX', rfl, hx', hb1, hMX'⟩
  have HX' := Lib.hid hx'
  have HB1 := Lib.hid (HBw.out.trans (hb1.mono HBw.out.size))
  have HMX' : Hid (∀ i, MX' i → A' < i) := fun i hi => by have := hMX' i hi; have := HsW.out; have := HA'.out; omega
  have Ha1 := Lib.hid (HaW.out.on hb1)
  have hc1 := HcN.out.on_ hb1
  have HC1 := Lib.hid (hc1.set0 X')
  obtain ⟨z0, _, _, _, _, _, _, zf0, zf1, _⟩ := hc1
  obtain ⟨wz, hwz⟩ : ∃ wz, wz = w1.setCell ⟨A', 0, none⟩ (.pointer (some ⟨X', 0, none⟩)) := ⟨_, rfl⟩
  obtain ⟨w2, hw2⟩ : ∃ w2, w2 = wz.alloc (.map #[] 0) := ⟨_, rfl⟩
  obtain ⟨B', hB'⟩ : ∃ B', B' = wz.heap.size := ⟨_, rfl⟩
  have hmk : (Instr.makeMap 58 none).run Tryz.prog (w1.setCell ⟨A', 0, none⟩ (.pointer (some ⟨X', 0, none⟩))) = .ok (.map (some B')) w2 := by rw [← hwz, hw2, hB']; exact hmkF wz
  have hbz : Chg (fun i => i = A') w1 wz := by rw [hwz]; exact chg_set w1 A' 0 _
  have hb2 : Below wz.heap.size wz w2 := by rw [hw2]; exact (Below.refl _ _).alloc (Nat.le_refl _) _
  have hszz : wz.heap.size = w1.heap.size := by rw [hwz]; simp
  have hsz2 : w2.heap.size = B' + 1 := by rw [hw2, hB']; simp
  have hc2 : FsC w2 A' X' B s.quota u s.steps onb (.func (.func hfn) #[] hcap) := by have h9 := HC1.out; rw [← hwz] at h9; exact h9.on_ hb2
  have hm0 : MapF w2 B' 0 [] g := by rw [hw2, hB']; exact MapF.new wz g
  have hwA : w.heap.size ≤ A' := by have := HA'.out; omega
  have hs1 := HB1.out.size
  have hg12 : Chg (fun i => i = A') w1 w2 := hbz.trans (Chg.of_below (M := fun _ => False) hb2) (fun i e => e.elim)
  have hg13 : Chg (fun i => i = A') w1 (w2.setCell ⟨A', 1, none⟩ (.map (some B'))) := hg12.setCell rfl _
  have HB3 : Hid (Below w.heap.size w (w2.setCell ⟨A', 1, none⟩ (.map (some B')))) := HB1.out.trans (hg13.below hs1 (fun i e => by omega))
  have HAM : Hid (∀ i, i = A' → ¬ M i ∧ ¬ R i) := fun i e => ⟨fun e' => by have := Ha.out.ml i e'; omega, fun e' => by have := Ha.out.rl i e'; omega⟩
  have ha3 := Ha1.out.chg hg13 HAM.out
  have HA3 := Lib.hid ha3
  have kA := ha3.cells.c1
  obtain ⟨y0, y1, _, _, _, _, _, yf0, yf1, _⟩ := hc2
  have HC3 : Hid (FsC (w2.setCell ⟨A', 1, none⟩ (.map (some B'))) A' X' B' s.quota u s.steps onb (.func (.func hfn) #[] hcap)) := by
    have h9 := HC1.out
    rw [← hwz] at h9
    exact (h9.on_ hb2).set1 B'
  have hAB : A' ≠ B' := fun e => by have := fblock_of_cell z0; omega
  have HCp : Hid (FsAt (w2.setCell ⟨A', 1, none⟩ (.map (some B'))) A' X' B' 0 u (.func (.func hfn) #[] hcap) [] g MX' (fun _ _ => False) (fun i => MX' i ∨ i = A' ∨ i = B') R s) := by
    have hlm : ∀ i, MX' i → i < w1.heap.size := HX'.out.2.2.1
    have hls : (w2.setCell ⟨A', 1, none⟩ (.map (some B'))).heap.size = B' + 1 := by simp [hsz2]
    refine ⟨?_, ?_, fun i e => by have := Ha.out.rl i e; omega, ?_, fun ho => (HA3.out.hold ho), ⟨_, _, rfl⟩, hm0.chg (chg_set w2 A' 1 _) (fun e => hAB e.symm), (fun i hi => absurd hi (by simp)), ?_, (fun i hi => absurd hi (by simp)), .inr (.inl rfl), .inr (.inr rfl), fun i => .inl, (fun i hi => absurd hi (by simp)), ?_, ?_, (fun i hi => absurd hi (by simp)), (fun i hi => absurd hi (by simp)), (fun i hi => absurd hi (by simp)), (fun i hi => absurd hi (by simp))⟩
    · rintro i (e | e | e) hr
      · exact HX'.out.2.1 i e hr
      · exact (HAM.out i e).2 hr
      · have := Ha.out.rl i hr; omega
    · rintro i (e | e | e)
      · have := hlm i e; omega
      · have := fblock_of_cell z0; omega
      · omega
    · have h9 := HC3.out
      rw [Honb.out] at h9
      exact h9
    · exact HX'.out.chg hg13 (fun i e => ⟨fun e' => by have := HMX'.out i e'; omega, (HAM.out i e).2⟩)
    · intro e; have := HMX'.out _ e; omega
    · intro e; have := hlm _ e; omega
  have HMA : Hid (∀ i, (MX' i ∨ i = A' ∨ i = B') → w.heap.size ≤ i) := by
    rintro i (e | e | e)
    · have := HMX'.out i e; exact (by omega : w.heap.size ≤ i)
    · exact (by omega : w.heap.size ≤ i)
    · exact (by omega : w.heap.size ≤ i)
  clear hbz hb2 hszz hsz2 hm0 hg12 hg13 ha3 hAB hs1 hw2 hB' hwz
  obtain ⟨w3, hw3⟩ : ∃ w3, w3 = w2.setCell ⟨A', 1, none⟩ (.map (some B')) := ⟨_, rfl⟩
  rw [← hw3] at HB3 HA3 HC3 HCp
  obtain ⟨D, hown, hat, hnone⟩ := HA3.out.map
  have HOwn := Lib.hid hown
  have HAt := Lib.hid hat
  have HNone := Lib.hid hnone
  have hDs := hown.size_le
  have HOwn3 : Hid ((w2.setCell ⟨A', 1, none⟩ (.map (some B'))).ownsMap Tryz.prog 64 fElem B n D) := by rw [← hw3]; exact hown
  have hBA' : B ≠ A' := fun e => (HAM.out B e).1 Ha.out.mB
  have hBlt : B < w.heap.size := Ha.out.ml B Ha.out.mB
  obtain ⟨r, hr⟩ : ∃ r, r = w3.heap.size := ⟨_, rfl⟩
  have hrw : w.heap.size ≤ r := by rw [hr]; exact HB3.out.size
  have hml3 := HCp.out.ml
  have Hml3 : Hid (∀ i, (MX' i ∨ i = A' ∨ i = B') → i < r) := fun i hi => by rw [hr]; exact hml3 i hi
  have HRr : Hid (¬ R r) := fun e => by have := Ha.out.rl r e; omega
  have HB'r : Hid (B' ≠ r ∧ B' ≠ B ∧ A' < r) := ⟨fun e => by have := Hml3.out B' (.inr (.inr rfl)); omega, fun e => by have := HMA.out B' (.inr (.inr rfl)); omega, Hml3.out A' (.inr (.inl rfl))⟩
  have Hr := Lib.hid hr
  clear hown hat hnone hml3 hr hBA'
  go_wp2_with (at_range; refine wpList_range_own _ rfl _ 58 rfl 64 67 keyedU Tryz.underlying58 fElem B n D rfl HOwn3.out ?_; intro w4 hrg4 hg4 hs4)
  rw [← hw3] at hrg4 hg4 hs4 ⊢
  rw [← Hr.out] at hrg4 hs4 ⊢
  have hb34 : Below w3.heap.size w3 w4 := ⟨hg4.os, hg4.tape, hg4.output, hg4.size, fun i hi => hg4.block i hi (by simp)⟩
  have HC4 := Lib.hid (HCp.out.on hb34)
  have HB4 := Lib.hid (HB3.out.trans (hb34.mono HB3.out.size))
  have HR4 := Lib.hid hrg4
  have hr4 : r < w4.heap.size := by omega
  clear hrg4 hg4 hs4 hb34 hw3 kA y0 y1 yf0 yf1
  go_frame
  go_loopw [4] (fun _ wr => ∃ (left : Lit → Bool) (cnt n' : Nat) (K' : List Nat) (g' : Nat → Nat) (MF' : Nat → Nat → Prop) (M' : Nat → Prop), wr.ranges Tryz.prog 64 fElem B r n D left cnt ∧ (∀ kl, left kl = true → Maps.has D kl = true) ∧
    FsAt wr A' X' B' n' u (.func (.func hfn) #[] hcap) K' g' MX' MF' M' R s ∧ n' + cnt ≤ n ∧ (∀ i, i ∈ K' → i ∈ K) ∧ (∀ i, i ∈ K → left (ku i) = true ∨ i ∈ K') ∧ (∀ i, M' i → w.heap.size ≤ i) ∧ ¬ M' r ∧ Below w.heap.size w wr) (fun _ wr => wr.rangeLeft B r)
  case atStart => exact ⟨_, _, 0, [], g, fun _ _ => False, _, HR4.out, fun _ h => h, HC4.out, by omega, (fun i hi => absurd hi (by simp)), fun i hi => .inl (by
    cases hh : Maps.has D (ku i)
    · have h9 := HAt.out i hi (.lit (.int .i64 0))
      have h8 := HAt.out i hi (.nil)
      rw [atKey_of_not_has hh] at h8
      cases h8
    · rfl), HMA.out, fun e => by have := Hml3.out r e; omega, HB4.out⟩
  case round =>
    obtain ⟨left, cnt, n', K', g', MF', M', hrg, hlh, hco, hcn, hKK, hKl, hMw, hMr, hbw⟩ := hrel
    have HRg := Lib.hid hrg
    have HLh := Lib.hid hlh
    have HCo0 := Lib.hid hco
    have HKK := Lib.hid hKK
    have HKl := Lib.hid hKl
    have HMw := Lib.hid hMw
    have HMr := Lib.hid hMr
    have HBw := Lib.hid hbw
    clear hlh hco hKK hKl hMw hMr hbw
    go_wp2_with (at_next; refine wpList_next_ranges _ rfl _ rfl 64 keyedU fElem (Value.int .u64) Value.pointer (fun key kl hk => by obtain ⟨x, rfl, _⟩ := Maps.keyOf_int_inv Tryz.underlying64 hk; exact ⟨x, rfl⟩) (fun v y hv => fElem_ptr hv) B r n D left cnt rfl hrg ?_ ?_)
    · intro hc0 hl0
      have HFin : Hid (FsM wr A' u M' R s) := ⟨X', B', n', _, K', g', MX', MF', HCo0.out, by have := Hn.out.1; omega, fun i hi => Hn.out.2.1 i (HKK.out i hi), fun i hi => (HKl.out i (Hn.out.2.2.1 i hi)).resolve_left (by rw [hl0]; simp)⟩
      clear hrg hl0
      go_wp2_with fail
      go_ret
      exact ⟨A', M', rfl, HFin.out, HBw.out, HMw.out⟩
    · intro x c kl yd yp w5 cnt2 hkx hlx hRv hat2 hrg2 hlt hg5 hs5 hen
      obtain ⟨x', ex, rfl, _⟩ := Maps.keyOf_int_inv Tryz.underlying64 hkx
      cases ex
      obtain ⟨i, hiK, hik⟩ : ∃ i, i ∈ K ∧ Lit.int .u64 x = ku i := by
        refine Classical.byContradiction fun hno => ?_
        have h9 := HNone.out (.int .u64 x) (fun i hi e => hno ⟨i, hi, e⟩)
        rw [HLh.out _ hlx] at h9
        cases h9
      have hxi : x = (i : Int) := by unfold ku at hik; injection hik
      subst hxi
      have hy : yd = .lit (.int .i64 (g i : Int)) := by rw [← hat2 .nil]; exact (by rw [hik]; exact HAt.out i hiK _)
      have hc9 : Value.pointer c = .pointer (some ⟨g i, 0, none⟩) := fElem_inv (ps := yp) (by rw [hRv, ← hy])
      injection hc9 with hc9
      subst hc9
      have hi9 : i < 1000000000 := Ha.out.ks i hiK
      have hb5 : Below w.heap.size w w5 := HBw.out.grown hg5 HBw.out.size (fun k hk => by injection hk with hk; omega)
      have hg5c : Chg (fun i => i = r) wr w5 := Chg.of_grown hg5 (fun k hk => by injection hk with hk; exact hk.symm)
      have hCo5 := (HCo0.out.chg hg5c (fun j e => by rw [e]; exact ⟨HMr.out, HRr.out⟩))
      have HCo := Lib.hid hCo5.drew
      have hHa5 := (Ha.out.on hb5).drew
      have HFc := Lib.hid (fcopy_m (hHa5.files i hiK) (Nat.le_trans (Hn.out.2.2.2 i hiK) hT))
      have HR5 : Hid (w5.drew.ranges Tryz.prog 64 fElem B r n D (fun z => left z && !z.sameKey (ku i)) cnt2) := hrg2
      have HB5 : Hid (Below w.heap.size w w5.drew) := hb5.drew
      have hc1' := hCo5.cells.c1
      have HiK := Lib.hid hiK
      have Hlt := Lib.hid hlt
      have Hs5 : Hid (r < w5.drew.heap.size) := by have h9 := HRg.out.lt; show r < w5.heap.size; omega
      have hn9 : n ≤ 100000000 := by have := Hn.out.1; have := HF.out.dir.last; omega
      have hen2 := hen
      have hnn : n' + cnt2 < n := by omega
      obtain ⟨Fi, hFi⟩ : ∃ Fi, Fi = g i := ⟨_, rfl⟩
      rw [← hFi] at HFc hen2 ⊢
      clear hkx hlx hRv hat2 hrg hrg2 hlt hg5 hs5 hen hik hy hiK hb5 hg5c hCo5 hHa5 hFi
      go_wp2_with fail
      refine wp_region_noPanic ?_
      refine wp_region_held_drew (S := fun w' => w'.cell? ⟨A', 1, none⟩ = some (.map (some B'))) (by kernel_rfl) hc1' (fun hHeld => ?_)
      clear hc1' hen2
      generalize World.drew _ = W5 at *
      refine wpAnyH_take (i := 0) (v := ?_) opAt_0 (by kernel_rfl) (by kernel_rfl) (by kernel_rfl) (fun _ _ _ h => h) (Or.inl ⟨by rfl, ?_⟩) hHeld ?_
      rotate_left
      · (intro w' hSw; have k0 := hSw; go_simp; try with_reducible rfl)
      try simp only [Act.put, List.setIfInBounds_toArray, List.set_cons_zero, List.set_cons_succ]
      refine wpAnyH_take (i := 1) (v := ?_) opAt_1 (by kernel_rfl) (by kernel_rfl) (by kernel_rfl) (fun _ _ _ h => h) (Or.inl ⟨by rfl, ?_⟩) hHeld ?_
      rotate_left
      · (intro w' hSw; have k0 := hSw; go_simp; try with_reducible rfl)
      try simp only [Act.put, List.setIfInBounds_toArray, List.set_cons_zero, List.set_cons_succ]
      refine wpAnyH_take (i := 2) (v := ?_) opAt_2 (by kernel_rfl) (by kernel_rfl) (by kernel_rfl) (fun _ _ _ h => h) (Or.inl ⟨by rfl, ?_⟩) hHeld ?_
      rotate_left
      · (intro w' hSw; have k0 := hSw; go_simp; try with_reducible rfl)
      try simp only [Act.put, List.setIfInBounds_toArray, List.set_cons_zero, List.set_cons_succ]
      refine wpAnyH_take (i := 3) (v := ?_) opAt_3 (by kernel_rfl) (by kernel_rfl) (by kernel_rfl) (fun _ _ _ h => h) (Or.inl ⟨by rfl, ?_⟩) hHeld ?_
      rotate_left
      · (intro w' hSw; have k0 := hSw; go_simp; try with_reducible rfl)
      try simp only [Act.put, List.setIfInBounds_toArray, List.set_cons_zero, List.set_cons_succ]
      refine wpAnyH_ready (rs := [4]) (by kernel_rfl) (by simp) ?_
      refine AllReadyH.cons rfl (fun K hK => ?_) AllReadyH.nil
      go_simp
      refine HFc.out.mono ?_
      rintro e w4 ⟨F', M1, rfl, hfm, hb4, hM1⟩
      have HB4 := Lib.hid hb4
      have HFm := Lib.hid hfm
      have HM1 := Lib.hid hM1
      have hk4 : w4.cell? ⟨A', 1, none⟩ = some (.map (some B')) := (hb4.cell (p := ⟨A', 1, none⟩) (fblock_of_cell hHeld)).trans hHeld
      obtain ⟨w5, hrun, hmu5, ht5⟩ := (HCo.out.map.on HB4.out).store (by omega) (show i < 1000000000 by omega) F'
      have hc5 := Chg.of_turned ht5
      have HC5 := Lib.hid hc5
      have HT5 := Lib.hid ht5
      have HMU := Lib.hid hmu5
      have hAB := HCo.out.ab
      have hk5 : w5.cell? ⟨A', 1, none⟩ = some (.map (some B')) := cell_keep hc5 hAB hk4
      clear hb4 hfm hM1 hmu5 ht5 hc5
      try go_wp2_with fail
      refine hK.out _ _ hk4 (fun hHeld => ?_)
      clear hK K
      try simp only [Act.put, List.setIfInBounds_toArray, List.set_cons_zero, List.set_cons_succ]
      refine wpAnyH_ready (rs := [5]) (by kernel_rfl) (by simp) ?_
      refine AllReadyH.cons rfl (fun K hK => ?_) AllReadyH.nil
      go_simp
      refine hK.out _ _ hk5 (fun hHeld => ?_)
      clear hK K
      try simp only [Act.put, List.setIfInBounds_toArray, List.set_cons_zero, List.set_cons_succ]
      refine wpAnyH_done (by kernel_rfl) ?_ _
      refine NoPanic.normal ?_
      have h9 := HCo.out.add HB4.out HFm.out (fun _ e => e) HM1.out HMU.out HC5.out hi9
      have hst9 : ({ s with file := upd s.file i (s.file i) } : FsP) = s := by rw [upd_self]
      rw [hst9] at h9
      have H9 := Lib.hid h9
      have hr4 := HR5.out.kept (grown_below HB4.out) (by simp) (by simp)
      have hr5 := hr4.kept HT5.out.grown (fun e => by injection e with e; exact HB'r.out.2.1 e.symm) (fun e => by injection e with e; exact HB'r.out.1 e.symm)
      have HR9 := Lib.hid hr5
      have hgB : Below w.heap.size w w5 := ((HB5.out.trans (HB4.out.mono HB5.out.size)).trans ((HC5.out.below (Nat.le_trans HB5.out.size HB4.out.size) (fun j e => by have := HMw.out B' HCo0.out.mB; omega))))
      have HB9 := Lib.hid hgB
      have hM9 : ∀ j, (M' j ∨ M1 j) → w.heap.size ≤ j := fun j e => e.elim (HMw.out j) (fun e => by have := HM1.out j e; have := HB5.out.size; omega)
      have HM9 := Lib.hid hM9
      have hMr9 : ¬ (M' r ∨ M1 r) := fun e => e.elim HMr.out (fun e => by have := HM1.out r e; have := Hs5.out; omega)
      have HMr9 := Lib.hid hMr9
      clear h9 hst9 hr4 hr5 hgB hM9 hMr9 hHeld hk4 hk5 hrun
      go_wp2_with fail
      go_roundw
      case rel =>
        refine ⟨_, cnt2, n' + 1, i :: K', updN g' i F', _, _, HR9.out, fun kl hkl => HLh.out kl (by simp only [Bool.and_eq_true] at hkl; exact hkl.1), H9.out, by omega, fun j hj => (List.mem_cons.1 hj).elim (fun e => e ▸ HiK.out) (HKK.out j), fun j hj => ?_, HM9.out, HMr9.out, HB9.out⟩
        by_cases e : j = i
        · exact .inr (by rw [e]; simp)
        · rcases HKl.out j hj with h8 | h8
          · refine .inl ?_
            rw [h8]
            have h7 : (ku j).sameKey (ku i) = false := by
              cases hs : (ku j).sameKey (ku i)
              · rfl
              · exact absurd (sameKey_ku hs) e
            rw [h7]; rfl
          · exact .inr (List.mem_cons_of_mem _ h8)
      case measure => rw [HR9.out.left_eq, HRg.out.left_eq]; exact Hlt.out
end
end Go.Proofs.YtboeiadfmknidaaGreat
