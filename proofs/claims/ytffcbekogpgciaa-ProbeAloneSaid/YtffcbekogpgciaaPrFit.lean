
/-
  Layer 14 (probe): fit: all keys are laid anew.
-/
import Derived.Test.YtffcbekogpgciaaPrLay
import Derived.Test.YtffcbekogpgciaaPrStand
import Derived.RangeFuncWrites
set_option linter.unusedVariables false
set_option linter.unusedSimpArgs false
namespace Go.Proofs.Ytffcbekogpgciaa.Pr
open Go Go.RowKit
attribute [local go_sem] Oper.semAt_some

/-- the slots as the iterator tells them -/
structure Told (w : World) (S c : Nat) (R : Nat → Prop) (sl : List (Option E)) (arr : Array Value) (u : Nat → Bool) (ek : Nat → E) (A : Nat → Option Addr) (ck : Nat → Nat) : Prop where
  row : w.heap[S]? = some (.cells arr 49 (0, 0))
  used : ∀ i, i < sl.length → u i = true → sl[i]? = some (some (ek i)) ∧ arr[i * 4]? = some (.bool true) ∧ arr[i * 4 + 1]? = some (.slice (A i) (ek i).key.length (ck i)) ∧ arr[i * 4 + 2]? = some (.int .u64 ((ek i).n : Int)) ∧ arr[i * 4 + 3]? = some (.int .i64 ((ek i).far : Int)) ∧ (ek i).key.length ≤ ck i ∧ KeyR w R (A i) (ek i).key
  empty : ∀ i, i < sl.length → u i = false → sl[i]? = some none ∧ arr[i * 4]? = some (.bool false) ∧ arr[i * 4 + 1]? = some (.slice none 0 0) ∧ arr[i * 4 + 2]? = some (.int .u64 0) ∧ arr[i * 4 + 3]? = some (.int .i64 0)
theorem SlotsAt.told {w : World} {S c : Nat} {R : Nat → Prop} {sl : List (Option E)} (h : SlotsAt w S c R sl) : ∃ arr u ek A ck, Told w S c R sl arr u ek A ck := by
  obtain ⟨⟨arr, h0, h1, h2⟩, h3, h4, h5⟩ := h
  have key : ∀ i, ∃ (b : Bool) (e : E) (A : Option Addr) (ck : Nat), i < sl.length → ((b = true → sl[i]? = some (some e) ∧ arr[i * 4]? = some (.bool true) ∧ arr[i * 4 + 1]? = some (.slice A e.key.length ck) ∧ arr[i * 4 + 2]? = some (.int .u64 (e.n : Int)) ∧ arr[i * 4 + 3]? = some (.int .i64 (e.far : Int)) ∧ e.key.length ≤ ck ∧ KeyR w R A e.key) ∧
      (b = false → sl[i]? = some none ∧ arr[i * 4]? = some (.bool false) ∧ arr[i * 4 + 1]? = some (.slice none 0 0) ∧ arr[i * 4 + 2]? = some (.int .u64 0) ∧ arr[i * 4 + 3]? = some (.int .i64 0))) := by
    intro i
    by_cases hi : i < sl.length
    · cases ho : sl[i] with
      | none =>
        have hg : sl[i]? = some none := by rw [List.getElem?_eq_getElem hi, ho]
        exact ⟨false, ⟨[], 0, 0⟩, none, 0, fun _ => ⟨fun c => (by cases c), fun _ => ⟨hg, h2 i _ hg⟩⟩⟩
      | some e =>
        have hg : sl[i]? = some (some e) := by rw [List.getElem?_eq_getElem hi, ho]
        obtain ⟨A, ck, k⟩ := h2 i _ hg
        exact ⟨true, e, A, ck, fun _ => ⟨fun _ => ⟨hg, k⟩, fun c => by cases c⟩⟩
    · exact ⟨false, ⟨[], 0, 0⟩, none, 0, fun c => absurd c hi⟩
  refine ⟨arr, fun i => (key i).choose, fun i => (key i).choose_spec.choose, fun i => (key i).choose_spec.choose_spec.choose, fun i => (key i).choose_spec.choose_spec.choose_spec.choose, h0, fun i hi hu => ?_, fun i hi hu => ?_⟩
  · exact ((key i).choose_spec.choose_spec.choose_spec.choose_spec hi).1 hu
  · exact ((key i).choose_spec.choose_spec.choose_spec.choose_spec hi).2 hu
/-- what the used ones tell are the pairs -/
theorem Told.pairs {w : World} {S c : Nat} {R : Nat → Prop} {sl : List (Option E)} {arr : Array Value} {u : Nat → Bool} {ek : Nat → E} {A : Nat → Option Addr} {ck : Nat → Nat} (h : Told w S c R sl arr u ek A ck) :
    (usedIx u sl.length).map (fun i => ((ek i).key, (ek i).n)) = kn sl := by
  have e : sl = (List.range sl.length).map (fun i => if u i then some (ek i) else none) := by
    apply List.ext_getElem (by simp)
    intro i h1 h2
    rw [List.getElem_map, List.getElem_range]
    cases hu : u i with
    | true => have := (h.used i h1 hu).1; rw [List.getElem?_eq_getElem h1] at this; simpa using this
    | false => have := (h.empty i h1 hu).1; rw [List.getElem?_eq_getElem h1] at this; simpa using this
  conv => rhs; rw [e]
  unfold kn usedIx
  rw [List.filterMap_map]
  generalize List.range sl.length = l
  induction l with
  | nil => rfl
  | cons i r ih =>
    rw [List.filter_cons, List.filterMap_cons]
    cases hu : u i with
    | true => simp [hu]; exact ih
    | false => simp [hu]; exact ih
/-- new slots, none used -/
theorem slots_new {w : World} {n : Nat} {R : Nat → Prop} (hn : n ≤ maxLen) (hR : ∀ i, R i → i < w.heap.size) (arr : Array Value) (ha : arr.size = n * 4) (hz : ∀ i, i < n → arr[i * 4]? = some (.bool false) ∧ arr[i * 4 + 1]? = some (.slice none 0 0) ∧ arr[i * 4 + 2]? = some (.int .u64 0) ∧ arr[i * 4 + 3]? = some (.int .i64 0)) :
    SlotsAt (w.alloc (.cells arr 49)) w.heap.size n R (List.replicate n none) := by
  refine ⟨⟨arr, heap_alloc_new _ _, ha, fun i o ho => ?_⟩, by simp, hn, fun c => by have := hR _ c; omega⟩
  obtain ⟨hi, he⟩ := List.getElem?_eq_some_iff.1 ho
  rw [List.getElem_replicate] at he
  subst he
  exact hz i (by simpa using hi)
theorem lay_none (h : List UInt8 → Nat) (n : Nat) : Lay h (List.replicate n none) := by
  have e : ∀ i, at_ (List.replicate n (none : Option E)) i = none := by
    intro i
    unfold at_
    rw [List.getD_eq_getElem?_getD, List.getElem?_replicate]
    split <;> rfl
  exact ⟨fun i x hx => (by rw [e] at hx; cases hx), fun i x hx => (by rw [e] at hx; cases hx)⟩
theorem kn_none (n : Nat) : kn (List.replicate n none) = [] := by
  unfold kn
  induction n with
  | zero => rfl
  | succ n ih => rw [List.replicate_succ, List.filterMap_cons]; exact ih

theorem slot_info : (Try.prog.info? 49).map (fun i => (i.zero, i.size, i.bytes)) = some (some (.agg #[.bool false, .slice none 0 0, .int .u64 0, .int .i64 0]), 4, 48) := by kernel_rfl
/-- new slots' cells -/
def zslots (n : Nat) : Array Value := madeCells #[.bool false, .slice none 0 0, .int .u64 0, .int .i64 0] (n * 4)
theorem zslots_at (n i : Nat) (hi : i < n) : (zslots n)[i * 4]? = some (.bool false) ∧ (zslots n)[i * 4 + 1]? = some (.slice none 0 0) ∧ (zslots n)[i * 4 + 2]? = some (.int .u64 0) ∧ (zslots n)[i * 4 + 3]? = some (.int .i64 0) := by
  have e : ∀ j, j < 4 → (zslots n)[i * 4 + j]? = some (#[Value.bool false, .slice none 0 0, .int .u64 0, .int .i64 0][j]!) := by
    intro j hj
    unfold zslots madeCells
    rw [Array.getElem?_map, Array.getElem?_range, if_pos (by omega)]
    have : (i * 4 + j) % (#[Value.bool false, .slice none 0 0, .int .u64 0, .int .i64 0] : Array Value).size = j := by
      show (i * 4 + j) % 4 = j
      omega
    simp only [Option.map_some, this]
  exact ⟨e 0 (by omega), e 1 (by omega), e 2 (by omega), e 3 (by omega)⟩
theorem run_make_slots (n : Nat) (hn : n ≤ 1000000000) (w : World) :
    (Instr.makeSlice 41 (.int .i64 (n : Int)) (.int .i64 (n : Int))).run Try.prog w = .ok (.slice (some ⟨w.heap.size, 0, none⟩) n n) (w.alloc (.cells (zslots n) 49)) := by
  obtain ⟨i0, hi0, hz0, hz1, hz2⟩ := info_parts slot_info
  have := run_make (P := Try.prog) w 41 49 i0 _ Try.underlying41 hi0 hz0 .i64 .i64 (n : Int) (n : Int) (by omega) (Int.le_refl _) (by rw [hz2]; omega) (by omega)
  rw [hz1] at this
  simpa [zslots, Value.cells] using this

/-- fit's loop: what is laid anew so far -/
structure FitI (w W : World) (T S2 rk : Nat) (R : Nat → Prop) (seed keys Bt B4 : Nat) (ps : List (List UInt8 × Nat)) : Prop where
  tab : ∃ sl', Lay (fun k => Ky.hash seed k % rk) sl' ∧ sl'.length = rk ∧ List.Perm (kn sl') ps ∧ TabAt W T S2 rk R seed keys sl'
  chg : Chg (fun k => k = T) w W
  box : W.heap[Bt]? = some (.cells #[.pointer (some ⟨T, 0, none⟩)] 24 (0, 0))
  size : B4 ≤ W.heap.size
theorem FitI.chg' {w W W' : World} {T S2 rk : Nat} {R : Nat → Prop} {seed keys Bt B4 : Nat} {ps : List (List UInt8 × Nat)} {M : Nat → Prop} (h : FitI w W T S2 rk R seed keys Bt B4 ps) (hc : Chg M W W') (hM : ∀ i, M i → B4 ≤ i) (hT : T < B4) (hS : S2 < B4) (hb : Bt < B4) (hR : ∀ i, R i → i < B4) (hw : w.heap.size ≤ B4) : FitI w W' T S2 rk R seed keys Bt B4 ps := by
  obtain ⟨⟨sl', h1, h2, h3, h4⟩, h5, h6, h7⟩ := h
  exact ⟨⟨sl', h1, h2, h3, h4.chg hc (fun i hi c => by have := hM i hi; have := hR i c; omega) (fun c => by have := hM _ c; omega) (fun c => by have := hM _ c; omega)⟩, h5.trans hc (fun i hi => .inr (by have := hM i hi; omega)), (hc.block Bt (Array.getElem?_eq_some_iff.1 h6).1 (fun c => by have := hM _ c; omega)).trans h6, Nat.le_trans h7 hc.size⟩

set_option maxRecDepth 100000 in
set_option maxHeartbeats 8000000 in
theorem fit_b (T S c : Nat) (R : Nat → Prop) (seed keys : Nat) (sl : List (Option E)) (w : World) (h : TabAt w T S c R seed keys sl) (hR : ∀ i, R i → i < w.heap.size) (hs : seed < 18446744073709551616) (hn9 : sl.length < 200000000) (hn : 8 ≤ sl.length) (hk : keys < 10000000)
    (L : Lay (fun k => Ky.hash seed k % sl.length) sl) (hkn : (kn sl).length ≤ keys) (hkl : ∀ (i : Nat) (e : E), sl[i]? = some (some e) → e.key.length < 1000000) :
    Calls Try.prog 27 #[.pointer (some ⟨T, 0, none⟩)] w fun e w' => e = .returned (.tuple #[]) ∧
      ∃ S' c' sl', Lay (fun k => Ky.hash seed k % room keys) sl' ∧ sl'.length = room keys ∧ List.Perm (kn sl') (kn sl) ∧ TabAt w' T S' c' R seed keys sl' ∧ Chg (fun k => k = T) w w' ∧ (S' = S ∨ w.heap.size ≤ S') := by
  have HT := Lib.hid h
  have HL := Lib.hid L
  have HRl := Lib.hid hR
  have HKl := Lib.hid hkl
  have hTS := h.ne
  have hTlt := h.cells.lt
  have hSlt := h.slots.lt
  obtain ⟨arr, u, ek, Ak, ck, htold⟩ := h.slots.told
  have HTold := Lib.hid htold
  clear h L hR htold hkl
  obtain ⟨rk, hrk⟩ : ∃ rk, room keys = rk := ⟨_, rfl⟩
  have HRK := Lib.hid hrk
  have hr8 : 8 ≤ rk := by rw [← hrk]; exact room_ge keys
  have hr9 : rk ≤ 8 + 3 * keys := by rw [← hrk]; exact room_le keys
  have HFits : Hid (4 * keys ≤ 3 * rk) := Lib.hid (by rw [← hrk]; exact room_fits keys)
  rw [hrk]
  clear hrk
  obtain ⟨W1, hW1⟩ : ∃ W1, w.alloc (.cells #[.pointer (some ⟨T, 0, none⟩)] 24) = W1 := ⟨_, rfl⟩
  obtain ⟨Bt, hBt⟩ : ∃ Bt, w.heap.size = Bt := ⟨_, rfl⟩
  have HB1 : Hid (Below w.heap.size w W1) := Lib.hid (by rw [← hW1]; exact (Below.refl _ _).alloc (Nat.le_refl _) _)
  have hbt : W1.heap[Bt]? = some (.cells #[.pointer (some ⟨T, 0, none⟩)] 24 (0, 0)) := by rw [← hW1, ← hBt]; exact heap_alloc_new _ _
  have HBt := Lib.hid hbt
  have HBw : Hid (w.heap.size = Bt) := Lib.hid hBt
  have q0 : W1.cell? ⟨Bt, 0, none⟩ = some (.pointer (some ⟨T, 0, none⟩)) := by simp [World.cell?, hbt]
  have HT1 := Lib.hid (HT.out.on HB1.out)
  have t0 := HT1.out.cells.c0
  have t1 := HT1.out.cells.c1
  have t2 := HT1.out.cells.c2
  clear hbt
  refine (callsIn_wide (n := 5)).1 ?_
  refine callsIn_of_wp_marks Try.func27 rfl trivial ?_ rfl
  simp only [Try.ntmps27, List.size_toArray, List.length_cons, List.length_nil, Nat.reduceAdd, Nat.reduceSub, Array.replicate_succ, Array.replicate_zero, List.push_toArray, List.append_toArray, List.nil_append, List.cons_append]
  refine wpIn_wide.2 ?_
  go_wp2_with fail
  refine (room_b keys _ (by omega)).mono ?_
  rintro e w2 ⟨rfl, rfl⟩
  simp only [HRK.out]
  by_cases hsame : rk = sl.length
  · have j0 : ((rk : Int) == (sl.length : Int)) = true := by simp [hsame]
    have HSm := Lib.hid hsame
    clear hsame
    go_wp2_with fail
    refine ⟨_, results_none rfl _ _ _, rfl, S, c, sl, ?_, HSm.out.symm, List.Perm.refl _, HT1.out, Chg.of_below HB1.out, .inl rfl⟩
    rw [HSm.out]
    exact HL.out
  · have j0 : ((rk : Int) == (sl.length : Int)) = false := by simp; omega
    have hmk := run_make_slots rk (by omega)
    have tf1 := HT1.out.cells.f1
    go_wp2_with fail
    obtain ⟨S2, hS2⟩ : ∃ S2, W1.heap.size = S2 := ⟨_, rfl⟩
    have hbz : Below W1.heap.size W1 (W1.alloc (.cells (zslots rk) 49)) := (Below.refl _ _).alloc (Nat.le_refl _) _
    have HTz := Lib.hid (HT1.out.on hbz)
    have x0 : (W1.alloc (.cells (zslots rk) 49)).cell? ⟨Bt, 0, none⟩ = some (.pointer (some ⟨T, 0, none⟩)) := by rw [World.cell?_alloc_lt W1 _ _ (fblock_of_cell q0)]; exact q0
    have x1 := HTz.out.cells.c1
    have x2 := HTz.out.cells.f1
    have HSz : Hid (SlotsAt (W1.alloc (.cells (zslots rk) 49)) S2 rk R (List.replicate rk none)) := Lib.hid (by
      rw [← hS2]
      exact slots_new (by unfold maxLen; omega) (fun i hi => by have := HRl.out i hi; have := HB1.out.size; omega) _ (by unfold zslots; rw [size_madeCells]) (fun i hi => zslots_at rk i hi))
    have HS2 : Hid (w.heap.size ≤ S2) := Lib.hid (by rw [← hS2]; exact HB1.out.size)
    have HBz := Lib.hid (HB1.out.trans (hbz.mono HB1.out.size))
    have HBtz : Hid ((W1.alloc (.cells (zslots rk) 49)).heap[Bt]? = some (.cells #[.pointer (some ⟨T, 0, none⟩)] 24 (0, 0))) := Lib.hid ((hbz.block Bt (fblock_of_cell q0)).trans HBt.out)
    have HBt2 : Hid (Bt < S2) := Lib.hid (by rw [← hS2]; exact fblock_of_cell q0)
    clear hbz
    go_region
    obtain ⟨W2, hW2⟩ : ∃ W2, W1.alloc (.cells (zslots rk) 49) = W2 := ⟨_, rfl⟩
    obtain ⟨W3, hW3⟩ : ∃ W3, (W2.setCell ⟨T, 1, none⟩ (.slice (some ⟨S2, 0, none⟩) rk rk)).drew = W3 := ⟨_, rfl⟩
    rw [hW2, hW3]
    rw [hW2] at HSz HBz HTz HBtz
    have hc3 : Chg (fun k => k = T) W2 W3 := by rw [← hW3]; exact ((Chg.refl (M := fun k => k = T)).setCell (p := ⟨T, 1, none⟩) rfl _).drew
    have hTR : ∀ k, k = T → ¬ R k := fun k e c => HT.out.outT (e ▸ c)
    have HS3 := Lib.hid (HSz.out.chg hc3 hTR (fun e => by have := HS2.out; omega))
    have HC3 : Hid (TCells W3 T S2 rk seed rk keys) := Lib.hid (by
      rw [← hW3]
      exact (HTz.out.cells.set1 S2 rk rk).of_block rfl)
    have HOld3 := Lib.hid (HTz.out.slots.chg hc3 hTR (fun e => hTS e.symm))
    have HG3 := Lib.hid ((Chg.of_below (M := fun k => k = T) HBz.out).trans hc3 (fun k e => .inl e))
    have HBt3 := Lib.hid ((hc3.block Bt (Array.getElem?_eq_some_iff.1 HBtz.out).1 (fun e => by have := HBw.out; omega)).trans HBtz.out)
    clear hc3 hTR x0 x1 x2 hmk q0 t0 t1 t2 tf1 hW3 hW2 hS2 hW1
    go_wp2_with fail
    refine (standing_b _ _ _ _).mono ?_
    rintro e w4 ⟨rfl, hw4⟩
    obtain ⟨Bx, hBx⟩ : ∃ Bx, W3.heap.size = Bx := ⟨_, rfl⟩
    rw [hBx]
    have hb4 : Below W3.heap.size W3 w4 := by rw [hw4]; exact (Below.refl _ _).alloc (Nat.le_refl _) _
    have HBox4 : Hid (w4.heap[Bx]? = some (.cells #[.slice (some ⟨S, 0, none⟩) sl.length c] 41 (0, 0))) := Lib.hid (by rw [hw4, ← hBx]; exact heap_alloc_new _ _)
    have HS4 := Lib.hid (HS3.out.on hb4)
    have HC4 := Lib.hid (HC3.out.on hb4)
    have HG4 := Lib.hid (HG3.out.trans (Chg.of_below (M := fun k => k = T) hb4) (fun k e => .inl e))
    have HBt4 := Lib.hid ((hb4.block Bt (Array.getElem?_eq_some_iff.1 HBt3.out).1).trans HBt3.out)
    have HBx4 : Hid (S2 < Bx ∧ Bt < Bx ∧ Bx < w4.heap.size) := Lib.hid ⟨by rw [← hBx]; exact HS3.out.lt, by rw [← hBx]; exact (Array.getElem?_eq_some_iff.1 HBt3.out).1, (Array.getElem?_eq_some_iff.1 HBox4.out).1⟩
    clear hw4 hb4 hBx
    go_wp2_with fail
    have hencx : ∀ x : Ix u sl.length, encI (fun i => .bool (u i)) (fun i => if u i then .slice (Ak i) (ek i).key.length (ck i) else .slice none 0 0) (fun i => if u i then .int .u64 ((ek i).n : Int) else .int .u64 0) (fun i => if u i then .int .i64 ((ek i).far : Int) else .int .i64 0) x = #[(.agg #[.bool true, .slice (Ak x.1) (ek x.1).key.length (ck x.1), .int .u64 ((ek x.1).n : Int), .int .i64 ((ek x.1).far : Int)])] := fun x => by
      simp [encI, x.2.2]
    have HEncX := Lib.hid hencx
    clear hencx
    have hI0 : FitI w w4 T S2 rk R seed keys Bt w4.heap.size [] := ⟨⟨List.replicate rk none, lay_none _ _, by simp, by rw [kn_none], ⟨by simpa using HC4.out, HS4.out, by have := HS2.out; omega, HT.out.outT⟩⟩, HG4.out, HBt4.out, Nat.le_refl _⟩
    have HI0 := Lib.hid hI0
    have hT4 : T < w4.heap.size := by have := HG4.out.size; omega
    have hS4 : S2 < w4.heap.size := HS4.out.lt
    have hb4 : Bt < w4.heap.size := by have := HBx4.out; omega
    have HR4 : Hid (∀ i, R i → i < w4.heap.size) := Lib.hid (fun i hi => by have := HRl.out i hi; have := HG4.out.size; omega)
    have hw4 : w.heap.size ≤ w4.heap.size := HG4.out.size
    have hUl : (usedIx u sl.length).length ≤ keys := by rw [← List.length_map (f := fun i => ((ek i).key, (ek i).n)), HTold.out.pairs]; exact hkn
    clear hI0
    refine (wpIn_wide (n := 5)).1 ?_
    refine wpIn_rangeFunc_ownH rfl (by omega) (gf := 48) (lb := #[.pointer (some ⟨Bx, 0, none⟩)]) rfl trivial (enters_of Try.func48 (by kernel_rfl) rfl)
      (encs := fun x : Ix u sl.length => encI (fun i => .bool (u i)) (fun i => if u i then .slice (Ak i) (ek i).key.length (ck i) else .slice none 0 0) (fun i => if u i then .int .u64 ((ek i).n : Int) else .int .u64 0) (fun i => if u i then .int .i64 ((ek i).far : Int) else .int .i64 0) x)
      (Kp := KpS Bx S) (S := fun xs => xs.map Ix.num = usedIx u sl.length) (Sp := fun _ => True) (N := (usedIx u sl.length).length) (w0 := w4) ?hseq
      (fun h k => h.trans k) (fun W l o o' hl h hc hw => KpS.turn l o o' h hc) (Below.refl _ _) (fun x => rfl)
      (fun pre W => FitI w W T S2 rk R seed keys Bt w4.heap.size (pre.map fun x : Ix u sl.length => ((ek x.1).key, (ek x.1).n))) (fun _ _ _ => False)
      (fun pre A B row hs hg hr => hs.chg' (Chg.of_grown hg (M := fun i => row = some i) (fun g e => e)) (fun i e => (hr i e).1) hT4 hS4 hb4 HR4.out hw4) (fun _ _ _ _ _ hs _ _ => hs) HI0.out
      (fun x a' W => ∃ G, w4.heap.size ≤ G ∧ Box4 W G (.bool true) (.slice (Ak x.1) (ek x.1).key.length (ck x.1)) (.int .u64 ((ek x.1).n : Int)) (.int .i64 ((ek x.1).far : Int)) ∧ a' = { tmps := #[.pointer (some ⟨T, 0, none⟩), .pointer (some ⟨Bt, 0, none⟩), .int .i64 (rk : Int), .slice (some ⟨S, 0, none⟩) sl.length c, .pointer (some ⟨G, 0, none⟩), .pointer (some ⟨T, 0, none⟩), .pointer (some ⟨T, 0, none⟩), .pointer (some ⟨T, 2, none⟩), .int .i64 (keys : Int), .int .i64 (rk : Int), .int .i64 (rk : Int), .pointer (some ⟨T, 0, none⟩), .pointer (some ⟨T, 0, none⟩), .pointer (some ⟨T, 1, none⟩), .slice (some ⟨S, 0, none⟩) sl.length c, .int .i64 (sl.length : Int), .bool false, .pointer (some ⟨T, 0, none⟩), .pointer (some ⟨T, 0, none⟩), .pointer (some ⟨T, 1, none⟩), .slice (some ⟨S, 0, none⟩) sl.length c, .pointer (some ⟨T, 0, none⟩), .int .i64 (rk : Int), .slice (some ⟨S2, 0, none⟩) rk rk, .pointer (some ⟨T, 0, none⟩), .pointer (some ⟨T, 1, none⟩), .slice (some ⟨S, 0, none⟩) sl.length c, .func (.func 48) #[] #[.pointer (some ⟨Bx, 0, none⟩)], (.agg #[.bool true, .slice (Ak x.1) (ek x.1).key.length (ck x.1), .int .u64 ((ek x.1).n : Int), .int .i64 ((ek x.1).far : Int)]), undef, undef, undef], defers := [] })
      (fun x a' _ A B row hs hg hr => by
        obtain ⟨G, h1, h2, h3⟩ := hs
        refine ⟨G, h1, (hg.block G h2.lt (fun e => ?_)).trans h2, h3⟩
        obtain ⟨_, o, ho, hc⟩ := hr G e.symm
        rw [show A.heap[G]? = _ from h2] at ho
        injection ho with ho
        rw [← ho] at hc
        simp [Obj.isCells] at hc)
      ?assign ?body ?done (fun _ _ _ _ _ _ h _ => h.elim)
    case hseq =>
      intro l J Jx W hW hJ hJx hY h0
      have hrow : w4.heap[S]? = some (.cells arr 49 (0, 0)) := (HG4.out.block S hSlt (fun e => hTS e.symm)).trans HTold.out.row
      refine standing1_in 4 (by omega) l Bx S sl.length c arr _ _ _ _ u (by omega) ?_ J Jx hY W ⟨(hW.block Bx HBx4.out.2.2).trans HBox4.out, (hW.block S (Array.getElem?_eq_some_iff.1 hrow).1).trans hrow⟩ h0 (fun pre V o hj => hJ pre V (V.alloc o) none hj (World.grownBy_alloc V o none) (fun r e => by cases e))
      intro i hi
      cases hu : u i with
      | true =>
        obtain ⟨_, k0, k1, k2, k3, _⟩ := HTold.out.used i hi hu
        exact ⟨by rw [k0], rfl, by simpa using k1, by simpa using k2, by simpa using k3, Ak i, (ek i).key.length, ck i, ((ek i).n : Int), ((ek i).far : Int), by simp, by simp, by simp⟩
      | false =>
        obtain ⟨_, k0, k1, k2, k3⟩ := HTold.out.empty i hi hu
        exact ⟨by rw [k0], rfl, by simpa using k1, by simpa using k2, by simpa using k3, none, 0, 0, 0, 0, by simp, by simp, by simp⟩
    case assign =>
      intro l pre x W K hI hK
      rw [HEncX.out]
      have HI := Lib.hid hI
      have HK := Lib.hid hK
      clear hI hK
      gi_wp2
      exact HK.out _ _ ⟨by simp, fun k o _ hk _ => (Below.heap_alloc W _ k (Array.getElem?_eq_some_iff.1 hk).1).trans hk⟩ (KpS.alloc _)
        (HI.out.chg' (M := fun _ => False) ((Chg.refl).alloc _) (fun _ e => e.elim) hT4 hS4 hb4 HR4.out hw4) ⟨W.heap.size, HI.out.size, heap_alloc_new _ _, rfl⟩
    case body =>
      intro l pre x a' W hl hrec hI hA hlen
      obtain ⟨G, hG, hbox, rfl⟩ := hA
      obtain ⟨b0, b1, b2, b3⟩ := box4 hbox
      have hbt := hI.box
      have q0 : W.cell? ⟨Bt, 0, none⟩ = some (.pointer (some ⟨T, 0, none⟩)) := by simp [World.cell?, hbt]
      have HI := Lib.hid hI
      clear hI hbt
      obtain ⟨sl', hlay, hlen', hperm, htab⟩ := HI.out.tab
      have hpl : pre.length < rk := by have := HFits.out; omega
      have hE : Emp sl' := emp_of (by rw [hlen', hperm.length_eq, List.length_map]; exact hpl)
      have hL' : Lay (fun k => Ky.hash seed k % sl'.length) sl' := by rw [hlen']; exact hlay
      obtain ⟨hx0, _, _, _, _, hx5, hx6⟩ := HTold.out.used x.1 x.2.1 x.2.2
      have hxk : KeyR W R (Ak x.1) (ek x.1).key := hx6.chg HI.out.chg (fun i e c => HT.out.outT (e ▸ c))
      have hxl := HKl.out _ _ hx0
      have hRW : ∀ i, R i → i < W.heap.size := fun i hi => by have := HR4.out i hi; have := HI.out.size; omega
      have HTo := Lib.hid (lay_b T S2 rk R seed keys sl' W htab hRW hs (by omega) (by omega) hE hL' (Ak x.1) (ck x.1) (ek x.1).key (ek x.1).n (ek x.1).far hx5 hxk hxl)
      have HPe := Lib.hid hperm
      have HLe := Lib.hid hlen'
      clear hlay hlen' hperm htab hpl hE hL' hx0 hx5 hx6 hxk hxl hRW
      gi_wp2
      refine ⟨trivial, (CallsIn.inRound l (callsIn_wide.2 HTo.out)).mono ?_⟩
      rintro e W2 ⟨rfl, sl2, hto, htab, hch⟩
      gi_wp2
      refine ⟨⟨hch.size, fun k o hB hk _ => (hch.block k (Array.getElem?_eq_some_iff.1 hk).1 (fun c => by omega)).trans hk⟩, fun b hb arr t z e => ?_, ⟨sl2, ?_, ?_, ?_, htab⟩, HI.out.chg.trans hch (fun i c => .inr (by have := HS2.out; omega)), ?_, Nat.le_trans HI.out.size hch.size⟩
      · refine (hch.block b (Array.getElem?_eq_some_iff.1 e).1 (fun c => ?_)).trans e
        have := HBx4.out
        have := HS2.out
        omega
      · have := hto.1
        rw [HLe.out] at this
        exact this
      · rw [hto.2.1, HLe.out]
      · rw [List.map_append]
        exact hto.2.2.trans ((HPe.out.cons _).trans (List.perm_append_comm (l₁ := [((ek x.1).key, (ek x.1).n)])))
      · exact (hch.block Bt (Array.getElem?_eq_some_iff.1 HI.out.box).1 (fun c => by have := HBt2.out; omega)).trans HI.out.box
    case done =>
      intro D xs W hD hS hI hDe
      have HI := Lib.hid hI
      clear hI
      go_wp2_with fail
      refine ⟨by simp, .inl ⟨_, _, rfl, run_takeDeferred hDe, ?_⟩⟩
      obtain ⟨hoD, _⟩ := Array.getElem?_eq_some_iff.1 hDe
      have hcD : Chg (fun i => i = D) W (W.putObj D (.deferred none)) := Chg.of_grown (grownBy_putObj' W D _) (fun g e => by injection e with e; exact e.symm)
      have hF := HI.out.chg' hcD (fun i e => by omega) hT4 hS4 hb4 HR4.out hw4
      obtain ⟨sl2, h1, h2, h3, h4⟩ := hF.tab
      refine ⟨_, results_none rfl _ _ _, rfl, S2, rk, sl2, h1, h2, ?_, h4, hF.chg, .inr HS2.out⟩
      have hp := HTold.out.pairs
      rw [← hS, List.map_map] at hp
      have e : (List.map (fun x : Ix u sl.length => ((ek x.1).key, (ek x.1).n)) xs) = kn sl := hp
      rw [e] at h3
      exact h3
end Go.Proofs.Ytffcbekogpgciaa.Pr
