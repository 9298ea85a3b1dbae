
/-
  Layer 4: the walk of Of.
-/
import Derived.Test.YtaekndhchdpobaaKyMem
import Derived.Test.YtaekndhchdpobaaKyKnows
import Derived.Deep.MidRow
set_option linter.unusedVariables false
set_option linter.unusedSimpArgs false
namespace Go.Proofs.Ytaekndhchdpobaa
open Go.RowKit

/-- a print's cells: how many bytes, and eight words -/
def prCells (n : Nat) (f : Nat → Nat) : List Value := [.int .u8 (n : Int), .int .u64 (f 0 : Int), .int .u64 (f 1 : Int), .int .u64 (f 2 : Int), .int .u64 (f 3 : Int), .int .u64 (f 4 : Int), .int .u64 (f 5 : Int), .int .u64 (f 6 : Int), .int .u64 (f 7 : Int)]
def prv (n : Nat) (f : Nat → Nat) : Value := .agg (prCells n f).toArray
theorem prCells_one (n : Nat) (f : Nat → Nat) : (prCells n f).toArray.all (·.oneCell') = true := by simp [prCells, Value.oneCell']
theorem prCells_get (n : Nat) (f : Nat → Nat) (q : Nat) (h : q < 8) : (prCells n f)[1 + q]? = some (.int .u64 (f q : Int)) := by
  have : q = 0 ∨ q = 1 ∨ q = 2 ∨ q = 3 ∨ q = 4 ∨ q = 5 ∨ q = 6 ∨ q = 7 := by omega
  rcases this with rfl | rfl | rfl | rfl | rfl | rfl | rfl | rfl <;> rfl
theorem prCells_set (n : Nat) (f g : Nat → Nat) (q : Nat) (h : q < 8) (hg : ∀ i, i ≠ q → g i = f i) : (prCells n f).set (1 + q) (.int .u64 (g q : Int)) = prCells n g := by
  have : q = 0 ∨ q = 1 ∨ q = 2 ∨ q = 3 ∨ q = 4 ∨ q = 5 ∨ q = 6 ∨ q = 7 := by omega
  unfold prCells
  rcases this with rfl | rfl | rfl | rfl | rfl | rfl | rfl | rfl
  all_goals
    (try rw [hg 0 (by omega)])
    (try rw [hg 1 (by omega)])
    (try rw [hg 2 (by omega)])
    (try rw [hg 3 (by omega)])
    (try rw [hg 4 (by omega)])
    (try rw [hg 5 (by omega)])
    (try rw [hg 6 (by omega)])
    (try rw [hg 7 (by omega)])
    rfl
/-- the words of a row, the first j of them -/
def wordsJ (l : List UInt8) (j : Nat) (i : Nat) : Nat := if i < j then Ky.word (l.drop (8 * i)) else 0
def words (l : List UInt8) (i : Nat) : Nat := Ky.word (l.drop (8 * i))
theorem word_nil : Ky.word [] = 0 := rfl
theorem words_done (l : List UInt8) (j : Nat) (h : l.length ≤ 8 * j) : wordsJ l j = words l := by
  funext i
  unfold wordsJ words
  split
  · rfl
  · rw [List.drop_eq_nil_of_le (by omega)]; rfl

theorem block_of_cell4 {w : World} {a : Addr} {v : Value} (h : w.cell? a = some v) : a.block < w.heap.size := by
  rcases Nat.lt_or_ge a.block w.heap.size with h2 | h2
  · exact h2
  · simp [World.cell?, Array.getElem?_eq_none h2] at h
/-- a print that lies in a block -/
structure PrAt (w : World) (P n : Nat) (f : Nat → Nat) : Prop where
  range : w.rangeAt P 0 (prCells n f)
  there : w.there P 0 9
theorem PrAt.lt {w : World} {P n : Nat} {f : Nat → Nat} (h : PrAt w P n f) : P < w.heap.size := block_of_cell4 (h.range 0 _ rfl)
theorem PrAt.on {w w' : World} {P n : Nat} {f : Nat → Nat} (h : PrAt w P n f) (hb : Below w.heap.size w w') : PrAt w' P n f :=
  ⟨fun j v hv => (hb.cell (p := ⟨P, 0 + j, none⟩) h.lt).trans (h.range j v hv), fun j hj => ⟨by rw [hb.cell (p := ⟨P, 0 + j, none⟩) h.lt]; exact (h.there j hj).1, (World.frozen?_of_block (a := ⟨P, 0 + j, none⟩) (hb.block P h.lt)).trans (h.there j hj).2⟩⟩
theorem PrAt.drewN {w : World} {P n : Nat} {f : Nat → Nat} (h : PrAt w P n f) (k : Nat) : PrAt (w.drewN k) P n f := ⟨h.range, h.there⟩
theorem PrAt.cells {w : World} {P n : Nat} {f : Nat → Nat} (h : PrAt w P n f) :
    w.cell? ⟨P, 0, none⟩ = some (.int .u8 (n : Int)) ∧ w.cell? ⟨P, 1, none⟩ = some (.int .u64 (f 0 : Int)) ∧ w.cell? ⟨P, 2, none⟩ = some (.int .u64 (f 1 : Int)) ∧ w.cell? ⟨P, 3, none⟩ = some (.int .u64 (f 2 : Int)) ∧ w.cell? ⟨P, 4, none⟩ = some (.int .u64 (f 3 : Int)) ∧
    w.cell? ⟨P, 5, none⟩ = some (.int .u64 (f 4 : Int)) ∧ w.cell? ⟨P, 6, none⟩ = some (.int .u64 (f 5 : Int)) ∧ w.cell? ⟨P, 7, none⟩ = some (.int .u64 (f 6 : Int)) ∧ w.cell? ⟨P, 8, none⟩ = some (.int .u64 (f 7 : Int)) :=
  ⟨h.range 0 _ rfl, h.range 1 _ rfl, h.range 2 _ rfl, h.range 3 _ rfl, h.range 4 _ rfl, h.range 5 _ rfl, h.range 6 _ rfl, h.range 7 _ rfl, h.range 8 _ rfl⟩
theorem PrAt.at {w : World} {P n : Nat} {f : Nat → Nat} (h : PrAt w P n f) (q : Nat) (hq : q < 8) : w.cell? ⟨P, 1 + q, none⟩ = some (.int .u64 (f q : Int)) ∧ w.frozen? ⟨P, 1 + q, none⟩ = false := by
  have h1 := h.range (1 + q) _ (prCells_get n f q hq)
  have h2 := (h.there (1 + q) (by omega)).2
  rw [Nat.zero_add] at h1 h2
  exact ⟨h1, h2⟩
theorem PrAt.set {w : World} {P n : Nat} {f g : Nat → Nat} (h : PrAt w P n f) (q : Nat) (hq : q < 8) (hg : ∀ i, i ≠ q → g i = f i) : PrAt (w.setCell ⟨P, 1 + q, none⟩ (.int .u64 (g q : Int))) P n g := by
  have hs := prCells_set n f g q hq hg
  refine ⟨fun j v hv => ?_, fun j hj => ?_⟩
  · rw [← hs, List.getElem?_set] at hv
    rw [Nat.zero_add]
    by_cases e : 1 + q = j
    · subst e
      rw [if_pos rfl, if_pos (by simp [prCells]; omega)] at hv
      injection hv with hv
      subst hv
      exact World.cell?_setCell_same _ _ _ (h.at q hq).1
    · rw [if_neg e] at hv
      rw [World.cell?_setCell_other _ _ _ _ (by intro e'; injection e' with _ e'; exact e e')]
      have := h.range j v hv
      rwa [Nat.zero_add] at this
  · rw [Nat.zero_add]
    have h2 := h.there j hj
    rw [Nat.zero_add] at h2
    refine ⟨?_, by rw [World.frozen?_setCell]; exact h2.2⟩
    by_cases e : 1 + q = j
    · subst e
      rw [World.cell?_setCell_same _ _ _ (h.at q hq).1]
      rfl
    · rw [World.cell?_setCell_other _ _ _ _ (by intro e'; injection e' with _ e'; exact e e')]
      exact h2.1
theorem PrAt.new (w : World) (n : Nat) (f : Nat → Nat) : PrAt (w.alloc (.cells (prCells n f).toArray 58)) w.heap.size n f := by
  refine ⟨fun j v hv => ?_, fun j hj => ⟨?_, by simp⟩⟩
  · rw [Nat.zero_add, World.cell?_alloc_new]; simpa using hv
  · rw [Nat.zero_add, World.cell?_alloc_new]
    have : (prCells n f).length = 9 := rfl
    simp
    omega
/-- a whole print is stored -/
theorem PrAt.stored {w : World} {P n : Nat} {f : Nat → Nat} (h : PrAt w P n f) (m : Nat) (g : Nat → Nat) : PrAt (w.setCells P 0 (prCells m g)) P m g :=
  ⟨World.rangeAt_setCells_same w P 0 (prCells m g) h.there, World.there_setCells h.there P 0 _⟩
theorem below_setCells {B : Nat} {a w : World} (h : Below B a w) (P o : Nat) (vs : List Value) (hP : B ≤ P) : Below B a (w.setCells P o vs) := by
  induction vs generalizing w o with
  | nil => exact h
  | cons v r ih => rw [World.setCells]; exact ih (h.setCell (by exact hP) _) (o + 1)
theorem Bs.keepO {w w' : World} {B : Nat} {v : Value} {l : List UInt8} (h : Bs w B v l) (hB : B ≤ w.heap.size) (hb : Below w.heap.size w w') : Bs w' w'.heap.size v l := by
  obtain ⟨A, c, rfl, hc, hr⟩ := h
  exact ⟨A, c, rfl, hc, (hr.below hb hB).mono (Nat.le_trans hB hb.size)⟩
theorem of_no (v : Value) (l : List UInt8) (B : Nat) (w : World) (h : Bs w B v l) (hB : B ≤ w.heap.size) (h0 : l.length = 0 ∨ 64 < l.length) (h1 : l.length ≤ 9223372036854775807) :
    Calls Try.prog 28 #[v] w fun e w' => e = .returned (prv 0 (fun _ => 0)) ∧ Below w.heap.size w w' := by
  have H := Lib.hid h
  obtain ⟨A, c, rfl, _, _⟩ := h
  go_enter Try.func28, Try.ntmps28
  go_wp2_with fail
  have hp : PrAt (w.alloc (.cells #[.int .u8 0, .int .u64 0, .int .u64 0, .int .u64 0, .int .u64 0, .int .u64 0, .int .u64 0, .int .u64 0, .int .u64 0] 58)) w.heap.size 0 (fun _ => 0) := PrAt.new w 0 (fun _ => 0)
  have hb : Below w.heap.size w (w.alloc (.cells #[.int .u8 0, .int .u64 0, .int .u64 0, .int .u64 0, .int .u64 0, .int .u64 0, .int .u64 0, .int .u64 0, .int .u64 0] 58)) := bnew4 w _
  have H1 := Lib.hid (Bs.keepO H.out hB hb)
  have HP := Lib.hid hp
  have HB := Lib.hid hb
  clear hp hb
  generalize World.alloc _ _ = W at *
  refine (may_no_b _ _ _ _ H1.out h0 h1).mono ?_
  rintro e w1 ⟨rfl, rfl⟩
  go_wp2_with (refine wpList_store_mid rfl 58 (.tmp 2) (.tmp 8) rfl w.heap.size 0 (prCells 0 (fun _ => 0)).toArray rfl rfl HP.out.there (by kernel_rfl) (prCells_one _ _) ?_)
  obtain ⟨c0, c1, c2, c3, c4, c5, c6, c7, c8⟩ := (HP.out.stored 0 (fun _ => 0)).cells
  exact bodyPost_ret (v := prv 0 (fun _ => 0)) (by simp [results, Try.results28, go_sem, prv, c0, c1, c2, c3, c4, c5, c6, c7, c8]; rfl) rfl ⟨rfl, below_setCells HB.out _ _ _ (Nat.le_refl _)⟩

/-- how far Of has come -/
structure OfRel (w wr : World) (P Q : Nat) (l : List UInt8) (q : Nat) : Prop where
  own : PrAt wr P 0 (fun _ => 0)
  new : PrAt wr Q l.length (wordsJ l q)
  below : Below w.heap.size w wr
  le : 8 * q ≤ l.length + 7
theorem PrAt.other {w : World} {P n Q k : Nat} {f : Nat → Nat} (h : PrAt w P n f) (hne : P ≠ Q) (v : Value) : PrAt (w.setCell ⟨Q, k, none⟩ v) P n f := by
  refine ⟨fun j u hu => ?_, fun j hj => ?_⟩
  · exact (World.cell?_setCell_other _ _ _ _ (by intro e'; injection e' with e'; exact hne e'.symm)).trans (h.range j u hu)
  · rw [World.cell?_setCell_other _ _ _ _ (by intro e'; injection e' with e'; exact hne e'.symm), World.frozen?_setCell]
    exact h.there j hj
theorem OfRel.step {w wr : World} {P Q : Nat} {l : List UInt8} {q : Nat} (h : OfRel w wr P Q l q) (hne : P ≠ Q) (hQ : w.heap.size ≤ Q) (hq : 8 * q < l.length) (h64 : l.length ≤ 64) : OfRel w (wr.setCell ⟨Q, 1 + q, none⟩ (.int .u64 (Ky.word (l.drop (8 * q)) : Int))) P Q l (q + 1) := by
  have e : wordsJ l (q + 1) q = Ky.word (l.drop (8 * q)) := by unfold wordsJ; rw [if_pos (by omega)]
  refine ⟨h.own.other hne _, ?_, h.below.setCell hQ _, by omega⟩
  rw [← e]
  refine h.new.set q (by omega) (fun i hi => ?_)
  unfold wordsJ
  by_cases h1 : i < q
  · rw [if_pos (by omega), if_pos h1]
  · rw [if_neg (by omega), if_neg h1]

set_option maxRecDepth 100000 in
set_option maxHeartbeats 4000000 in
theorem of_yes (v : Value) (l : List UInt8) (B : Nat) (w : World) (h : Bs w B v l) (hB : B ≤ w.heap.size) (h0 : 0 < l.length) (h1 : l.length ≤ 64) :
    Calls Try.prog 28 #[v] w fun e w' => e = .returned (prv l.length (words l)) ∧ Below w.heap.size w w' := by
  have H := Lib.hid h
  obtain ⟨A, c, rfl, hlc, hr⟩ := h
  have hl8 : (l.length : Int) % 256 = (l.length : Int) := by omega
  have hzero : (fun _ => 0 : Nat → Nat) = wordsJ l 0 := by funext i; simp [wordsJ]
  have HZ := Lib.hid hzero
  have HRd := Lib.hid (hr.mono hB)
  clear hr hzero
  go_enter Try.func28, Try.ntmps28
  go_wp2_with fail
  have hp : PrAt (w.alloc (.cells #[.int .u8 0, .int .u64 0, .int .u64 0, .int .u64 0, .int .u64 0, .int .u64 0, .int .u64 0, .int .u64 0, .int .u64 0] 58)) w.heap.size 0 (fun _ => 0) := PrAt.new w 0 (fun _ => 0)
  have hb : Below w.heap.size w (w.alloc (.cells #[.int .u8 0, .int .u64 0, .int .u64 0, .int .u64 0, .int .u64 0, .int .u64 0, .int .u64 0, .int .u64 0, .int .u64 0] 58)) := bnew4 w _
  have hs : (w.alloc (.cells #[.int .u8 0, .int .u64 0, .int .u64 0, .int .u64 0, .int .u64 0, .int .u64 0, .int .u64 0, .int .u64 0, .int .u64 0] 58)).heap.size = w.heap.size + 1 := by simp
  have HP := Lib.hid hp
  have HB := Lib.hid hb
  have H1 := Lib.hid (Bs.keepO H.out hB hb)
  clear hp hb
  generalize World.alloc _ _ = W at *
  refine (may_yes_b _ _ _ _ H1.out h0 h1).mono ?_
  rintro e w1 ⟨rfl, rfl⟩
  go_wp2_with fail
  have hq : OfRel w (W.alloc (.cells #[.int .u8 (l.length : Int), .int .u64 0, .int .u64 0, .int .u64 0, .int .u64 0, .int .u64 0, .int .u64 0, .int .u64 0, .int .u64 0] 58)) w.heap.size (w.heap.size + 1) l 0 := by
    have h1 := PrAt.new W l.length (fun _ => 0)
    rw [HZ.out, hs] at h1
    exact ⟨HP.out.on (bnew4 W _), h1, HB.out.trans ((bnew4 W _).mono HB.out.size), by omega⟩
  have HO := Lib.hid hq
  clear hq hs hl8 HP HB H1
  generalize World.alloc W _ = W2 at *
  go_loopw [4] (fun i wr => ∃ p q : Nat, p = 8 * q ∧ i = .int .i64 p ∧ OfRel w wr w.heap.size (w.heap.size + 1) l q) (fun i _ => l.length + 8 - (intOf i).toNat)
  case atStart => exact ⟨0, 0, rfl, rfl, HO.out⟩
  case round =>
    obtain ⟨p, q, hpq, rfl, hrel⟩ := hrel
    have HR := Lib.hid hrel
    have hle := hrel.le
    clear HO hrel
    by_cases hlt : p < l.length
    · have hrd : Rd wr w.heap.size A (bvs l) := HRd.out.below HR.out.below (Nat.le_refl _)
      obtain ⟨A', c', hrun, hkc, hcut⟩ := cut_l A l.length c p (l.length - p) (by omega) hlc
      have hb : Bs wr w.heap.size (.slice A' (l.length - p) c') (l.drop p) := ⟨A', c', by rw [List.length_drop], by rw [List.length_drop]; exact hkc, hcut wr _ l hlc hrd⟩
      have Hb := Lib.hid hb
      have hq8 : q < 8 := by omega
      have hdiv : (p : Int) / 8 = (q : Int) := by omega
      obtain ⟨d1, d2⟩ := HR.out.new.at q hq8
      have hst := HR.out.step (by omega) (by omega) (by omega) h1
      rw [← hpq] at hst
      have hpq2 : p + 8 = 8 * (q + 1) := by omega
      have HPQ := Lib.hid hpq2
      have hlw := HR.out.below.size
      obtain ⟨k, hk⟩ : ∃ k, Ky.word (l.drop p) = k := ⟨_, rfl⟩
      rw [hk] at hst
      have HSt := Lib.hid hst
      have HK := Lib.hid hk
      clear hb hcut hrd hst hpq hpq2 hk
      go_wp2_with fail
      refine (word_any _ _ _ _ Hb.out (by rw [List.length_drop]; omega)).mono ?_
      rintro e w1 ⟨rfl, rfl⟩
      rw [HK.out]
      go_wp2_with fail
      go_roundw
      case rel => exact ⟨p + 8, q + 1, HPQ.out, by go_num, HSt.out⟩
      case measure => simp [intOf]; omega
    · have hw : wordsJ l q = words l := words_done l q (by omega)
      have HN : Hid (PrAt wr (w.heap.size + 1) l.length (words l)) := Lib.hid (by rw [← hw]; exact HR.out.new)
      clear hw
      have hr9 := HN.out.range
      have hro : wr.rangeAt (w.heap.size + 1) 0 (prCells l.length (words l)) := hr9
      clear hr9
      have HRO := Lib.hid hro
      clear hro
      go_wp2_with (first | (refine wpList_load_mid rfl 58 (.tmp 3) rfl (w.heap.size + 1) 0 rfl (prCells l.length (words l)) _ HRO.out Try.underlying58 (by rfl) (by kernel_rfl) ?_) | (refine wpList_store_mid rfl 58 (.tmp 2) (.tmp 27) rfl w.heap.size 0 (prCells l.length (words l)).toArray rfl rfl HR.out.own.there (by kernel_rfl) (prCells_one _ _) ?_))
      obtain ⟨c0, c1, c2, c3, c4, c5, c6, c7, c8⟩ := (HR.out.own.stored l.length (words l)).cells
      exact bodyPost_ret (v := prv l.length (words l)) (by simp [results, Try.results28, go_sem, prv, c0, c1, c2, c3, c4, c5, c6, c7, c8]; rfl) rfl ⟨rfl, below_setCells HR.out.below _ _ _ (Nat.le_refl _)⟩
end Go.Proofs.Ytaekndhchdpobaa
