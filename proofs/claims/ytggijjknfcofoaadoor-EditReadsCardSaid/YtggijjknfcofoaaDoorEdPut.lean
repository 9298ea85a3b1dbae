
/-
  Layer 9: the walks of put, putPart, putSeal.
-/
import Derived.Test.YtggijjknfcofoaaDoorEdMayW
import Derived.Test.YtggijjknfcofoaaDoorChg
import Derived.Lib.AppendStr
set_option linter.unusedVariables false
set_option linter.unusedSimpArgs false
namespace Go.Proofs.YtggijjknfcofoaaDoor
open Go.RowKit

/-- a row of bytes of the call's own, grown -/
structure Grows (base : Nat) (w w' : World) (v r : Value) (l : List UInt8) : Prop where
  own : w'.ownsRow base 5 1 r l.length (bvs l)
  chg : Chg (fun i => v.ownBlock = some i) w w'
  blk : r.ownBlock = v.ownBlock ∨ ∀ g, r.ownBlock = some g → w.heap.size ≤ g
theorem Grows.trans {base : Nat} {w w' w'' : World} {v r r' : Value} {l l' : List UInt8} (h : Grows base w w' v r l) (k : Grows base w' w'' r r' l') : Grows base w w'' v r' l' := by
  refine ⟨k.own, h.chg.trans k.chg fun i hi => ?_, ?_⟩
  · rcases h.blk with hb | hb
    · left; rw [← hb]; exact hi
    · exact .inr (hb i hi)
  · rcases k.blk with hk | hk
    · rcases h.blk with hb | hb
      · left; rw [hk, hb]
      · right; rw [hk]; exact hb
    · right; exact fun g hg => Nat.le_trans h.chg.size (hk g hg)
theorem Grows.below {base : Nat} {w w' : World} {v r : Value} {l : List UInt8} {n : Nat} {xs : List Value} (h : Grows base w w' v r l) (hv : w.ownsRow base 5 1 v n xs) (hb : base ≤ w.heap.size) : Below base w w' :=
  h.chg.below hb fun i hi => (hv.lt i hi).1
/-- a box apart from the row -/
theorem Grows.bx {base g : Nat} {w w' : World} {v r : Value} {l : List UInt8} {xs : List Value} (h : Grows base w w' v r l) (hx : Bx w g xs) (hv : ∀ i, v.ownBlock = some i → i ≠ g) : Bx w' g xs :=
  hx.of_block (Nat.lt_of_lt_of_le hx.lt h.chg.size) (h.chg.block g hx.lt fun e => hv g e rfl)

theorem eput_o (base : Nat) (v : Value) (l : List UInt8) (n : Nat) (w : World) (hown : w.ownsRow base 5 1 v l.length (bvs l)) (hbase : base ≤ w.heap.size) (hn : n < 18446744073709551616) (hm : l.length + 9 ≤ 1000000) :
    Calls Tryd.prog 30 #[v, .int .u64 n] w fun e w' => ∃ r, e = .returned r ∧ Grows base w w' v r (l ++ Px.formL n) := by
  obtain ⟨i0, hi0, hz0, hz1, hz2⟩ := info_parts byte_info
  have hsz := Px.sizeN_pos n
  have Hown := Lib.hid hown
  clear hown
  go_enter Tryd.func30, Tryd.ntmps30
  go_wp2_with fail
  refine (put_b _ [] n w (by exact Bs.none_) (by omega) (by omega) (by simp)).mono ?_
  rintro e w1 ⟨r, rfl, hown1, h1⟩
  rw [Int.toNat_natCast, List.nil_append] at hown1
  simp only [List.length_nil, Nat.zero_add] at hown1
  obtain ⟨A, c, rfl, hc, _, _⟩ := own_slice hown1
  have hr := Rd.of_own hown1
  have Hr := Lib.hid hr
  have Hv := Lib.hid (own_below Hown.out h1 (Nat.le_refl _))
  have H1 := Lib.hid h1
  have hs1 := h1.size
  clear hown1 hr h1
  go_wp2_with (at_builtin; (refine wpList_append_rd _ rfl _ _ 30 rfl base 5 i0 (.int .u8 0) 1 1 Tryd.underlying30 hi0 hz0 hz1 hz2 rfl (by omega) v l.length (bvs l) rfl Hv.out w1.heap.size A (Px.sizeN n) c (bvs (Px.formL n)) rfl (by rw [bvs_length, Px.formL_length]; omega) Hr.out (bvs_one _) (by unfold maxLen; omega) (by omega) (by omega) ?_); intro v2 w2 hown2 hbw2 hgr hblk)
  go_ret
  refine ⟨v2, rfl, ?_, ?_, ?_⟩
  · rw [List.length_append, Px.formL_length, bvs_append]
    exact hown2
  · exact (Chg.of_below H1.out).trans (M' := fun i => v.ownBlock = some i) (Chg.of_grown hgr fun g hg => hg) fun i hi => .inl hi
  · rcases hblk with hb | hb
    · exact .inl hb
    · right; intro g hg
      rw [hb] at hg
      injection hg with hg
      omega
theorem Grows.apart {base g : Nat} {w w' : World} {v r : Value} {l : List UInt8} (h : Grows base w w' v r l) (hg : g < w.heap.size) (hv : ∀ i, v.ownBlock = some i → i ≠ g) : ∀ i, r.ownBlock = some i → i ≠ g := fun i hi => by
  rcases h.blk with hb | hb
  · exact hv i (by rw [← hb]; exact hi)
  · have := hb i hi
    omega
theorem Grows.same {base : Nat} {w w' : World} {v : Value} {l : List UInt8} (hown : w.ownsRow base 5 1 v l.length (bvs l)) (hb : Below w.heap.size w w') : Grows base w w' v v l :=
  ⟨own_below hown hb (Nat.le_refl _), (Chg.of_below hb), .inl rfl⟩
theorem Grows.step {base : Nat} {w w1 w' : World} {v r : Value} {l : List UInt8} (hb : Below w.heap.size w w1) (h : Grows base w1 w' v r l) (hv : ∀ i, v.ownBlock = some i → i < w.heap.size) : Grows base w w' v r l :=
  ⟨h.own, (Chg.of_below hb).trans (M' := fun i => v.ownBlock = some i) h.chg fun i hi => .inl hi, h.blk.imp id fun k g hg => Nat.le_trans hb.size (k g hg)⟩
theorem putPart_o (base : Nat) (v : Value) (l : List UInt8) (b : Nat × Nat) (n : Nat) (w : World) (hown : w.ownsRow base 5 1 v l.length (bvs l)) (hbase : base ≤ w.heap.size) (hn : n < 18446744073709551616) (hm : l.length + 9 ≤ 1000000) :
    Calls Tryd.prog 29 #[v, bdV b, .int .u64 n] w fun e w' => ∃ r, e = .returned r ∧ Grows base w w' v r (l ++ Ed.partL b n) := by
  have Hown := Lib.hid hown
  clear hown
  unfold bdV
  have b0 := bnew w (.cells #[.int .u64 b.1, .int .u64 b.2] 63)
  have B0 := Lib.hid b0
  clear b0
  by_cases hb : b.1 = b.2
  · unfold Ed.partL
    rw [if_pos hb, List.append_nil]
    have Hb := Lib.hid hb
    clear hb
    go_enter Tryd.func29, Tryd.ntmps29
    go_wp2_with fail
    refine (btold_b b _ false (by simp [Hb.out])).mono ?_
    rintro e w1 ⟨rfl, h1⟩
    go_wp2_with fail
    go_ret
    exact ⟨v, rfl, Grows.same Hown.out (bstep B0.out h1)⟩
  · unfold Ed.partL
    rw [if_neg hb]
    have Hb := Lib.hid hb
    clear hb
    go_enter Tryd.func29, Tryd.ntmps29
    go_wp2_with fail
    refine (btold_b b _ true (by simp [Hb.out])).mono ?_
    rintro e w1 ⟨rfl, h1⟩
    have B1 := Lib.hid (bstep B0.out h1)
    clear h1
    go_wp2_with fail
    refine (eput_o base v l n w1 (own_below Hown.out B1.out (Nat.le_refl _)) (Nat.le_trans hbase B1.out.size) hn hm).mono ?_
    rintro e w2 ⟨r, rfl, h2⟩
    have H2 := Lib.hid h2
    clear h2
    go_wp2_with fail
    go_ret
    exact ⟨r, rfl, Grows.step B1.out H2.out fun i hi => (Hown.out.lt i hi).2⟩

set_option maxRecDepth 100000 in
set_option maxHeartbeats 8000000 in
theorem putSeal_o (base : Nat) (v : Value) (l : List UInt8) (s : Ed.Sl) (w : World) (hown : w.ownsRow base 5 1 v l.length (bvs l)) (hbase : base ≤ w.heap.size) (f : Ed.FitS s) (hs : s.many ≠ 0 → s.first ≤ s.last) (hm : l.length + 45 ≤ 1000000) :
    Calls Tryd.prog 31 #[v, slV s] w fun e w' => ∃ r, e = .returned r ∧ Grows base w w' v r (l ++ Ed.sealL s) := by
  have z1 : IntKind.u64.wrap (s.id : Int) = (s.id : Int) := IntWalk.u64_in _ (by have := f.id; omega)
  have z2 : IntKind.u64.wrap (s.size : Int) = (s.size : Int) := IntWalk.u64_in _ (by have := f.size; omega)
  have z3 : IntKind.u64.wrap (s.many : Int) = (s.many : Int) := IntWalk.u64_in _ (by have := f.many; omega)
  unfold slV
  have b0 := bnew w (.cells #[.int .u32 s.id, .int .u32 s.size, .int .u32 s.many, .int .u64 s.first, .int .u64 s.last] 28)
  have HX := Lib.hid (Bx.new w #[.int .u32 s.id, .int .u32 s.size, .int .u32 s.many, .int .u64 s.first, .int .u64 s.last] 28 _ rfl)
  have Hown := Lib.hid (own_below hown b0 (Nat.le_refl _))
  have Hlt := Lib.hid (fun i hi => (hown.lt i hi).2 : ∀ i, v.ownBlock = some i → i < w.heap.size)
  have B0 := Lib.hid b0
  have hbase' : base ≤ (w.alloc (.cells #[.int .u32 s.id, .int .u32 s.size, .int .u32 s.many, .int .u64 s.first, .int .u64 s.last] 28)).heap.size := by simp; omega
  have Hbase := Lib.hid hbase'
  have hS := Px.sizeN_pos s.id
  have hS2 := Px.sizeN_pos s.size
  have hS3 := Px.sizeN_pos s.many
  have hS4 := Px.sizeN_pos s.first
  have HL1 := Lib.hid (Px.formL_length s.id)
  have HL2 := Lib.hid (Px.formL_length s.size)
  have HL3 := Lib.hid (Px.formL_length s.many)
  have HL4 := Lib.hid (Px.formL_length s.first)
  have Hsl := Lib.hid hs
  clear b0 hown hbase' hs
  go_enter Tryd.func31, Tryd.ntmps31
  go_wp2_with fail
  refine (eput_o base v l s.id _ Hown.out Hbase.out (by have := f.id; omega) (by omega)).mono ?_
  rintro e w1 ⟨r1, rfl, h1⟩
  obtain ⟨c0, c1, c2, c3, c4⟩ := (h1.bx HX.out (fun i hi => Nat.ne_of_lt (Hlt.out i hi))).at5
  have X1 := Lib.hid (h1.bx HX.out (fun i hi => Nat.ne_of_lt (Hlt.out i hi)))
  have N1 := Lib.hid (h1.apart HX.out.lt (fun i hi => Nat.ne_of_lt (Hlt.out i hi)))
  have G1 := Lib.hid (h1)
  have T1 := Lib.hid (Nat.le_trans Hbase.out h1.chg.size)
  clear h1
  go_wp2_with fail
  refine (eput_o base r1 (l ++ Px.formL s.id) s.size w1 G1.out.own T1.out (by have := f.id; have := f.size; have := f.many; have := f.first; have := f.last; omega) (by simp only [List.length_append, HL1.out]; omega)).mono ?_
  rintro e w2 ⟨r2, rfl, h2⟩
  clear c0 c1 c2 c3 c4
  obtain ⟨c0, c1, c2, c3, c4⟩ := (h2.bx X1.out N1.out).at5
  have X2 := Lib.hid (h2.bx X1.out N1.out)
  have N2 := Lib.hid (h2.apart X1.out.lt N1.out)
  have G2 := Lib.hid (G1.out.trans h2)
  have T2 := Lib.hid (Nat.le_trans T1.out h2.chg.size)
  clear h2
  go_wp2_with fail
  refine (eput_o base r2 (l ++ Px.formL s.id ++ Px.formL s.size) s.many w2 G2.out.own T2.out (by have := f.id; have := f.size; have := f.many; have := f.first; have := f.last; omega) (by simp only [List.length_append, HL1.out, HL2.out]; omega)).mono ?_
  by_cases hm0 : s.many = 0
  · have em : ((s.many : Int) == 0) = true := by simp [hm0]
    have Hm0 := Lib.hid hm0
    clear hm0
    rintro e w3 ⟨r3, rfl, h3⟩
    clear c0 c1 c2 c3 c4
    obtain ⟨c0, c1, c2, c3, c4⟩ := (h3.bx X2.out N2.out).at5
    have X3 := Lib.hid (h3.bx X2.out N2.out)
    have N3 := Lib.hid (h3.apart X2.out.lt N2.out)
    have G3 := Lib.hid (G2.out.trans h3)
    have T3 := Lib.hid (Nat.le_trans T2.out h3.chg.size)
    clear h3
    go_wp2_with fail
    go_ret
    exact ⟨r3, rfl, by rw [show Ed.sealL s = _ from rfl]; unfold Ed.sealL; rw [if_pos Hm0.out]; simpa only [List.append_assoc, List.append_nil] using Grows.step B0.out G3.out Hlt.out⟩
  · have em : ((s.many : Int) == 0) = false := by simp [hm0]
    have hfl := Hsl.out hm0
    have z4 : IntKind.u64.wrap ((s.last : Int) - s.first) = ((s.last - s.first : Nat) : Int) := by rw [IntWalk.u64_in _ (by have := f.last; omega)]; omega
    have Hm0 := Lib.hid hm0
    have Hfl := Lib.hid hfl
    clear hm0 hfl
    rintro e w3 ⟨r3, rfl, h3⟩
    clear c0 c1 c2 c3 c4
    obtain ⟨c0, c1, c2, c3, c4⟩ := (h3.bx X2.out N2.out).at5
    have X3 := Lib.hid (h3.bx X2.out N2.out)
    have N3 := Lib.hid (h3.apart X2.out.lt N2.out)
    have G3 := Lib.hid (G2.out.trans h3)
    have T3 := Lib.hid (Nat.le_trans T2.out h3.chg.size)
    clear h3
    go_wp2_with fail
    refine (eput_o base r3 (l ++ Px.formL s.id ++ Px.formL s.size ++ Px.formL s.many) s.first w3 G3.out.own T3.out (by have := f.id; have := f.size; have := f.many; have := f.first; have := f.last; omega) (by simp only [List.length_append, HL1.out, HL2.out, HL3.out]; omega)).mono ?_
    rintro e w4 ⟨r4, rfl, h4⟩
    clear c0 c1 c2 c3 c4
    obtain ⟨c0, c1, c2, c3, c4⟩ := (h4.bx X3.out N3.out).at5
    have X4 := Lib.hid (h4.bx X3.out N3.out)
    have N4 := Lib.hid (h4.apart X3.out.lt N3.out)
    have G4 := Lib.hid (G3.out.trans h4)
    have T4 := Lib.hid (Nat.le_trans T3.out h4.chg.size)
    clear h4
    go_wp2_with fail
    refine (eput_o base r4 (l ++ Px.formL s.id ++ Px.formL s.size ++ Px.formL s.many ++ Px.formL s.first) (s.last - s.first) w4 G4.out.own T4.out (by have := f.id; have := f.size; have := f.many; have := f.first; have := f.last; omega) (by simp only [List.length_append, HL1.out, HL2.out, HL3.out, HL4.out]; omega)).mono ?_
    rintro e w5 ⟨r5, rfl, h5⟩
    clear c0 c1 c2 c3 c4
    obtain ⟨c0, c1, c2, c3, c4⟩ := (h5.bx X4.out N4.out).at5
    have X5 := Lib.hid (h5.bx X4.out N4.out)
    have N5 := Lib.hid (h5.apart X4.out.lt N4.out)
    have G5 := Lib.hid (G4.out.trans h5)
    have T5 := Lib.hid (Nat.le_trans T4.out h5.chg.size)
    clear h5
    go_wp2_with fail
    go_ret
    exact ⟨r5, rfl, by rw [show Ed.sealL s = _ from rfl]; unfold Ed.sealL; rw [if_neg Hm0.out]; simpa only [List.append_assoc, List.append_nil] using Grows.step B0.out G5.out Hlt.out⟩
end Go.Proofs.YtggijjknfcofoaaDoor
