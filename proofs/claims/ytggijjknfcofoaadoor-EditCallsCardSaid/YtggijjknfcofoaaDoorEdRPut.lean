
/-
  Layer 9: the document's answer: Put, kind by kind. (printed by tools/gen/ed_rput.py)
-/
import Derived.Test.YtggijjknfcofoaaDoorEdRSame
import Derived.Test.YtggijjknfcofoaaDoorEdSeal
import Derived.Test.YtggijjknfcofoaaDoorEdPutW
import Derived.Test.YtggijjknfcofoaaDoorRxForm
set_option linter.unusedVariables false
set_option linter.unusedSimpArgs false
namespace Go.Proofs.YtggijjknfcofoaaDoor
open Go.RowKit

/-- a new block that a seal was stored in, cell by cell -/
def sealW (w : World) (s : Ed.Sl) : World := w.alloc (.cells #[.int .u32 s.id, .int .u32 s.size, .int .u32 s.many, .int .u64 s.first, .int .u64 s.last] 28)
theorem sealW_bx (w : World) (s : Ed.Sl) : Bx (sealW w s) w.heap.size [.int .u32 s.id, .int .u32 s.size, .int .u32 s.many, .int .u64 s.first, .int .u64 s.last] := Bx.new w _ _ _ rfl
theorem sealW_below (w : World) (s : Ed.Sl) : Below w.heap.size w (sealW w s) := bnew w _
theorem bs_str {w : World} {base : Nat} {v : Value} {l : List UInt8} {nm : ByteArray} (h : w.ownsRow base 5 1 v (l.length + nm.size) (bvs l ++ Lib.strCells nm)) : Bs w w.heap.size v (l ++ nm.data.toList) := Bs.of_own (own_str h)
theorem own_len {w : World} {base n : Nat} {v : Value} {l m : List UInt8} (h : w.ownsRow base 5 1 v n (bvs (l ++ m))) : w.ownsRow base 5 1 v (l ++ m).length (bvs (l ++ m)) := by
  have e := h.1
  rw [bvs_length, Nat.mul_one] at e
  rw [e]
  exact h
theorem sealL_plain0 {s : Ed.Sl} (h : s.many = 0) : Ed.sealL s = Px.formL s.id ++ Px.formL s.size ++ Px.formL s.many := by
  unfold Ed.sealL
  rw [if_pos h]
  simp
theorem sealL_plain1 {s : Ed.Sl} (h : ¬ s.many = 0) : Ed.sealL s = Px.formL s.id ++ Px.formL s.size ++ Px.formL s.many ++ Px.formL s.first ++ Px.formL (s.last - s.first) := by
  unfold Ed.sealL
  rw [if_neg h]
  simp
theorem formL_le (n : Nat) : (Px.formL n).length ≤ 9 := by
  rw [Px.formL_length]
  exact (Px.sizeN_pos n).2

set_option maxRecDepth 100000 in
theorem rput9_no (v : Value) (e : Ed.E) (w : World) (h : EdV w w.heap.size v e) (f : Ed.Fit e) (hm : Ed.mayE e = false) :
    Calls Tryd.prog 10 #[v] w fun en w' => en = .returned (.tuple #[.slice none 0 0, .int .i64 1]) ∧ Below w.heap.size w w' := by
  obtain ⟨sv, rfl, hs⟩ := id h
  have b0 := bnew w (.cells #[.int .i64 e.kind, .string e.name, .int .u64 e.seq, .int .u32 e.id, sv] 36)
  obtain ⟨x0, x1, x2, x3, x4⟩ := (Bx.new w #[.int .i64 e.kind, .string e.name, .int .u64 e.seq, .int .u32 e.id, sv] 36 _ rfl).at5
  have hmy := rmay_any _ e _ (h.on b0) f
  rw [hm] at hmy
  have B0 := Lib.hid b0
  unfold edV at hmy ⊢
  clear h hs b0 hm
  go_enter Tryd.func10, Tryd.ntmps10
  go_wp2_with fail
  refine hmy.mono ?_
  rintro en w1 ⟨rfl, h1⟩
  go_wp2_with fail
  go_ret2
  exact ⟨rfl, bstep B0.out h1⟩
set_option maxRecDepth 100000 in
set_option maxHeartbeats 16000000 in
theorem rput9_1 (nm : ByteArray) (q i : Nat) (ss : List Ed.Sl) (sv : Value) (w : World) (hs : Sls w w.heap.size sv ss) (f : Ed.Fit ⟨1, nm, q, i, ss⟩) (hm : Ed.mayE ⟨1, nm, q, i, ss⟩ = true) :
    Calls Tryd.prog 10 #[edV 1 nm q i sv] w fun e w' => ∃ r, e = .returned (.tuple #[r, .int .i64 0]) ∧ Bs w' w'.heap.size r (Ed.bytesE ⟨1, nm, q, i, ss⟩) ∧ Below w.heap.size w w' := by
  obtain ⟨i0, hi0, hz0, hz1, hz2⟩ := info_parts byte_info
  obtain ⟨A, c, rfl, hc, hr⟩ := id hs
  have hm' := hm
  rw [rmay_plain_1, Bool.and_eq_true, decide_eq_true_eq] at hm'
  obtain rfl : i = 0 := by omega
  clear hm'
  have hn0 := f.many
  simp only at hn0
  have b0 := bnew w (.cells #[.int .i64 1, .string nm, .int .u64 q, .int .u32 0, .slice A ss.length c] 36)
  have HX := Lib.hid (Bx.new w #[.int .i64 1, .string nm, .int .u64 q, .int .u32 0, .slice A ss.length c] 36 _ rfl)
  obtain ⟨x0, x1, x2, x3, x4⟩ := HX.out.at5
  have hmy := rmay_any (edV 1 nm q 0 (.slice A ss.length c)) ⟨1, nm, q, 0, ss⟩ (w.alloc (.cells #[.int .i64 1, .string nm, .int .u64 q, .int .u32 0, .slice A ss.length c] 36)) ⟨_, rfl, hs.on b0⟩ f
  rw [hm] at hmy
  have HUM := Lib.hid (Ed.may_iff.1 hm).seals
  rw [rmay_plain_1, Bool.and_eq_true, decide_eq_true_eq] at hm
  obtain ⟨hp, hup⟩ := hm
  obtain ⟨hp1, hp2, hp3, hp4⟩ : (q ≤ 1099511627776) ∧ (nm.size = 0) ∧ (True) ∧ (ss.length = 0) := by refine ⟨?_, ?_, ?_, ?_⟩ <;> first | trivial | omega
  have HS := Lib.hid (hs.below b0 (Nat.le_refl _))
  have HF := Lib.hid f.seals
  have B0 := Lib.hid b0
  unfold edV at hmy ⊢
  have HE : Hid (Ed.bytesE ⟨1, nm, q, 0, ss⟩ = [1] ++ Px.formL q) := Lib.hid (by
    have hss : ss = [] := List.eq_nil_of_length_eq_zero (by omega)
    subst hss
    simp [Ed.bytesE, Ed.bodyL, Ed.partL, Ed.seqB, Ed.idB, Ed.manyB, Ed.namePart, Ed.nameT, Ed.nameL, Ed.sealsL])
  clear hr hup b0 hp hc
  have Hs := Lib.hid hs
  clear hs f
  rw [hp4] at hmy x4 HX B0 HS ⊢
  generalize hn : ss.length = n at *
  have Hn := Lib.hid hn
  clear hn
  try simp only [show ((0 : Nat) : Int) = 0 from rfl] at hmy x0 x1 x2 x3 x4 HX B0 HS ⊢
  go_enter Tryd.func10, Tryd.ntmps10
  go_wp2_with fail
  refine hmy.mono ?_
  rintro en w1 ⟨rfl, h1⟩
  clear x0 x1 x2 x3 x4
  have HX := Lib.hid ((HX.out.on h1).alloc (.cells #[.int .u8 1] 5))
  have HB := Lib.hid (balloc (bstep B0.out h1) (.cells #[.int .u8 1] 5))
  obtain ⟨x0, x1, x2, x3, x4⟩ := HX.out.at5
  have x0' := ((Bx.new w #[.int .i64 1, .string nm, .int .u64 q, .int .u32 0, .slice A 0 c] 36 _ rfl).on h1).cell 0 _ rfl
  have RB : Hid (Bs (w1.alloc (.cells #[.int .u8 1] 5)) (w1.alloc (.cells #[.int .u8 1] 5)).heap.size (.slice (some ⟨w1.heap.size, 0, none⟩) 1 1) [1]) := Lib.hid (by rw [World.size_alloc]; exact Bs.new w1 [1] 5)
  clear hmy h1
  go_wp2_with fail
  refine (rparts_1 _).mono ?_
  rintro en w2 ⟨rfl, rfl⟩
  clear x0'
  generalize hWW : w1.alloc _ = W at *
  clear hWW
  go_wp2_with fail
  refine (rput_any _ ([1]) (q : Nat) _ RB.out (by omega) (by omega) (by simp only [List.length_append, List.length_cons, List.length_nil, Px.formL_length]; omega)).mono ?_
  rintro en w3 ⟨r3, rfl, hown, hb⟩
  rw [Int.toNat_natCast] at hown
  have RO := Lib.hid (own_len hown)
  have RB := Lib.hid (Bs.of_own hown)
  have RZ := Lib.hid hb.size
  have HX := Lib.hid (HX.out.on hb)
  have HB := Lib.hid (bstep HB.out hb)
  clear x0 x1 x2 x3 x4
  obtain ⟨x0, x1, x2, x3, x4⟩ := HX.out.at5
  clear hown hb
  go_wp2_with fail
  go_loopg [4, 9, 10] 0 (fun gh bv iv _ wr => bv = r3 ∧ iv = .int .i64 0 ∧ wr = w3)
  case atStart => exact ⟨rfl, rfl, rfl⟩
  case round =>
    obtain ⟨rfl, rfl, rfl⟩ := hrel
    go_wp2_with fail
    go_ret2
    exact ⟨_, rfl, by rw [HE.out]; exact RB.out, HB.out⟩
set_option maxRecDepth 100000 in
set_option maxHeartbeats 16000000 in
theorem rput9_2 (nm : ByteArray) (q i : Nat) (ss : List Ed.Sl) (sv : Value) (w : World) (hs : Sls w w.heap.size sv ss) (f : Ed.Fit ⟨2, nm, q, i, ss⟩) (hm : Ed.mayE ⟨2, nm, q, i, ss⟩ = true) :
    Calls Tryd.prog 10 #[edV 2 nm q i sv] w fun e w' => ∃ r, e = .returned (.tuple #[r, .int .i64 0]) ∧ Bs w' w'.heap.size r (Ed.bytesE ⟨2, nm, q, i, ss⟩) ∧ Below w.heap.size w w' := by
  obtain ⟨i0, hi0, hz0, hz1, hz2⟩ := info_parts byte_info
  obtain ⟨A, c, rfl, hc, hr⟩ := id hs
  have hm' := hm
  rw [rmay_plain_2, Bool.and_eq_true, decide_eq_true_eq] at hm'
  obtain rfl : i = 0 := by omega
  clear hm'
  have hn0 := f.many
  simp only at hn0
  have b0 := bnew w (.cells #[.int .i64 2, .string nm, .int .u64 q, .int .u32 0, .slice A ss.length c] 36)
  have HX := Lib.hid (Bx.new w #[.int .i64 2, .string nm, .int .u64 q, .int .u32 0, .slice A ss.length c] 36 _ rfl)
  obtain ⟨x0, x1, x2, x3, x4⟩ := HX.out.at5
  have hmy := rmay_any (edV 2 nm q 0 (.slice A ss.length c)) ⟨2, nm, q, 0, ss⟩ (w.alloc (.cells #[.int .i64 2, .string nm, .int .u64 q, .int .u32 0, .slice A ss.length c] 36)) ⟨_, rfl, hs.on b0⟩ f
  rw [hm] at hmy
  have HUM := Lib.hid (Ed.may_iff.1 hm).seals
  rw [rmay_plain_2, Bool.and_eq_true, decide_eq_true_eq] at hm
  obtain ⟨hp, hup⟩ := hm
  obtain ⟨hp1, hp2, hp3, hp4⟩ : (q ≤ 1099511627776) ∧ (1 ≤ nm.size ∧ nm.size ≤ 32) ∧ (True) ∧ (ss.length = 0) := by refine ⟨?_, ?_, ?_, ?_⟩ <;> first | trivial | omega
  have HS := Lib.hid (hs.below b0 (Nat.le_refl _))
  have HF := Lib.hid f.seals
  have B0 := Lib.hid b0
  unfold edV at hmy ⊢
  have HE : Hid (Ed.bytesE ⟨2, nm, q, 0, ss⟩ = [2] ++ Px.formL q ++ Px.formL nm.size ++ nm.data.toList) := Lib.hid (by
    have hss : ss = [] := List.eq_nil_of_length_eq_zero (by omega)
    subst hss
    simp [Ed.bytesE, Ed.bodyL, Ed.partL, Ed.seqB, Ed.idB, Ed.manyB, Ed.namePart, Ed.nameT, Ed.nameL, Ed.sealsL])
  clear hr hup b0 hp hc
  have Hs := Lib.hid hs
  clear hs f
  rw [hp4] at hmy x4 HX B0 HS ⊢
  generalize hn : ss.length = n at *
  have Hn := Lib.hid hn
  clear hn
  try simp only [show ((0 : Nat) : Int) = 0 from rfl] at hmy x0 x1 x2 x3 x4 HX B0 HS ⊢
  go_enter Tryd.func10, Tryd.ntmps10
  go_wp2_with fail
  refine hmy.mono ?_
  rintro en w1 ⟨rfl, h1⟩
  clear x0 x1 x2 x3 x4
  have HX := Lib.hid ((HX.out.on h1).alloc (.cells #[.int .u8 2] 5))
  have HB := Lib.hid (balloc (bstep B0.out h1) (.cells #[.int .u8 2] 5))
  obtain ⟨x0, x1, x2, x3, x4⟩ := HX.out.at5
  have x0' := ((Bx.new w #[.int .i64 2, .string nm, .int .u64 q, .int .u32 0, .slice A 0 c] 36 _ rfl).on h1).cell 0 _ rfl
  have RB : Hid (Bs (w1.alloc (.cells #[.int .u8 2] 5)) (w1.alloc (.cells #[.int .u8 2] 5)).heap.size (.slice (some ⟨w1.heap.size, 0, none⟩) 1 1) [2]) := Lib.hid (by rw [World.size_alloc]; exact Bs.new w1 [2] 5)
  clear hmy h1
  go_wp2_with fail
  refine (rparts_2 _).mono ?_
  rintro en w2 ⟨rfl, rfl⟩
  clear x0'
  generalize hWW : w1.alloc _ = W at *
  clear hWW
  go_wp2_with fail
  refine (rput_any _ ([2]) (q : Nat) _ RB.out (by omega) (by omega) (by simp only [List.length_append, List.length_cons, List.length_nil, Px.formL_length]; omega)).mono ?_
  rintro en w3 ⟨r3, rfl, hown, hb⟩
  rw [Int.toNat_natCast] at hown
  have RO := Lib.hid (own_len hown)
  have RB := Lib.hid (Bs.of_own hown)
  have RZ := Lib.hid hb.size
  have HX := Lib.hid (HX.out.on hb)
  have HB := Lib.hid (bstep HB.out hb)
  clear x0 x1 x2 x3 x4
  obtain ⟨x0, x1, x2, x3, x4⟩ := HX.out.at5
  clear hown hb
  go_wp2_with fail
  have HBp := HB
  have HXp := HX
  refine (rput_any _ ([2] ++ Px.formL q) (nm.size : Nat) _ RB.out (by omega) (by omega) (by simp only [List.length_append, List.length_cons, List.length_nil, Px.formL_length]; have := (Px.sizeN_pos (q)).2; omega)).mono ?_
  rintro en w4 ⟨r4, rfl, hown, hb⟩
  rw [Int.toNat_natCast] at hown
  have RO := Lib.hid (own_len hown)
  have RB := Lib.hid (Bs.of_own hown)
  have RZ := Lib.hid hb.size
  have HX := Lib.hid (HX.out.on hb)
  have HB := Lib.hid (bstep HB.out hb)
  clear x0 x1 x2 x3 x4
  obtain ⟨x0, x1, x2, x3, x4⟩ := HX.out.at5
  clear hown hb
  go_wp2_with (at_builtin; (refine Lib.wpList_append_own_string _ rfl _ _ 30 9 rfl w3.heap.size 5 i0 Tryd.underlying30 Tryd.underlying9 hi0 hz0 hz1 hz2 r4 _ _ rfl RO.out nm rfl (by unfold maxLen; simp only [List.length_append, List.length_cons, List.length_nil, Px.formL_length]; have := (Px.sizeN_pos (q)).2; have := (Px.sizeN_pos (nm.size)).2; omega) (by simp only [List.length_append, List.length_cons, List.length_nil, Px.formL_length]; have := (Px.sizeN_pos (q)).2; have := (Px.sizeN_pos (nm.size)).2; omega) RZ.out ?_); intro v8 w8 hown8 hgr8 _; have hb : Below w3.heap.size w4 w8 := (Below.refl _ _).grown hgr8 RZ.out fun k hk => (RO.out.lt k hk).1; have RB := Lib.hid (bs_str hown8); have HB := Lib.hid (HB.out.trans (hb.mono HBp.out.size)); have HX := Lib.hid (HX.out.below hb HXp.out.lt); clear x0 x1 x2 x3 x4; obtain ⟨x0, x1, x2, x3, x4⟩ := HX.out.at5; clear hb hown8 hgr8 RO RZ)
  go_loopg [4, 9, 10] 0 (fun gh bv iv _ wr => bv = v8 ∧ iv = .int .i64 0 ∧ wr = w8)
  case atStart => exact ⟨rfl, rfl, rfl⟩
  case round =>
    obtain ⟨rfl, rfl, rfl⟩ := hrel
    go_wp2_with fail
    go_ret2
    exact ⟨_, rfl, by rw [HE.out]; exact RB.out, HB.out⟩
set_option maxRecDepth 100000 in
set_option maxHeartbeats 16000000 in
theorem rput9_3 (nm : ByteArray) (q i : Nat) (ss : List Ed.Sl) (sv : Value) (w : World) (hs : Sls w w.heap.size sv ss) (f : Ed.Fit ⟨3, nm, q, i, ss⟩) (hm : Ed.mayE ⟨3, nm, q, i, ss⟩ = true) :
    Calls Tryd.prog 10 #[edV 3 nm q i sv] w fun e w' => ∃ r, e = .returned (.tuple #[r, .int .i64 0]) ∧ Bs w' w'.heap.size r (Ed.bytesE ⟨3, nm, q, i, ss⟩) ∧ Below w.heap.size w w' := by
  obtain ⟨i0, hi0, hz0, hz1, hz2⟩ := info_parts byte_info
  obtain ⟨A, c, rfl, hc, hr⟩ := id hs
  have hm' := hm
  rw [rmay_plain_3, Bool.and_eq_true, decide_eq_true_eq] at hm'
  obtain rfl : q = 0 := by omega
  obtain rfl : i = 0 := by omega
  clear hm'
  have hn0 := f.many
  simp only at hn0
  have b0 := bnew w (.cells #[.int .i64 3, .string nm, .int .u64 0, .int .u32 0, .slice A ss.length c] 36)
  have HX := Lib.hid (Bx.new w #[.int .i64 3, .string nm, .int .u64 0, .int .u32 0, .slice A ss.length c] 36 _ rfl)
  obtain ⟨x0, x1, x2, x3, x4⟩ := HX.out.at5
  have hmy := rmay_any (edV 3 nm 0 0 (.slice A ss.length c)) ⟨3, nm, 0, 0, ss⟩ (w.alloc (.cells #[.int .i64 3, .string nm, .int .u64 0, .int .u32 0, .slice A ss.length c] 36)) ⟨_, rfl, hs.on b0⟩ f
  rw [hm] at hmy
  have HUM := Lib.hid (Ed.may_iff.1 hm).seals
  rw [rmay_plain_3, Bool.and_eq_true, decide_eq_true_eq] at hm
  obtain ⟨hp, hup⟩ := hm
  obtain ⟨hp1, hp2, hp3, hp4⟩ : (True) ∧ (1 ≤ nm.size ∧ nm.size ≤ 32) ∧ (True) ∧ (ss.length = 0) := by refine ⟨?_, ?_, ?_, ?_⟩ <;> first | trivial | omega
  have HS := Lib.hid (hs.below b0 (Nat.le_refl _))
  have HF := Lib.hid f.seals
  have B0 := Lib.hid b0
  unfold edV at hmy ⊢
  have HE : Hid (Ed.bytesE ⟨3, nm, 0, 0, ss⟩ = [3] ++ Px.formL nm.size ++ nm.data.toList) := Lib.hid (by
    have hss : ss = [] := List.eq_nil_of_length_eq_zero (by omega)
    subst hss
    simp [Ed.bytesE, Ed.bodyL, Ed.partL, Ed.seqB, Ed.idB, Ed.manyB, Ed.namePart, Ed.nameT, Ed.nameL, Ed.sealsL])
  clear hr hup b0 hp hc
  have Hs := Lib.hid hs
  clear hs f
  rw [hp4] at hmy x4 HX B0 HS ⊢
  generalize hn : ss.length = n at *
  have Hn := Lib.hid hn
  clear hn
  try simp only [show ((0 : Nat) : Int) = 0 from rfl] at hmy x0 x1 x2 x3 x4 HX B0 HS ⊢
  go_enter Tryd.func10, Tryd.ntmps10
  go_wp2_with fail
  refine hmy.mono ?_
  rintro en w1 ⟨rfl, h1⟩
  clear x0 x1 x2 x3 x4
  have HX := Lib.hid ((HX.out.on h1).alloc (.cells #[.int .u8 3] 5))
  have HB := Lib.hid (balloc (bstep B0.out h1) (.cells #[.int .u8 3] 5))
  obtain ⟨x0, x1, x2, x3, x4⟩ := HX.out.at5
  have x0' := ((Bx.new w #[.int .i64 3, .string nm, .int .u64 0, .int .u32 0, .slice A 0 c] 36 _ rfl).on h1).cell 0 _ rfl
  have RB : Hid (Bs (w1.alloc (.cells #[.int .u8 3] 5)) (w1.alloc (.cells #[.int .u8 3] 5)).heap.size (.slice (some ⟨w1.heap.size, 0, none⟩) 1 1) [3]) := Lib.hid (by rw [World.size_alloc]; exact Bs.new w1 [3] 5)
  clear hmy h1
  go_wp2_with fail
  refine (rparts_3 _).mono ?_
  rintro en w2 ⟨rfl, rfl⟩
  clear x0'
  generalize hWW : w1.alloc _ = W at *
  clear hWW
  go_wp2_with fail
  have HBp := HB
  have HXp := HX
  refine (rput_any _ ([3]) (nm.size : Nat) _ RB.out (by omega) (by omega) (by simp only [List.length_append, List.length_cons, List.length_nil, Px.formL_length]; omega)).mono ?_
  rintro en w3 ⟨r3, rfl, hown, hb⟩
  rw [Int.toNat_natCast] at hown
  have RO := Lib.hid (own_len hown)
  have RB := Lib.hid (Bs.of_own hown)
  have RZ := Lib.hid hb.size
  have HX := Lib.hid (HX.out.on hb)
  have HB := Lib.hid (bstep HB.out hb)
  clear x0 x1 x2 x3 x4
  obtain ⟨x0, x1, x2, x3, x4⟩ := HX.out.at5
  clear hown hb
  go_wp2_with (at_builtin; (refine Lib.wpList_append_own_string _ rfl _ _ 30 9 rfl W.heap.size 5 i0 Tryd.underlying30 Tryd.underlying9 hi0 hz0 hz1 hz2 r3 _ _ rfl RO.out nm rfl (by unfold maxLen; simp only [List.length_append, List.length_cons, List.length_nil, Px.formL_length]; have := (Px.sizeN_pos (nm.size)).2; omega) (by simp only [List.length_append, List.length_cons, List.length_nil, Px.formL_length]; have := (Px.sizeN_pos (nm.size)).2; omega) RZ.out ?_); intro v8 w8 hown8 hgr8 _; have hb : Below W.heap.size w3 w8 := (Below.refl _ _).grown hgr8 RZ.out fun k hk => (RO.out.lt k hk).1; have RB := Lib.hid (bs_str hown8); have HB := Lib.hid (HB.out.trans (hb.mono HBp.out.size)); have HX := Lib.hid (HX.out.below hb HXp.out.lt); clear x0 x1 x2 x3 x4; obtain ⟨x0, x1, x2, x3, x4⟩ := HX.out.at5; clear hb hown8 hgr8 RO RZ)
  go_loopg [4, 9, 10] 0 (fun gh bv iv _ wr => bv = v8 ∧ iv = .int .i64 0 ∧ wr = w8)
  case atStart => exact ⟨rfl, rfl, rfl⟩
  case round =>
    obtain ⟨rfl, rfl, rfl⟩ := hrel
    go_wp2_with fail
    go_ret2
    exact ⟨_, rfl, by rw [HE.out]; exact RB.out, HB.out⟩
set_option maxRecDepth 100000 in
set_option maxHeartbeats 16000000 in
theorem rput9_4 (nm : ByteArray) (q i : Nat) (ss : List Ed.Sl) (sv : Value) (w : World) (hs : Sls w w.heap.size sv ss) (f : Ed.Fit ⟨4, nm, q, i, ss⟩) (hm : Ed.mayE ⟨4, nm, q, i, ss⟩ = true) :
    Calls Tryd.prog 10 #[edV 4 nm q i sv] w fun e w' => ∃ r, e = .returned (.tuple #[r, .int .i64 0]) ∧ Bs w' w'.heap.size r (Ed.bytesE ⟨4, nm, q, i, ss⟩) ∧ Below w.heap.size w w' := by
  obtain ⟨i0, hi0, hz0, hz1, hz2⟩ := info_parts byte_info
  obtain ⟨A, c, rfl, hc, hr⟩ := id hs
  have hm' := hm
  rw [rmay_plain_4, Bool.and_eq_true, decide_eq_true_eq] at hm'
  obtain rfl : q = 0 := by omega
  clear hm'
  have hn0 := f.many
  simp only at hn0
  have b0 := bnew w (.cells #[.int .i64 4, .string nm, .int .u64 0, .int .u32 i, .slice A ss.length c] 36)
  have HX := Lib.hid (Bx.new w #[.int .i64 4, .string nm, .int .u64 0, .int .u32 i, .slice A ss.length c] 36 _ rfl)
  obtain ⟨x0, x1, x2, x3, x4⟩ := HX.out.at5
  have hmy := rmay_any (edV 4 nm 0 i (.slice A ss.length c)) ⟨4, nm, 0, i, ss⟩ (w.alloc (.cells #[.int .i64 4, .string nm, .int .u64 0, .int .u32 i, .slice A ss.length c] 36)) ⟨_, rfl, hs.on b0⟩ f
  rw [hm] at hmy
  have HUM := Lib.hid (Ed.may_iff.1 hm).seals
  rw [rmay_plain_4, Bool.and_eq_true, decide_eq_true_eq] at hm
  obtain ⟨hp, hup⟩ := hm
  obtain ⟨hp1, hp2, hp3, hp4⟩ : (True) ∧ (nm.size = 0) ∧ (1 ≤ i ∧ i ≤ 16777215) ∧ (ss.length = 0) := by refine ⟨?_, ?_, ?_, ?_⟩ <;> first | trivial | omega
  have HS := Lib.hid (hs.below b0 (Nat.le_refl _))
  have HF := Lib.hid f.seals
  have B0 := Lib.hid b0
  unfold edV at hmy ⊢
  have HE : Hid (Ed.bytesE ⟨4, nm, 0, i, ss⟩ = [4] ++ Px.formL i) := Lib.hid (by
    have hss : ss = [] := List.eq_nil_of_length_eq_zero (by omega)
    subst hss
    simp [Ed.bytesE, Ed.bodyL, Ed.partL, Ed.seqB, Ed.idB, Ed.manyB, Ed.namePart, Ed.nameT, Ed.nameL, Ed.sealsL])
  clear hr hup b0 hp hc
  have Hs := Lib.hid hs
  clear hs f
  rw [hp4] at hmy x4 HX B0 HS ⊢
  generalize hn : ss.length = n at *
  have Hn := Lib.hid hn
  clear hn
  try simp only [show ((0 : Nat) : Int) = 0 from rfl] at hmy x0 x1 x2 x3 x4 HX B0 HS ⊢
  go_enter Tryd.func10, Tryd.ntmps10
  go_wp2_with fail
  refine hmy.mono ?_
  rintro en w1 ⟨rfl, h1⟩
  clear x0 x1 x2 x3 x4
  have HX := Lib.hid ((HX.out.on h1).alloc (.cells #[.int .u8 4] 5))
  have HB := Lib.hid (balloc (bstep B0.out h1) (.cells #[.int .u8 4] 5))
  obtain ⟨x0, x1, x2, x3, x4⟩ := HX.out.at5
  have x0' := ((Bx.new w #[.int .i64 4, .string nm, .int .u64 0, .int .u32 i, .slice A 0 c] 36 _ rfl).on h1).cell 0 _ rfl
  have RB : Hid (Bs (w1.alloc (.cells #[.int .u8 4] 5)) (w1.alloc (.cells #[.int .u8 4] 5)).heap.size (.slice (some ⟨w1.heap.size, 0, none⟩) 1 1) [4]) := Lib.hid (by rw [World.size_alloc]; exact Bs.new w1 [4] 5)
  clear hmy h1
  go_wp2_with fail
  refine (rparts_4 _).mono ?_
  rintro en w2 ⟨rfl, rfl⟩
  clear x0'
  generalize hWW : w1.alloc _ = W at *
  clear hWW
  go_wp2_with fail
  refine (rput_any _ ([4]) (i : Nat) _ RB.out (by omega) (by omega) (by simp only [List.length_append, List.length_cons, List.length_nil, Px.formL_length]; omega)).mono ?_
  rintro en w3 ⟨r3, rfl, hown, hb⟩
  rw [Int.toNat_natCast] at hown
  have RO := Lib.hid (own_len hown)
  have RB := Lib.hid (Bs.of_own hown)
  have RZ := Lib.hid hb.size
  have HX := Lib.hid (HX.out.on hb)
  have HB := Lib.hid (bstep HB.out hb)
  clear x0 x1 x2 x3 x4
  obtain ⟨x0, x1, x2, x3, x4⟩ := HX.out.at5
  clear hown hb
  go_wp2_with fail
  go_loopg [4, 9, 10] 0 (fun gh bv iv _ wr => bv = r3 ∧ iv = .int .i64 0 ∧ wr = w3)
  case atStart => exact ⟨rfl, rfl, rfl⟩
  case round =>
    obtain ⟨rfl, rfl, rfl⟩ := hrel
    go_wp2_with fail
    go_ret2
    exact ⟨_, rfl, by rw [HE.out]; exact RB.out, HB.out⟩
set_option maxRecDepth 100000 in
set_option maxHeartbeats 16000000 in
theorem rput9_5 (nm : ByteArray) (q i : Nat) (ss : List Ed.Sl) (sv : Value) (w : World) (hs : Sls w w.heap.size sv ss) (f : Ed.Fit ⟨5, nm, q, i, ss⟩) (hm : Ed.mayE ⟨5, nm, q, i, ss⟩ = true) :
    Calls Tryd.prog 10 #[edV 5 nm q i sv] w fun e w' => ∃ r, e = .returned (.tuple #[r, .int .i64 0]) ∧ Bs w' w'.heap.size r (Ed.bytesE ⟨5, nm, q, i, ss⟩) ∧ Below w.heap.size w w' := by
  obtain ⟨i0, hi0, hz0, hz1, hz2⟩ := info_parts byte_info
  obtain ⟨A, c, rfl, hc, hr⟩ := id hs
  have hm' := hm
  rw [rmay_plain_5, Bool.and_eq_true, decide_eq_true_eq] at hm'
  obtain rfl : q = 0 := by omega
  obtain rfl : i = 0 := by omega
  clear hm'
  have hn0 := f.many
  simp only at hn0
  have b0 := bnew w (.cells #[.int .i64 5, .string nm, .int .u64 0, .int .u32 0, .slice A ss.length c] 36)
  have HX := Lib.hid (Bx.new w #[.int .i64 5, .string nm, .int .u64 0, .int .u32 0, .slice A ss.length c] 36 _ rfl)
  obtain ⟨x0, x1, x2, x3, x4⟩ := HX.out.at5
  have hmy := rmay_any (edV 5 nm 0 0 (.slice A ss.length c)) ⟨5, nm, 0, 0, ss⟩ (w.alloc (.cells #[.int .i64 5, .string nm, .int .u64 0, .int .u32 0, .slice A ss.length c] 36)) ⟨_, rfl, hs.on b0⟩ f
  rw [hm] at hmy
  have HUM := Lib.hid (Ed.may_iff.1 hm).seals
  rw [rmay_plain_5, Bool.and_eq_true, decide_eq_true_eq] at hm
  obtain ⟨hp, hup⟩ := hm
  obtain ⟨hp1, hp2, hp3, hp4⟩ : (True) ∧ (nm.size = 0) ∧ (True) ∧ (ss.length = 1) := by refine ⟨?_, ?_, ?_, ?_⟩ <;> first | trivial | omega
  have HS := Lib.hid (hs.below b0 (Nat.le_refl _))
  have HF := Lib.hid f.seals
  have B0 := Lib.hid b0
  unfold edV at hmy ⊢
  have HE : Hid (Ed.bytesE ⟨5, nm, 0, 0, ss⟩ = [5] ++ Ed.sealsL ss) := Lib.hid (by
    simp [Ed.bytesE, Ed.bodyL, Ed.partL, Ed.seqB, Ed.idB, Ed.manyB, Ed.namePart, Ed.nameT, Ed.nameL, Ed.sealsL])
  clear hr hup b0 hp hc
  have Hs := Lib.hid hs
  clear hs f
  rw [hp4] at hmy x4 HX B0 HS ⊢
  generalize hn : ss.length = n at *
  have Hn := Lib.hid hn
  clear hn
  try simp only [show ((0 : Nat) : Int) = 0 from rfl] at hmy x0 x1 x2 x3 x4 HX B0 HS ⊢
  go_enter Tryd.func10, Tryd.ntmps10
  go_wp2_with fail
  refine hmy.mono ?_
  rintro en w1 ⟨rfl, h1⟩
  clear x0 x1 x2 x3 x4
  have HX := Lib.hid ((HX.out.on h1).alloc (.cells #[.int .u8 5] 5))
  have HB := Lib.hid (balloc (bstep B0.out h1) (.cells #[.int .u8 5] 5))
  obtain ⟨x0, x1, x2, x3, x4⟩ := HX.out.at5
  have x0' := ((Bx.new w #[.int .i64 5, .string nm, .int .u64 0, .int .u32 0, .slice A 1 c] 36 _ rfl).on h1).cell 0 _ rfl
  have RB : Hid (Bs (w1.alloc (.cells #[.int .u8 5] 5)) (w1.alloc (.cells #[.int .u8 5] 5)).heap.size (.slice (some ⟨w1.heap.size, 0, none⟩) 1 1) [5]) := Lib.hid (by rw [World.size_alloc]; exact Bs.new w1 [5] 5)
  clear hmy h1
  go_wp2_with fail
  refine (rparts_5 _).mono ?_
  rintro en w2 ⟨rfl, rfl⟩
  clear x0'
  generalize hWW : w1.alloc _ = W at *
  clear hWW
  go_wp2_with fail
  obtain ⟨l5, hl5⟩ : ∃ l : List UInt8, [5] = l := ⟨_, rfl⟩
  have hl69 : l5.length ≤ 69 := by
    rw [← hl5]
    simp only [List.length_append, List.length_cons, List.length_nil, Px.formL_length]
    omega
  rw [hl5] at RB
  have HL5 := Lib.hid hl5
  have HL69 := Lib.hid hl69
  have hZ : w.heap.size ≤ W.heap.size := HB.out.size
  have Hms := Lib.hid (Ed.upS_mem ss 0 HUM.out)
  clear hl5 hl69 x0 x1 x2 x3 x4
  go_loopg [4, 9, 10] 1 (fun gh bv iv _ wr => ∃ j : Nat, j + gh = 1 ∧ iv = .int .i64 j ∧ Bs wr wr.heap.size bv (l5 ++ Ed.sealsL (ss.take j)) ∧ Below W.heap.size W wr)
  case atStart => exact ⟨0, by omega, rfl, by simpa [Ed.sealsL] using RB.out, Below.refl _ _⟩
  case round =>
    obtain ⟨j, hj, rfl, ho, hbr⟩ := hrel
    have RB := Lib.hid ho
    have HR := Lib.hid hbr
    have x4 := (HX.out.on hbr).cell 4 _ rfl
    have HSr := Lib.hid (Hs.out.below (bstep HB.out hbr) (Nat.le_refl _))
    clear ho hbr
    by_cases hlt : j < 1
    · have hlt' : (j : Int) < 1 := by omega
      obtain ⟨s, hss⟩ : ∃ s, ss[j]? = some s := ⟨_, List.getElem?_eq_getElem (by rw [Hn.out]; omega)⟩
      have fS := HF.out s (List.mem_of_getElem? hss)
      have fid := fS.id
      have fsz := fS.size
      have fmn := fS.many
      have ffi := fS.first
      have fla := fS.last
      have hord := Ed.mayS_order (Hms.out s (List.mem_of_getElem? hss))
      obtain ⟨gb, go, cc, hA, hgb, a0, a1, a2, a3, a4⟩ := HSr.out.at hss
      injection hA with hA1 hA2 hA3
      subst hA1
      clear hA2 hA3 hgb
      have HSS := Lib.hid hss
      have hlr : (l5 ++ Ed.sealsL (ss.take j)).length ≤ 9100 := by
        rw [List.length_append]
        have h7 := Ed.sealsL_len (ss.take j)
        rw [List.length_take] at h7
        have := HL69.out
        omega
      have HLR := Lib.hid hlr
      have zi : IntKind.u64.wrap (s.id : Int) = (s.id : Int) := IntWalk.u64_in _ (by omega)
      have zz : IntKind.u64.wrap (s.size : Int) = (s.size : Int) := IntWalk.u64_in _ (by omega)
      have zm : IntKind.u64.wrap (s.many : Int) = (s.many : Int) := IntWalk.u64_in _ (by omega)
      clear hss hlr
      have SB := Lib.hid (sealW_below wr s)
      have SX := Lib.hid (sealW_bx wr s)
      have HORD := Lib.hid hord
      clear hord
      go_wp2_with fail
      change Calls _ _ _ (sealW wr s) _
      have RB := Lib.hid (RB.out.on SB.out)
      have HR := Lib.hid (HR.out.trans (SB.out.mono HR.out.size))
      generalize sealW wr s = ws at *
      obtain ⟨d0, d1, d2, d3, d4⟩ := SX.out.at5
      clear a0 a1 a2 a3 a4 x4
      refine (rput_any _ (l5 ++ Ed.sealsL (ss.take j)) (s.id : Nat) _ RB.out (by omega) (by omega) (by have h0 := HLR.out; rw [show (l5 ++ Ed.sealsL (ss.take j)).length = (l5 ++ Ed.sealsL (ss.take j)).length from rfl]; omega)).mono ?_
      rintro en w10 ⟨r10, rfl, hown, hb⟩
      rw [Int.toNat_natCast] at hown
      have RB := Lib.hid (Bs.of_own hown)
      have SX := Lib.hid (SX.out.on hb)
      have HR := Lib.hid (HR.out.trans (hb.mono HR.out.size))
      clear d0 d1 d2 d3 d4
      obtain ⟨d0, d1, d2, d3, d4⟩ := SX.out.at5
      clear hown hb
      go_wp2_with fail
      refine (rput_any _ ((l5 ++ Ed.sealsL (ss.take j)) ++ Px.formL s.id) (s.size : Nat) _ RB.out (by omega) (by omega) (by have h0 := HLR.out; have h1 := formL_le (s.id); rw [List.length_append]; omega)).mono ?_
      rintro en w11 ⟨r11, rfl, hown, hb⟩
      rw [Int.toNat_natCast] at hown
      have RB := Lib.hid (Bs.of_own hown)
      have SX := Lib.hid (SX.out.on hb)
      have HR := Lib.hid (HR.out.trans (hb.mono HR.out.size))
      clear d0 d1 d2 d3 d4
      obtain ⟨d0, d1, d2, d3, d4⟩ := SX.out.at5
      clear hown hb
      go_wp2_with fail
      by_cases hm0 : s.many = 0
      · have em : ¬ (0 : Int) < (s.many : Int) := by omega
        have Hm0 := Lib.hid hm0
        clear hm0
        refine (rput_any _ ((l5 ++ Ed.sealsL (ss.take j)) ++ Px.formL s.id ++ Px.formL s.size) (s.many : Nat) _ RB.out (by omega) (by omega) (by have h0 := HLR.out; have h1 := formL_le (s.id); have h2 := formL_le (s.size); rw [List.length_append, List.length_append]; omega)).mono ?_
        rintro en w12 ⟨r12, rfl, hown, hb⟩
        rw [Int.toNat_natCast] at hown
        have RB := Lib.hid (Bs.of_own hown)
        have SX := Lib.hid (SX.out.on hb)
        have HR := Lib.hid (HR.out.trans (hb.mono HR.out.size))
        clear d0 d1 d2 d3 d4
        obtain ⟨d0, d1, d2, d3, d4⟩ := SX.out.at5
        clear hown hb
        go_wp2_with fail
        have htk : l5 ++ Ed.sealsL (ss.take j) ++ Px.formL s.id ++ Px.formL s.size ++ Px.formL s.many = l5 ++ Ed.sealsL (ss.take (j + 1)) := by
          rw [List.take_add_one, HSS.out, Ed.sealsL_append]; simp [Ed.sealsL, sealL_plain0 Hm0.out]
        rw [htk] at RB
        clear d0 d1 d2 d3 d4 htk
        go_roundg (gk - 1)
        case measure => omega
        case rel => exact ⟨j + 1, by omega, by go_num, RB.out, HR.out⟩
      · have em : (0 : Int) < (s.many : Int) := by omega
        have hfl := HORD.out hm0
        have zd : IntKind.u64.wrap ((s.last : Int) - (s.first : Int)) = ((s.last - s.first : Nat) : Int) := by rw [IntWalk.u64_in _ (by omega)]; omega
        have Hm0 := Lib.hid hm0
        clear hm0
        refine (rput_any _ ((l5 ++ Ed.sealsL (ss.take j)) ++ Px.formL s.id ++ Px.formL s.size) (s.many : Nat) _ RB.out (by omega) (by omega) (by have h0 := HLR.out; have h1 := formL_le (s.id); have h2 := formL_le (s.size); rw [List.length_append, List.length_append]; omega)).mono ?_
        rintro en w12 ⟨r12, rfl, hown, hb⟩
        rw [Int.toNat_natCast] at hown
        have RB := Lib.hid (Bs.of_own hown)
        have SX := Lib.hid (SX.out.on hb)
        have HR := Lib.hid (HR.out.trans (hb.mono HR.out.size))
        clear d0 d1 d2 d3 d4
        obtain ⟨d0, d1, d2, d3, d4⟩ := SX.out.at5
        clear hown hb
        go_wp2_with fail
        refine (rput_any _ ((l5 ++ Ed.sealsL (ss.take j)) ++ Px.formL s.id ++ Px.formL s.size ++ Px.formL s.many) (s.first : Nat) _ RB.out (by omega) (by omega) (by have h0 := HLR.out; have h1 := formL_le (s.id); have h2 := formL_le (s.size); have h3 := formL_le (s.many); rw [List.length_append, List.length_append, List.length_append]; omega)).mono ?_
        rintro en w13 ⟨r13, rfl, hown, hb⟩
        rw [Int.toNat_natCast] at hown
        have RB := Lib.hid (Bs.of_own hown)
        have SX := Lib.hid (SX.out.on hb)
        have HR := Lib.hid (HR.out.trans (hb.mono HR.out.size))
        clear d0 d1 d2 d3 d4
        obtain ⟨d0, d1, d2, d3, d4⟩ := SX.out.at5
        clear hown hb
        go_wp2_with fail
        refine (rput_any _ ((l5 ++ Ed.sealsL (ss.take j)) ++ Px.formL s.id ++ Px.formL s.size ++ Px.formL s.many ++ Px.formL s.first) (s.last - s.first : Nat) _ RB.out (by omega) (by omega) (by have h0 := HLR.out; have h1 := formL_le (s.id); have h2 := formL_le (s.size); have h3 := formL_le (s.many); have h4 := formL_le (s.first); rw [List.length_append, List.length_append, List.length_append, List.length_append]; omega)).mono ?_
        rintro en w14 ⟨r14, rfl, hown, hb⟩
        rw [Int.toNat_natCast] at hown
        have RB := Lib.hid (Bs.of_own hown)
        have SX := Lib.hid (SX.out.on hb)
        have HR := Lib.hid (HR.out.trans (hb.mono HR.out.size))
        clear d0 d1 d2 d3 d4
        obtain ⟨d0, d1, d2, d3, d4⟩ := SX.out.at5
        clear hown hb
        go_wp2_with fail
        have htk : l5 ++ Ed.sealsL (ss.take j) ++ Px.formL s.id ++ Px.formL s.size ++ Px.formL s.many ++ Px.formL s.first ++ Px.formL (s.last - s.first) = l5 ++ Ed.sealsL (ss.take (j + 1)) := by
          rw [List.take_add_one, HSS.out, Ed.sealsL_append]; simp [Ed.sealsL, sealL_plain1 Hm0.out]
        rw [htk] at RB
        clear d0 d1 d2 d3 d4 htk zd hfl
        go_roundg (gk - 1)
        case measure => omega
        case rel => exact ⟨j + 1, by omega, by go_num, RB.out, HR.out⟩
    · obtain rfl : j = 1 := by omega
      go_wp2_with fail
      go_ret2
      have h9 := RB.out
      rw [List.take_of_length_le (by rw [Hn.out]; omega)] at h9
      refine ⟨_, rfl, ?_, bstep HB.out HR.out⟩
      rw [HE.out]
      have e5 := HL5.out
      rw [e5]
      exact h9
set_option maxRecDepth 100000 in
set_option maxHeartbeats 16000000 in
theorem rput9_6 (nm : ByteArray) (q i : Nat) (ss : List Ed.Sl) (sv : Value) (w : World) (hs : Sls w w.heap.size sv ss) (f : Ed.Fit ⟨6, nm, q, i, ss⟩) (hm : Ed.mayE ⟨6, nm, q, i, ss⟩ = true) :
    Calls Tryd.prog 10 #[edV 6 nm q i sv] w fun e w' => ∃ r, e = .returned (.tuple #[r, .int .i64 0]) ∧ Bs w' w'.heap.size r (Ed.bytesE ⟨6, nm, q, i, ss⟩) ∧ Below w.heap.size w w' := by
  obtain ⟨i0, hi0, hz0, hz1, hz2⟩ := info_parts byte_info
  obtain ⟨A, c, rfl, hc, hr⟩ := id hs
  have hm' := hm
  rw [rmay_plain_6, Bool.and_eq_true, decide_eq_true_eq] at hm'
  obtain rfl : i = 0 := by omega
  clear hm'
  have hn0 := f.many
  simp only at hn0
  have b0 := bnew w (.cells #[.int .i64 6, .string nm, .int .u64 q, .int .u32 0, .slice A ss.length c] 36)
  have HX := Lib.hid (Bx.new w #[.int .i64 6, .string nm, .int .u64 q, .int .u32 0, .slice A ss.length c] 36 _ rfl)
  obtain ⟨x0, x1, x2, x3, x4⟩ := HX.out.at5
  have hmy := rmay_any (edV 6 nm q 0 (.slice A ss.length c)) ⟨6, nm, q, 0, ss⟩ (w.alloc (.cells #[.int .i64 6, .string nm, .int .u64 q, .int .u32 0, .slice A ss.length c] 36)) ⟨_, rfl, hs.on b0⟩ f
  rw [hm] at hmy
  have HUM := Lib.hid (Ed.may_iff.1 hm).seals
  rw [rmay_plain_6, Bool.and_eq_true, decide_eq_true_eq] at hm
  obtain ⟨hp, hup⟩ := hm
  obtain ⟨hp1, hp2, hp3, hp4⟩ : (q ≤ 1099511627776) ∧ (nm.size = 0) ∧ (True) ∧ (ss.length ≤ 200) := by refine ⟨?_, ?_, ?_, ?_⟩ <;> first | trivial | omega
  have HS := Lib.hid (hs.below b0 (Nat.le_refl _))
  have HF := Lib.hid f.seals
  have B0 := Lib.hid b0
  unfold edV at hmy ⊢
  have HE : Hid (Ed.bytesE ⟨6, nm, q, 0, ss⟩ = [6] ++ Px.formL q ++ Px.formL ss.length ++ Ed.sealsL ss) := Lib.hid (by
    simp [Ed.bytesE, Ed.bodyL, Ed.partL, Ed.seqB, Ed.idB, Ed.manyB, Ed.namePart, Ed.nameT, Ed.nameL, Ed.sealsL])
  clear hr hup b0 hp hc
  have Hs := Lib.hid hs
  clear hs f
  generalize hn : ss.length = n at *
  have Hn := Lib.hid hn
  clear hn
  try simp only [show ((0 : Nat) : Int) = 0 from rfl] at hmy x0 x1 x2 x3 x4 HX B0 HS ⊢
  go_enter Tryd.func10, Tryd.ntmps10
  go_wp2_with fail
  refine hmy.mono ?_
  rintro en w1 ⟨rfl, h1⟩
  clear x0 x1 x2 x3 x4
  have HX := Lib.hid ((HX.out.on h1).alloc (.cells #[.int .u8 6] 5))
  have HB := Lib.hid (balloc (bstep B0.out h1) (.cells #[.int .u8 6] 5))
  obtain ⟨x0, x1, x2, x3, x4⟩ := HX.out.at5
  have x0' := ((Bx.new w #[.int .i64 6, .string nm, .int .u64 q, .int .u32 0, .slice A n c] 36 _ rfl).on h1).cell 0 _ rfl
  have RB : Hid (Bs (w1.alloc (.cells #[.int .u8 6] 5)) (w1.alloc (.cells #[.int .u8 6] 5)).heap.size (.slice (some ⟨w1.heap.size, 0, none⟩) 1 1) [6]) := Lib.hid (by rw [World.size_alloc]; exact Bs.new w1 [6] 5)
  clear hmy h1
  go_wp2_with fail
  refine (rparts_6 _).mono ?_
  rintro en w2 ⟨rfl, rfl⟩
  clear x0'
  generalize hWW : w1.alloc _ = W at *
  clear hWW
  go_wp2_with fail
  refine (rput_any _ ([6]) (q : Nat) _ RB.out (by omega) (by omega) (by simp only [List.length_append, List.length_cons, List.length_nil, Px.formL_length]; omega)).mono ?_
  rintro en w3 ⟨r3, rfl, hown, hb⟩
  rw [Int.toNat_natCast] at hown
  have RO := Lib.hid (own_len hown)
  have RB := Lib.hid (Bs.of_own hown)
  have RZ := Lib.hid hb.size
  have HX := Lib.hid (HX.out.on hb)
  have HB := Lib.hid (bstep HB.out hb)
  clear x0 x1 x2 x3 x4
  obtain ⟨x0, x1, x2, x3, x4⟩ := HX.out.at5
  clear hown hb
  go_wp2_with fail
  refine (rput_any _ ([6] ++ Px.formL q) (n : Nat) _ RB.out (by omega) (by omega) (by simp only [List.length_append, List.length_cons, List.length_nil, Px.formL_length]; have := (Px.sizeN_pos (q)).2; omega)).mono ?_
  rintro en w4 ⟨r4, rfl, hown, hb⟩
  rw [Int.toNat_natCast] at hown
  have RO := Lib.hid (own_len hown)
  have RB := Lib.hid (Bs.of_own hown)
  have RZ := Lib.hid hb.size
  have HX := Lib.hid (HX.out.on hb)
  have HB := Lib.hid (bstep HB.out hb)
  clear x0 x1 x2 x3 x4
  obtain ⟨x0, x1, x2, x3, x4⟩ := HX.out.at5
  clear hown hb
  go_wp2_with fail
  obtain ⟨l5, hl5⟩ : ∃ l : List UInt8, [6] ++ Px.formL q ++ Px.formL n = l := ⟨_, rfl⟩
  have hl69 : l5.length ≤ 69 := by
    rw [← hl5]
    simp only [List.length_append, List.length_cons, List.length_nil, Px.formL_length]
    have := (Px.sizeN_pos (q)).2; have := (Px.sizeN_pos (n)).2; omega
  rw [hl5] at RB
  have HL5 := Lib.hid hl5
  have HL69 := Lib.hid hl69
  have hZ : w.heap.size ≤ w4.heap.size := HB.out.size
  have Hms := Lib.hid (Ed.upS_mem ss 0 HUM.out)
  clear hl5 hl69 x0 x1 x2 x3 x4 RO
  go_loopg [4, 9, 10] n (fun gh bv iv _ wr => ∃ j : Nat, j + gh = n ∧ iv = .int .i64 j ∧ Bs wr wr.heap.size bv (l5 ++ Ed.sealsL (ss.take j)) ∧ Below w4.heap.size w4 wr)
  case atStart => exact ⟨0, by omega, rfl, by simpa [Ed.sealsL] using RB.out, Below.refl _ _⟩
  case round =>
    obtain ⟨j, hj, rfl, ho, hbr⟩ := hrel
    have RB := Lib.hid ho
    have HR := Lib.hid hbr
    have x4 := (HX.out.on hbr).cell 4 _ rfl
    have HSr := Lib.hid (Hs.out.below (bstep HB.out hbr) (Nat.le_refl _))
    clear ho hbr
    by_cases hlt : j < n
    · have hlt' : (j : Int) < (n : Int) := by omega
      obtain ⟨s, hss⟩ : ∃ s, ss[j]? = some s := ⟨_, List.getElem?_eq_getElem (by rw [Hn.out]; omega)⟩
      have fS := HF.out s (List.mem_of_getElem? hss)
      have fid := fS.id
      have fsz := fS.size
      have fmn := fS.many
      have ffi := fS.first
      have fla := fS.last
      have hord := Ed.mayS_order (Hms.out s (List.mem_of_getElem? hss))
      obtain ⟨gb, go, cc, hA, hgb, a0, a1, a2, a3, a4⟩ := HSr.out.at hss
      injection hA with hA1 hA2 hA3
      subst hA1
      clear hA2 hA3 hgb
      have HSS := Lib.hid hss
      have hlr : (l5 ++ Ed.sealsL (ss.take j)).length ≤ 9100 := by
        rw [List.length_append]
        have h7 := Ed.sealsL_len (ss.take j)
        rw [List.length_take] at h7
        have := HL69.out
        omega
      have HLR := Lib.hid hlr
      have zi : IntKind.u64.wrap (s.id : Int) = (s.id : Int) := IntWalk.u64_in _ (by omega)
      have zz : IntKind.u64.wrap (s.size : Int) = (s.size : Int) := IntWalk.u64_in _ (by omega)
      have zm : IntKind.u64.wrap (s.many : Int) = (s.many : Int) := IntWalk.u64_in _ (by omega)
      clear hss hlr
      have SB := Lib.hid (sealW_below wr s)
      have SX := Lib.hid (sealW_bx wr s)
      have HORD := Lib.hid hord
      clear hord
      go_wp2_with fail
      change Calls _ _ _ (sealW wr s) _
      have RB := Lib.hid (RB.out.on SB.out)
      have HR := Lib.hid (HR.out.trans (SB.out.mono HR.out.size))
      generalize sealW wr s = ws at *
      obtain ⟨d0, d1, d2, d3, d4⟩ := SX.out.at5
      clear a0 a1 a2 a3 a4 x4
      refine (rput_any _ (l5 ++ Ed.sealsL (ss.take j)) (s.id : Nat) _ RB.out (by omega) (by omega) (by have h0 := HLR.out; rw [show (l5 ++ Ed.sealsL (ss.take j)).length = (l5 ++ Ed.sealsL (ss.take j)).length from rfl]; omega)).mono ?_
      rintro en w10 ⟨r10, rfl, hown, hb⟩
      rw [Int.toNat_natCast] at hown
      have RB := Lib.hid (Bs.of_own hown)
      have SX := Lib.hid (SX.out.on hb)
      have HR := Lib.hid (HR.out.trans (hb.mono HR.out.size))
      clear d0 d1 d2 d3 d4
      obtain ⟨d0, d1, d2, d3, d4⟩ := SX.out.at5
      clear hown hb
      go_wp2_with fail
      refine (rput_any _ ((l5 ++ Ed.sealsL (ss.take j)) ++ Px.formL s.id) (s.size : Nat) _ RB.out (by omega) (by omega) (by have h0 := HLR.out; have h1 := formL_le (s.id); rw [List.length_append]; omega)).mono ?_
      rintro en w11 ⟨r11, rfl, hown, hb⟩
      rw [Int.toNat_natCast] at hown
      have RB := Lib.hid (Bs.of_own hown)
      have SX := Lib.hid (SX.out.on hb)
      have HR := Lib.hid (HR.out.trans (hb.mono HR.out.size))
      clear d0 d1 d2 d3 d4
      obtain ⟨d0, d1, d2, d3, d4⟩ := SX.out.at5
      clear hown hb
      go_wp2_with fail
      by_cases hm0 : s.many = 0
      · have em : ¬ (0 : Int) < (s.many : Int) := by omega
        have Hm0 := Lib.hid hm0
        clear hm0
        refine (rput_any _ ((l5 ++ Ed.sealsL (ss.take j)) ++ Px.formL s.id ++ Px.formL s.size) (s.many : Nat) _ RB.out (by omega) (by omega) (by have h0 := HLR.out; have h1 := formL_le (s.id); have h2 := formL_le (s.size); rw [List.length_append, List.length_append]; omega)).mono ?_
        rintro en w12 ⟨r12, rfl, hown, hb⟩
        rw [Int.toNat_natCast] at hown
        have RB := Lib.hid (Bs.of_own hown)
        have SX := Lib.hid (SX.out.on hb)
        have HR := Lib.hid (HR.out.trans (hb.mono HR.out.size))
        clear d0 d1 d2 d3 d4
        obtain ⟨d0, d1, d2, d3, d4⟩ := SX.out.at5
        clear hown hb
        go_wp2_with fail
        have htk : l5 ++ Ed.sealsL (ss.take j) ++ Px.formL s.id ++ Px.formL s.size ++ Px.formL s.many = l5 ++ Ed.sealsL (ss.take (j + 1)) := by
          rw [List.take_add_one, HSS.out, Ed.sealsL_append]; simp [Ed.sealsL, sealL_plain0 Hm0.out]
        rw [htk] at RB
        clear d0 d1 d2 d3 d4 htk
        go_roundg (gk - 1)
        case measure => omega
        case rel => exact ⟨j + 1, by omega, by go_num, RB.out, HR.out⟩
      · have em : (0 : Int) < (s.many : Int) := by omega
        have hfl := HORD.out hm0
        have zd : IntKind.u64.wrap ((s.last : Int) - (s.first : Int)) = ((s.last - s.first : Nat) : Int) := by rw [IntWalk.u64_in _ (by omega)]; omega
        have Hm0 := Lib.hid hm0
        clear hm0
        refine (rput_any _ ((l5 ++ Ed.sealsL (ss.take j)) ++ Px.formL s.id ++ Px.formL s.size) (s.many : Nat) _ RB.out (by omega) (by omega) (by have h0 := HLR.out; have h1 := formL_le (s.id); have h2 := formL_le (s.size); rw [List.length_append, List.length_append]; omega)).mono ?_
        rintro en w12 ⟨r12, rfl, hown, hb⟩
        rw [Int.toNat_natCast] at hown
        have RB := Lib.hid (Bs.of_own hown)
        have SX := Lib.hid (SX.out.on hb)
        have HR := Lib.hid (HR.out.trans (hb.mono HR.out.size))
        clear d0 d1 d2 d3 d4
        obtain ⟨d0, d1, d2, d3, d4⟩ := SX.out.at5
        clear hown hb
        go_wp2_with fail
        refine (rput_any _ ((l5 ++ Ed.sealsL (ss.take j)) ++ Px.formL s.id ++ Px.formL s.size ++ Px.formL s.many) (s.first : Nat) _ RB.out (by omega) (by omega) (by have h0 := HLR.out; have h1 := formL_le (s.id); have h2 := formL_le (s.size); have h3 := formL_le (s.many); rw [List.length_append, List.length_append, List.length_append]; omega)).mono ?_
        rintro en w13 ⟨r13, rfl, hown, hb⟩
        rw [Int.toNat_natCast] at hown
        have RB := Lib.hid (Bs.of_own hown)
        have SX := Lib.hid (SX.out.on hb)
        have HR := Lib.hid (HR.out.trans (hb.mono HR.out.size))
        clear d0 d1 d2 d3 d4
        obtain ⟨d0, d1, d2, d3, d4⟩ := SX.out.at5
        clear hown hb
        go_wp2_with fail
        refine (rput_any _ ((l5 ++ Ed.sealsL (ss.take j)) ++ Px.formL s.id ++ Px.formL s.size ++ Px.formL s.many ++ Px.formL s.first) (s.last - s.first : Nat) _ RB.out (by omega) (by omega) (by have h0 := HLR.out; have h1 := formL_le (s.id); have h2 := formL_le (s.size); have h3 := formL_le (s.many); have h4 := formL_le (s.first); rw [List.length_append, List.length_append, List.length_append, List.length_append]; omega)).mono ?_
        rintro en w14 ⟨r14, rfl, hown, hb⟩
        rw [Int.toNat_natCast] at hown
        have RB := Lib.hid (Bs.of_own hown)
        have SX := Lib.hid (SX.out.on hb)
        have HR := Lib.hid (HR.out.trans (hb.mono HR.out.size))
        clear d0 d1 d2 d3 d4
        obtain ⟨d0, d1, d2, d3, d4⟩ := SX.out.at5
        clear hown hb
        go_wp2_with fail
        have htk : l5 ++ Ed.sealsL (ss.take j) ++ Px.formL s.id ++ Px.formL s.size ++ Px.formL s.many ++ Px.formL s.first ++ Px.formL (s.last - s.first) = l5 ++ Ed.sealsL (ss.take (j + 1)) := by
          rw [List.take_add_one, HSS.out, Ed.sealsL_append]; simp [Ed.sealsL, sealL_plain1 Hm0.out]
        rw [htk] at RB
        clear d0 d1 d2 d3 d4 htk zd hfl
        go_roundg (gk - 1)
        case measure => omega
        case rel => exact ⟨j + 1, by omega, by go_num, RB.out, HR.out⟩
    · obtain rfl : j = n := by omega
      go_wp2_with fail
      go_ret2
      have h9 := RB.out
      rw [List.take_of_length_le (by rw [Hn.out]; omega)] at h9
      refine ⟨_, rfl, ?_, bstep HB.out HR.out⟩
      rw [HE.out]
      have e5 := HL5.out
      rw [e5]
      exact h9
theorem rput9_yes (v : Value) (e : Ed.E) (w : World) (h : EdV w w.heap.size v e) (f : Ed.Fit e) (hm : Ed.mayE e = true) :
    Calls Tryd.prog 10 #[v] w fun en w' => ∃ r, en = .returned (.tuple #[r, .int .i64 0]) ∧ Bs w' w'.heap.size r (Ed.bytesE e) ∧ Below w.heap.size w w' := by
  obtain ⟨sv, rfl, hs⟩ := h
  have hk := Ed.may_iff.1 hm
  obtain ⟨k, nm, q, i, ss⟩ := e
  have h1 := hk.k1
  have h6 := hk.k6
  simp only at hs h1 h6 ⊢
  rcases kinds (k := k) (by omega) (by omega) with rfl | rfl | rfl | rfl | rfl | rfl
  · exact rput9_1 nm q i ss sv w hs f hm
  · exact rput9_2 nm q i ss sv w hs f hm
  · exact rput9_3 nm q i ss sv w hs f hm
  · exact rput9_4 nm q i ss sv w hs f hm
  · exact rput9_5 nm q i ss sv w hs f hm
  · exact rput9_6 nm q i ss sv w hs f hm
end Go.Proofs.YtggijjknfcofoaaDoor
