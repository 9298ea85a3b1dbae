
/-
  Layer 8: the chapter's rows ('plain', 'knows').
-/
import Derived.Test.YtmiljicohnfejaaDoorRcGet
import Derived.Lib.SlBytesConst
set_option linter.unusedVariables false
set_option linter.unusedSimpArgs false
namespace Go.Proofs.YtmiljicohnfejaaDoor
open Go.RowKit

def Rc.plain : Rc.Rec := ⟨1, 1, [107], [118], 0, 0⟩
theorem Rc.plain_may : Rc.mayB Rc.plain = true := by decide +kernel
theorem Rc.plain_size : Rc.sizeN Rc.plain = 27 := rfl
theorem Rc.plain_head : (Rc.runL Rc.plain).take 17 = [1, 1, 1, 0, 1, 0, 0, 0, 0, 0, 0, 0, 0, 0, 0, 0, 0] := by decide +kernel
theorem Rc.plain_mid : ((Rc.runL Rc.plain).drop 21).take 2 = [107, 118] := by decide +kernel
theorem Rc.get_zeros : Rc.getQ (List.replicate 21 0) = (Rc.none, 0, 23) := by
  have e : Cx.right ((List.replicate 21 (0 : UInt8)).take 21) = false := by decide +kernel
  unfold Rc.getQ
  rw [if_neg (by simp), if_pos e]

/-- a slice literal whose block bears a mark -/
theorem bs_newM (w : World) (l : List UInt8) (e : TypeId) (fr : Nat × Nat) : Bs (w.alloc (.cells (bvs l).toArray e fr)) (w.heap.size + 1) (.slice (some ⟨w.heap.size, 0, none⟩) l.length l.length) l := by
  refine ⟨_, _, rfl, Nat.le_refl _, fun _ => ⟨w.heap.size, 0, rfl, by omega, fun j u hu => ?_⟩⟩
  rw [Nat.zero_add, cell_of_row (w.alloc (.cells (bvs l).toArray e fr)) w.heap.size j _ e fr (heap_alloc_new w _)]
  simpa using hu
theorem plain_any (w : World) : Calls Tryd.prog 22 #[] w fun e w' => ∃ v, e = .returned v ∧ RecV w' w'.heap.size v Rc.plain ∧ Below w.heap.size w w' := by
  have kc := fun (w : World) (C : Array Value) (n c b : Nat) (hb : w.heap.size = b) => hb ▸ Lib.run_convert_bytes_const (P := Tryd.prog) w 23 5 C n c Tryd.underlying23 Tryd.underlying5
  have k1 := kc (w.alloc (.cells #[.int .u64 0, .int .i64 0, .slice none 0 0, .slice none 0 0, .int .u32 0, .int .u32 0] 28)) #[.int .u8 107] 1 1 (w.heap.size + 1) (by simp)
  have k2 := kc ((w.alloc (.cells #[.int .u64 0, .int .i64 0, .slice none 0 0, .slice none 0 0, .int .u32 0, .int .u32 0] 28)).alloc (.cells #[.int .u8 107] 5 (1, 2))) #[.int .u8 118] 1 1 (w.heap.size + 1 + 1) (by simp)
  go_enter Tryd.func22, Tryd.ntmps22
  go_wp2_with fail
  have q1 := bs_newM (w.alloc (.cells #[.int .u64 1, .int .i64 1, .slice (some ⟨w.heap.size + 1, 0, none⟩) 1 1, .slice (some ⟨w.heap.size + 1 + 1, 0, none⟩) 1 1, .int .u32 0, .int .u32 0] 28)) [107] 5 (1, 2)
  have q2 := bs_newM ((w.alloc (.cells #[.int .u64 1, .int .i64 1, .slice (some ⟨w.heap.size + 1, 0, none⟩) 1 1, .slice (some ⟨w.heap.size + 1 + 1, 0, none⟩) 1 1, .int .u32 0, .int .u32 0] 28)).alloc (.cells #[.int .u8 107] 5 (1, 2))) [118] 5 (1, 2)
  have q3 := q1.alloc (by simp) (.cells #[.int .u8 118] 5 (1, 2))
  simp only [World.size_alloc] at q1 q2 q3
  exact bodyPost_ret (v := recV 1 1 (.slice (some ⟨w.heap.size + 1, 0, none⟩) 1 1) (.slice (some ⟨w.heap.size + 1 + 1, 0, none⟩) 1 1) 0 0) (by simp [results, Tryd.results22, go_sem, recV]) rfl
    ⟨_, rfl, ⟨_, _, rfl, q3.mono (by simp), q2.mono (by simp)⟩, balloc (balloc (bnew w _) _) _⟩
theorem knows_r (w : World) (ht : RTab w) : Calls Tryd.prog 17 #[] w fun e w' => e = .returned (.bool true) ∧ Below w.heap.size w w' := by
  have Ht := Lib.hid ht
  clear ht
  go_enter Tryd.func17, Tryd.ntmps17
  go_wp2_with fail
  refine (plain_any w).mono ?_
  rintro e w1 ⟨v1, rfl, r1, b1⟩
  have Ht1 := Lib.hid (Ht.out.on b1)
  go_wp2_with fail
  refine (rput_ok v1 _ _ _ r1 (Nat.le_refl _) Rc.plain_may Ht1.out).mono ?_
  rintro e w2 ⟨v2, rfl, hown2, b2⟩
  have Ht2 := Lib.hid (Ht1.out.on b2)
  have hb2 := bstep b1 b2
  rw [Rc.plain_size] at hown2
  obtain ⟨A2, c2, rfl, _, _, _⟩ := own_slice hown2
  have hs2 := Bs.of_own hown2
  have hl : (Rc.runL Rc.plain).length = 27 := by rw [Rc.runL_length, Rc.plain_size]
  obtain ⟨A3, m3, c3, cut3, s3⟩ := cut_take hs2 17 17 rfl (by rw [hl]; omega)
  obtain ⟨A4, m4, c4, cut4, s4⟩ := cut_mid hs2 21 23 21 23 rfl rfl (by omega) (by rw [hl]; omega)
  have mk := run_make_b .i64 .i64 21 (by omega) w2
  have b3 := bnew w2 (.cells (zer 21) 5)
  have r3 := RowAt.new w2 21
  have S2 := Lib.hid hs2
  have S3 := Lib.hid s3
  have S4 := Lib.hid s4
  have R3 := Lib.hid r3
  have HB2 := Lib.hid hb2
  have B3 := Lib.hid b3
  have e21 : ((21 : Nat) : Int) = 21 := rfl
  rw [e21] at mk
  clear hown2 hs2 s3 s4 r3 b1 b2 hb2 b3 r1 hl e21
  go_wp2_with fail
  refine (rget_q _ _ (w2.heap.size + 1) _ (R3.out.bs' (by simp) (by simp)) (by simp) (by simp) (Ht2.out.on B3.out) _ _ _ Rc.get_zeros).mono ?_
  rintro e w4 ⟨rv, rfl, nr, b4⟩
  obtain ⟨kv, vv, ev, ⟨A5, c5, rfl, _, _⟩, ⟨A6, c6, rfl, _, _⟩⟩ := nr.rec
  obtain rfl : rv = recV 0 0 (.slice A5 0 c5) (.slice A6 0 c6) 0 0 := ev
  unfold recV
  have b5 := b4.trans ((bnew w4 (.cells #[.int .u64 0, .int .i64 0, .slice A5 0 c5, .slice A6 0 c6, .int .u32 0, .int .u32 0] 28)).mono b4.size)
  have hb5 := bstep HB2.out (B3.out.trans (b5.mono (by simp)))
  have q5 := (S2.out.on B3.out).on b5
  have q3 := S3.out _ _ q5
  have q4 := S4.out _ _ q5
  obtain ⟨A7, c7, e7, _, d7⟩ := q3
  obtain ⟨A8, c8, e8, _, d8⟩ := q4
  have k7 := convert_rd (P := Tryd.prog) d7 c7 23 5 9 Tryd.underlying23 Tryd.underlying5 Tryd.underlying9
  have k8 := convert_rd (P := Tryd.prog) d8 c8 23 5 9 Tryd.underlying23 Tryd.underlying5 Tryd.underlying9
  rw [← e7, Rc.plain_head] at k7
  rw [← e8, show 23 - 21 = 2 by rfl, Rc.plain_mid] at k8
  have HB5 := Lib.hid hb5
  clear b4 b5 hb5 q5 e7 e8 d7 d8 nr
  go_wp2_with fail
  go_ret
  exact ⟨rfl, HB5.out⟩
end Go.Proofs.YtmiljicohnfejaaDoor
