
/-
  ProbeKnown: the chapter's rows, ends, none: a closed statement, walked.
-/
import Derived.Test.YtffcbekogpgciaaPrKn
import Derived.Deep.OwnRows
set_option linter.unusedVariables false
set_option linter.unusedSimpArgs false
namespace Go.Proofs.Ytffcbekogpgciaa.Pr
open Go Go.RowKit

theorem slots_zero (T : Nat) (w : World) (ht : w.cell? ⟨T, 1, none⟩ = some (.slice none 0 0)) :
    Calls Try.prog 16 #[.pointer (some ⟨T, 0, none⟩)] w fun e w' => e = .returned (.slice none 0 0) ∧ w = w' := by
  go_enter Try.func16, Try.ntmps16
  go_wp2_with fail
  refine (made_zero T _ ht).mono ?_
  rintro e w1 ⟨rfl, rfl⟩
  go_wp2
  go_ret
  exact ⟨rfl, rfl⟩
theorem copy_zero (T : Nat) (w : World) (ht : w.cell? ⟨T, 1, none⟩ = some (.slice none 0 0)) :
    Calls Try.prog 13 #[.pointer (some ⟨T, 0, none⟩)] w fun e w' => e = .returned (.pointer none) ∧ w = w' := by
  go_enter Try.func13, Try.ntmps13
  go_wp2_with fail
  refine (made_zero T _ ht).mono ?_
  rintro e w1 ⟨rfl, rfl⟩
  go_wp2
  go_ret
  exact ⟨rfl, rfl⟩
theorem run_make_p (n : Nat) (hn : n ≤ 100000) (w : World) :
    (Instr.makeSlice 30 (.int .i64 (n : Int)) (.int .i64 (n : Int))).run Try.prog w = .ok (.slice (some ⟨w.heap.size, 0, none⟩) n n) (w.alloc (.cells (bvs (List.replicate n 0)).toArray 5)) := by
  have h := run_make_row' (P := Try.prog) 30 5 (.int .u8 0) 1 Try.underlying30 byte_info rfl .i64 .i64 n (by omega) (by omega) w
  have e : madeCells #[Value.int .u8 0] n = (bvs (List.replicate n 0)).toArray := by
    have := toList_madeCells_one (.int .u8 0) n
    rw [← Array.toList_inj, this]
    simp [bvs, bv]
  rw [e] at h
  exact h
theorem keys_nil (w : World) :
    Calls Try.prog 18 #[.pointer none] w fun e w' => e = .returned (.slice none 0 0) ∧ w = w' := by
  refine (callsIn_wide (n := 5)).1 ?_
  refine callsIn_of_wp_marks Try.func18 rfl trivial ?_ rfl
  simp only [Try.ntmps18, List.size_toArray, List.length_cons, List.length_nil, Nat.reduceAdd, Nat.reduceSub, Array.replicate_succ, Array.replicate_zero, List.push_toArray, List.append_toArray, List.nil_append, List.cons_append]
  refine wpIn_wide.2 ?_
  go_wp2_with fail
  refine (made_nil _).mono ?_
  rintro e w1 ⟨rfl, rfl⟩
  go_wp2_with fail
  refine ⟨_, results_tmp rfl _ _ _, ⟨rfl, rfl⟩⟩

set_option maxRecDepth 100000 in
set_option maxHeartbeats 8000000 in
theorem known_walk (w : World) : Calls Try.prog 7 #[] w fun e w' => e = .returned (.bool true) ∧ Below w.heap.size w w' := by
  have kc := fun (w : World) (C : Array Value) (n c : Nat) => Lib.run_convert_bytes_const (P := Try.prog) w 30 5 C n c Try.underlying30 Try.underlying5
  obtain ⟨Z65, hZ65⟩ : ∃ Z, (bvs (List.replicate 65 (0 : UInt8))).toArray = Z := ⟨_, rfl⟩
  have mk : ∀ V : World, (Instr.makeSlice 30 (.int .i64 65) (.int .i64 65)).run Try.prog V = .ok (.slice (some ⟨V.heap.size, 0, none⟩) 65 65) (V.alloc (.cells Z65 5)) := fun V => by
    rw [← hZ65]; exact run_make_p 65 (by omega) V
  have HZ := Lib.hid hZ65
  clear hZ65
  obtain ⟨w1, hw1⟩ : ∃ w1, w.alloc (.cells #[.int .u64 0, .slice none 0 0, .int .i64 0] 64) = w1 := ⟨_, rfl⟩
  obtain ⟨Z, hZ⟩ : ∃ Z, w.heap.size = Z := ⟨_, rfl⟩
  have HB0 : Hid (Below w.heap.size w w1) := Lib.hid (by rw [← hw1]; exact pbnew _ _)
  have hz : w1.heap[Z]? = some (.cells #[.int .u64 0, .slice none 0 0, .int .i64 0] 64 (0, 0)) := by rw [← hw1, ← hZ]; exact heap_alloc_new _ _
  have HZc : Hid (∀ V, Below w1.heap.size w1 V → V.cell? ⟨Z, 1, none⟩ = some (.slice none 0 0)) := Lib.hid (fun V hV => by
    have := (hV.block Z (Array.getElem?_eq_some_iff.1 hz).1).trans hz
    simp [World.cell?, this])
  clear hz
  have HB1 : Hid (Below w1.heap.size w1 w1) := Lib.hid (Below.refl _ _)
  go_enter Try.func7, Try.ntmps7
  go_wp2_with fail
  refine (get_nil _ _).mono ?_
  rintro e wx ⟨rfl, rfl⟩
  obtain ⟨w2, hw2⟩ : ∃ W, w1.alloc (.cells #[.int .u8 97] 5 (1, 2)) = W := ⟨_, rfl⟩
  have hb2 : Below w1.heap.size w1 w2 := by rw [← hw2]; exact pbnew _ _
  have HB2 := Lib.hid (HB1.out.trans (hb2.mono HB1.out.size))
  rw [hw2]
  clear hb2 hw2
  go_wp2_with fail
  refine (get_zero Z _ _ (HZc.out _ (HB2.out.trans ((pbnew w2 (.cells #[.int .u8 97] 5 (1, 2))).mono HB2.out.size)))).mono ?_
  rintro e wx ⟨rfl, rfl⟩
  obtain ⟨w3, hw3⟩ : ∃ W, w2.alloc (.cells #[.int .u8 97] 5 (1, 2)) = W := ⟨_, rfl⟩
  have hb3 : Below w2.heap.size w2 w3 := by rw [← hw3]; exact pbnew _ _
  have HB3 := Lib.hid (HB2.out.trans (hb3.mono HB2.out.size))
  rw [hw3]
  clear hb3 hw3
  go_wp2_with fail
  refine (set_nil _ _ _).mono ?_
  rintro e wx ⟨rfl, rfl⟩
  obtain ⟨w4, hw4⟩ : ∃ W, w3.alloc (.cells #[.int .u8 97] 5 (1, 2)) = W := ⟨_, rfl⟩
  have hb4 : Below w3.heap.size w3 w4 := by rw [← hw4]; exact pbnew _ _
  have HB4 := Lib.hid (HB3.out.trans (hb4.mono HB3.out.size))
  rw [hw4]
  clear hb4 hw4
  go_wp2_with fail
  refine (rem_zero Z _ _ (HZc.out _ (HB4.out.trans ((pbnew w4 (.cells #[.int .u8 97] 5 (1, 2))).mono HB4.out.size)))).mono ?_
  rintro e wx ⟨rfl, rfl⟩
  obtain ⟨w5, hw5⟩ : ∃ W, w4.alloc (.cells #[.int .u8 97] 5 (1, 2)) = W := ⟨_, rfl⟩
  have hb5 : Below w4.heap.size w4 w5 := by rw [← hw5]; exact pbnew _ _
  have HB5 := Lib.hid (HB4.out.trans (hb5.mono HB4.out.size))
  rw [hw5]
  clear hb5 hw5
  go_wp2_with fail
  refine (len_nil _).mono ?_
  rintro e wx ⟨rfl, rfl⟩
  go_wp2_with fail
  refine (slots_zero Z _ (HZc.out _ HB5.out)).mono ?_
  rintro e wx ⟨rfl, rfl⟩
  go_wp2_with fail
  refine (keys_nil _).mono ?_
  rintro e wx ⟨rfl, rfl⟩
  go_wp2_with fail
  refine (copy_zero Z _ (HZc.out _ HB5.out)).mono ?_
  rintro e wx ⟨rfl, rfl⟩
  go_wp2_with fail
  refine (live_new 5 w5 (by omega) w1.heap.size HB5.out.size).mono ?_
  rintro e w6 ⟨T, rfl, hp, hb⟩
  have HB6 := Lib.hid (HB5.out.trans (hb.mono HB5.out.size))
  have HP6 := Lib.hid hp
  clear hp hb
  have e0 : (PT.new 5).prs = [] := kn_none 8
  have E0 := Lib.hid e0
  clear e0
  go_wp2_with fail
  refine (live_set_no HP6.out _ [] Bs.none_ (by simp) (by simp) 1).mono ?_
  rintro e wx ⟨rfl, rfl⟩
  go_wp2_with fail
  have hbs : Bs (w6.alloc (.cells Z65 5)) (w6.alloc (.cells Z65 5)).heap.size (.slice (some ⟨w6.heap.size, 0, none⟩) 65 65) (List.replicate 65 0) := by have := bs_lit w6 (List.replicate 65 0) Z65 5 (0, 0) HZ.out.symm; simpa using this
  refine (live_set_no (HP6.out.on (pbnew w6 (.cells Z65 5))) _ _ hbs (by simp) (by simp) 1).mono ?_
  rintro e wx ⟨rfl, rfl⟩
  clear hbs
  obtain ⟨w7, hw7⟩ : ∃ W, w6.alloc (.cells Z65 5) = W := ⟨_, rfl⟩
  have hb7 : Below w6.heap.size w6 w7 := by rw [← hw7]; exact pbnew _ _
  have HB7 := Lib.hid (HB6.out.trans (hb7.mono HB6.out.size))
  have HP7 := Lib.hid (HP6.out.on hb7)
  rw [hw7]
  clear hb7 hw7
  go_wp2_with fail
  have hbs : Bs (w7.alloc (.cells #[.int .u8 97] 5 (1, 2))) (w7.alloc (.cells #[.int .u8 97] 5 (1, 2))).heap.size (.slice (some ⟨w7.heap.size, 0, none⟩) 1 1) [97] := bs_lit w7 [97] #[.int .u8 97] 5 (1, 2) rfl
  refine (live_rem_none (HP7.out.on (pbnew w7 (.cells #[.int .u8 97] 5 (1, 2)))) _ _ hbs (by simp) (by simp) (fun p hp => by rw [E0.out] at hp; simp at hp)).mono ?_
  rintro e w8 ⟨rfl, hb⟩
  have HP8 := Lib.hid ((HP7.out.on (pbnew w7 (.cells #[.int .u8 97] 5 (1, 2)))).on hb)
  have HB8 := Lib.hid (HB7.out.trans (((pbnew w7 (.cells #[.int .u8 97] 5 (1, 2))).trans (hb.mono (pbnew w7 _).size)).mono HB7.out.size))
  clear hb hbs
  go_wp2_with fail
  refine (live_rem_no HP8.out _ [] Bs.none_ (by simp) (by simp)).mono ?_
  rintro e wx ⟨rfl, rfl⟩
  go_wp2_with fail
  refine (live_get HP8.out _ [] Bs.none_ (by simp)).mono ?_
  rintro e w9 ⟨v9, b9, rfl, hg, hb⟩
  have HP9 := Lib.hid (HP8.out.on hb)
  have HB9 := Lib.hid (HB8.out.trans (hb.mono HB8.out.size))
  obtain ⟨rfl, rfl⟩ : b9 = false ∧ v9 = 0 := by
    rcases hg with ⟨_, hm⟩ | ⟨e1, e2, _⟩
    · rw [E0.out] at hm; simp at hm
    · exact ⟨e1, e2⟩
  clear hg hb
  go_wp2_with fail
  have hbs : Bs (w9.alloc (.cells Z65 5)) (w9.alloc (.cells Z65 5)).heap.size (.slice (some ⟨w9.heap.size, 0, none⟩) 65 65) (List.replicate 65 0) := by have := bs_lit w9 (List.replicate 65 0) Z65 5 (0, 0) HZ.out.symm; simpa using this
  refine (live_get (HP9.out.on (pbnew w9 (.cells Z65 5))) _ _ hbs (by simp)).mono ?_
  rintro e w10 ⟨v10, b10, rfl, hg, hb⟩
  have HP10 := Lib.hid ((HP9.out.on (pbnew w9 (.cells Z65 5))).on hb)
  have HB10 := Lib.hid (HB9.out.trans (((pbnew w9 (.cells Z65 5)).trans (hb.mono (pbnew w9 _).size)).mono HB9.out.size))
  obtain ⟨rfl, rfl⟩ : b10 = false ∧ v10 = 0 := by
    rcases hg with ⟨_, hm⟩ | ⟨e1, e2, _⟩
    · rw [E0.out] at hm; simp at hm
    · exact ⟨e1, e2⟩
  clear hg hb hbs
  go_wp2_with fail
  have hbs : Bs (w10.alloc (.cells #[.int .u8 97] 5 (1, 2))) (w10.alloc (.cells #[.int .u8 97] 5 (1, 2))).heap.size (.slice (some ⟨w10.heap.size, 0, none⟩) 1 1) [97] := bs_lit w10 [97] #[.int .u8 97] 5 (1, 2) rfl
  refine (live_set HP10.out (pbnew w10 (.cells #[.int .u8 97] 5 (1, 2))) HB10.out.size _ [97] hbs (by simp) (by simp) 1 (by omega) (by rw [E0.out]; simp) (fun b hb => by simp only [Value.ownBlock, Option.some.injEq] at hb; right; omega)).mono ?_
  rintro e w11 ⟨rfl, s11, e1, e2, hl, hb⟩
  have HP11 := Lib.hid hl
  have HB11 := Lib.hid (HB10.out.trans hb)
  have HS11 : Hid (List.Perm s11.prs [([97], 1)]) := Lib.hid (by rw [E0.out] at e2; exact e2)
  clear e1 e2 hl hb hbs
  go_wp2_with fail
  have hbs : Bs (w11.alloc (.cells #[.int .u8 97] 5 (1, 2))) (w11.alloc (.cells #[.int .u8 97] 5 (1, 2))).heap.size (.slice (some ⟨w11.heap.size, 0, none⟩) 1 1) [97] := bs_lit w11 [97] #[.int .u8 97] 5 (1, 2) rfl
  refine (live_set HP11.out (pbnew w11 (.cells #[.int .u8 97] 5 (1, 2))) HB11.out.size _ [97] hbs (by simp) (by simp) 18446744073709551615 (by omega) (by rw [HS11.out.length_eq]; simp) (fun b hb => by simp only [Value.ownBlock, Option.some.injEq] at hb; right; omega)).mono ?_
  rintro e w12 ⟨rfl, s12, e1, e2, hl, hb⟩
  have HP12 := Lib.hid hl
  have HB12 := Lib.hid (HB11.out.trans hb)
  have HS12 : Hid (List.Perm s12.prs [([97], 18446744073709551615)]) := Lib.hid (e2.trans ((remA_perm HS11.out [97]).cons _))
  clear e1 e2 hl hb hbs
  go_wp2_with fail
  have hbs : Bs (w12.alloc (.cells #[.int .u8 97] 5 (1, 2))) (w12.alloc (.cells #[.int .u8 97] 5 (1, 2))).heap.size (.slice (some ⟨w12.heap.size, 0, none⟩) 1 1) [97] := bs_lit w12 [97] #[.int .u8 97] 5 (1, 2) rfl
  refine (live_get (HP12.out.on (pbnew w12 (.cells #[.int .u8 97] 5 (1, 2)))) _ _ hbs (by simp)).mono ?_
  rintro e w13 ⟨v13, b13, rfl, hg, hb⟩
  have HP13 := Lib.hid ((HP12.out.on (pbnew w12 (.cells #[.int .u8 97] 5 (1, 2)))).on hb)
  have HB13 := Lib.hid (HB12.out.trans (((pbnew w12 (.cells #[.int .u8 97] 5 (1, 2))).trans (hb.mono (pbnew w12 _).size)).mono HB12.out.size))
  obtain ⟨rfl, rfl⟩ : b13 = true ∧ v13 = 18446744073709551615 := by
    rcases hg with ⟨e1, hm⟩ | ⟨_, _, hn⟩
    · have := HS12.out.mem_iff.1 hm; simp at this; exact ⟨e1, this⟩
    · exact absurd rfl (hn _ (HS12.out.mem_iff.2 (List.mem_cons_self ..)))
  clear hg hb hbs
  go_wp2_with fail
  refine (live_len HP13.out).mono ?_
  rintro e wx ⟨rfl, rfl⟩
  have hl1 : s12.prs.length = 1 := HS12.out.length_eq
  rw [hl1]
  have HL1 := Lib.hid hl1
  clear hl1
  go_wp2_with fail
  refine (live_slots HP13.out).mono ?_
  rintro e w14 ⟨g, c, rfl, _, _, hb⟩
  have h8 : s12.sl.length = 8 := by rw [HP13.out.ok.len, HL1.out]; exact room_few (by omega)
  rw [h8]
  have HB14 := Lib.hid (HB13.out.trans (hb.mono HB13.out.size))
  clear hb h8
  go_wp2_with fail
  refine (knows14 w14).mono ?_
  rintro e w15 ⟨rfl, hb⟩
  have HB15 := Lib.hid (HB14.out.trans (hb.mono HB14.out.size))
  clear hb
  go_wp2_with fail
  go_ret
  exact ⟨rfl, HB0.out.trans (HB15.out.mono HB0.out.size)⟩
end Go.Proofs.Ytffcbekogpgciaa.Pr
namespace Go.Proofs.Ytffcbekogpgciaa.probeKnown
open Go.RowKit
theorem walk (w : World) : Calls Try.prog 7 #[] w fun e w' => e = .returned (.bool true) ∧ Below w.heap.size w w' := Pr.known_walk w
end Go.Proofs.Ytffcbekogpgciaa.probeKnown
