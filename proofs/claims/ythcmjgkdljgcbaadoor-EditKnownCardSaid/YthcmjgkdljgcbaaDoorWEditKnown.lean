
/-
  The walk of the law EditKnown: it returns true, and writes nothing that was there.
-/
import Derived.Test.YthcmjgkdljgcbaaDoorEdKn
set_option linter.unusedVariables false
set_option linter.unusedSimpArgs false
namespace Go.Proofs.YthcmjgkdljgcbaaDoor.editKnown
open Go.RowKit

set_option maxRecDepth 100000 in
set_option maxHeartbeats 16000000 in
theorem walk (w : World) (ht : ETab w) :
    Calls Tryd.prog 8 #[] w fun e w' => e = .returned (.bool true) ∧ Below w.heap.size w w' := by
  obtain ⟨i0, hi0, hz0, hz1, hz2⟩ := info_parts byte_info
  obtain ⟨w1, hrun, hown, hgr⟩ := run_make_full (P := Tryd.prog) w w.heap.size 30 5 i0 (.int .u8 0) 1 Tryd.underlying30 hi0 hz0 hz1 .i64 .i64 32 (by rw [hz2]; omega) (by unfold maxLen; omega) (Nat.le_refl _)
  have hb1 : Below w.heap.size w w1 := (Below.refl _ _).grown hgr (Nat.le_refl _) (by simp)
  have hrun' : (Instr.makeSlice 30 (.int .i64 32) (.int .i64 32)).run Tryd.prog w = .ok (.slice (some ⟨w.heap.size, 0, none⟩) 32 32) w1 := hrun
  rw [show (32 * 1 : Nat) = 32 from rfl, show (Value.int .u8 0).cells = #[Value.int .u8 0] by rfl, toList_madeCells_one] at hown
  have hown : w1.ownsRow w.heap.size 5 1 (.slice (some ⟨w.heap.size, 0, none⟩) 32 32) 32 (bvs (List.replicate 32 0)) := hown
  obtain ⟨S, hS⟩ : ∃ S : ByteArray, S = ⟨(List.replicate 32 (0 : UInt8)).toArray⟩ := ⟨_, rfl⟩
  have hcv : (convert 30 9 (.slice (some ⟨w.heap.size, 0, none⟩) 32 32)).run Tryd.prog w1 = .ok (.string S) w1 := by
    rw [hS]
    have := convert_rd (P := Tryd.prog) (Rd.of_own hown) 32 30 5 9 Tryd.underlying30 Tryd.underlying5 Tryd.underlying9
    simpa using this
  have hsz : S.size = 32 := by rw [hS]; rfl
  have HS := Lib.hid hS
  have HT := Lib.hid (ht.on hb1)
  have B1 := Lib.hid hb1
  clear hrun hown hgr hb1 ht hS
  go_enter Tryd.func8, Tryd.ntmps8
  go_wp2_with fail
  -- REST
  generalize hWW : World.alloc (World.alloc (World.alloc (World.alloc (World.alloc w1 _) _) _) _) _ = WL at *
  have hbl : Below w1.heap.size w1 WL := by rw [← hWW]; exact balloc (balloc (balloc (balloc (bnew w1 _) _) _) _) _
  have hsz5 : WL.heap.size = w1.heap.size + 5 := by rw [← hWW]; simp
  have HG : EdsAt WL WL.heap.size w1.heap.size (goods S) := by
    have hB := ((((Bx.new w1 _ 26 [.int .i64 1, .string ⟨#[]⟩, .int .u64 0, .int .u32 0, .slice none 0 0, .int .i64 1, .string ⟨#[]⟩, .int .u64 1099511627776, .int .u32 0, .slice none 0 0, .int .i64 3, .string S, .int .u64 0, .int .u32 0, .slice none 0 0, .int .i64 4, .string ⟨#[]⟩, .int .u64 0, .int .u32 16777215, .slice none 0 0, .int .i64 6, .string ⟨#[]⟩, .int .u64 0, .int .u32 0, .slice none 0 0] rfl).alloc (.cells #[.int .u32 1, .int .u32 16, .int .u32 0, .int .u64 0, .int .u64 0, .int .u32 2, .int .u32 16, .int .u32 0, .int .u64 0, .int .u64 0] 28)).alloc (.cells #[.int .u32 2, .int .u32 16, .int .u32 0, .int .u64 0, .int .u64 0, .int .u32 2, .int .u32 16, .int .u32 0, .int .u64 0, .int .u64 0] 28)).alloc (.cells #[.int .u32 1, .int .u32 16, .int .u32 0, .int .u64 0, .int .u64 0] 28))
    intro i e hi
    rw [← hWW]
    have hC := hB.alloc
    rcases i with _ | _ | _ | _ | _ | i
    all_goals first | (simp [goods] at hi; done) | (simp only [goods, List.getElem?_cons_succ, List.getElem?_cons_zero, Option.some.injEq] at hi; subst hi; exact ⟨.slice none 0 0, (hC _).cell _ _ rfl, (hC _).cell _ _ rfl, (hC _).cell _ _ rfl, (hC _).cell _ _ rfl, (hC _).cell _ _ rfl, Sls.none_⟩)
  have HBd : EdsAt WL WL.heap.size (w1.heap.size + 4) (bads S) := by
    have hB := Bx.new ((((w1.alloc (.cells #[.int .i64 1, .string ⟨#[]⟩, .int .u64 0, .int .u32 0, .slice none 0 0, .int .i64 1, .string ⟨#[]⟩, .int .u64 1099511627776, .int .u32 0, .slice none 0 0, .int .i64 3, .string S, .int .u64 0, .int .u32 0, .slice none 0 0, .int .i64 4, .string ⟨#[]⟩, .int .u64 0, .int .u32 16777215, .slice none 0 0, .int .i64 6, .string ⟨#[]⟩, .int .u64 0, .int .u32 0, .slice none 0 0] 26)).alloc (.cells #[.int .u32 1, .int .u32 16, .int .u32 0, .int .u64 0, .int .u64 0, .int .u32 2, .int .u32 16, .int .u32 0, .int .u64 0, .int .u64 0] 28)).alloc (.cells #[.int .u32 2, .int .u32 16, .int .u32 0, .int .u64 0, .int .u64 0, .int .u32 2, .int .u32 16, .int .u32 0, .int .u64 0, .int .u64 0] 28)).alloc (.cells #[.int .u32 1, .int .u32 16, .int .u32 0, .int .u64 0, .int .u64 0] 28)) _ 26 [.int .i64 0, .string ⟨#[]⟩, .int .u64 0, .int .u32 0, .slice none 0 0, .int .i64 7, .string ⟨#[]⟩, .int .u64 0, .int .u32 0, .slice none 0 0, .int .i64 (-1), .string ⟨#[]⟩, .int .u64 0, .int .u32 0, .slice none 0 0, .int .i64 1, .string ⟨#[]⟩, .int .u64 1099511627777, .int .u32 0, .slice none 0 0, .int .i64 1, .string ⟨#[97]⟩, .int .u64 0, .int .u32 0, .slice none 0 0, .int .i64 2, .string ⟨#[]⟩, .int .u64 0, .int .u32 0, .slice none 0 0, .int .i64 3, .string (S ++ ⟨#[97]⟩), .int .u64 0, .int .u32 0, .slice none 0 0, .int .i64 3, .string ⟨#[97]⟩, .int .u64 1, .int .u32 0, .slice none 0 0, .int .i64 4, .string ⟨#[]⟩, .int .u64 0, .int .u32 0, .slice none 0 0, .int .i64 4, .string ⟨#[]⟩, .int .u64 0, .int .u32 16777216, .slice none 0 0, .int .i64 5, .string ⟨#[]⟩, .int .u64 0, .int .u32 0, .slice none 0 0, .int .i64 5, .string ⟨#[]⟩, .int .u64 0, .int .u32 0, .slice (some ⟨w1.heap.size + 1, 0, none⟩) 2 2, .int .i64 6, .string ⟨#[]⟩, .int .u64 0, .int .u32 1, .slice none 0 0, .int .i64 6, .string ⟨#[]⟩, .int .u64 0, .int .u32 0, .slice (some ⟨w1.heap.size + 2, 0, none⟩) 2 2, .int .i64 1, .string ⟨#[]⟩, .int .u64 0, .int .u32 0, .slice (some ⟨w1.heap.size + 3, 0, none⟩) 1 1] rfl
    have s1 := Sls.lit (w1.alloc (.cells #[.int .i64 1, .string ⟨#[]⟩, .int .u64 0, .int .u32 0, .slice none 0 0, .int .i64 1, .string ⟨#[]⟩, .int .u64 1099511627776, .int .u32 0, .slice none 0 0, .int .i64 3, .string S, .int .u64 0, .int .u32 0, .slice none 0 0, .int .i64 4, .string ⟨#[]⟩, .int .u64 0, .int .u32 16777215, .slice none 0 0, .int .i64 6, .string ⟨#[]⟩, .int .u64 0, .int .u32 0, .slice none 0 0] 26)) [⟨1, 16, 0, 0, 0⟩, ⟨2, 16, 0, 0, 0⟩] _ 28 rfl
    rw [show (w1.alloc (.cells #[.int .i64 1, .string ⟨#[]⟩, .int .u64 0, .int .u32 0, .slice none 0 0, .int .i64 1, .string ⟨#[]⟩, .int .u64 1099511627776, .int .u32 0, .slice none 0 0, .int .i64 3, .string S, .int .u64 0, .int .u32 0, .slice none 0 0, .int .i64 4, .string ⟨#[]⟩, .int .u64 0, .int .u32 16777215, .slice none 0 0, .int .i64 6, .string ⟨#[]⟩, .int .u64 0, .int .u32 0, .slice none 0 0] 26)).heap.size = w1.heap.size + 1 by simp] at s1
    have s2 := Sls.lit ((w1.alloc (.cells #[.int .i64 1, .string ⟨#[]⟩, .int .u64 0, .int .u32 0, .slice none 0 0, .int .i64 1, .string ⟨#[]⟩, .int .u64 1099511627776, .int .u32 0, .slice none 0 0, .int .i64 3, .string S, .int .u64 0, .int .u32 0, .slice none 0 0, .int .i64 4, .string ⟨#[]⟩, .int .u64 0, .int .u32 16777215, .slice none 0 0, .int .i64 6, .string ⟨#[]⟩, .int .u64 0, .int .u32 0, .slice none 0 0] 26)).alloc (.cells #[.int .u32 1, .int .u32 16, .int .u32 0, .int .u64 0, .int .u64 0, .int .u32 2, .int .u32 16, .int .u32 0, .int .u64 0, .int .u64 0] 28)) [⟨2, 16, 0, 0, 0⟩, ⟨2, 16, 0, 0, 0⟩] _ 28 rfl
    rw [show ((w1.alloc (.cells #[.int .i64 1, .string ⟨#[]⟩, .int .u64 0, .int .u32 0, .slice none 0 0, .int .i64 1, .string ⟨#[]⟩, .int .u64 1099511627776, .int .u32 0, .slice none 0 0, .int .i64 3, .string S, .int .u64 0, .int .u32 0, .slice none 0 0, .int .i64 4, .string ⟨#[]⟩, .int .u64 0, .int .u32 16777215, .slice none 0 0, .int .i64 6, .string ⟨#[]⟩, .int .u64 0, .int .u32 0, .slice none 0 0] 26)).alloc (.cells #[.int .u32 1, .int .u32 16, .int .u32 0, .int .u64 0, .int .u64 0, .int .u32 2, .int .u32 16, .int .u32 0, .int .u64 0, .int .u64 0] 28)).heap.size = w1.heap.size + 2 by simp] at s2
    have s3 := Sls.lit (((w1.alloc (.cells #[.int .i64 1, .string ⟨#[]⟩, .int .u64 0, .int .u32 0, .slice none 0 0, .int .i64 1, .string ⟨#[]⟩, .int .u64 1099511627776, .int .u32 0, .slice none 0 0, .int .i64 3, .string S, .int .u64 0, .int .u32 0, .slice none 0 0, .int .i64 4, .string ⟨#[]⟩, .int .u64 0, .int .u32 16777215, .slice none 0 0, .int .i64 6, .string ⟨#[]⟩, .int .u64 0, .int .u32 0, .slice none 0 0] 26)).alloc (.cells #[.int .u32 1, .int .u32 16, .int .u32 0, .int .u64 0, .int .u64 0, .int .u32 2, .int .u32 16, .int .u32 0, .int .u64 0, .int .u64 0] 28)).alloc (.cells #[.int .u32 2, .int .u32 16, .int .u32 0, .int .u64 0, .int .u64 0, .int .u32 2, .int .u32 16, .int .u32 0, .int .u64 0, .int .u64 0] 28)) [⟨1, 16, 0, 0, 0⟩] _ 28 rfl
    rw [show (((w1.alloc (.cells #[.int .i64 1, .string ⟨#[]⟩, .int .u64 0, .int .u32 0, .slice none 0 0, .int .i64 1, .string ⟨#[]⟩, .int .u64 1099511627776, .int .u32 0, .slice none 0 0, .int .i64 3, .string S, .int .u64 0, .int .u32 0, .slice none 0 0, .int .i64 4, .string ⟨#[]⟩, .int .u64 0, .int .u32 16777215, .slice none 0 0, .int .i64 6, .string ⟨#[]⟩, .int .u64 0, .int .u32 0, .slice none 0 0] 26)).alloc (.cells #[.int .u32 1, .int .u32 16, .int .u32 0, .int .u64 0, .int .u64 0, .int .u32 2, .int .u32 16, .int .u32 0, .int .u64 0, .int .u64 0] 28)).alloc (.cells #[.int .u32 2, .int .u32 16, .int .u32 0, .int .u64 0, .int .u64 0, .int .u32 2, .int .u32 16, .int .u32 0, .int .u64 0, .int .u64 0] 28)).heap.size = w1.heap.size + 3 by simp] at s3
    rw [show ((((w1.alloc (.cells #[.int .i64 1, .string ⟨#[]⟩, .int .u64 0, .int .u32 0, .slice none 0 0, .int .i64 1, .string ⟨#[]⟩, .int .u64 1099511627776, .int .u32 0, .slice none 0 0, .int .i64 3, .string S, .int .u64 0, .int .u32 0, .slice none 0 0, .int .i64 4, .string ⟨#[]⟩, .int .u64 0, .int .u32 16777215, .slice none 0 0, .int .i64 6, .string ⟨#[]⟩, .int .u64 0, .int .u32 0, .slice none 0 0] 26)).alloc (.cells #[.int .u32 1, .int .u32 16, .int .u32 0, .int .u64 0, .int .u64 0, .int .u32 2, .int .u32 16, .int .u32 0, .int .u64 0, .int .u64 0] 28)).alloc (.cells #[.int .u32 2, .int .u32 16, .int .u32 0, .int .u64 0, .int .u64 0, .int .u32 2, .int .u32 16, .int .u32 0, .int .u64 0, .int .u64 0] 28)).alloc (.cells #[.int .u32 1, .int .u32 16, .int .u32 0, .int .u64 0, .int .u64 0] 28)).heap.size = w1.heap.size + 4 by simp] at hB
    have u1 := ((s1.alloc (by simp) (.cells #[.int .u32 2, .int .u32 16, .int .u32 0, .int .u64 0, .int .u64 0, .int .u32 2, .int .u32 16, .int .u32 0, .int .u64 0, .int .u64 0] 28)).alloc (by simp) (.cells #[.int .u32 1, .int .u32 16, .int .u32 0, .int .u64 0, .int .u64 0] 28)).alloc (by simp) (.cells #[.int .i64 0, .string ⟨#[]⟩, .int .u64 0, .int .u32 0, .slice none 0 0, .int .i64 7, .string ⟨#[]⟩, .int .u64 0, .int .u32 0, .slice none 0 0, .int .i64 (-1), .string ⟨#[]⟩, .int .u64 0, .int .u32 0, .slice none 0 0, .int .i64 1, .string ⟨#[]⟩, .int .u64 1099511627777, .int .u32 0, .slice none 0 0, .int .i64 1, .string ⟨#[97]⟩, .int .u64 0, .int .u32 0, .slice none 0 0, .int .i64 2, .string ⟨#[]⟩, .int .u64 0, .int .u32 0, .slice none 0 0, .int .i64 3, .string (S ++ ⟨#[97]⟩), .int .u64 0, .int .u32 0, .slice none 0 0, .int .i64 3, .string ⟨#[97]⟩, .int .u64 1, .int .u32 0, .slice none 0 0, .int .i64 4, .string ⟨#[]⟩, .int .u64 0, .int .u32 0, .slice none 0 0, .int .i64 4, .string ⟨#[]⟩, .int .u64 0, .int .u32 16777216, .slice none 0 0, .int .i64 5, .string ⟨#[]⟩, .int .u64 0, .int .u32 0, .slice none 0 0, .int .i64 5, .string ⟨#[]⟩, .int .u64 0, .int .u32 0, .slice (some ⟨w1.heap.size + 1, 0, none⟩) 2 2, .int .i64 6, .string ⟨#[]⟩, .int .u64 0, .int .u32 1, .slice none 0 0, .int .i64 6, .string ⟨#[]⟩, .int .u64 0, .int .u32 0, .slice (some ⟨w1.heap.size + 2, 0, none⟩) 2 2, .int .i64 1, .string ⟨#[]⟩, .int .u64 0, .int .u32 0, .slice (some ⟨w1.heap.size + 3, 0, none⟩) 1 1] 26)
    have u2 := (s2.alloc (by simp) (.cells #[.int .u32 1, .int .u32 16, .int .u32 0, .int .u64 0, .int .u64 0] 28)).alloc (by simp) (.cells #[.int .i64 0, .string ⟨#[]⟩, .int .u64 0, .int .u32 0, .slice none 0 0, .int .i64 7, .string ⟨#[]⟩, .int .u64 0, .int .u32 0, .slice none 0 0, .int .i64 (-1), .string ⟨#[]⟩, .int .u64 0, .int .u32 0, .slice none 0 0, .int .i64 1, .string ⟨#[]⟩, .int .u64 1099511627777, .int .u32 0, .slice none 0 0, .int .i64 1, .string ⟨#[97]⟩, .int .u64 0, .int .u32 0, .slice none 0 0, .int .i64 2, .string ⟨#[]⟩, .int .u64 0, .int .u32 0, .slice none 0 0, .int .i64 3, .string (S ++ ⟨#[97]⟩), .int .u64 0, .int .u32 0, .slice none 0 0, .int .i64 3, .string ⟨#[97]⟩, .int .u64 1, .int .u32 0, .slice none 0 0, .int .i64 4, .string ⟨#[]⟩, .int .u64 0, .int .u32 0, .slice none 0 0, .int .i64 4, .string ⟨#[]⟩, .int .u64 0, .int .u32 16777216, .slice none 0 0, .int .i64 5, .string ⟨#[]⟩, .int .u64 0, .int .u32 0, .slice none 0 0, .int .i64 5, .string ⟨#[]⟩, .int .u64 0, .int .u32 0, .slice (some ⟨w1.heap.size + 1, 0, none⟩) 2 2, .int .i64 6, .string ⟨#[]⟩, .int .u64 0, .int .u32 1, .slice none 0 0, .int .i64 6, .string ⟨#[]⟩, .int .u64 0, .int .u32 0, .slice (some ⟨w1.heap.size + 2, 0, none⟩) 2 2, .int .i64 1, .string ⟨#[]⟩, .int .u64 0, .int .u32 0, .slice (some ⟨w1.heap.size + 3, 0, none⟩) 1 1] 26)
    have u3 := s3.alloc (by simp) (.cells #[.int .i64 0, .string ⟨#[]⟩, .int .u64 0, .int .u32 0, .slice none 0 0, .int .i64 7, .string ⟨#[]⟩, .int .u64 0, .int .u32 0, .slice none 0 0, .int .i64 (-1), .string ⟨#[]⟩, .int .u64 0, .int .u32 0, .slice none 0 0, .int .i64 1, .string ⟨#[]⟩, .int .u64 1099511627777, .int .u32 0, .slice none 0 0, .int .i64 1, .string ⟨#[97]⟩, .int .u64 0, .int .u32 0, .slice none 0 0, .int .i64 2, .string ⟨#[]⟩, .int .u64 0, .int .u32 0, .slice none 0 0, .int .i64 3, .string (S ++ ⟨#[97]⟩), .int .u64 0, .int .u32 0, .slice none 0 0, .int .i64 3, .string ⟨#[97]⟩, .int .u64 1, .int .u32 0, .slice none 0 0, .int .i64 4, .string ⟨#[]⟩, .int .u64 0, .int .u32 0, .slice none 0 0, .int .i64 4, .string ⟨#[]⟩, .int .u64 0, .int .u32 16777216, .slice none 0 0, .int .i64 5, .string ⟨#[]⟩, .int .u64 0, .int .u32 0, .slice none 0 0, .int .i64 5, .string ⟨#[]⟩, .int .u64 0, .int .u32 0, .slice (some ⟨w1.heap.size + 1, 0, none⟩) 2 2, .int .i64 6, .string ⟨#[]⟩, .int .u64 0, .int .u32 1, .slice none 0 0, .int .i64 6, .string ⟨#[]⟩, .int .u64 0, .int .u32 0, .slice (some ⟨w1.heap.size + 2, 0, none⟩) 2 2, .int .i64 1, .string ⟨#[]⟩, .int .u64 0, .int .u32 0, .slice (some ⟨w1.heap.size + 3, 0, none⟩) 1 1] 26)
    intro i e hi
    have hw5 := hsz5
    rw [hsz5]
    rw [← hWW]
    rcases i with _ | _ | _ | _ | _ | _ | _ | _ | _ | _ | _ | _ | _ | _ | _ | i
    all_goals first | (simp [bads] at hi; done) | (simp only [bads, List.getElem?_cons_succ, List.getElem?_cons_zero, Option.some.injEq] at hi; subst hi; exact ⟨.slice none 0 0, hB.cell _ _ rfl, hB.cell _ _ rfl, hB.cell _ _ rfl, hB.cell _ _ rfl, hB.cell _ _ rfl, Sls.none_⟩) | (simp only [bads, List.getElem?_cons_succ, List.getElem?_cons_zero, Option.some.injEq] at hi; subst hi; exact ⟨_, hB.cell _ _ rfl, hB.cell _ _ rfl, hB.cell _ _ rfl, hB.cell _ _ rfl, hB.cell _ _ rfl, by first | exact u1.mono (by omega) | exact u2.mono (by omega) | exact u3.mono (by omega)⟩)
  have HBL := Lib.hid (bstep B1.out hbl)
  have HT := Lib.hid (HT.out.on hbl)
  have HGd := Lib.hid HG
  have HBad := Lib.hid HBd
  have Hgok := Lib.hid (goods_ok hsz)
  have Hbno := Lib.hid (bads_no hsz)
  have Hlt := Lib.hid (show w1.heap.size < WL.heap.size ∧ w1.heap.size + 4 < WL.heap.size by omega)
  clear hWW hbl hsz5 HG HBd hrun' hcv HS hsz B1
  go_loopg [61] 5 (fun q i wr => ∃ j : Nat, j + q = 5 ∧ i = .int .i64 j ∧ Below WL.heap.size WL wr)
  case atStart => exact ⟨0, by omega, rfl, Below.refl _ _⟩
  case round =>
    obtain ⟨j, hj, rfl, hb⟩ := hrel
    by_cases hlt : j < 5
    · obtain ⟨e, he⟩ : ∃ e, (goods S)[j]? = some e := ⟨_, List.getElem?_eq_getElem hlt⟩
      obtain ⟨sv, a0, a1, a2, a3, a4, hsv⟩ := (HGd.out.below hb (by have := Hlt.out; omega) (Nat.le_refl _)) j e he
      obtain ⟨hm, hf⟩ := Hgok.out e (List.mem_of_getElem? he)
      obtain ⟨A, c, rfl, _, _⟩ := id hsv
      have hbb := bnew wr (.cells #[.int .i64 e.kind, .string e.name, .int .u64 e.seq, .int .u32 e.id, .slice A e.seals.length c] 26)
      have hX := Bx.new wr #[.int .i64 e.kind, .string e.name, .int .u64 e.seq, .int .u32 e.id, .slice A e.seals.length c] 26 _ rfl
      have hV : EdV (wr.alloc (.cells #[.int .i64 e.kind, .string e.name, .int .u64 e.seq, .int .u32 e.id, .slice A e.seals.length c] 26)) (wr.alloc (.cells #[.int .i64 e.kind, .string e.name, .int .u64 e.seq, .int .u32 e.id, .slice A e.seals.length c] 26)).heap.size (edV e.kind e.name e.seq e.id (.slice A e.seals.length c)) e := ⟨_, rfl, (hsv.below hbb hb.size).mono (Nat.le_trans hb.size hbb.size)⟩
      have HV := Lib.hid hV
      have HX := Lib.hid hX
      have Hb := Lib.hid (bstep hb hbb)
      have HTr := Lib.hid ((HT.out.on hb).on hbb)
      have Hm := Lib.hid hm
      have Hf := Lib.hid hf
      clear he hsv hbb hX hV hb hm hf
      go_wp2_with fail
      refine (eput_yes _ e _ HV.out Hf.out HTr.out Hm.out).mono ?_
      rintro en w5 ⟨⟨rb, rfl, hrb⟩, hb5⟩
      obtain ⟨Ab, cb, rfl, _, _⟩ := id hrb
      have hpos : (((Ed.bytesE e).length : Int) == 0) = false := by simp [Ed.bytesE]; omega
      generalize (Ed.bytesE e).length = nb at *
      clear hrb
      obtain ⟨k0, k1, k2, k3, k4⟩ := (HX.out.on hb5).at5
      have HV := Lib.hid (HV.out.on hb5)
      have Hb := Lib.hid (bstep Hb.out hb5)
      have HTr := Lib.hid (HTr.out.on hb5)
      clear hb5 a0 a1 a2 a3 a4
      go_wp2_with fail
      refine (may_edit _ e _ HV.out Hf.out HTr.out).mono ?_
      rw [Hm.out]
      rintro en w6 ⟨rfl, hb6⟩
      have Hb := Lib.hid (bstep Hb.out hb6)
      clear hb6
      go_wp2_with fail
      go_roundg (gk - 1)
      case measure => omega
      case rel => exact ⟨j + 1, by omega, by go_num, Hb.out⟩
    · obtain ⟨wx, hwx⟩ : ∃ wx, wx = wr := ⟨_, rfl⟩
      subst hwx
      have Hwx := Lib.hid hb
      clear hb
      go_wp2_with fail
      go_loopg [85] 15 (fun q i wr => ∃ j : Nat, j + q = 15 ∧ i = .int .i64 j ∧ Below WL.heap.size WL wr)
      case atStart => exact ⟨0, by omega, rfl, Hwx.out⟩
      case round =>
        obtain ⟨j, hj, rfl, hb⟩ := hrel
        by_cases hlt : j < 15
        · obtain ⟨e, he⟩ : ∃ e, (bads S)[j]? = some e := ⟨_, List.getElem?_eq_getElem hlt⟩
          obtain ⟨sv, a0, a1, a2, a3, a4, hsv⟩ := (HBad.out.below hb (by have := Hlt.out; omega) (Nat.le_refl _)) j e he
          obtain ⟨hm, hf⟩ := Hbno.out e (List.mem_of_getElem? he)
          obtain ⟨A, c, rfl, _, _⟩ := id hsv
          have hbb := bnew wr (.cells #[.int .i64 e.kind, .string e.name, .int .u64 e.seq, .int .u32 e.id, .slice A e.seals.length c] 26)
          have hX := Bx.new wr #[.int .i64 e.kind, .string e.name, .int .u64 e.seq, .int .u32 e.id, .slice A e.seals.length c] 26 _ rfl
          have hV : EdV (wr.alloc (.cells #[.int .i64 e.kind, .string e.name, .int .u64 e.seq, .int .u32 e.id, .slice A e.seals.length c] 26)) (wr.alloc (.cells #[.int .i64 e.kind, .string e.name, .int .u64 e.seq, .int .u32 e.id, .slice A e.seals.length c] 26)).heap.size (edV e.kind e.name e.seq e.id (.slice A e.seals.length c)) e := ⟨_, rfl, (hsv.below hbb hb.size).mono (Nat.le_trans hb.size hbb.size)⟩
          have HV := Lib.hid hV
          have HX := Lib.hid hX
          have Hb := Lib.hid (bstep hb hbb)
          have HTr := Lib.hid ((HT.out.on hb).on hbb)
          have Hm := Lib.hid hm
          have Hf := Lib.hid hf
          clear he hsv hbb hX hV hb hm hf
          go_wp2_with fail
          refine (eput_no _ e _ HV.out Hf.out HTr.out Hm.out).mono ?_
          rintro en w5 ⟨rfl, hb5⟩
          obtain ⟨k0, k1, k2, k3, k4⟩ := (HX.out.on hb5).at5
          have HV := Lib.hid (HV.out.on hb5)
          have Hb := Lib.hid (bstep Hb.out hb5)
          have HTr := Lib.hid (HTr.out.on hb5)
          clear hb5 a0 a1 a2 a3 a4
          go_wp2_with fail
          refine (may_edit _ e _ HV.out Hf.out HTr.out).mono ?_
          rw [Hm.out]
          rintro en w6 ⟨rfl, hb6⟩
          have Hb := Lib.hid (bstep Hb.out hb6)
          clear hb6
          go_wp2_with fail
          go_roundg (gk - 1)
          case measure => omega
          case rel => exact ⟨j + 1, by omega, by go_num, Hb.out⟩
        · skip
          have Hwr := Lib.hid hb
          clear hb
          go_wp2_with fail
          have ix0 : ∀ w, (Instr.index 55 (.agg #[.int .u32 0, .int .u32 16, .int .u32 0, .int .u64 0, .int .u64 0, .int .u32 1, .int .u32 15, .int .u32 0, .int .u64 0, .int .u64 0, .int .u32 1, .int .u32 16777217, .int .u32 0, .int .u64 0, .int .u64 0, .int .u32 1, .int .u32 16, .int .u32 0, .int .u64 1, .int .u64 0, .int .u32 1, .int .u32 16, .int .u32 1, .int .u64 0, .int .u64 0, .int .u32 1, .int .u32 16, .int .u32 2, .int .u64 5, .int .u64 5, .int .u32 1, .int .u32 16, .int .u32 1, .int .u64 5, .int .u64 4, .int .u32 1, .int .u32 16, .int .u32 1, .int .u64 5, .int .u64 1099511627777]) (.int .i64 0)).run Tryd.prog w = .ok (.agg #[.int .u32 0, .int .u32 16, .int .u32 0, .int .u64 0, .int .u64 0]) w := fun w => by kernel_rfl
          have Ix0 := Lib.hid ix0
          clear ix0
          have ix1 : ∀ w, (Instr.index 55 (.agg #[.int .u32 0, .int .u32 16, .int .u32 0, .int .u64 0, .int .u64 0, .int .u32 1, .int .u32 15, .int .u32 0, .int .u64 0, .int .u64 0, .int .u32 1, .int .u32 16777217, .int .u32 0, .int .u64 0, .int .u64 0, .int .u32 1, .int .u32 16, .int .u32 0, .int .u64 1, .int .u64 0, .int .u32 1, .int .u32 16, .int .u32 1, .int .u64 0, .int .u64 0, .int .u32 1, .int .u32 16, .int .u32 2, .int .u64 5, .int .u64 5, .int .u32 1, .int .u32 16, .int .u32 1, .int .u64 5, .int .u64 4, .int .u32 1, .int .u32 16, .int .u32 1, .int .u64 5, .int .u64 1099511627777]) (.int .i64 1)).run Tryd.prog w = .ok (.agg #[.int .u32 1, .int .u32 15, .int .u32 0, .int .u64 0, .int .u64 0]) w := fun w => by kernel_rfl
          have Ix1 := Lib.hid ix1
          clear ix1
          have ix2 : ∀ w, (Instr.index 55 (.agg #[.int .u32 0, .int .u32 16, .int .u32 0, .int .u64 0, .int .u64 0, .int .u32 1, .int .u32 15, .int .u32 0, .int .u64 0, .int .u64 0, .int .u32 1, .int .u32 16777217, .int .u32 0, .int .u64 0, .int .u64 0, .int .u32 1, .int .u32 16, .int .u32 0, .int .u64 1, .int .u64 0, .int .u32 1, .int .u32 16, .int .u32 1, .int .u64 0, .int .u64 0, .int .u32 1, .int .u32 16, .int .u32 2, .int .u64 5, .int .u64 5, .int .u32 1, .int .u32 16, .int .u32 1, .int .u64 5, .int .u64 4, .int .u32 1, .int .u32 16, .int .u32 1, .int .u64 5, .int .u64 1099511627777]) (.int .i64 2)).run Tryd.prog w = .ok (.agg #[.int .u32 1, .int .u32 16777217, .int .u32 0, .int .u64 0, .int .u64 0]) w := fun w => by kernel_rfl
          have Ix2 := Lib.hid ix2
          clear ix2
          have ix3 : ∀ w, (Instr.index 55 (.agg #[.int .u32 0, .int .u32 16, .int .u32 0, .int .u64 0, .int .u64 0, .int .u32 1, .int .u32 15, .int .u32 0, .int .u64 0, .int .u64 0, .int .u32 1, .int .u32 16777217, .int .u32 0, .int .u64 0, .int .u64 0, .int .u32 1, .int .u32 16, .int .u32 0, .int .u64 1, .int .u64 0, .int .u32 1, .int .u32 16, .int .u32 1, .int .u64 0, .int .u64 0, .int .u32 1, .int .u32 16, .int .u32 2, .int .u64 5, .int .u64 5, .int .u32 1, .int .u32 16, .int .u32 1, .int .u64 5, .int .u64 4, .int .u32 1, .int .u32 16, .int .u32 1, .int .u64 5, .int .u64 1099511627777]) (.int .i64 3)).run Tryd.prog w = .ok (.agg #[.int .u32 1, .int .u32 16, .int .u32 0, .int .u64 1, .int .u64 0]) w := fun w => by kernel_rfl
          have Ix3 := Lib.hid ix3
          clear ix3
          have ix4 : ∀ w, (Instr.index 55 (.agg #[.int .u32 0, .int .u32 16, .int .u32 0, .int .u64 0, .int .u64 0, .int .u32 1, .int .u32 15, .int .u32 0, .int .u64 0, .int .u64 0, .int .u32 1, .int .u32 16777217, .int .u32 0, .int .u64 0, .int .u64 0, .int .u32 1, .int .u32 16, .int .u32 0, .int .u64 1, .int .u64 0, .int .u32 1, .int .u32 16, .int .u32 1, .int .u64 0, .int .u64 0, .int .u32 1, .int .u32 16, .int .u32 2, .int .u64 5, .int .u64 5, .int .u32 1, .int .u32 16, .int .u32 1, .int .u64 5, .int .u64 4, .int .u32 1, .int .u32 16, .int .u32 1, .int .u64 5, .int .u64 1099511627777]) (.int .i64 4)).run Tryd.prog w = .ok (.agg #[.int .u32 1, .int .u32 16, .int .u32 1, .int .u64 0, .int .u64 0]) w := fun w => by kernel_rfl
          have Ix4 := Lib.hid ix4
          clear ix4
          have ix5 : ∀ w, (Instr.index 55 (.agg #[.int .u32 0, .int .u32 16, .int .u32 0, .int .u64 0, .int .u64 0, .int .u32 1, .int .u32 15, .int .u32 0, .int .u64 0, .int .u64 0, .int .u32 1, .int .u32 16777217, .int .u32 0, .int .u64 0, .int .u64 0, .int .u32 1, .int .u32 16, .int .u32 0, .int .u64 1, .int .u64 0, .int .u32 1, .int .u32 16, .int .u32 1, .int .u64 0, .int .u64 0, .int .u32 1, .int .u32 16, .int .u32 2, .int .u64 5, .int .u64 5, .int .u32 1, .int .u32 16, .int .u32 1, .int .u64 5, .int .u64 4, .int .u32 1, .int .u32 16, .int .u32 1, .int .u64 5, .int .u64 1099511627777]) (.int .i64 5)).run Tryd.prog w = .ok (.agg #[.int .u32 1, .int .u32 16, .int .u32 2, .int .u64 5, .int .u64 5]) w := fun w => by kernel_rfl
          have Ix5 := Lib.hid ix5
          clear ix5
          have ix6 : ∀ w, (Instr.index 55 (.agg #[.int .u32 0, .int .u32 16, .int .u32 0, .int .u64 0, .int .u64 0, .int .u32 1, .int .u32 15, .int .u32 0, .int .u64 0, .int .u64 0, .int .u32 1, .int .u32 16777217, .int .u32 0, .int .u64 0, .int .u64 0, .int .u32 1, .int .u32 16, .int .u32 0, .int .u64 1, .int .u64 0, .int .u32 1, .int .u32 16, .int .u32 1, .int .u64 0, .int .u64 0, .int .u32 1, .int .u32 16, .int .u32 2, .int .u64 5, .int .u64 5, .int .u32 1, .int .u32 16, .int .u32 1, .int .u64 5, .int .u64 4, .int .u32 1, .int .u32 16, .int .u32 1, .int .u64 5, .int .u64 1099511627777]) (.int .i64 6)).run Tryd.prog w = .ok (.agg #[.int .u32 1, .int .u32 16, .int .u32 1, .int .u64 5, .int .u64 4]) w := fun w => by kernel_rfl
          have Ix6 := Lib.hid ix6
          clear ix6
          have ix7 : ∀ w, (Instr.index 55 (.agg #[.int .u32 0, .int .u32 16, .int .u32 0, .int .u64 0, .int .u64 0, .int .u32 1, .int .u32 15, .int .u32 0, .int .u64 0, .int .u64 0, .int .u32 1, .int .u32 16777217, .int .u32 0, .int .u64 0, .int .u64 0, .int .u32 1, .int .u32 16, .int .u32 0, .int .u64 1, .int .u64 0, .int .u32 1, .int .u32 16, .int .u32 1, .int .u64 0, .int .u64 0, .int .u32 1, .int .u32 16, .int .u32 2, .int .u64 5, .int .u64 5, .int .u32 1, .int .u32 16, .int .u32 1, .int .u64 5, .int .u64 4, .int .u32 1, .int .u32 16, .int .u32 1, .int .u64 5, .int .u64 1099511627777]) (.int .i64 7)).run Tryd.prog w = .ok (.agg #[.int .u32 1, .int .u32 16, .int .u32 1, .int .u64 5, .int .u64 1099511627777]) w := fun w => by kernel_rfl
          have Ix7 := Lib.hid ix7
          clear ix7
          go_loopg [115] 8 (fun q i wr => ∃ j : Nat, j + q = 8 ∧ i = .int .i64 j ∧ Below WL.heap.size WL wr)
          case atStart => exact ⟨0, by omega, rfl, Hwr.out⟩
          case round =>
            clear hj hlt
            obtain ⟨j, hj, rfl, hb⟩ := hrel
            have Hb := Lib.hid hb
            clear hb
            have hjj : j = 0 ∨ j = 1 ∨ j = 2 ∨ j = 3 ∨ j = 4 ∨ j = 5 ∨ j = 6 ∨ j = 7 ∨ j = 8 := by omega
            rcases hjj with rfl | rfl | rfl | rfl | rfl | rfl | rfl | rfl | rfl
            · have ix := Ix0.out
              have hbb := bnew wr (.cells #[.int .u32 0, .int .u32 16, .int .u32 0, .int .u64 0, .int .u64 0] 28)
              have Hb := Lib.hid (bstep Hb.out hbb)
              clear hbb
              go_wp2_with fail
              refine (maySeal_b ⟨0, 16, 0, 0, 0⟩ _ ⟨by decide, by decide, by decide, by decide, by decide⟩ false (by decide)).mono ?_
              rintro en w6 ⟨rfl, hb6⟩
              have Hb := Lib.hid (bstep Hb.out hb6)
              clear hb6 ix
              go_wp2_with fail
              go_roundg (gk - 1)
              case measure => omega
              case rel => exact ⟨1, by omega, by go_num, Hb.out⟩
            · have ix := Ix1.out
              have hbb := bnew wr (.cells #[.int .u32 1, .int .u32 15, .int .u32 0, .int .u64 0, .int .u64 0] 28)
              have Hb := Lib.hid (bstep Hb.out hbb)
              clear hbb
              go_wp2_with fail
              refine (maySeal_b ⟨1, 15, 0, 0, 0⟩ _ ⟨by decide, by decide, by decide, by decide, by decide⟩ false (by decide)).mono ?_
              rintro en w6 ⟨rfl, hb6⟩
              have Hb := Lib.hid (bstep Hb.out hb6)
              clear hb6 ix
              go_wp2_with fail
              go_roundg (gk - 1)
              case measure => omega
              case rel => exact ⟨2, by omega, by go_num, Hb.out⟩
            · have ix := Ix2.out
              have hbb := bnew wr (.cells #[.int .u32 1, .int .u32 16777217, .int .u32 0, .int .u64 0, .int .u64 0] 28)
              have Hb := Lib.hid (bstep Hb.out hbb)
              clear hbb
              go_wp2_with fail
              refine (maySeal_b ⟨1, 16777217, 0, 0, 0⟩ _ ⟨by decide, by decide, by decide, by decide, by decide⟩ false (by decide)).mono ?_
              rintro en w6 ⟨rfl, hb6⟩
              have Hb := Lib.hid (bstep Hb.out hb6)
              clear hb6 ix
              go_wp2_with fail
              go_roundg (gk - 1)
              case measure => omega
              case rel => exact ⟨3, by omega, by go_num, Hb.out⟩
            · have ix := Ix3.out
              have hbb := bnew wr (.cells #[.int .u32 1, .int .u32 16, .int .u32 0, .int .u64 1, .int .u64 0] 28)
              have Hb := Lib.hid (bstep Hb.out hbb)
              clear hbb
              go_wp2_with fail
              refine (maySeal_b ⟨1, 16, 0, 1, 0⟩ _ ⟨by decide, by decide, by decide, by decide, by decide⟩ false (by decide)).mono ?_
              rintro en w6 ⟨rfl, hb6⟩
              have Hb := Lib.hid (bstep Hb.out hb6)
              clear hb6 ix
              go_wp2_with fail
              go_roundg (gk - 1)
              case measure => omega
              case rel => exact ⟨4, by omega, by go_num, Hb.out⟩
            · have ix := Ix4.out
              have hbb := bnew wr (.cells #[.int .u32 1, .int .u32 16, .int .u32 1, .int .u64 0, .int .u64 0] 28)
              have Hb := Lib.hid (bstep Hb.out hbb)
              clear hbb
              go_wp2_with fail
              refine (maySeal_b ⟨1, 16, 1, 0, 0⟩ _ ⟨by decide, by decide, by decide, by decide, by decide⟩ false (by decide)).mono ?_
              rintro en w6 ⟨rfl, hb6⟩
              have Hb := Lib.hid (bstep Hb.out hb6)
              clear hb6 ix
              go_wp2_with fail
              go_roundg (gk - 1)
              case measure => omega
              case rel => exact ⟨5, by omega, by go_num, Hb.out⟩
            · have ix := Ix5.out
              have hbb := bnew wr (.cells #[.int .u32 1, .int .u32 16, .int .u32 2, .int .u64 5, .int .u64 5] 28)
              have Hb := Lib.hid (bstep Hb.out hbb)
              clear hbb
              go_wp2_with fail
              refine (maySeal_b ⟨1, 16, 2, 5, 5⟩ _ ⟨by decide, by decide, by decide, by decide, by decide⟩ false (by decide)).mono ?_
              rintro en w6 ⟨rfl, hb6⟩
              have Hb := Lib.hid (bstep Hb.out hb6)
              clear hb6 ix
              go_wp2_with fail
              go_roundg (gk - 1)
              case measure => omega
              case rel => exact ⟨6, by omega, by go_num, Hb.out⟩
            · have ix := Ix6.out
              have hbb := bnew wr (.cells #[.int .u32 1, .int .u32 16, .int .u32 1, .int .u64 5, .int .u64 4] 28)
              have Hb := Lib.hid (bstep Hb.out hbb)
              clear hbb
              go_wp2_with fail
              refine (maySeal_b ⟨1, 16, 1, 5, 4⟩ _ ⟨by decide, by decide, by decide, by decide, by decide⟩ false (by decide)).mono ?_
              rintro en w6 ⟨rfl, hb6⟩
              have Hb := Lib.hid (bstep Hb.out hb6)
              clear hb6 ix
              go_wp2_with fail
              go_roundg (gk - 1)
              case measure => omega
              case rel => exact ⟨7, by omega, by go_num, Hb.out⟩
            · have ix := Ix7.out
              have hbb := bnew wr (.cells #[.int .u32 1, .int .u32 16, .int .u32 1, .int .u64 5, .int .u64 1099511627777] 28)
              have Hb := Lib.hid (bstep Hb.out hbb)
              clear hbb
              go_wp2_with fail
              refine (maySeal_b ⟨1, 16, 1, 5, 1099511627777⟩ _ ⟨by decide, by decide, by decide, by decide, by decide⟩ false (by decide)).mono ?_
              rintro en w6 ⟨rfl, hb6⟩
              have Hb := Lib.hid (bstep Hb.out hb6)
              clear hb6 ix
              go_wp2_with fail
              go_roundg (gk - 1)
              case measure => omega
              case rel => exact ⟨8, by omega, by go_num, Hb.out⟩
            · skip
              have HW := Lib.hid (bstep HBL.out Hb.out)
              have HT := Lib.hid (HT.out.on Hb.out)
              clear hj
              go_wp2_with fail
              have hbb := Below.refl wr.heap.size wr
              refine (eget_b _ [] _ Bs.none_ (by decide) HT.out).mono ?_
              rw [show Ed.getR [] = (Ed.none, 4) from rfl]
              rintro en x0 ⟨⟨ev, rfl, sv, rfl, hsv⟩, hb⟩
              obtain ⟨A, c, rfl, _, _⟩ := hsv
              unfold edV
              have hbx := bnew x0 (.cells #[.int .i64 Ed.none.kind, .string Ed.none.name, .int .u64 Ed.none.seq, .int .u32 Ed.none.id, .slice A Ed.none.seals.length c] 26)
              have HW := Lib.hid (bstep (bstep (bstep HW.out hbb) hb) hbx)
              have HT := Lib.hid (((HT.out.on hbb).on hb).on hbx)
              clear hbb hb hbx
              go_wp2_with fail
              have hbb := bnew (x0.alloc (.cells #[.int .i64 Ed.none.kind, .string Ed.none.name, .int .u64 Ed.none.seq, .int .u32 Ed.none.id, .slice A Ed.none.seals.length c] 26)) (.cells (bvs [0]).toArray 5)
              have hln := (Bs.new (x0.alloc (.cells #[.int .i64 Ed.none.kind, .string Ed.none.name, .int .u64 Ed.none.seq, .int .u32 Ed.none.id, .slice A Ed.none.seals.length c] 26)) [0] 5).mono (B' := ((x0.alloc (.cells #[.int .i64 Ed.none.kind, .string Ed.none.name, .int .u64 Ed.none.seq, .int .u32 Ed.none.id, .slice A Ed.none.seals.length c] 26)).alloc (.cells (bvs [0]).toArray 5)).heap.size) (by simp)
              rw [show (x0.alloc (.cells #[.int .i64 Ed.none.kind, .string Ed.none.name, .int .u64 Ed.none.seq, .int .u32 Ed.none.id, .slice A Ed.none.seals.length c] 26)).heap.size = x0.heap.size + 1 by simp] at hln
              refine (eget_b _ [0] _ hln (by decide) (HT.out.on hbb)).mono ?_
              clear hln
              rw [show Ed.getR [0] = (Ed.none, 5) from rfl]
              rintro en x1 ⟨⟨ev, rfl, sv, rfl, hsv⟩, hb⟩
              obtain ⟨A, c, rfl, _, _⟩ := hsv
              unfold edV
              have hbx := bnew x1 (.cells #[.int .i64 Ed.none.kind, .string Ed.none.name, .int .u64 Ed.none.seq, .int .u32 Ed.none.id, .slice A Ed.none.seals.length c] 26)
              have HW := Lib.hid (bstep (bstep (bstep HW.out hbb) hb) hbx)
              have HT := Lib.hid (((HT.out.on hbb).on hb).on hbx)
              clear hbb hb hbx
              go_wp2_with fail
              have hbb := bnew (x1.alloc (.cells #[.int .i64 Ed.none.kind, .string Ed.none.name, .int .u64 Ed.none.seq, .int .u32 Ed.none.id, .slice A Ed.none.seals.length c] 26)) (.cells (bvs [3, 0]).toArray 5)
              have hln := (Bs.new (x1.alloc (.cells #[.int .i64 Ed.none.kind, .string Ed.none.name, .int .u64 Ed.none.seq, .int .u32 Ed.none.id, .slice A Ed.none.seals.length c] 26)) [3, 0] 5).mono (B' := ((x1.alloc (.cells #[.int .i64 Ed.none.kind, .string Ed.none.name, .int .u64 Ed.none.seq, .int .u32 Ed.none.id, .slice A Ed.none.seals.length c] 26)).alloc (.cells (bvs [3, 0]).toArray 5)).heap.size) (by simp)
              rw [show (x1.alloc (.cells #[.int .i64 Ed.none.kind, .string Ed.none.name, .int .u64 Ed.none.seq, .int .u32 Ed.none.id, .slice A Ed.none.seals.length c] 26)).heap.size = x1.heap.size + 1 by simp] at hln
              refine (eget_b _ [3, 0] _ hln (by decide) (HT.out.on hbb)).mono ?_
              clear hln
              rw [show Ed.getR [3, 0] = (Ed.none, 5) from rfl]
              rintro en x2 ⟨⟨ev, rfl, sv, rfl, hsv⟩, hb⟩
              obtain ⟨A, c, rfl, _, _⟩ := hsv
              unfold edV
              have hbx := bnew x2 (.cells #[.int .i64 Ed.none.kind, .string Ed.none.name, .int .u64 Ed.none.seq, .int .u32 Ed.none.id, .slice A Ed.none.seals.length c] 26)
              have HW := Lib.hid (bstep (bstep (bstep HW.out hbb) hb) hbx)
              have HT := Lib.hid (((HT.out.on hbb).on hb).on hbx)
              clear hbb hb hbx
              go_wp2_with fail
              have hbb := bnew (x2.alloc (.cells #[.int .i64 Ed.none.kind, .string Ed.none.name, .int .u64 Ed.none.seq, .int .u32 Ed.none.id, .slice A Ed.none.seals.length c] 26)) (.cells (bvs [5, 7, 100, 2, 3, 0]).toArray 5)
              have hln := (Bs.new (x2.alloc (.cells #[.int .i64 Ed.none.kind, .string Ed.none.name, .int .u64 Ed.none.seq, .int .u32 Ed.none.id, .slice A Ed.none.seals.length c] 26)) [5, 7, 100, 2, 3, 0] 5).mono (B' := ((x2.alloc (.cells #[.int .i64 Ed.none.kind, .string Ed.none.name, .int .u64 Ed.none.seq, .int .u32 Ed.none.id, .slice A Ed.none.seals.length c] 26)).alloc (.cells (bvs [5, 7, 100, 2, 3, 0]).toArray 5)).heap.size) (by simp)
              rw [show (x2.alloc (.cells #[.int .i64 Ed.none.kind, .string Ed.none.name, .int .u64 Ed.none.seq, .int .u32 Ed.none.id, .slice A Ed.none.seals.length c] 26)).heap.size = x2.heap.size + 1 by simp] at hln
              refine (eget_b _ [5, 7, 100, 2, 3, 0] _ hln (by decide) (HT.out.on hbb)).mono ?_
              clear hln
              rw [show Ed.getR [5, 7, 100, 2, 3, 0] = (Ed.none, 5) from rfl]
              rintro en x3 ⟨⟨ev, rfl, sv, rfl, hsv⟩, hb⟩
              obtain ⟨A, c, rfl, _, _⟩ := hsv
              unfold edV
              have hbx := bnew x3 (.cells #[.int .i64 Ed.none.kind, .string Ed.none.name, .int .u64 Ed.none.seq, .int .u32 Ed.none.id, .slice A Ed.none.seals.length c] 26)
              have HW := Lib.hid (bstep (bstep (bstep HW.out hbb) hb) hbx)
              have HT := Lib.hid (((HT.out.on hbb).on hb).on hbx)
              clear hbb hb hbx
              go_wp2_with fail
              have hbb := bnew (x3.alloc (.cells #[.int .i64 Ed.none.kind, .string Ed.none.name, .int .u64 Ed.none.seq, .int .u32 Ed.none.id, .slice A Ed.none.seals.length c] 26)) (.cells (bvs [6, 0, 128, 201]).toArray 5)
              have hln := (Bs.new (x3.alloc (.cells #[.int .i64 Ed.none.kind, .string Ed.none.name, .int .u64 Ed.none.seq, .int .u32 Ed.none.id, .slice A Ed.none.seals.length c] 26)) [6, 0, 128, 201] 5).mono (B' := ((x3.alloc (.cells #[.int .i64 Ed.none.kind, .string Ed.none.name, .int .u64 Ed.none.seq, .int .u32 Ed.none.id, .slice A Ed.none.seals.length c] 26)).alloc (.cells (bvs [6, 0, 128, 201]).toArray 5)).heap.size) (by simp)
              rw [show (x3.alloc (.cells #[.int .i64 Ed.none.kind, .string Ed.none.name, .int .u64 Ed.none.seq, .int .u32 Ed.none.id, .slice A Ed.none.seals.length c] 26)).heap.size = x3.heap.size + 1 by simp] at hln
              refine (eget_b _ [6, 0, 128, 201] _ hln (by decide) (HT.out.on hbb)).mono ?_
              clear hln
              rw [show Ed.getR [6, 0, 128, 201] = (Ed.none, 5) from rfl]
              rintro en x4 ⟨⟨ev, rfl, sv, rfl, hsv⟩, hb⟩
              obtain ⟨A, c, rfl, _, _⟩ := hsv
              unfold edV
              have hbx := bnew x4 (.cells #[.int .i64 Ed.none.kind, .string Ed.none.name, .int .u64 Ed.none.seq, .int .u32 Ed.none.id, .slice A Ed.none.seals.length c] 26)
              have HW := Lib.hid (bstep (bstep (bstep HW.out hbb) hb) hbx)
              have HT := Lib.hid (((HT.out.on hbb).on hb).on hbx)
              clear hbb hb hbx
              go_wp2_with fail
              refine (maySeal_b ⟨1, 16, 2, 5, 6⟩ _ ⟨by decide, by decide, by decide, by decide, by decide⟩ true (by decide)).mono ?_
              rintro en w6 ⟨rfl, hb6⟩
              have HW := Lib.hid (bstep HW.out hb6)
              have HT := Lib.hid (HT.out.on hb6)
              clear hb6
              go_wp2_with fail
              refine (wakes9 _ HT.out).mono ?_
              rintro en wf ⟨rfl, hb⟩
              have HW := Lib.hid (bstep HW.out hb)
              clear hb
              go_wp2_with fail
              go_ret
              exact ⟨rfl, HW.out⟩
end Go.Proofs.YthcmjgkdljgcbaaDoor.editKnown
