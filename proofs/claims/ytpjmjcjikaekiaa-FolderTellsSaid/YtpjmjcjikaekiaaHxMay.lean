
/-
  Layer 6: the program's folder: mayStand, May.
-/
import Derived.Test.YtpjmjcjikaekiaaHxLook
import Derived.Lib.ConvBytes
set_option linter.unusedVariables false
set_option linter.unusedSimpArgs false
namespace Go.Proofs.Ytpjmjcjikaekiaa
open Go.RowKit Go.Maps

set_option maxRecDepth 100000 in
set_option maxHeartbeats 4000000 in
theorem hmayStand_b (x : Int) (b1 b2 b3 b4 b5 b6 : Bool) (e1 : decide (x ≥ 97) = b1) (e2 : decide (x ≤ 122) = b2) (e3 : decide (x ≥ 48) = b3) (e4 : decide (x ≤ 57) = b4) (e5 : (x == 45) = b5) (e6 : (x == 46) = b6) (w : World) :
    Calls Try.prog 44 #[.int .u8 x] w fun e w' => e = .returned (.bool (((b1 && b2) || (b3 && b4)) || b5 || b6)) ∧ w = w' := by
  cases b1 <;> cases b2 <;> cases b3 <;> cases b4 <;> cases b5 <;> cases b6 <;>
    (go_enter Try.func44, Try.ntmps44
     go_wp2
     go_ret
     exact ⟨rfl, rfl⟩)
theorem hmayStand (c : UInt8) (w : World) : Calls Try.prog 44 #[.int .u8 (c.toNat : Int)] w fun e w' => e = .returned (.bool (okB c)) ∧ w = w' := by
  refine (hmayStand_b (c.toNat : Int) _ _ _ _ _ _ rfl rfl rfl rfl rfl rfl w).mono fun e w' ⟨he, hw⟩ => ⟨?_, hw⟩
  rw [he]
  congr 2
  unfold okB
  have h1 : decide ((c.toNat : Int) ≥ 97) = decide (97 ≤ c.toNat) := by congr 1; apply propext; omega
  have h2 : decide ((c.toNat : Int) ≤ 122) = decide (c.toNat ≤ 122) := by congr 1; apply propext; omega
  have h3 : decide ((c.toNat : Int) ≥ 48) = decide (48 ≤ c.toNat) := by congr 1; apply propext; omega
  have h4 : decide ((c.toNat : Int) ≤ 57) = decide (c.toNat ≤ 57) := by congr 1; apply propext; omega
  have h5 : ((c.toNat : Int) == 45) = decide (c.toNat = 45) := by
    rw [show ((c.toNat : Int) == 45) = decide ((c.toNat : Int) = 45) from rfl]
    congr 1; apply propext; omega
  have h6 : ((c.toNat : Int) == 46) = decide (c.toNat = 46) := by
    rw [show ((c.toNat : Int) == 46) = decide ((c.toNat : Int) = 46) from rfl]
    congr 1; apply propext; omega
  rw [h1, h2, h3, h4, h5, h6]
theorem conv_name (w : World) (s : ByteArray) : ∃ c w', (convert 9 84 (.string s)).run Try.prog w = .ok (.slice (some ⟨w.heap.size, 0, none⟩) s.size c) w' ∧ Below w.heap.size w w' ∧ w.heap.size < w'.heap.size ∧
    ∀ j (x : UInt8), s.data.toList[j]? = some x → w'.cell? ⟨w.heap.size, j, none⟩ = some (.int .u8 (x.toNat : Int)) := by
  refine ⟨_, _, Lib.run_convert_string_bytes w 9 84 5 s Try.underlying9 Try.underlying84 Try.underlying5, ⟨rfl, rfl, rfl, ?_, fun k hk => Lib.bytesWorld_at_old w _ s k hk⟩, ?_, fun j x hx => ?_⟩
  · rw [Lib.bytesWorld_size]; omega
  · rw [Lib.bytesWorld_size]; omega
  · have hj : j < s.size := by have := (List.getElem?_eq_some_iff.1 hx).1; rw [Array.length_toList] at this; exact this
    rw [Lib.bytesWorld_cell w _ s j hj, List.getD_eq_getElem?_getD, hx]
    rfl
set_option maxRecDepth 100000 in
set_option maxHeartbeats 4000000 in
theorem hmay (s : ByteArray) (w : World) (hs : s.size ≤ 9223372036854775807) : Calls Try.prog 22 #[.string s] w fun e w' => e = .returned (.bool (mayN s)) ∧ Below w.heap.size w w' := by
  rcases (show s.size = 0 ∨ 32 < s.size ∨ (0 < s.size ∧ s.size ≤ 32) by omega) with h | h | h
  · have hm : mayN s = false := by unfold mayN; simp [h]
    rw [hm]
    have h1 : decide ((s.size : Int) < 1) = true := decide_eq_true (by omega)
    go_enter Try.func22, Try.ntmps22
    go_wp2
    go_ret
    exact ⟨rfl, Below.refl _ _⟩
  · have hm : mayN s = false := by
      have h9 : decide (s.size ≤ 32) = false := by simp; omega
      unfold mayN; rw [h9]; simp
    rw [hm]
    have h1 : decide ((s.size : Int) < 1) = false := decide_eq_false (by omega)
    have h2 : decide ((s.size : Int) > 32) = true := decide_eq_true (by omega)
    go_enter Try.func22, Try.ntmps22
    go_wp2
    go_ret
    exact ⟨rfl, Below.refl _ _⟩
  · obtain ⟨h3, h4⟩ := h
    have h1 : decide ((s.size : Int) < 1) = false := decide_eq_false (by omega)
    have h2 : decide ((s.size : Int) > 32) = false := decide_eq_false (by omega)
    obtain ⟨cp, w1, hcv, hb1, hlt, hcell⟩ := conv_name w s
    have HC := Lib.hid hcell
    have HB := Lib.hid hb1
    obtain ⟨B, hB⟩ : ∃ B, B = w.heap.size := ⟨_, rfl⟩
    rw [← hB] at hcv HC
    have HBB := Lib.hid hB
    clear hcell hb1 hB
    go_enter Try.func22, Try.ntmps22
    go_wp2_with fail
    go_loopw [16] (fun i wr => ∃ j : Nat, j ≤ s.size ∧ i = .int .i64 j ∧ (s.data.toList.take j).all okB = true ∧ w1 = wr) (fun i _ => s.size - (intOf i).toNat)
    case atStart => exact ⟨0, by omega, rfl, by simp, rfl⟩
    case round =>
      obtain ⟨j, hj, rfl, hall, rfl⟩ := hrel
      have HA := Lib.hid hall
      clear hall
      by_cases hjl : j < s.size
      · obtain ⟨c, hc⟩ : ∃ c, s.data.toList[j]? = some c := ⟨s.data.toList[j]'(by simpa using hjl), List.getElem?_eq_getElem _⟩
        have Hc := Lib.hid hc
        have hcl := HC.out j c hc
        clear hc
        cases ho : okB c
        · go_wp2_with (go_at_call 44; refine (hmayStand c _).mono ?_; rintro e w' ⟨rfl, rfl⟩; rw [ho])
          go_ret
          exact ⟨by rw [mayN_no Hc.out ho]; rfl, HB.out⟩
        · go_wp2_with (go_at_call 44; refine (hmayStand c _).mono ?_; rintro e w' ⟨rfl, rfl⟩; rw [ho])
          go_roundw
          case rel => exact ⟨j + 1, by omega, by go_num, all_next Hc.out HA.out ho, by first | trivial | rfl⟩
          case measure => simp [intOf]; omega
      · obtain rfl : j = s.size := by omega
        have hl : s.data.toList.take s.size = s.data.toList := List.take_of_length_le (by rw [Array.length_toList]; exact Nat.le_refl _)
        have hm : mayN s = true := by
          have h9 := HA.out
          rw [hl] at h9
          unfold mayN
          rw [h9]
          simp
          omega
        have Hm := Lib.hid hm
        clear hm hl
        go_wp2_with fail
        go_ret
        exact ⟨by rw [Hm.out]; rfl, HB.out⟩
end Go.Proofs.Ytpjmjcjikaekiaa
