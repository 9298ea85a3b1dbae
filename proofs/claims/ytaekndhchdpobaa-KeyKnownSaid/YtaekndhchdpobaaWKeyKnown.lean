
/-
  The walk of the law KeyKnown: it returns true, and writes nothing that was there.
-/
import Derived.Test.YtaekndhchdpobaaKyKey
import Derived.Test.YtaekndhchdpobaaKyHash
import Derived.OpenShut
import Derived.IntWalk
set_option linter.unusedVariables false
set_option linter.unusedSimpArgs false
namespace Go.Proofs.Ytaekndhchdpobaa.keyKnown
open Go.RowKit

def fA : Nat → Nat := fun i => if i = 0 then 256 else 0
def fZ : Nat → Nat := fun _ => 0
theorem okA : okB 1 fA = false := by decide
theorem okZ : okB 2 fZ = true := by decide
theorem fitA : Fit 1 fA := ⟨by omega, fun i _ => by unfold fA; split <;> omega⟩
theorem fitZ : Fit 2 fZ := ⟨by omega, fun i _ => by unfold fZ; omega⟩
theorem keyZ : keyL 2 fZ = [0, 0] := by decide

set_option maxRecDepth 100000 in
set_option maxHeartbeats 8000000 in
theorem walk (w : World) :
    Calls Try.prog 8 #[] w fun e w' => e = .returned (.bool true) ∧ Below w.heap.size w w' := by
  obtain ⟨i0, hi0, hz0, hz1, hz2⟩ := info_parts byte_info
  go_enter Try.func8, Try.ntmps8
  go_wp2_with fail
  refine (after_no _ [] w.heap.size _ (by exact Bs.none_) (.inl rfl) (by decide)).mono ?_
  rintro e w1 ⟨rfl, rfl⟩
  obtain ⟨w2, hrun, hown, hgr⟩ := run_make_full (P := Try.prog) w w.heap.size 53 5 i0 (.int .u8 0) 1 Try.underlying53 hi0 hz0 hz1 .i64 .i64 65 (by rw [hz2]; omega) (by unfold maxLen; omega) (Nat.le_refl _)
  have b2 : Below w.heap.size w w2 := (Below.refl _ _).grown hgr (Nat.le_refl _) (by simp)
  have hs2 : Bs w2 w2.heap.size (.slice (some ⟨w.heap.size, 0, none⟩) 65 65) (List.replicate 65 0) := Bs.of_own (made_zeros4 hown)
  have HS2 := Lib.hid hs2
  have HB2 := Lib.hid b2
  clear hown hgr b2 hs2
  rw [show (((65 : Nat) : Int)) = 65 by rfl] at hrun
  go_wp2_with fail
  clear hrun
  refine (after_no _ _ _ _ HS2.out (.inr (by decide)) (by decide)).mono ?_
  rintro e w1 ⟨rfl, rfl⟩
  go_wp2_with fail
  have h0 := bs_new w2 [255] #[.int .u8 255] 5 rfl
  have b0 := bnew4 w2 (.cells #[.int .u8 255] 5)
  refine (after_short _ [255] _ h0 (by decide) (by decide)).mono ?_
  rintro e w3 ⟨r3, rfl, hs3, hb3⟩
  have HS3 := Lib.hid hs3
  have HB3 := Lib.hid (HB2.out.trans ((b0.trans (hb3.mono b0.size)).mono HB2.out.size))
  clear h0 b0 hs3 hb3 HS2 HB2
  go_wp2_with fail
  refine (key_any 1 fA _ fitA (by omega) (by omega) false okA.symm).mono ?_
  rintro e w4 ⟨⟨r4, rfl, _, hr4⟩, hb4⟩
  obtain rfl := hr4 rfl
  have HS4 := Lib.hid (Bs.keepB HS3.out hb4)
  have HB4 := Lib.hid (HB3.out.trans (hb4.mono HB3.out.size))
  clear hr4 hb4 HS3 HB3
  go_wp2_with fail
  refine (key_bad 65 fZ _ (by omega) (by omega)).mono ?_
  rintro e w5 ⟨rfl, hb5⟩
  have HS5 := Lib.hid (Bs.keepB HS4.out hb5)
  have HB5 := Lib.hid (HB4.out.trans (hb5.mono HB4.out.size))
  clear hb5 HS4 HB4
  go_wp2_with fail
  refine (key_bad 0 fZ _ (by omega) (by omega)).mono ?_
  rintro e w6 ⟨rfl, hb6⟩
  have HS6 := Lib.hid (Bs.keepB HS5.out hb6)
  have HB6 := Lib.hid (HB5.out.trans (hb6.mono HB5.out.size))
  clear hb6 HS5 HB5
  go_wp2_with fail
  refine (key_any 2 fZ _ fitZ (by omega) (by omega) true okZ.symm).mono ?_
  rintro e w7 ⟨⟨r7, rfl, hr7, _⟩, hb7⟩
  have hs7 := hr7 rfl
  rw [keyZ] at hs7
  have HT7 := Lib.hid hs7
  have HS7 := Lib.hid (Bs.keepB HS6.out hb7)
  have HB7 := Lib.hid (HB6.out.trans (hb7.mono HB6.out.size))
  clear hb7 hr7 hs7 HS6 HB6
  go_wp2_with fail
  go_loopw [15, 16] (fun b i wr => ∃ k : Nat, k ≤ 40 ∧ b = .bool true ∧ i = .int .i64 k ∧ Below w7.heap.size w7 wr) (fun _ i _ => 40 - (intOf i).toNat)
  case atStart => exact ⟨0, by omega, rfl, rfl, Below.refl _ _⟩
  case round =>
    obtain ⟨k, hk, rfl, rfl, hb8⟩ := hrel
    have HB8 := Lib.hid hb8
    clear hb8
    by_cases hlt : k < 40
    · obtain ⟨w9, hrun, hown, hgr⟩ := run_make_full (P := Try.prog) wr wr.heap.size 53 5 i0 (.int .u8 0) 1 Try.underlying53 hi0 hz0 hz1 .i64 .i64 k (by rw [hz2]; omega) (by unfold maxLen; omega) (Nat.le_refl _)
      have b9 : Below wr.heap.size wr w9 := (Below.refl _ _).grown hgr (Nat.le_refl _) (by simp)
      have HB9 := Lib.hid (HB8.out.trans (b9.mono HB8.out.size))
      have hr9 := Rd.of_own (made_zeros4 hown)
      have hcv := convert_rd (P := Try.prog) hr9 k 53 5 9 Try.underlying53 Try.underlying5 Try.underlying9
      rw [List.length_replicate] at hcv
      obtain ⟨S, hS⟩ : ∃ S, (⟨(List.replicate k (0 : UInt8)).toArray⟩ : ByteArray) = S := ⟨_, rfl⟩
      have hSz : S.size = k := by rw [← hS]; simp [ByteArray.size]
      rw [hS] at hcv
      have hway : (decide ((1 : Int) ≤ (k : Int)) = false ∧ (decide ((1 : Int) ≤ S.size) && decide ((S.size : Int) ≤ 32)) = false) ∨ (decide ((1 : Int) ≤ (k : Int)) = true ∧ decide ((k : Int) ≤ 32) = true ∧ (decide ((1 : Int) ≤ S.size) && decide ((S.size : Int) ≤ 32)) = true) ∨ (decide ((1 : Int) ≤ (k : Int)) = true ∧ decide ((k : Int) ≤ 32) = false ∧ (decide ((1 : Int) ≤ S.size) && decide ((S.size : Int) ≤ 32)) = false) := by
        rw [hSz]
        simp
        omega
      have HSz := Lib.hid hSz
      clear hS hSz hr9 hown hgr b9
      rcases hway with ⟨d1, d2⟩ | ⟨d1, d2, d3⟩ | ⟨d1, d2, d3⟩
      · have D2 := Lib.hid d2
        clear d2
        go_wp2_with fail
        refine (mayName_any S _ _ D2.out (by rw [HSz.out]; omega)).mono ?_
        rintro e w10 ⟨rfl, rfl⟩
        go_wp2_with fail
        go_roundw
        case rel => exact ⟨k + 1, by omega, rfl, by go_num, HB9.out⟩
        case measure => simp [intOf]; omega
      all_goals
        have D3 := Lib.hid d3
        clear d3
        go_wp2_with fail
        refine (mayName_any S _ _ D3.out (by rw [HSz.out]; omega)).mono ?_
        rintro e w10 ⟨rfl, rfl⟩
        go_wp2_with fail
        go_roundw
        case rel => exact ⟨k + 1, by omega, rfl, by go_num, HB9.out⟩
        case measure => simp [intOf]; omega
    · obtain rfl : k = 40 := by omega
      have HS8 := Lib.hid (Bs.keepB HS7.out HB8.out)
      have HT8 := Lib.hid (Bs.keepB HT7.out HB8.out)
      have HBB := Lib.hid (HB7.out.trans (HB8.out.mono HB7.out.size))
      obtain ⟨A3, c3, rfl, hc3, hr3⟩ := HS8.out
      obtain ⟨A7, c7, rfl, hc7, hr7⟩ := HT8.out
      have v3 := convert_rd (P := Try.prog) hr3 c3 53 5 9 Try.underlying53 Try.underlying5 Try.underlying9
      have v7 := convert_rd (P := Try.prog) hr7 c7 53 5 9 Try.underlying53 Try.underlying5 Try.underlying9
      rw [show (⟨([255] ++ [0] : List UInt8).toArray⟩ : ByteArray) = ⟨#[255, 0]⟩ from rfl] at v3
      rw [show (⟨([0, 0] : List UInt8).toArray⟩ : ByteArray) = ⟨#[0, 0]⟩ from rfl] at v7
      simp only [List.length_append, List.length_cons, List.length_nil, Nat.reduceAdd, Nat.zero_add] at v3 v7 ⊢
      clear hc3 hc7 hr3 hr7 HS8 HT8
      go_wp2_with fail
      refine (kcompare_b _ _ [] [] wr.heap.size wr.heap.size _ (by exact Bs.none_) (by exact Bs.none_)).mono ?_
      rintro e w10 ⟨rfl, rfl⟩
      rw [show Go.Lib.compareBytes [] [] = 0 from rfl]
      go_wp2_with fail
      have h0 := bs_new wr [0] #[.int .u8 0] 5 rfl
      have b0 := bnew4 wr (.cells #[.int .u8 0] 5)
      refine (kcompare_b _ _ [] [0] wr.heap.size _ _ (by exact Bs.none_) h0).mono ?_
      rintro e w10 ⟨rfl, rfl⟩
      rw [show Go.Lib.compareBytes [] [0] = -1 from rfl]
      have HB10 := Lib.hid (HBB.out.trans (b0.mono HBB.out.size))
      clear h0 b0
      generalize World.alloc _ _ = W10 at *
      go_wp2_with fail
      refine (hash_any _ [] W10.heap.size _ 7 (by exact Bs.none_) (by decide) (by omega)).mono ?_
      rintro e w10 ⟨rfl, rfl⟩
      rw [show ((Ky.hash 7 [] : Nat) : Int) = 7 by rw [Ky.hash, Ky.hashN_nil]; decide]
      go_wp2_with fail
      refine (knows4 _).mono ?_
      rintro e w11 ⟨rfl, hb11⟩
      go_wp2_with fail
      go_ret
      exact ⟨rfl, HB10.out.trans (hb11.mono HB10.out.size)⟩
end Go.Proofs.Ytaekndhchdpobaa.keyKnown
