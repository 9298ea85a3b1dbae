
/-
  Layer 4: the walk of Hash.
-/
import Derived.Test.YtffcbekogpgciaaKyMem
set_option linter.unusedVariables false
set_option linter.unusedSimpArgs false
namespace Go.Proofs.Ytffcbekogpgciaa
open Go.RowKit

theorem xor64 (a b : Nat) (ha : a < 18446744073709551616) (hb : b < 18446744073709551616) : bits .xor .u64 (a : Int) (b : Int) = ((a ^^^ b : Nat) : Int) := by
  rw [u64_xor_nat _ _ ha hb]
theorem seed_val (s n : Nat) (hs : s < 18446744073709551616) : bits .xor .u64 (s : Int) (IntKind.u64.wrap ((n : Int) * 11400714819323198485)) = (Ky.seedH s n : Nat) := by
  have e : IntKind.u64.wrap ((n : Int) * 11400714819323198485) = ((n * 11400714819323198485 % Ky.M64 : Nat) : Int) := by rw [IntKind.wrap_u64]; simp [Ky.M64]
  have hl : n * 11400714819323198485 % Ky.M64 < Ky.M64 := Nat.mod_lt _ (by decide)
  rw [e]
  unfold Ky.seedH
  generalize n * 11400714819323198485 % Ky.M64 = a at hl
  exact xor64 s a hs hl
theorem step_val (h x : Nat) (hh : h < 18446744073709551616) (hx : x < 18446744073709551616) : ∃ a : Nat, IntKind.u64.wrap (bits .xor .u64 (h : Int) (x : Int) * 13787848793156543929) = (a : Int) ∧ a < 18446744073709551616 ∧ bits .xor .u64 (a : Int) ((a : Int) / 4294967296) = (Ky.stepH h x : Nat) := by
  refine ⟨(h ^^^ x) * 13787848793156543929 % Ky.M64, ?_, Nat.mod_lt _ (by decide), ?_⟩
  · rw [xor64 _ _ hh hx, IntKind.wrap_u64]; simp [Ky.M64]
  · have hl : (h ^^^ x) * 13787848793156543929 % Ky.M64 < Ky.M64 := Nat.mod_lt _ (by decide)
    unfold Ky.stepH
    simp only []
    generalize (h ^^^ x) * 13787848793156543929 % Ky.M64 = a at hl
    rw [show ((a : Int) / 4294967296) = ((a / 4294967296 : Nat) : Int) by simp, xor64 _ _ hl (Nat.lt_of_le_of_lt (Nat.div_le_self _ _) hl)]

theorem seedH_lt (s n : Nat) (hs : s < 18446744073709551616) : Ky.seedH s n < 18446744073709551616 := Ky.xor_lt64 hs (Nat.mod_lt _ (by decide))
/-- how far the hash has come -/
def HashRel (s : Nat) (l : List UInt8) (p H : Nat) : Prop := H < 18446744073709551616 ∧ Ky.hashN H (l.drop p) = Ky.hash s l
theorem HashRel.start (s : Nat) (l : List UInt8) (hs : s < 18446744073709551616) : HashRel s l 0 (Ky.seedH s l.length) := ⟨seedH_lt s _ hs, rfl⟩
theorem HashRel.step {s : Nat} {l : List UInt8} {p H : Nat} (h : HashRel s l p H) (hp : p < l.length) : HashRel s l (p + 8) (Ky.stepH H (Ky.word (l.drop p))) := by
  refine ⟨Ky.stepH_lt _ _, ?_⟩
  rw [← h.2, Ky.hashN_step H (l.drop p) (by intro e; have := congrArg List.length e; simp at this; omega), List.drop_drop]
theorem HashRel.done {s : Nat} {l : List UInt8} {p H : Nat} (h : HashRel s l p H) (hp : l.length ≤ p) : H = Ky.hash s l := by
  rw [← h.2, List.drop_eq_nil_of_le hp, Ky.hashN_nil]

set_option maxRecDepth 100000 in
theorem hash_any (v : Value) (l : List UInt8) (B : Nat) (w : World) (s : Nat) (h : Bs w B v l) (hm : l.length ≤ 140737488355328) (hs : s < 18446744073709551616) :
    Calls Try.prog 23 #[.int .u64 (s : Int), v] w fun e w' => e = .returned (.int .u64 (Ky.hash s l : Nat)) ∧ w = w' := by
  obtain ⟨A, c, rfl, hc, hr⟩ := h
  have HR := Lib.hid hr
  have hsd := seed_val s l.length hs
  have HS := HashRel.start s l hs
  generalize Ky.seedH s l.length = H0 at hsd HS
  clear hr
  go_enter Try.func23, Try.ntmps23
  go_wp2_with fail
  clear hsd
  go_loop [5, 6] (fun a i => ∃ p H : Nat, p ≤ l.length + 7 ∧ i = .int .i64 p ∧ a = .int .u64 (H : Nat) ∧ HashRel s l p H) (fun _ i => l.length + 8 - (intOf i).toNat)
  case atStart => exact ⟨0, H0, by omega, rfl, rfl, HS⟩
  case round =>
    obtain ⟨p, H, hp, rfl, rfl, hrel⟩ := hrel
    by_cases hlt : p < l.length
    · obtain ⟨A', c', hrun, hkc, hrd⟩ := cut_l A l.length c p (l.length - p) (by omega) hc
      have hb : Bs w B (.slice A' (l.length - p) c') (l.drop p) := ⟨A', c', by rw [List.length_drop], by rw [List.length_drop]; exact hkc, hrd w B l hc HR.out⟩
      have Hb := Lib.hid hb
      have hx := Ky.word_lt (l.drop p)
      obtain ⟨a, e1, ha, e2⟩ := step_val H (Ky.word (l.drop p)) hrel.1 hx
      have E1 := Lib.hid e1
      have E2 := Lib.hid e2
      have Hrel := Lib.hid (hrel.step hlt)
      have h1 := hrel.1
      clear hb hrd e1 e2 hrel
      go_wp2_with fail
      refine (word_any _ _ _ _ Hb.out (by rw [List.length_drop]; omega)).mono ?_
      rintro e w1 ⟨rfl, rfl⟩
      go_wp2_with fail
      go_round
      case rel => exact ⟨p + 8, Ky.stepH H (Ky.word (l.drop p)), by omega, by go_num, by rw [E1.out, E2.out], Hrel.out⟩
      case measure => simp [intOf]; omega
    · have e := hrel.done (by omega)
      have E := Lib.hid e
      clear e
      go_wp2
      go_ret
      exact ⟨by rw [E.out]; rfl, rfl⟩
end Go.Proofs.Ytffcbekogpgciaa
