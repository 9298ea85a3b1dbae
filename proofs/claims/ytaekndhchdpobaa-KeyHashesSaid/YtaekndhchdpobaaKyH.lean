
/-
  Layer 4: hashes of rows of one word, and of two: told apart.
-/
import Derived.Test.YtaekndhchdpobaaKyP
set_option linter.unusedVariables false
set_option linter.unusedSimpArgs false
namespace Go.Proofs.Ytaekndhchdpobaa.Ky

theorem hash_one (s : Nat) (l : List UInt8) (h0 : 0 < l.length) (h8 : l.length ≤ 8) : hash s l = stepH (seedH s l.length) (word l) := by
  unfold hash
  rw [hashN_step _ l (by intro e; rw [e] at h0; simp at h0), List.drop_eq_nil_of_le h8, hashN_nil]
theorem hash_two (s : Nat) (a d : List UInt8) (ha : a.length = 8) (hd : d.length = 8) : hash s (a ++ d) = stepH (stepH (seedH s 16) (word a)) (word d) := by
  have e1 : (a ++ d).drop 8 = d := List.drop_left' ha
  have e2 : word (a ++ d) = word a := by rw [← word_take (a ++ d), List.take_left' ha]
  unfold hash
  rw [List.length_append, ha, hd, hashN_step _ (a ++ d) (by intro e; have := congrArg List.length e; rw [List.length_append, ha, hd] at this; simp at this), e1, e2, hashN_step _ d (by intro e; rw [e] at hd; simp at hd), List.drop_eq_nil_of_le (show d.length ≤ 8 by omega), hashN_nil]
theorem seedH_lt' {s : Nat} (n : Nat) (hs : s < M64) : seedH s n < M64 := xor_lt64 hs (Nat.mod_lt _ (by decide))
theorem hash_rows {s : Nat} {x y : List UInt8} (hs : s < M64) (hl : x.length = y.length) (h0 : 0 < x.length) (h8 : x.length ≤ 8) : hash s x = hash s y ↔ x = y := by
  refine ⟨fun h => ?_, fun h => by rw [h]⟩
  rw [hash_one s x h0 h8, hash_one s y (by omega) (by omega), ← hl] at h
  exact word_inj hl h8 (xor_cancel (stepH_inj (seedH_lt' _ hs) (word_lt x) (seedH_lt' _ hs) (word_lt y) h))
theorem hash_seeds {s t : Nat} {x : List UInt8} (hs : s < M64) (ht : t < M64) (h0 : 0 < x.length) (h8 : x.length ≤ 8) : hash s x = hash t x ↔ s = t := by
  refine ⟨fun h => ?_, fun h => by rw [h]⟩
  rw [hash_one s x h0 h8, hash_one t x h0 h8] at h
  have h1 := xor_cancel' (stepH_inj (seedH_lt' _ hs) (word_lt x) (seedH_lt' _ ht) (word_lt x) h)
  exact xor_cancel' h1
theorem hash_ahead {s : Nat} {a b d : List UInt8} (hs : s < M64) (ha : a.length = 8) (hb : b.length = 8) (hd : d.length = 8) : hash s (a ++ d) = hash s (b ++ d) ↔ a = b := by
  refine ⟨fun h => ?_, fun h => by rw [h]⟩
  rw [hash_two s a d ha hd, hash_two s b d hb hd] at h
  have h1 := xor_cancel' (stepH_inj (stepH_lt _ _) (word_lt d) (stepH_lt _ _) (word_lt d) h)
  exact word_inj (by omega) (by omega) (xor_cancel (stepH_inj (seedH_lt' _ hs) (word_lt a) (seedH_lt' _ hs) (word_lt b) h1))
end Go.Proofs.Ytaekndhchdpobaa.Ky
