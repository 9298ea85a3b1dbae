
/-
  Layer 14 (probe): Set and Remove of any key, for the laws.
-/
import Derived.Test.YtffcbekogpgciaaPrKn
set_option linter.unusedVariables false
set_option linter.unusedSimpArgs false
namespace Go.Proofs.Ytffcbekogpgciaa.Pr
open Go Go.RowKit

/-- a key that may be -/
def Vk (k : List UInt8) : Prop := 0 < k.length ∧ k.length ≤ 64
instance (k : List UInt8) : Decidable (Vk k) := by unfold Vk; infer_instance
theorem Bs.blk {w : World} {B : Nat} {v : Value} {l : List UInt8} (h : Bs w B v l) (hl : 0 < l.length) : ∀ b, v.ownBlock = some b → b < B := by
  obtain ⟨A, c, rfl, _, hr⟩ := h
  obtain ⟨b, o, rfl, hb, _⟩ := hr (by intro e; rw [← bvs_length, e] at hl; simp at hl)
  intro b' e
  injection e with e
  subst e
  exact hb
section
variable {B T : Nat} {w w0 w' : World} {s : PT}
theorem set_any (h0 : PLive B w0 T s) (hb : Below w0.heap.size w0 w) (hB : B ≤ w0.heap.size) (kv : Value) (k : List UInt8) (hk : Bs w w.heap.size kv k) (hkl : k.length < 1000000) (v : Nat) (hv : v < 18446744073709551616) (hfew : s.prs.length < 900000) (hka : 0 < k.length → ∀ b, kv.ownBlock = some b → b < B ∨ w0.heap.size ≤ b) :
    Calls Try.prog 9 #[.pointer (some ⟨T, 0, none⟩), kv, .int .u64 (v : Int)] w fun e w' => ∃ (r : Nat) (s' : PT), e = .returned (.int .i64 (r : Int)) ∧ ((Vk k ∧ r = 0 ∧ List.Perm s'.prs ((k, v) :: remA s.prs k)) ∨ (¬ Vk k ∧ r = 1 ∧ s' = s)) ∧ s'.seed = s.seed ∧ PLive B w' T s' ∧ Below B w0 w' := by
  by_cases hV : Vk k
  · exact (live_set h0 hb hB kv k hk hV.1 hV.2 v hv hfew (hka hV.1)).mono fun e w' ⟨h1, s', h2, h3, h4, h5⟩ => ⟨0, s', h1, .inl ⟨hV, rfl, h3⟩, h2, h4, h5⟩
  · exact (live_set_no (h0.on hb) kv k hk (by unfold Vk at hV; omega) hkl v).mono fun e w' ⟨h1, h2⟩ => ⟨1, s, h1, .inr ⟨hV, rfl, rfl⟩, rfl, by rw [← h2]; exact h0.on hb, by rw [← h2]; exact hb.mono hB⟩
theorem rem_any (h0 : PLive B w0 T s) (hb : Below w0.heap.size w0 w) (hB : B ≤ w0.heap.size) (kv : Value) (k : List UInt8) (hk : Bs w w.heap.size kv k) (hkl : k.length < 1000000) :
    Calls Try.prog 11 #[.pointer (some ⟨T, 0, none⟩), kv] w fun e w' => ∃ (r : Nat) (s' : PT), e = .returned (.int .i64 (r : Int)) ∧ ((Vk k ∧ r = 0 ∧ ∃ v, (k, v) ∈ s.prs) ∨ (Vk k ∧ r = 6 ∧ ∀ p ∈ s.prs, p.1 ≠ k) ∨ (¬ Vk k ∧ r = 1)) ∧ List.Perm s'.prs (remA s.prs k) ∧ s'.seed = s.seed ∧ PLive B w' T s' ∧ Below B w0 w' := by
  by_cases hV : Vk k
  · by_cases hin : ∃ v, (k, v) ∈ s.prs
    · obtain ⟨v, hv⟩ := hin
      exact (live_rem h0 hb hB kv k hk hV.1 hV.2 v hv).mono fun e w' ⟨h1, s', h2, h3, h4, h5⟩ => ⟨0, s', h1, .inl ⟨hV, rfl, v, hv⟩, h3, h2, h4, h5⟩
    · have hno : ∀ p ∈ s.prs, p.1 ≠ k := fun p hp e => hin ⟨p.2, by rw [← e]; exact hp⟩
      refine (live_rem_none (h0.on hb) kv k hk hV.1 hV.2 hno).mono fun e w' ⟨h1, h2⟩ => ⟨6, s, h1, .inr (.inl ⟨hV, rfl, hno⟩), by rw [remA_none hno], rfl, (h0.on hb).on h2, (hb.mono hB).trans (h2.mono (Nat.le_trans hB hb.size))⟩
  · have hno : ∀ p ∈ s.prs, p.1 ≠ k := fun p hp e => hV (e ▸ h0.ok.keys p hp)
    exact (live_rem_no (h0.on hb) kv k hk (by unfold Vk at hV; omega) hkl).mono fun e w' ⟨h1, h2⟩ => ⟨1, s, h1, .inr (.inr ⟨hV, rfl⟩), by rw [remA_none hno], rfl, by rw [← h2]; exact h0.on hb, by rw [← h2]; exact hb.mono hB⟩
/-- how many there are then -/
theorem set_len {k : List UInt8} {v : Nat} {A B : List (List UInt8 × Nat)} (h : List.Perm B ((k, v) :: remA A k)) : B.length ≤ A.length + 1 := by
  rw [h.length_eq, List.length_cons]
  have := remA_len (A := A) k
  omega
end
end Go.Proofs.Ytffcbekogpgciaa.Pr
