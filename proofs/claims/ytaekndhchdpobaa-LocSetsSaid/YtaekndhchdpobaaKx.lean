
/-
  Layer 3: a loc, and a pair of numbers, as keys of maps: what they read as (one literal for both), and back.
-/
import Derived.Test.YtaekndhchdpobaaLxBox
import Derived.Maps.OwnSet
import Derived.Maps.RangeWalk
import Derived.Maps.Ext
import Derived.DeepKeys4
import Derived.WideKeyPair
import Derived.KernelRfl
import Derived.OpenShut
import Derived.Lib.SmallJoins
set_option linter.unusedVariables false
set_option linter.unusedSimpArgs false
namespace Go.Proofs.Ytaekndhchdpobaa
open Go.RowKit Go.Maps

theorem laidOut3 : laidOutB Try.prog = true := by kernel_rfl
theorem rowLoc : 31 < Try.prog.types.size := of_decide_eq_true (by kernel_rfl)
theorem wideLoc : (match Try.prog.underlying 31 with | some (.array _ _) | some (.struct _) => true | _ => false) = true := by kernel_rfl
set_option maxRecDepth 100000 in
theorem lawLoc : WideMaps.KeyLaw Try.prog 31 := deep_law_laid laidOut3 (m := 2) (by omega) rowLoc (by kernel_rfl) wideLoc
theorem keyedLoc : Keyed Try.prog 31 := Keyed.of_law lawLoc
/-- what a loc, or a pair, reads as -/
def kl (s o : Int) : Lit := .string (keyBytes [.int .u32 s, .int .u32 o])
theorem wf_u32 {a : Int} (h0 : 0 ≤ a) (h1 : a < 4294967296) : (Lit.int .u32 a).wf = true := WalkArith.wf_u32 ⟨h0, by omega⟩
theorem wf_u64 {a : Int} (h0 : 0 ≤ a) (h1 : a < 18446744073709551616) : (Lit.int .u64 a).wf = true := WalkArith.wf_u64 ⟨h0, by omega⟩

theorem typesPos : ∃ m, Try.prog.types.size = m + 1 := ⟨Try.prog.types.size - 1, by have := rowLoc; omega⟩
theorem keyTypeLoc : Try.prog.keyType 31 = true := by kernel_rfl
set_option maxRecDepth 100000 in
theorem keyOf_loc {s o : Int} (h0 : 0 ≤ s) (h1 : s < 4294967296) (h2 : 0 ≤ o) (h3 : o < 4294967296) : keyOf Try.prog 31 (.agg #[.int .u32 s, .int .u32 o]) = some (kl s o) := by
  have hkt := keyTypeLoc
  have ws := wf_u32 h0 h1
  have wo := wf_u32 h2 h3
  obtain ⟨m, hm⟩ := typesPos
  have hsz : Try.prog.cellsOf 31 = 2 := by kernel_rfl
  have h1 : Try.prog.cellsOf 29 = 1 := by kernel_rfl
  have hu := Try.underlying31
  have hu2 := Try.underlying29
  unfold keyOf
  simp only [hu]
  rw [if_pos (by simp [hkt, Value.formed, hu, hsz]), hm]
  unfold Program.keyLits
  simp only [hu, Value.cells]
  rw [if_pos (by simp [hsz])]
  simp [Program.keyLits, hu2, ws, wo, h1, kl]

set_option maxRecDepth 100000 in
theorem keyOf_loc_inv {key : Value} {l : Lit} (h : keyOf Try.prog 31 key = some l) : ∃ s o : Int, key = .agg #[.int .u32 s, .int .u32 o] ∧ l = kl s o ∧ 0 ≤ s ∧ s < 4294967296 ∧ 0 ≤ o ∧ o < 4294967296 := by
  have h' := h
  have hsz : Try.prog.cellsOf 31 = 2 := by kernel_rfl
  have h1 : Try.prog.cellsOf 29 = 1 := by kernel_rfl
  have hu := Try.underlying31
  have hu2 := Try.underlying29
  unfold keyOf at h
  simp only [hu] at h
  split at h
  · rename_i hc
    rw [Bool.and_eq_true] at hc
    have hf := hc.2
    obtain ⟨m, hm⟩ := typesPos
    rw [hm] at h
    cases key with
    | agg cs =>
      simp only [Value.formed, hu, hsz] at hf
      obtain ⟨c0, c1, rfl⟩ := Joins.array2 (by simpa using hf)
      unfold Program.keyLits at h
      simp only [hu, Value.cells] at h
      rw [if_pos (by simp [hsz])] at h
      simp [h1] at h
      have inv : ∀ (c : Value) (l : List Lit), Try.prog.keyLits (m + 1) 29 [c] = some l → ∃ a : Int, c = .int .u32 a ∧ 0 ≤ a ∧ a < 4294967296 := fun c l hc => by
        unfold Program.keyLits at hc
        rw [hu2] at hc
        cases c <;> simp at hc
        rename_i q a
        obtain ⟨⟨rfl, hw⟩, _⟩ := hc
        have := bounds_u32 hw
        exact ⟨a, rfl, by omega, by omega⟩
      cases hl0 : Try.prog.keyLits (m + 1) 29 [c0] with
      | none => rw [hl0] at h; simp at h
      | some l0 => 
      cases hl1 : Try.prog.keyLits (m + 1) 29 [c1] with
      | none => rw [hl0, hl1] at h; simp at h
      | some l1 =>
      obtain ⟨s, rfl, s0, s1⟩ := inv c0 l0 hl0
      obtain ⟨o, rfl, o0, o1⟩ := inv c1 l1 hl1
      refine ⟨s, o, rfl, ?_, s0, s1, o0, o1⟩
      have := keyOf_loc s0 s1 o0 o1
      rw [h'] at this
      injection this
    | _ => simp [Value.formed, hu] at hf
  · cases h

theorem kl_inj {s o s' o' : Int} (h0 : 0 ≤ s) (h1 : s < 4294967296) (h2 : 0 ≤ o) (h3 : o < 4294967296) (g0 : 0 ≤ s') (g1 : s' < 4294967296) (g2 : 0 ≤ o') (g3 : o' < 4294967296) (h : kl s o = kl s' o') : s = s' ∧ o = o' := by
  have e := keyedLoc.inj (keyOf_loc h0 h1 h2 h3) (by rw [h]; exact keyOf_loc g0 g1 g2 g3)
  injection e with e
  have e1 := congrArg (fun a : Array Value => a.toList) e
  simp at e1
  exact e1

end Go.Proofs.Ytaekndhchdpobaa
