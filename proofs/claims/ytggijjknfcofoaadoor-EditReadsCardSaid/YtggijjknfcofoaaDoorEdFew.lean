
/-
  Layer 9: the laws' own few (edits brought into bounds) and wakes (the document's examples).
-/
import Derived.Test.YtggijjknfcofoaaDoorEdPutW
import Derived.Test.YtggijjknfcofoaaDoorEdGet
import Derived.Test.YtggijjknfcofoaaDoorEdSame
import Derived.BigRegion
import Derived.RegionTactic
set_option linter.unusedVariables false
set_option linter.unusedSimpArgs false
namespace Go.Proofs.YtggijjknfcofoaaDoor
open Go.RowKit

def Ed.few (e : Ed.E) : Ed.E := { e with name := e.name.extract 0 (min e.name.size 40), seals := e.seals.take 210 }
theorem elSeals : Tryd.prog.underlying 24 = some (.slice (Tryd.prog.elem 24)) := by kernel_rfl
theorem cutS_h (A : Option Addr) (n c k : Nat) (hk : k ≤ n) (hn : n ≤ c) : ∃ A' c', (∀ w, (Instr.sliceAt 24 (.slice A n c) none (some (.int .i64 (k : Int))) none).run Tryd.prog w = .ok (.slice A' k c') w) ∧
    k ≤ c' ∧ ∀ w B l, l.length = n → Rd w B A (slVs l) → Rd w B A' (slVs (l.take k)) := by
  refine ⟨if c = 0 then A else A.map (·.add 0), c, fun w => ?_, by omega, fun w B l hl hr => ?_⟩
  · rw [run_sliceAt_slice _ 24 _ _ _ _ elSeals, run_slice_h _ 24 A n c elSeals .i64 k (by omega) (by omega)]
    have : (sizeOf (Tryd.prog.elem 24)).run Tryd.prog w = .ok 5 w := by kernel_rfl
    rw [this]
    simp [Result.andThen, sliced]
  · rw [slVs_take]
    have h0 := (hr.take (k * 5))
    have e : ∀ x : Option Addr, Rd w B x ((slVs l).take (k * 5)) → Rd w B (if c = 0 then x else x.map (·.add 0)) ((slVs l).take (k * 5)) := fun x hx hne => by
      obtain ⟨b, o, rfl, h1, h2⟩ := hx hne
      refine ⟨b, o, ?_, h1, h2⟩
      split
      · rfl
      · simp [add_none]
    exact e A h0
theorem Ed.no_prefix {x y : Ed.E} (hx : Ed.mayE x = true) (hy : Ed.mayE y = true) (h : ¬ x = y) : Px.hpB (Ed.bytesE x) (Ed.bytesE y) = false := by
  cases hb : Px.hpB (Ed.bytesE x) (Ed.bytesE y)
  · rfl
  · exfalso
    unfold Px.hpB at hb
    simp only [Bool.and_eq_true, decide_eq_true_eq, beq_iff_eq] at hb
    have e : Ed.bytesE x = Ed.bytesE y ++ (Ed.bytesE x).drop (Ed.bytesE y).length := by
      conv => lhs; rw [← List.take_append_drop (Ed.bytesE y).length (Ed.bytesE x), hb.2]
    exact h (Ed.apart hx hy e).1
theorem Ed.few_few (e : Ed.E) : Ed.few (Ed.few e) = Ed.few e := by
  have h1 : (e.name.extract 0 (min e.name.size 40)).size = min e.name.size 40 := by rw [ByteArray.size_extract]; omega
  unfold Ed.few
  simp only [List.take_take, Nat.min_self, h1]
  congr 1
  apply ByteArray.ext
  simp [ByteArray.data_extract]
theorem Ed.few_len (e : Ed.E) : (Ed.few e).seals.length ≤ 210 := by
  simp only [Ed.few, List.length_take]
  omega
theorem Ed.few_fit {e : Ed.E} (f : Ed.Fit e) : Ed.Fit (Ed.few e) := by
  refine ⟨f.kind0, f.kind1, ?_, f.seq, f.id, ?_, fun s hs => f.seals s (List.mem_of_mem_take hs)⟩
  · have := f.name
    simp only [Ed.few, ByteArray.size_extract]
    omega
  · have := f.many
    simp only [Ed.few, List.length_take]
    omega
theorem few_e (v : Value) (e : Ed.E) (B : Nat) (w : World) (h : EdV w B v e) (hB : B ≤ w.heap.size) (f : Ed.Fit e) :
    Calls Tryd.prog 8 #[v] w fun en w' => ∃ v', en = .returned v' ∧ EdV w' B v' (Ed.few e) ∧ Below w.heap.size w w' := by
  obtain ⟨sv, rfl, hs⟩ := h
  obtain ⟨A, c, rfl, hc, hr⟩ := id hs
  obtain ⟨A', c', hcut, hc', hcr⟩ := cutS_h A e.seals.length c (min e.seals.length 210) (by omega) hc
  obtain ⟨k, hk⟩ : ∃ k, k = min e.name.size 40 := ⟨_, rfl⟩
  obtain ⟨q, hq⟩ : ∃ q, q = min e.seals.length 210 := ⟨_, rfl⟩
  have m1 : min (e.name.size : Int) 40 = (k : Int) := by omega
  have m2 : min (e.seals.length : Int) 210 = (q : Int) := by omega
  rw [← hq] at hcut hc' hcr
  have f1 := f.name
  have f2 := f.many
  have hstr : ∀ w, (Instr.sliceAt 9 (.string e.name) none (some (.int .i64 (k : Int))) none).run Tryd.prog w = .ok (.string (e.name.extract 0 k)) w := fun w => by
    rw [run_sliceAt_string _ 9 _ _ _ _ Tryd.underlying9]
    have := run_slice_string_h (P := Tryd.prog) w 9 e.name Tryd.underlying9 .i64 (k : Int) (by omega) (by omega)
    simpa using this
  have HK := Lib.hid (And.intro hk hq)
  have HS := Lib.hid hs
  have HCR := Lib.hid hcr
  have hk40 : k ≤ e.name.size := by omega
  have hqn : q ≤ e.seals.length := by omega
  clear hs hr hcr hk hq
  unfold edV
  generalize hp : e.seals.length = p at *
  have HP := Lib.hid hp
  clear hp
  go_enter Tryd.func8, Tryd.ntmps8
  go_wp2_with fail
  go_region
  go_wp2_with fail
  have b1 := (balloc (bnew w (.cells #[.int .i64 e.kind, .string (e.name.extract 0 k), .int .u64 e.seq, .int .u32 e.id, .slice A' q c'] 26)) (.cells #[.int .i64 e.kind, .string (e.name.extract 0 k), .int .u64 e.seq, .int .u32 e.id, .slice A' q c'] 26)).drew
  refine bodyPost_ret (v := edV e.kind (e.name.extract 0 k) e.seq e.id (.slice A' q c')) (by simp [results, Tryd.results8, go_sem, edV]) rfl ⟨_, rfl, ?_, b1⟩
  obtain ⟨A2, c2, e2, _, hr2⟩ := HS.out
  injection e2 with e3 e4 e5
  subst e3
  have e6 : e.seals.take q = e.seals.take 210 := by
    have hp := HP.out
    have hq := HK.out.2
    rcases Nat.le_total e.seals.length 210 with h | h
    · rw [List.take_of_length_le (by omega), List.take_of_length_le h]
    · rw [show q = 210 by omega]
  have h9 := HCR.out _ _ e.seals HP.out hr2
  rw [e6] at h9
  refine ⟨.slice A' q c', by rw [HK.out.1]; rfl, A', c', ?_, ?_, h9.below b1 hB⟩
  · simp only [Ed.few, List.length_take]
    rw [HK.out.2, HP.out, Nat.min_comm]
  · simp only [Ed.few, List.length_take]
    have := HP.out
    omega
end Go.Proofs.YtggijjknfcofoaaDoor
