
/-
  Layer 8: the walks of the laws' own few and made (records brought into bounds).
-/
import Derived.Test.YtmiljicohnfejaaDoorRcSame
import Derived.Test.YtmiljicohnfejaaDoorCut
import Derived.BigRegion
import Derived.RegionTactic
set_option linter.unusedVariables false
set_option linter.unusedSimpArgs false
namespace Go.Proofs.YtmiljicohnfejaaDoor
open Go.RowKit

def Rc.few (r : Rc.Rec) : Rc.Rec := { r with key := r.key.take 80, val := r.val.take 1100 }
theorem cut_min (v : Value) (l : List UInt8) (B m : Nat) (w : World) (h : Bs w B v l) : ∃ (A : Option Addr) (c k : Nat) (A' : Option Addr) (c' : Nat), v = .slice A l.length c ∧ min (l.length : Int) (m : Int) = (k : Int) ∧ k ≤ l.length ∧
    (∀ w, (Instr.sliceAt 23 (.slice A l.length c) none (some (.int .i64 (k : Int))) none).run Tryd.prog w = .ok (.slice A' k c') w) ∧ (∀ w', (∀ B', Bs w' B' v l → Bs w' B' (.slice A' k c') (l.take m))) := by
  obtain ⟨A, c, rfl, hc, hr⟩ := h
  obtain ⟨A', c', h1, h2, h3⟩ := cut_h A l.length c (min l.length m) (by omega) hc
  refine ⟨A, c, min l.length m, A', c', rfl, by omega, by omega, h1, ?_⟩
  rintro w' B' ⟨A2, c2, e2, _, hr2⟩
  injection e2 with e3 e4 e5
  subst e3
  have := h3 w' B' l rfl hr2
  have e : l.take (min l.length m) = l.take m := by
    rcases Nat.le_total l.length m with h | h
    · rw [Nat.min_eq_left h, List.take_of_length_le (Nat.le_refl _), List.take_of_length_le h]
    · rw [Nat.min_eq_right h]
  rw [e] at this
  exact ⟨A', c', by rw [List.length_take, Nat.min_comm], by rw [List.length_take]; omega, this⟩

theorem few_b (v : Value) (r : Rc.Rec) (B : Nat) (w : World) (h : RecV w B v r) (hB : B ≤ w.heap.size) (f : Rc.Fit r) :
    Calls Tryd.prog 9 #[v] w fun e w' => ∃ v', e = .returned v' ∧ RecV w' B v' (Rc.few r) ∧ Below w.heap.size w w' := by
  obtain ⟨kv, vv, rfl, h1, h2⟩ := h
  obtain ⟨A, c, k, A', c', rfl, m1, k1, s1, z1⟩ := cut_min kv r.key B 80 w h1
  obtain ⟨X, d, q, X', d', rfl, m2, k2, s2, z2⟩ := cut_min vv r.val B 1100 w h2
  have g1 := f.key1
  have g2 := f.val1
  have H1 := Lib.hid h1
  have H2 := Lib.hid h2
  have Z1 := Lib.hid z1
  have Z2 := Lib.hid z2
  have F := Lib.hid f
  clear z1 z2 h1 h2 f
  have e80 : ((80 : Nat) : Int) = 80 := rfl
  have e11 : ((1100 : Nat) : Int) = 1100 := rfl
  rw [e80] at m1
  rw [e11] at m2
  unfold recV
  generalize hn : r.key.length = n at *
  generalize hp : r.val.length = p at *
  clear hn hp e80 e11
  go_enter Tryd.func9, Tryd.ntmps9
  go_wp2_with fail
  go_region
  go_wp2_with fail
  have b1 := (balloc (bnew w (.cells #[.int .u64 r.seq, .int .i64 r.kind, .slice A' k c', .slice X' q d', .int .u32 r.seg, .int .u32 r.off] 28)) (.cells #[.int .u64 r.seq, .int .i64 r.kind, .slice A' k c', .slice X' q d', .int .u32 r.seg, .int .u32 r.off] 28)).drew
  refine bodyPost_ret (v := .agg #[.int .u64 r.seq, .int .i64 r.kind, .slice A' k c', .slice X' q d', .int .u32 r.seg, .int .u32 r.off]) (by simp [results, Tryd.results9, go_sem]) rfl ⟨_, rfl, ⟨_, _, rfl, ?_, ?_⟩, b1⟩
  · exact Z1.out _ _ (H1.out.below b1 hB)
  · exact Z2.out _ _ (H2.out.below b1 hB)
end Go.Proofs.YtmiljicohnfejaaDoor
