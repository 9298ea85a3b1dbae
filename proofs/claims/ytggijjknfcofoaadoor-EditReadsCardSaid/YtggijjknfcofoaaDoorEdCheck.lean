
/-
  Layer 9: the walks of checkName, check, May.
-/
import Derived.Test.YtggijjknfcofoaaDoorEdTab
import Derived.Test.YtggijjknfcofoaaDoorEdMay
import Derived.Recover
set_option linter.unusedVariables false
set_option linter.unusedSimpArgs false
namespace Go.Proofs.YtggijjknfcofoaaDoor
open Go.RowKit

theorem checkName_any (k : Int) (s : ByteArray) (w : World) (b : Bool) (hb : Ed.nameOk k s.size = b) (hs : s.size ≤ 9223372036854775807) :
    Calls Tryd.prog 53 #[shV k, .string s] w fun e w' => e = (if b then .returned (.tuple #[]) else gone 5) ∧ Below w.heap.size w w' := by
  cases hk : Ed.nameT k
  · have hn : s.toList.isEmpty = b := by
      rw [← decide_eq_emptyBytes, ← hb]
      unfold Ed.nameOk
      rw [hk, Bool.eq_iff_iff]
      obtain ⟨d⟩ := s
      simp [ByteArray.size, ByteArray.ext_iff]
    unfold shV shCs
    rw [hk]
    clear hb
    cases b
    · go_enter Tryd.func53, Tryd.ntmps53
      go_wp2_with fail
      exact ⟨rfl, rfl, bnew w _⟩
    · go_enter Tryd.func53, Tryd.ntmps53
      go_wp2_with fail
      go_end0
      exact ⟨rfl, bnew w _⟩
  · have hn : (decide ((1 : Int) ≤ s.size) && decide ((s.size : Int) ≤ 32)) = b := by
      rw [← hb]
      unfold Ed.nameOk
      rw [if_pos hk, Bool.eq_iff_iff]
      simp
      omega
    have hc := fun w => mayName_any s w b hn (by omega)
    unfold shV shCs
    rw [hk]
    clear hn hb
    cases b
    · go_enter Tryd.func53, Tryd.ntmps53
      go_wp2_with fail
      refine (hc _).mono ?_
      rintro e w1 ⟨rfl, rfl⟩
      go_wp2_with fail
      exact ⟨rfl, rfl, bnew w _⟩
    · go_enter Tryd.func53, Tryd.ntmps53
      go_wp2_with fail
      refine (hc _).mono ?_
      rintro e w1 ⟨rfl, rfl⟩
      go_wp2_with fail
      go_end0
      exact ⟨rfl, bnew w _⟩

theorem checkName_yes (k : Int) (s : ByteArray) (w : World) (hb : Ed.nameOk k s.size = true) (hs : s.size ≤ 9223372036854775807) :
    Calls Tryd.prog 53 #[shV k, .string s] w fun e w' => e = .returned (.tuple #[]) ∧ Below w.heap.size w w' := checkName_any k s w true hb hs
theorem checkName_no (k : Int) (s : ByteArray) (w : World) (hb : Ed.nameOk k s.size = false) (hs : s.size ≤ 9223372036854775807) :
    Calls Tryd.prog 53 #[shV k, .string s] w fun e w' => e = gone 5 ∧ Below w.heap.size w w' := checkName_any k s w false hb hs
/-- what was given up with -/
theorem caught_nil (w : World) : Calls Tryd.prog 35 #[.nilIface] w fun e w' => e = .returned (.int .i64 0) ∧ w = w' := by
  go_enter Tryd.func35, Tryd.ntmps35
  go_wp2_with fail
  go_ret
  exact ⟨rfl, rfl⟩
set_option maxRecDepth 100000 in
theorem caught_c (c : Int) (w : World) : Calls Tryd.prog 35 #[.iface 89 (.int .i64 c)] w fun e w' => e = .returned (.int .i64 c) ∧ w = w' := by
  have hta : ∀ w, (Instr.typeAssert (.iface 89 (.int .i64 c)) 20 89 true).run Tryd.prog w = .ok (.tuple #[.int .i64 c, .bool true]) w := fun w => by kernel_rfl
  go_enter Tryd.func35, Tryd.ntmps35
  go_wp2_with fail
  go_ret
  exact ⟨rfl, rfl⟩
theorem catchM_gone (p : Addr) (x : Bool) (c : Nat) (older : List PanicEntry) (w : World) (hc : w.cell? p = some (.bool x)) (hz : w.frozen? p = false) (h0 : ¬ c = 0) :
    CallsD Tryd.prog 34 #[.pointer (some p)] (.panicking ({ v := .iface 89 (.int .i64 c), recovered := false } :: older)) w fun e u' w' =>
      e = .returned (.tuple #[]) ∧ u' = .panicking ({ v := .iface 89 (.int .i64 c), recovered := true } :: older) ∧ w' = w.setCell p (.bool false) := by
  refine callsD_of_wpS Tryd.func34 rfl fun c₀ cs hu => ?_
  apply wpS_region
  simp [wpOpsS, go_sem, recoverD, hu, Tryd.ntmps34, Exit.thenS]
  refine (caught_c _ _).mono ?_
  rintro e w1 ⟨rfl, rfl⟩
  simp [wpOpsS, go_sem, hc, hz, bodyPostS, results, Tryd.results34]
  rw [show ((c : Int) == 0) = false by simp; omega]
theorem catchM_idle (p : Addr) (x : Bool) (w : World) (hc : w.cell? p = some (.bool x)) (hz : w.frozen? p = false) :
    CallsD Tryd.prog 34 #[.pointer (some p)] .returning w fun e u' w' =>
      e = .returned (.tuple #[]) ∧ u' = .returning ∧ w' = w.setCell p (.bool true) := by
  refine callsD_of_wpS Tryd.func34 rfl fun c₀ cs hu => ?_
  apply wpS_region
  simp [wpOpsS, go_sem, recoverD, hu, Tryd.ntmps34, Exit.thenS]
  refine (caught_nil _).mono ?_
  rintro e w1 ⟨rfl, rfl⟩
  simp [wpOpsS, go_sem, hc, hz, bodyPostS, results, Tryd.results34]
  cases c₀
  simp_all
theorem catchG_gone (p : Addr) (x : Int) (c : Nat) (older : List PanicEntry) (w : World) (hc : w.cell? p = some (.int .i64 x)) (hz : w.frozen? p = false) :
    CallsD Tryd.prog 38 #[.pointer (some p)] (.panicking ({ v := .iface 89 (.int .i64 c), recovered := false } :: older)) w fun e u' w' =>
      e = .returned (.tuple #[]) ∧ u' = .panicking ({ v := .iface 89 (.int .i64 c), recovered := true } :: older) ∧ w' = w.setCell p (.int .i64 c) := by
  refine callsD_of_wpS Tryd.func38 rfl fun c₀ cs hu => ?_
  apply wpS_region
  simp [wpOpsS, go_sem, recoverD, hu, Tryd.ntmps38, Exit.thenS]
  refine (caught_c _ _).mono ?_
  rintro e w1 ⟨rfl, rfl⟩
  simp [wpOpsS, go_sem, hc, hz, bodyPostS, results, Tryd.results38]
theorem catchG_idle (p : Addr) (x : Int) (w : World) (hc : w.cell? p = some (.int .i64 x)) (hz : w.frozen? p = false) :
    CallsD Tryd.prog 38 #[.pointer (some p)] .returning w fun e u' w' =>
      e = .returned (.tuple #[]) ∧ u' = .returning ∧ w' = w.setCell p (.int .i64 0) := by
  refine callsD_of_wpS Tryd.func38 rfl fun c₀ cs hu => ?_
  apply wpS_region
  simp [wpOpsS, go_sem, recoverD, hu, Tryd.ntmps38, Exit.thenS]
  refine (caught_nil _).mono ?_
  rintro e w1 ⟨rfl, rfl⟩
  simp [wpOpsS, go_sem, hc, hz, bodyPostS, results, Tryd.results38]
  cases c₀
  simp_all
end Go.Proofs.YtggijjknfcofoaaDoor
