
/-
  Layer 8, the document's answer: the walks of May, Same, lay, Put.
-/
import Derived.Test.YtmiljicohnfejaaDoorRcBox
import Derived.Test.YtmiljicohnfejaaDoorDxCov
set_option linter.unusedVariables false
set_option linter.unusedSimpArgs false
namespace Go.Proofs.YtmiljicohnfejaaDoor
open Go.RowKit

theorem r4may_any (A : Option Addr) (n c : Nat) (w : World) (hn : n ≤ 9223372036854775807) :
    Calls Tryd.prog 41 #[.slice A n c] w fun e w' => e = .returned (.bool (decide (1 ≤ n ∧ n ≤ 64))) ∧ w = w' := by
  rcases (show n = 0 ∨ (0 < n ∧ n ≤ 64) ∨ 64 < n by omega) with h | h | h
  · have t1 : decide ((0 : Int) < (n : Int)) = false := by simp; omega
    rw [show decide (1 ≤ n ∧ n ≤ 64) = false by simp; omega]
    go_enter Tryd.func41, Tryd.ntmps41
    go_wp2_with fail
    go_ret
    exact ⟨ret_bool (by first | rfl | (simp; omega)), rfl⟩
  · have t1 : (0 : Int) < (n : Int) := by omega
    have t2 : (n : Int) < 65 := by omega
    rw [show decide (1 ≤ n ∧ n ≤ 64) = true by simp; omega]
    go_enter Tryd.func41, Tryd.ntmps41
    go_wp2_with fail
    go_ret
    exact ⟨ret_bool (by first | rfl | (simp; omega)), rfl⟩
  · have t1 : (0 : Int) < (n : Int) := by omega
    have t2 : decide ((n : Int) < 65) = false := by simp; omega
    rw [show decide (1 ≤ n ∧ n ≤ 64) = false by simp; omega]
    go_enter Tryd.func41, Tryd.ntmps41
    go_wp2_with fail
    go_ret
    exact ⟨ret_bool (by first | rfl | (simp; omega)), rfl⟩
theorem r3within_any (s o : Int) (w : World) (h0 : 0 ≤ s) (h1 : s < 4294967296) (h2 : 0 ≤ o) (h3 : o < 4294967296) :
    Calls Tryd.prog 55 #[.int .u64 s, .int .u64 o] w fun e w' => e = .returned (.bool (Lx.mayB s o)) ∧ w = w' := by
  by_cases z : s = 0
  · subst z
    have e : Lx.mayB 0 o = (o == 0) := by simp [Lx.mayB, Lx.noneB, Lx.standsB]; rw [Bool.eq_iff_iff]; simp
    rw [e]
    go_enter Tryd.func55, Tryd.ntmps55
    go_wp2_with fail
    go_ret
    exact ⟨rfl, rfl⟩
  · have z0 : (s == 0) = false := by simp [z]
    have hp : (decide (s ≤ 16777215) = false ∧ Lx.mayB s o = false) ∨ (s ≤ 16777215 ∧ decide (16 ≤ o) = false ∧ Lx.mayB s o = false) ∨ (s ≤ 16777215 ∧ 16 ≤ o ∧ decide (o ≤ 16777216) = false ∧ Lx.mayB s o = false) ∨
        (s ≤ 16777215 ∧ 16 ≤ o ∧ o ≤ 16777216 ∧ Lx.mayB s o = true) := by
      simp only [Lx.mayB, Lx.noneB, Lx.standsB, decide_eq_false_iff_not, decide_eq_true_eq, Bool.or_eq_false_iff, Bool.or_eq_true]
      omega
    rcases hp with ⟨t1, t2⟩ | ⟨t1, t3, t2⟩ | ⟨t1, t3, t4, t2⟩ | ⟨t1, t3, t4, t2⟩
    all_goals
      rw [t2]
      clear t2
      go_enter Tryd.func55, Tryd.ntmps55
      go_wp2_with fail
      go_ret
      exact ⟨rfl, rfl⟩
theorem r3may8 (s o : Int) (w : World) (h0 : 0 ≤ s) (h1 : s < 4294967296) (h2 : 0 ≤ o) (h3 : o < 4294967296) (b : Bool) (hb : Lx.mayB s o = b) :
    Calls Tryd.prog 42 #[lv s o] w fun e w' => e = .returned (.bool b) ∧ Below w.heap.size w w' := by
  have hc := fun w => r3within_any s o w h0 h1 h2 h3
  rw [hb] at hc
  unfold lv
  go_enter Tryd.func42, Tryd.ntmps42
  go_wp2_with fail
  refine (hc _).mono ?_
  rintro e w1 ⟨rfl, rfl⟩
  go_wp2_with fail
  go_ret
  exact ⟨rfl, bnew w _⟩
theorem ref8may (v : Value) (r : Rc.Rec) (B : Nat) (w : World) (h : RecV w B v r) (hB : B ≤ w.heap.size) (f : Rc.Fit r) :
    Calls Tryd.prog 13 #[v] w fun e w' => e = .returned (.bool (Rc.mayB r)) ∧ Below w.heap.size w w' := by
  obtain ⟨A, c, A', c', rfl, h1, h2⟩ := h.form
  have b0 := bnew w (.cells #[.int .u64 r.seq, .int .i64 r.kind, .slice A r.key.length c, .slice A' r.val.length c', .int .u32 r.seg, .int .u32 r.off] 28)
  have g1 := f.key1
  have g2 := f.val1
  have g3 := f.seq0
  have g4 := f.seq1
  have hkey := fun w => r4may_any A r.key.length c w g1
  have hloc := fun w b hb => r3may8 r.seg r.off w f.seg0 f.seg1 f.off0 f.off1 b hb
  have hm : Hid (Rc.mayB r = (decide (1 ≤ r.seq ∧ r.seq ≤ 1099511627776) && decide (1 ≤ r.key.length ∧ r.key.length ≤ 64) && Lx.mayB r.seg r.off && Rc.kindB r)) := Lib.hid rfl
  have hkd : Hid (Rc.kindB r = (decide (r.kind = 1 ∧ r.val.length ≤ 1024) || decide (r.kind = 2 ∧ r.val.length = 0))) := Lib.hid rfl
  generalize r.key.length = n at *
  generalize r.val.length = m at *
  unfold recV at *
  by_cases k1 : r.kind = 1
  · have e1 : (r.kind != 1) = false := by simp [k1]
    have e2 : (r.kind == 2) = false := by simp [k1]
    by_cases hv : m ≤ 1024
    · have hk : Rc.kindB r = true := by rw [hkd.out]; simp [k1, hv]
      have t1 : decide ((1024 : Int) < (m : Int)) = false := by simp; omega
      by_cases s1 : 0 < r.seq
      · by_cases s2 : r.seq ≤ 1099511627776
        · cases s3 : decide (1 ≤ n ∧ n ≤ 64)
          · rw [s3] at hkey
            rw [hm.out, s3, Bool.and_false, Bool.false_and, Bool.false_and]
            clear s3
            go_enter Tryd.func13, Tryd.ntmps13
            go_wp2_with fail
            refine (hkey _).mono ?_
            rintro e w1 ⟨rfl, rfl⟩
            go_wp2_with fail
            go_ret
            exact ⟨rfl, bnew _ _⟩
          · rw [s3] at hkey
            have q1 : decide (1 ≤ r.seq ∧ r.seq ≤ 1099511627776) = true := by simp; omega
            have hloc' := fun w => hloc w _ rfl
            rw [hm.out, s3, hk, q1, Bool.true_and, Bool.true_and, Bool.and_true]
            clear s3 q1 hk
            generalize Lx.mayB r.seg r.off = q at *
            go_enter Tryd.func13, Tryd.ntmps13
            go_wp2_with fail
            refine (hkey _).mono ?_
            rintro e w1 ⟨rfl, rfl⟩
            go_wp2_with fail
            refine (hloc' _).mono ?_
            rintro e w1 ⟨rfl, b1⟩
            go_wp2_with fail
            go_ret
            exact ⟨rfl, bstep (bnew _ _) b1⟩
        · have t9 : decide (r.seq ≤ 1099511627776) = false := by simp; omega
          have q1 : decide (1 ≤ r.seq ∧ r.seq ≤ 1099511627776) = false := by simp; omega
          rw [hm.out, q1, Bool.false_and, Bool.false_and, Bool.false_and]
          clear q1 hk
          go_enter Tryd.func13, Tryd.ntmps13
          go_wp2_with fail
          go_ret
          exact ⟨rfl, bnew _ _⟩
      · have t9 : decide (0 < r.seq) = false := by simp; omega
        have q1 : decide (1 ≤ r.seq ∧ r.seq ≤ 1099511627776) = false := by simp; omega
        rw [hm.out, q1, Bool.false_and, Bool.false_and, Bool.false_and]
        clear q1 hk
        go_enter Tryd.func13, Tryd.ntmps13
        go_wp2_with fail
        go_ret
        exact ⟨rfl, bnew _ _⟩
    · have hk : Rc.kindB r = false := by rw [hkd.out]; simp [k1]; omega
      have t1 : (1024 : Int) < (m : Int) := by omega
      rw [hm.out, hk, Bool.and_false]
      clear hk
      go_enter Tryd.func13, Tryd.ntmps13
      go_wp2_with fail
      go_ret
      exact ⟨rfl, bnew _ _⟩
  · have e1 : (r.kind != 1) = true := by simp [k1]
    by_cases k2 : r.kind = 2
    · have e2 : (r.kind != 2) = false := by simp [k2]
      have e3 : (r.kind == 2) = true := by simp [k2]
      by_cases hv : m = 0
      · have hk : Rc.kindB r = true := by rw [hkd.out]; simp [k2, hv]
        subst hv
        by_cases s1 : 0 < r.seq
        · by_cases s2 : r.seq ≤ 1099511627776
          · cases s3 : decide (1 ≤ n ∧ n ≤ 64)
            · rw [s3] at hkey
              rw [hm.out, s3, Bool.and_false, Bool.false_and, Bool.false_and]
              clear s3
              go_enter Tryd.func13, Tryd.ntmps13
              go_wp2_with fail
              refine (hkey _).mono ?_
              rintro e w1 ⟨rfl, rfl⟩
              go_wp2_with fail
              go_ret
              exact ⟨rfl, bnew _ _⟩
            · rw [s3] at hkey
              have q1 : decide (1 ≤ r.seq ∧ r.seq ≤ 1099511627776) = true := by simp; omega
              have hloc' := fun w => hloc w _ rfl
              rw [hm.out, s3, hk, q1, Bool.true_and, Bool.true_and, Bool.and_true]
              clear s3 q1 hk
              generalize Lx.mayB r.seg r.off = q at *
              go_enter Tryd.func13, Tryd.ntmps13
              go_wp2_with fail
              refine (hkey _).mono ?_
              rintro e w1 ⟨rfl, rfl⟩
              go_wp2_with fail
              refine (hloc' _).mono ?_
              rintro e w1 ⟨rfl, b1⟩
              go_wp2_with fail
              go_ret
              exact ⟨rfl, bstep (bnew _ _) b1⟩
          · have t9 : decide (r.seq ≤ 1099511627776) = false := by simp; omega
            have q1 : decide (1 ≤ r.seq ∧ r.seq ≤ 1099511627776) = false := by simp; omega
            rw [hm.out, q1, Bool.false_and, Bool.false_and, Bool.false_and]
            clear q1 hk
            go_enter Tryd.func13, Tryd.ntmps13
            go_wp2_with fail
            go_ret
            exact ⟨rfl, bnew _ _⟩
        · have t9 : decide (0 < r.seq) = false := by simp; omega
          have q1 : decide (1 ≤ r.seq ∧ r.seq ≤ 1099511627776) = false := by simp; omega
          rw [hm.out, q1, Bool.false_and, Bool.false_and, Bool.false_and]
          clear q1 hk
          go_enter Tryd.func13, Tryd.ntmps13
          go_wp2_with fail
          go_ret
          exact ⟨rfl, bnew _ _⟩
      · have hk : Rc.kindB r = false := by rw [hkd.out]; simp [k2, hv]
        have t1 : (0 : Int) < (m : Int) := by omega
        rw [hm.out, hk, Bool.and_false]
        clear hk
        go_enter Tryd.func13, Tryd.ntmps13
        go_wp2_with fail
        go_ret
        exact ⟨rfl, bnew _ _⟩
    · have e2 : (r.kind != 2) = true := by simp [k2]
      have hk : Rc.kindB r = false := by rw [hkd.out]; simp [k1, k2]
      rw [hm.out, hk, Bool.and_false]
      clear hk
      go_enter Tryd.func13, Tryd.ntmps13
      go_wp2_with fail
      go_ret
      exact ⟨rfl, bnew _ _⟩
end Go.Proofs.YtmiljicohnfejaaDoor
