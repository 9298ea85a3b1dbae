/-
  ScanLost, part 7 of what the law's proof leans on: DxCov, RcRef, RcRefPut, RcRefGet.
-/
import Derived.Deep.RegionHeldLaw
import Derived.Test.YtkpkfgcbccaibaaDoorScanLostQ6
import Derived.Test.YtkpkfgcbccaibaaDoorScanLostQ2
import Derived.Test.YtkpkfgcbccaibaaDoorScanLostQ3
/- DxCov -/

/-
  Layer 2, the document's answer: the walks of Cover and Right.
-/
set_option linter.unusedVariables false
set_option linter.unusedSimpArgs false
namespace Go.Proofs.YtkpkfgcbccaibaaDoor.Crc
open Go.RowKit

theorem dg_step (n j : Nat) : ∃ d : UInt8, ((n / 2 ^ (8 * j) : Nat) : Int) % 256 = (d.toNat : Int) ∧ d = Cx.dg n j := ⟨_, by rw [Cx.dg_toNat]; simp, rfl⟩
theorem dg_next (n j : Nat) : ((n / 2 ^ (8 * j) : Nat) : Int) / 256 = ((n / 2 ^ (8 * (j + 1)) : Nat) : Int) := by
  rw [show 8 * (j + 1) = 8 * j + 8 by omega, Nat.pow_add, ← Nat.div_div_eq_div_mul]
  omega

theorem rcover_any (A : Option Addr) (l : List UInt8) (c : Nat) (w : World) (h : Rd w w.heap.size A (bvs l)) (hm : l.length ≤ 100000) :
    Calls Tryd.prog 39 #[.slice A l.length c] w fun e w' => ∃ v, e = .returned v ∧ w'.ownsRow w.heap.size 5 1 v (l.length + 4) (bvs (Cx.cover l)) ∧ Below w.heap.size w w' := by
  obtain ⟨i0, hi0, hz0, hz1, hz2⟩ := info_parts byte_info
  have Hh := Lib.hid h
  clear h
  go_enter Tryd.func39, Tryd.ntmps39
  go_wp2_with (at_builtin; (refine wpList_append_rd _ rfl _ _ 23 rfl w.heap.size 5 i0 (.int .u8 0) 1 1 Tryd.underlying23 hi0 hz0 hz1 hz2 rfl (by omega) (.slice none 0 0) 0 [] rfl (World.ownsRow_nil _ _ _ _) w.heap.size A l.length c (bvs l) rfl (by simp [bvs]) Hh.out (bvs_one l) (by unfold maxLen; omega) (by omega) (Nat.le_refl _) ?_); intro v1 w1 hown1 b1 _ _)
  rw [Nat.zero_add, List.nil_append] at hown1
  refine (rsum_any A l c w1 ((Hh.out.below b1 (Nat.le_refl _)).mono b1.size) hm).mono ?_
  rintro e w2 ⟨rfl, b2⟩
  have hown2 := own_below hown1 b2 (Nat.le_refl _)
  have hb2 := b1.trans (b2.mono b1.size)
  clear hown1 b1 b2
  generalize hs : Cx.sum l = s
  have Hs := Lib.hid hs
  have hs32 := s.isLt
  clear hs
  go_wp2_with fail
  go_loopg [3, 4, 5] 4 (fun k o y i wr => ∃ (j z : Nat), j + k = 4 ∧ i = .int .i64 j ∧ y = .int .u32 (z : Int) ∧ z = s.toNat / 2 ^ (8 * j) ∧ wr.ownsRow w.heap.size 5 1 o (l.length + j) (bvs (l ++ Cx.leL s.toNat j)) ∧ Below w.heap.size w wr)
  case atStart => exact ⟨0, s.toNat, by omega, rfl, rfl, by simp, by simpa [Cx.leL] using hown2, hb2⟩
  case round =>
    obtain ⟨j, z, hj, rfl, rfl, hz, hown, hb⟩ := hrel
    by_cases hlt : j < 4
    · obtain ⟨d, hd, hd'⟩ := dg_step s.toNat j
      have hnx := dg_next s.toNat j
      rw [← hz] at hd hnx
      have hz32 : z < 4294967296 := by rw [hz]; exact Nat.lt_of_le_of_lt (Nat.div_le_self _ _) hs32
      generalize hy2 : s.toNat / 2 ^ (8 * (j + 1)) = z2 at hnx
      have Hz2 := Lib.hid hy2
      have Hd := Lib.hid hd'
      have hsz := hb.size
      clear hy2 hd' hz
      have t1 : (j : Int) < 4 := by omega
      go_wp2_with (at_builtin; (refine wpList_append_1 _ rfl _ _ 23 rfl w.heap.size 5 i0 (.int .u8 0) 1 Tryd.underlying23 hi0 hz0 hz1 hz2 rfl u3 (l.length + j) (bvs (l ++ Cx.leL s.toNat j)) rfl (hown.alloc _) _ 1 (.int .u8 (d.toNat : Int)) rfl (cell_new1 _ _ _) rfl (by unfold maxLen; omega) (by omega) (by simp; omega) ?_); intro v2 w3 hown3 hbw3 _ _)
      go_roundg (gk - 1)
      case measure => omega
      case rel => exact ⟨j + 1, z2, by omega, by go_num, rfl, Hz2.out.symm, by rw [Cx.leL_succ, ← List.append_assoc, bvs_append, ← Hd.out]; exact hown3, (hb.alloc hb.size _).trans hbw3⟩
    · obtain rfl : j = 4 := by omega
      go_wp2_with fail
      go_ret
      refine ⟨_, rfl, ?_, hb⟩
      rw [Cx.cover, Hs.out]
      exact hown
end Go.Proofs.YtkpkfgcbccaibaaDoor.Crc

/- RcRef -/

/-
  Layer 8, the document's answer: the walks of May, Same, lay, Put.
-/
set_option linter.unusedVariables false
set_option linter.unusedSimpArgs false
namespace Go.Proofs.YtkpkfgcbccaibaaDoor
open Go.RowKit

theorem r4may_any (A : Option Addr) (n c : Nat) (w : World) (hn : n ≤ 9223372036854775807) :
    Calls Tryd.prog 50 #[.slice A n c] w fun e w' => e = .returned (.bool (decide (1 ≤ n ∧ n ≤ 64))) ∧ w = w' := by
  rcases (show n = 0 ∨ (0 < n ∧ n ≤ 64) ∨ 64 < n by omega) with h | h | h
  · have t1 : decide ((0 : Int) < (n : Int)) = false := by simp; omega
    rw [show decide (1 ≤ n ∧ n ≤ 64) = false by simp; omega]
    go_enter Tryd.func50, Tryd.ntmps50
    go_wp2_with fail
    go_ret
    exact ⟨ret_bool (by first | rfl | (simp; omega)), rfl⟩
  · have t1 : (0 : Int) < (n : Int) := by omega
    have t2 : (n : Int) < 65 := by omega
    rw [show decide (1 ≤ n ∧ n ≤ 64) = true by simp; omega]
    go_enter Tryd.func50, Tryd.ntmps50
    go_wp2_with fail
    go_ret
    exact ⟨ret_bool (by first | rfl | (simp; omega)), rfl⟩
  · have t1 : (0 : Int) < (n : Int) := by omega
    have t2 : decide ((n : Int) < 65) = false := by simp; omega
    rw [show decide (1 ≤ n ∧ n ≤ 64) = false by simp; omega]
    go_enter Tryd.func50, Tryd.ntmps50
    go_wp2_with fail
    go_ret
    exact ⟨ret_bool (by first | rfl | (simp; omega)), rfl⟩
theorem r3within_any (s o : Int) (w : World) (h0 : 0 ≤ s) (h1 : s < 4294967296) (h2 : 0 ≤ o) (h3 : o < 4294967296) :
    Calls Tryd.prog 61 #[.int .u64 s, .int .u64 o] w fun e w' => e = .returned (.bool (Lx.mayB s o)) ∧ w = w' := by
  by_cases z : s = 0
  · subst z
    have e : Lx.mayB 0 o = (o == 0) := by simp [Lx.mayB, Lx.noneB, Lx.standsB]; rw [Bool.eq_iff_iff]; simp
    rw [e]
    go_enter Tryd.func61, Tryd.ntmps61
    go_wp2_with fail
    go_ret
    exact ⟨rfl, rfl⟩
  · have z0 : (s == 0) = false := by simp [z]
    have hp : (decide (s ≤ 16777215) = false ∧ Lx.mayB s o = false) ∨ (s ≤ 16777215 ∧ decide (16 ≤ o) = false ∧ Lx.mayB s o = false) ∨ (s ≤ 16777215 ∧ 16 ≤ o ∧ decide (o ≤ 16777216) = false ∧ Lx.mayB s o = false) ∨
        (s ≤ 16777215 ∧ 16 ≤ o ∧ o ≤ 16777216 ∧ Lx.mayB s o = true) := by
      simp only [Lx.mayB, Lx.noneB, Lx.standsB, decide_eq_false_iff_not, decide_eq_true_eq, Bool.or_eq_false_iff, Bool.or_eq_true]
      omega
    rcases hp with ⟨t1, t2⟩ | ⟨t1, t3, t2⟩ | ⟨t1, t3, t4, t2⟩ | ⟨t1, t3, t4, t2⟩
    all_goals
      rw [t2]
      clear t2
      go_enter Tryd.func61, Tryd.ntmps61
      go_wp2_with fail
      go_ret
      exact ⟨rfl, rfl⟩
theorem r3may8 (s o : Int) (w : World) (h0 : 0 ≤ s) (h1 : s < 4294967296) (h2 : 0 ≤ o) (h3 : o < 4294967296) (b : Bool) (hb : Lx.mayB s o = b) :
    Calls Tryd.prog 51 #[lv s o] w fun e w' => e = .returned (.bool b) ∧ Below w.heap.size w w' := by
  have hc := fun w => r3within_any s o w h0 h1 h2 h3
  rw [hb] at hc
  unfold lv
  go_enter Tryd.func51, Tryd.ntmps51
  go_wp2_with fail
  refine (hc _).mono ?_
  rintro e w1 ⟨rfl, rfl⟩
  go_wp2_with fail
  go_ret
  exact ⟨rfl, bnew w _⟩
theorem ref8may (v : Value) (r : Rc.Rec) (B : Nat) (w : World) (h : RecV w B v r) (hB : B ≤ w.heap.size) (f : Rc.Fit r) :
    Calls Tryd.prog 36 #[v] w fun e w' => e = .returned (.bool (Rc.mayB r)) ∧ Below w.heap.size w w' := by
  obtain ⟨A, c, A', c', rfl, h1, h2⟩ := h.form
  have b0 := bnew w (.cells #[.int .u64 r.seq, .int .i64 r.kind, .slice A r.key.length c, .slice A' r.val.length c', .int .u32 r.seg, .int .u32 r.off] 50)
  have g1 := f.key1
  have g2 := f.val1
  have g3 := f.seq0
  have g4 := f.seq1
  have hkey := fun w => r4may_any A r.key.length c w g1
  have hloc := fun w b hb => r3may8 r.seg r.off w f.seg0 f.seg1 f.off0 f.off1 b hb
  have hm : Hid (Rc.mayB r = (decide (1 ≤ r.seq ∧ r.seq ≤ 1099511627776) && decide (1 ≤ r.key.length ∧ r.key.length ≤ 64) && Lx.mayB r.seg r.off && Rc.kindB r)) := Lib.hid rfl
  have hkd : Hid (Rc.kindB r = (decide (r.kind = 1 ∧ r.val.length ≤ 1024) || decide (r.kind = 2 ∧ r.val.length = 0))) := Lib.hid rfl
  generalize r.key.length = n at *
  generalize r.val.length = m at *
  unfold recV at *
  by_cases k1 : r.kind = 1
  · have e1 : (r.kind != 1) = false := by simp [k1]
    have e2 : (r.kind == 2) = false := by simp [k1]
    by_cases hv : m ≤ 1024
    · have hk : Rc.kindB r = true := by rw [hkd.out]; simp [k1, hv]
      have t1 : decide ((1024 : Int) < (m : Int)) = false := by simp; omega
      by_cases s1 : 0 < r.seq
      · by_cases s2 : r.seq ≤ 1099511627776
        · cases s3 : decide (1 ≤ n ∧ n ≤ 64)
          · rw [s3] at hkey
            rw [hm.out, s3, Bool.and_false, Bool.false_and, Bool.false_and]
            clear s3
            go_enter Tryd.func36, Tryd.ntmps36
            go_wp2_with fail
            refine (hkey _).mono ?_
            rintro e w1 ⟨rfl, rfl⟩
            go_wp2_with fail
            go_ret
            exact ⟨rfl, bnew _ _⟩
          · rw [s3] at hkey
            have q1 : decide (1 ≤ r.seq ∧ r.seq ≤ 1099511627776) = true := by simp; omega
            have hloc' := fun w => hloc w _ rfl
            rw [hm.out, s3, hk, q1, Bool.true_and, Bool.true_and, Bool.and_true]
            clear s3 q1 hk
            generalize Lx.mayB r.seg r.off = q at *
            go_enter Tryd.func36, Tryd.ntmps36
            go_wp2_with fail
            refine (hkey _).mono ?_
            rintro e w1 ⟨rfl, rfl⟩
            go_wp2_with fail
            refine (hloc' _).mono ?_
            rintro e w1 ⟨rfl, b1⟩
            go_wp2_with fail
            go_ret
            exact ⟨rfl, bstep (bnew _ _) b1⟩
        · have t9 : decide (r.seq ≤ 1099511627776) = false := by simp; omega
          have q1 : decide (1 ≤ r.seq ∧ r.seq ≤ 1099511627776) = false := by simp; omega
          rw [hm.out, q1, Bool.false_and, Bool.false_and, Bool.false_and]
          clear q1 hk
          go_enter Tryd.func36, Tryd.ntmps36
          go_wp2_with fail
          go_ret
          exact ⟨rfl, bnew _ _⟩
      · have t9 : decide (0 < r.seq) = false := by simp; omega
        have q1 : decide (1 ≤ r.seq ∧ r.seq ≤ 1099511627776) = false := by simp; omega
        rw [hm.out, q1, Bool.false_and, Bool.false_and, Bool.false_and]
        clear q1 hk
        go_enter Tryd.func36, Tryd.ntmps36
        go_wp2_with fail
        go_ret
        exact ⟨rfl, bnew _ _⟩
    · have hk : Rc.kindB r = false := by rw [hkd.out]; simp [k1]; omega
      have t1 : (1024 : Int) < (m : Int) := by omega
      rw [hm.out, hk, Bool.and_false]
      clear hk
      go_enter Tryd.func36, Tryd.ntmps36
      go_wp2_with fail
      go_ret
      exact ⟨rfl, bnew _ _⟩
  · have e1 : (r.kind != 1) = true := by simp [k1]
    by_cases k2 : r.kind = 2
    · have e2 : (r.kind != 2) = false := by simp [k2]
      have e3 : (r.kind == 2) = true := by simp [k2]
      by_cases hv : m = 0
      · have hk : Rc.kindB r = true := by rw [hkd.out]; simp [k2, hv]
        subst hv
        by_cases s1 : 0 < r.seq
        · by_cases s2 : r.seq ≤ 1099511627776
          · cases s3 : decide (1 ≤ n ∧ n ≤ 64)
            · rw [s3] at hkey
              rw [hm.out, s3, Bool.and_false, Bool.false_and, Bool.false_and]
              clear s3
              go_enter Tryd.func36, Tryd.ntmps36
              go_wp2_with fail
              refine (hkey _).mono ?_
              rintro e w1 ⟨rfl, rfl⟩
              go_wp2_with fail
              go_ret
              exact ⟨rfl, bnew _ _⟩
            · rw [s3] at hkey
              have q1 : decide (1 ≤ r.seq ∧ r.seq ≤ 1099511627776) = true := by simp; omega
              have hloc' := fun w => hloc w _ rfl
              rw [hm.out, s3, hk, q1, Bool.true_and, Bool.true_and, Bool.and_true]
              clear s3 q1 hk
              generalize Lx.mayB r.seg r.off = q at *
              go_enter Tryd.func36, Tryd.ntmps36
              go_wp2_with fail
              refine (hkey _).mono ?_
              rintro e w1 ⟨rfl, rfl⟩
              go_wp2_with fail
              refine (hloc' _).mono ?_
              rintro e w1 ⟨rfl, b1⟩
              go_wp2_with fail
              go_ret
              exact ⟨rfl, bstep (bnew _ _) b1⟩
          · have t9 : decide (r.seq ≤ 1099511627776) = false := by simp; omega
            have q1 : decide (1 ≤ r.seq ∧ r.seq ≤ 1099511627776) = false := by simp; omega
            rw [hm.out, q1, Bool.false_and, Bool.false_and, Bool.false_and]
            clear q1 hk
            go_enter Tryd.func36, Tryd.ntmps36
            go_wp2_with fail
            go_ret
            exact ⟨rfl, bnew _ _⟩
        · have t9 : decide (0 < r.seq) = false := by simp; omega
          have q1 : decide (1 ≤ r.seq ∧ r.seq ≤ 1099511627776) = false := by simp; omega
          rw [hm.out, q1, Bool.false_and, Bool.false_and, Bool.false_and]
          clear q1 hk
          go_enter Tryd.func36, Tryd.ntmps36
          go_wp2_with fail
          go_ret
          exact ⟨rfl, bnew _ _⟩
      · have hk : Rc.kindB r = false := by rw [hkd.out]; simp [k2, hv]
        have t1 : (0 : Int) < (m : Int) := by omega
        rw [hm.out, hk, Bool.and_false]
        clear hk
        go_enter Tryd.func36, Tryd.ntmps36
        go_wp2_with fail
        go_ret
        exact ⟨rfl, bnew _ _⟩
    · have e2 : (r.kind != 2) = true := by simp [k2]
      have hk : Rc.kindB r = false := by rw [hkd.out]; simp [k1, k2]
      rw [hm.out, hk, Bool.and_false]
      clear hk
      go_enter Tryd.func36, Tryd.ntmps36
      go_wp2_with fail
      go_ret
      exact ⟨rfl, bnew _ _⟩
end Go.Proofs.YtkpkfgcbccaibaaDoor

/- RcRefPut -/

/-
  Layer 8, the document's answer: the walks of lay and Put.
-/
set_option linter.unusedVariables false
set_option linter.unusedSimpArgs false
namespace Go.Proofs.YtkpkfgcbccaibaaDoor
open Go.RowKit

set_option maxRecDepth 100000 in
theorem lay_any (v : Value) (m : Nat) (xs : List UInt8) (n k base : Nat) (w : World) (h : w.ownsRow base 5 1 v m (bvs xs)) (hbase : base ≤ w.heap.size) (hn : n < 18446744073709551616) (hk : k ≤ 8) (hm : m ≤ 100000) :
    Calls Tryd.prog 40 #[v, .int .u64 (n : Int), .int .i64 (k : Int)] w fun e w' => ∃ v', e = .returned v' ∧ w'.ownsRow base 5 1 v' (m + k) (bvs (xs ++ Px.leL n k)) ∧ Below base w w' := by
  obtain ⟨i0, hi0, hz0, hz1, hz2⟩ := info_parts byte_info
  have H := Lib.hid h
  clear h
  go_enter Tryd.func40, Tryd.ntmps40
  go_wp2_with fail
  go_loopg [0, 1, 7] k (fun q b y i wr => ∃ (j z : Nat), j + q = k ∧ i = .int .i64 j ∧ y = .int .u64 (z : Int) ∧ z = n / 2 ^ (8 * j) ∧ wr.ownsRow base 5 1 b (m + j) (bvs (xs ++ Px.leL n j)) ∧ Below base w wr)
  case atStart => exact ⟨0, n, by omega, rfl, rfl, by simp, by simpa [Px.leL] using H.out, Below.refl _ _⟩
  case round =>
    obtain ⟨j, z, hj, rfl, rfl, hz, hown, hb⟩ := hrel
    by_cases hlt : j < k
    · obtain ⟨d, hd, hd'⟩ := Crc.dg_step n j
      have hnx := Crc.dg_next n j
      rw [← hz] at hd hnx
      have hz64 : z < 18446744073709551616 := by rw [hz]; exact Nat.lt_of_le_of_lt (Nat.div_le_self _ _) hn
      generalize hy2 : n / 2 ^ (8 * (j + 1)) = z2 at hnx
      have Hz2 := Lib.hid hy2
      have Hd := Lib.hid (show d = Px.dg n j from hd')
      have hsz := hb.size
      clear hy2 hd' hz
      go_wp2_with (at_builtin; (refine wpList_append_1 _ rfl _ _ 23 rfl base 5 i0 (.int .u8 0) 1 Tryd.underlying23 hi0 hz0 hz1 hz2 rfl u0 (m + j) (bvs (xs ++ Px.leL n j)) rfl (hown.alloc _) _ 1 (.int .u8 (d.toNat : Int)) rfl (cell_new1 _ _ _) rfl (by unfold maxLen; omega) (by omega) (by simp; omega) ?_); intro v2 w3 hown3 hbw3 _ _)
      go_roundg (gk - 1)
      case measure => omega
      case rel => exact ⟨j + 1, z2, by omega, by go_num, rfl, Hz2.out.symm, by rw [Px.leL_succ, ← List.append_assoc, bvs_append, ← Hd.out]; exact hown3, (hb.alloc (by omega) _).trans hbw3⟩
    · obtain rfl : j = k := by omega
      go_wp2_with fail
      go_ret
      exact ⟨_, rfl, hown, hb⟩
theorem lay_step {base m n k m' : Nat} {w' : World} {v : Value} {l : List (Nat × Nat)} (hm : m' = m + k)
    (h : w'.ownsRow base 5 1 v (m + k) (bvs (Rc.rowL l ++ Px.leL n k))) : w'.ownsRow base 5 1 v m' (bvs (Rc.rowL (l ++ [(n, k)]))) := by
  subst hm
  rw [Rc.rowL_snoc]
  exact h
set_option maxRecDepth 100000 in
set_option maxHeartbeats 4000000 in
theorem rput8_ok (v : Value) (r : Rc.Rec) (B : Nat) (w : World) (h : RecV w B v r) (hB : B ≤ w.heap.size) (hm : Rc.mayB r = true) :
    Calls Tryd.prog 29 #[v] w fun e w' => ∃ v', e = .returned (.tuple #[v', .int .i64 0]) ∧ w'.ownsRow w.heap.size 5 1 v' (Rc.sizeN r) (bvs (Rc.runL r)) ∧ Below w.heap.size w w' := by
  obtain ⟨i0, hi0, hz0, hz1, hz2⟩ := info_parts byte_info
  have f := Rc.fit_may hm
  obtain ⟨A, c, A', c', rfl, h1, h2⟩ := h.form
  have b0 := bnew w (.cells #[.int .u64 r.seq, .int .i64 r.kind, .slice A r.key.length c, .slice A' r.val.length c', .int .u32 r.seg, .int .u32 r.off] 50)
  have hc := ref8may _ r _ _ (h.below b0 hB) (Nat.le_trans hB b0.size) f
  rw [hm] at hc
  have HC := Lib.hid hc
  have H1 := Lib.hid h1
  have H2 := Lib.hid h2
  obtain ⟨p1, p2, p3, p4, p5, p6, p7, p8, p9, p10, p11⟩ := Rc.may_bounds hm
  have HR := Lib.hid (show Rc.runL r = Cx.cover (Cx.cover (Rc.headL r) ++ r.key ++ r.val) from rfl)
  have HT := Lib.hid (show Rc.headL r = Rc.rowL (Rc.told r) from rfl)
  have HN := Lib.hid (show Rc.sizeN r = 25 + r.key.length + r.val.length from rfl)
  have HL := Lib.hid (Rc.cover_head_length r)
  have HL17 := Lib.hid (Rc.headL_length r)
  obtain ⟨seq, hseq⟩ := Int.eq_ofNat_of_zero_le (show 0 ≤ r.seq by omega)
  obtain ⟨kind, hkind⟩ := Int.eq_ofNat_of_zero_le (show 0 ≤ r.kind by omega)
  obtain ⟨seg, hseg⟩ := Int.eq_ofNat_of_zero_le (show 0 ≤ r.seg by omega)
  obtain ⟨off, hoff⟩ := Int.eq_ofNat_of_zero_le (show 0 ≤ r.off by omega)
  have HTo : Hid (Rc.headL r = Rc.rowL [(kind, 1), (r.key.length, 1), (r.val.length, 2), (seq, 6), (seg, 3), (off, 4)]) := Lib.hid (by
    unfold Rc.headL Rc.told
    rw [hseq, hkind, hseg, hoff]
    rfl)
  rw [hseq] at p1 p2
  rw [hkind] at p9 p10
  rw [hseg] at p5 p6
  rw [hoff] at p7 p8
  rw [hseq, hkind, hseg, hoff] at HC b0 ⊢
  clear h h1 h2 hm hc f hseq hkind hseg hoff HT
  have B0 := Lib.hid b0
  clear b0
  generalize hkl : r.key.length = kl at *
  generalize hvl : r.val.length = vl at *
  have HKL := Lib.hid hkl
  have HVL := Lib.hid hvl
  clear hkl hvl
  go_enter Tryd.func29, Tryd.ntmps29
  go_wp2_with fail
  refine HC.out.mono ?_
  rintro e w0 ⟨rfl, b0⟩
  have hsz0 := b0.size
  simp only [World.size_alloc] at hsz0
  have hB0 := Lib.hid (show Below (w.heap.size + 1) (w.alloc (.cells #[.int .u64 (seq : Int), .int .i64 (kind : Int), .slice A kl c, .slice A' vl c', .int .u32 (seg : Int), .int .u32 (off : Int)] 50)) w0 from b0.mono (by simp))
  obtain ⟨e0, e1, e2, e3, e4, e5⟩ := box6 hB0.out (by omega)
  have o0 : Hid (w0.ownsRow (w.heap.size + 1) 5 1 (.slice none 0 0) 0 (bvs (Rc.rowL []))) := Lib.hid (World.ownsRow_nil _ _ _ _)
  clear b0
  go_wp2_with fail
  refine (lay_any (.slice none 0 0) 0 (Rc.rowL []) kind 1 (w.heap.size + 1) w0 o0.out hsz0 (by omega) (by omega) (by omega)).mono ?_
  rintro e w1 ⟨v1, rfl, ow1, b1⟩
  clear e0 e1 e2 e3 e4 e5
  have o1 := Lib.hid (lay_step (m' := 1) (l := []) rfl ow1)
  have hB1 := Lib.hid (hB0.out.trans b1)
  have hsz1 := Nat.le_trans hsz0 b1.size
  obtain ⟨e0, e1, e2, e3, e4, e5⟩ := box6 hB1.out (by omega)
  clear ow1 b1 o0 hB0
  go_wp2_with fail
  refine (lay_any v1 1 (Rc.rowL [(kind, 1)]) kl 1 (w.heap.size + 1) w1 o1.out hsz1 (by omega) (by omega) (by omega)).mono ?_
  rintro e w2 ⟨v2, rfl, ow2, b2⟩
  clear e0 e1 e2 e3 e4 e5
  have o2 := Lib.hid (lay_step (m' := 2) (l := [(kind, 1)]) rfl ow2)
  have hB2 := Lib.hid (hB1.out.trans b2)
  have hsz2 := Nat.le_trans hsz1 b2.size
  obtain ⟨e0, e1, e2, e3, e4, e5⟩ := box6 hB2.out (by omega)
  clear ow2 b2 o1 hB1
  go_wp2_with fail
  refine (lay_any v2 2 (Rc.rowL [(kind, 1), (kl, 1)]) vl 2 (w.heap.size + 1) w2 o2.out hsz2 (by omega) (by omega) (by omega)).mono ?_
  rintro e w3 ⟨v3, rfl, ow3, b3⟩
  clear e0 e1 e2 e3 e4 e5
  have o3 := Lib.hid (lay_step (m' := 4) (l := [(kind, 1), (kl, 1)]) rfl ow3)
  have hB3 := Lib.hid (hB2.out.trans b3)
  have hsz3 := Nat.le_trans hsz2 b3.size
  obtain ⟨e0, e1, e2, e3, e4, e5⟩ := box6 hB3.out (by omega)
  clear ow3 b3 o2 hB2
  go_wp2_with fail
  refine (lay_any v3 4 (Rc.rowL [(kind, 1), (kl, 1), (vl, 2)]) seq 6 (w.heap.size + 1) w3 o3.out hsz3 (by omega) (by omega) (by omega)).mono ?_
  rintro e w4 ⟨v4, rfl, ow4, b4⟩
  clear e0 e1 e2 e3 e4 e5
  have o4 := Lib.hid (lay_step (m' := 10) (l := [(kind, 1), (kl, 1), (vl, 2)]) rfl ow4)
  have hB4 := Lib.hid (hB3.out.trans b4)
  have hsz4 := Nat.le_trans hsz3 b4.size
  obtain ⟨e0, e1, e2, e3, e4, e5⟩ := box6 hB4.out (by omega)
  clear ow4 b4 o3 hB3
  go_wp2_with fail
  refine (lay_any v4 10 (Rc.rowL [(kind, 1), (kl, 1), (vl, 2), (seq, 6)]) seg 3 (w.heap.size + 1) w4 o4.out hsz4 (by omega) (by omega) (by omega)).mono ?_
  rintro e w5 ⟨v5, rfl, ow5, b5⟩
  clear e0 e1 e2 e3 e4 e5
  have o5 := Lib.hid (lay_step (m' := 13) (l := [(kind, 1), (kl, 1), (vl, 2), (seq, 6)]) rfl ow5)
  have hB5 := Lib.hid (hB4.out.trans b5)
  have hsz5 := Nat.le_trans hsz4 b5.size
  obtain ⟨e0, e1, e2, e3, e4, e5⟩ := box6 hB5.out (by omega)
  clear ow5 b5 o4 hB4
  go_wp2_with fail
  refine (lay_any v5 13 (Rc.rowL [(kind, 1), (kl, 1), (vl, 2), (seq, 6), (seg, 3)]) off 4 (w.heap.size + 1) w5 o5.out hsz5 (by omega) (by omega) (by omega)).mono ?_
  rintro e w6 ⟨v6, rfl, ow6, b6⟩
  clear e0 e1 e2 e3 e4 e5
  have o6 := Lib.hid (lay_step (m' := 17) (l := [(kind, 1), (kl, 1), (vl, 2), (seq, 6), (seg, 3)]) rfl ow6)
  have hB6 := Lib.hid (hB5.out.trans b6)
  have hsz6 := Nat.le_trans hsz5 b6.size
  obtain ⟨e0, e1, e2, e3, e4, e5⟩ := box6 hB6.out (by omega)
  clear ow6 b6 o5 hB5
  have o6' : Hid (w6.ownsRow (w.heap.size + 1) 5 1 v6 17 (bvs (Rc.headL r))) := Lib.hid (by rw [HTo.out]; exact o6.out)
  go_wp2_with fail
  obtain ⟨A7, c7, rfl, _, _, _⟩ := own_slice o6'.out
  refine (Crc.rcover_any A7 (Rc.headL r) c7 w6 (Rd.of_own o6'.out) (by rw [HL17.out]; omega)).mono ?_
  rintro e w7 ⟨v7, rfl, ow7, b7⟩
  clear e0 e1 e2 e3 e4 e5
  rw [HL17.out] at ow7
  have o7 := own_base (base' := w.heap.size + 1) ow7 hsz6
  have hB7 := Lib.hid (hB6.out.trans (b7.mono hsz6))
  have hsz7 := Nat.le_trans hsz6 b7.size
  obtain ⟨e0, e1, e2, e3, e4, e5⟩ := box6 hB7.out (by omega)
  have hw7 := Lib.hid (B0.out.trans (hB7.out.mono (Nat.le_succ _)))
  obtain ⟨A8, c8, e8, hkc, hrk⟩ := H1.out.below hw7.out hB
  obtain ⟨A9, c9, e9, hvc, hrv⟩ := H2.out.below hw7.out hB
  injection e8 with q1 q2 q3
  injection e9 with q4 q5 q6
  subst q1 q3 q4 q6
  clear q2 q5 ow7 b7 o6 o6' hB6
  have hl8 := HKL.out
  have hl9 := HVL.out
  go_wp2_with (first
    | (at_builtin; (refine wpList_append_rd _ rfl _ _ 23 rfl (w.heap.size + 1) 5 i0 (.int .u8 0) 1 1 Tryd.underlying23 hi0 hz0 hz1 hz2 rfl (by omega) v7 21 (bvs (Cx.cover (Rc.headL r))) rfl o7 B A kl c (bvs r.key) rfl (by rw [bvs_length, HKL.out, Nat.mul_one]) hrk (bvs_one _) (by unfold maxLen; omega) (by omega) hsz7 ?_); intro v10 w10 ow10 b10 hg10 _; obtain ⟨x0, x1, x2, x3, x4, x5⟩ := box6 (hB7.out.trans b10) (by omega); have hrv4 := hrv.below b10 (by omega))
    | (at_builtin; (refine wpList_append_rd _ rfl _ _ 23 rfl (w.heap.size + 1) 5 i0 (.int .u8 0) 1 1 Tryd.underlying23 hi0 hz0 hz1 hz2 rfl (by omega) v10 (21 + kl) _ rfl ow10 B A' vl c' (bvs r.val) rfl (by rw [bvs_length, HVL.out, Nat.mul_one]) hrv4 (bvs_one _) (by unfold maxLen; omega) (by omega) (by have := b10.size; omega) ?_); intro v11 w11 ow11 b11 hg11 _))
  rw [← bvs_append, ← bvs_append] at ow11
  have hb11 := hw7.out.trans ((b10.trans b11).mono (Nat.le_succ _))
  have hl : (Cx.cover (Rc.headL r) ++ r.key ++ r.val).length = 21 + kl + vl := by
    rw [List.length_append, List.length_append, Rc.cover_head_length, HKL.out, HVL.out]
  obtain ⟨A12, c12, rfl, _, _, _⟩ := own_slice ow11
  have hcov := Crc.rcover_any A12 (Cx.cover (Rc.headL r) ++ r.key ++ r.val) c12 w11 (Rd.of_own ow11) (by rw [hl]; omega)
  rw [hl] at hcov
  refine hcov.mono ?_
  rintro e w12 ⟨v12, rfl, ow12, b12⟩
  go_wp2_with fail
  go_ret2
  refine ⟨_, rfl, ?_, bstep hb11 b12⟩
  rw [HN.out, show 25 + kl + vl = 21 + kl + vl + 4 by omega]
  exact own_base ow12 hb11.size
end Go.Proofs.YtkpkfgcbccaibaaDoor

/- RcRefGet -/

/-
  Layer 8, the document's answer: the walks of number and Get.
-/
set_option linter.unusedVariables false
set_option linter.unusedSimpArgs false
namespace Go.Proofs.YtkpkfgcbccaibaaDoor
open Go.RowKit

theorem RowAt.put {w : World} {g : Nat} {l : List UInt8} (h : RowAt w g l) (i : Nat) (x : UInt8) : RowAt (w.setCell ⟨g, i, none⟩ (.int .u8 (x.toNat : Int))) g (l.set i x) := by
  have := set1 (i := i) h (.int .u8 (x.toNat : Int))
  unfold RowAt
  rw [this, bvs_set]
  simp [bv]
theorem RowAt.cell {w : World} {g : Nat} {l : List UInt8} (h : RowAt w g l) (i : Nat) (hi : i < l.length) : ∃ y : UInt8, w.cell? ⟨g, i, none⟩ = some (.int .u8 (y.toNat : Int)) ∧ w.frozen? ⟨g, i, none⟩ = false := by
  refine ⟨l[i], ?_, by simp [World.frozen?, show w.heap[g]? = _ from h]⟩
  rw [cell_of_row w g i _ _ _ h]
  simp [bvs, bv, hi]
end Go.Proofs.YtkpkfgcbccaibaaDoor

