
/-
  Layer 3: the contracts of Compare, Put, Get, and of 'brought'.
-/
import Derived.Test.YtikdpldfklbdoaaLxPure
import Derived.Test.YtikdpldfklbdoaaCut
set_option linter.unusedVariables false
set_option linter.unusedSimpArgs false
namespace Go.Proofs.Ytikdpldfklbdoaa
open Go.RowKit

theorem box_size {w w1 : World} {o : Obj} (hb : Below (w.heap.size + 1) (w.alloc o) w1) : w.heap.size + 1 ≤ w1.heap.size := by have := hb.size; simp at this; omega

theorem compare_any (s o s' o' : Int) (w : World) :
    Calls Try.prog 19 #[lv s o, lv s' o'] w fun e w' => e = .returned (.int .i64 (Lx.cmpL s o s' o')) ∧ Below w.heap.size w w' := by
  by_cases h : s = s'
  · have e1 : Lx.cmpL s o s' o' = Lx.cmpI o o' := if_pos h
    rw [e1]
    have hn : (s != s') = false := by simp [h]
    clear e1 h
    unfold lv
    go_enter Try.func19, Try.ntmps19
    go_wp2_with fail
    refine (cmp32_any _ _ _).mono ?_
    rintro e w1 ⟨rfl, rfl⟩
    go_wp2_with fail
    go_ret
    exact ⟨rfl, balloc (bnew _ _) _⟩
  · have e1 : Lx.cmpL s o s' o' = Lx.cmpI s s' := if_neg h
    rw [e1]
    have hn : (s != s') = true := by simp [h]
    clear e1 h
    unfold lv
    go_enter Try.func19, Try.ntmps19
    go_wp2_with fail
    refine (cmp32_any _ _ _).mono ?_
    rintro e w1 ⟨rfl, rfl⟩
    go_wp2_with fail
    go_ret
    exact ⟨rfl, balloc (bnew _ _) _⟩

theorem brought_any (s o : Int) (w : World) (h0 : 0 ≤ s) (h1 : s < 4294967296) (h2 : 0 ≤ o) (h3 : o < 4294967296) :
    Calls Try.prog 38 #[lv s o] w fun e w' => e = .returned (lv (1 + s % 16777215) (16 + o % 16777201)) ∧ Below w.heap.size w w' := by
  unfold lv
  go_enter Try.func38, Try.ntmps38
  go_wp2
  exact bodyPost_ret (v := .agg #[.int .u32 _, .int .u32 _]) (by simp [results, Try.results38, go_sem]) rfl ⟨rfl, balloc (bnew _ _) _⟩

/-- what Put lays -/
def Lx.putR (l : List UInt8) (s o : Int) : List UInt8 := if Lx.mayB s o then l ++ Lx.putL s o else []

theorem lput_any (v : Value) (l : List UInt8) (s o : Int) (w : World) (h : Bs w w.heap.size v l) (h0 : 0 ≤ s) (h1 : s < 4294967296) (h2 : 0 ≤ o) (h3 : o < 4294967296) (hm : l.length + 18 ≤ 140737488355328) :
    Calls Try.prog 14 #[v, lv s o] w fun e w' => ∃ r, e = .returned (.tuple #[r, .int .i64 (Lx.pkE s o)]) ∧ Bs w' w'.heap.size r (Lx.putR l s o) ∧ Below w.heap.size w w' := by
  have e1 : Lx.putR l s o = if Lx.mayB s o then l ++ Lx.putL s o else [] := rfl
  have e2 : Lx.pkE s o = if Lx.mayB s o then 0 else 1 := rfl
  have Hv := Lib.hid h
  clear h
  cases hm : Lx.mayB s o
  · rw [hm] at e1 e2
    simp only [Bool.false_eq_true, if_false] at e1 e2
    rw [e1, e2]
    have Hm := Lib.hid hm
    clear hm e1 e2
    unfold lv
    go_enter Try.func14, Try.ntmps14
    go_wp2_with fail
    have b0 := bnew w (.cells #[.int .u32 s, .int .u32 o] 24)
    refine (may_b s o _ h0 h1 h2 h3 _ Hm.out).mono ?_
    rintro e w1 ⟨rfl, hb⟩
    have b1 := bstep b0 hb
    clear hb b0
    go_wp2_with fail
    go_ret2
    exact ⟨_, rfl, Bs.none_, b1⟩
  · rw [hm] at e1 e2
    simp only [if_true] at e1 e2
    rw [e1, e2]
    have Hm := Lib.hid hm
    clear hm e1 e2
    cases hn : Lx.noneB s o
    · have hs : 1 ≤ s ∧ 16 ≤ o ∧ o ≤ 16777216 := by
        have h := Hm.out
        rw [Lx.mayB, hn, Bool.false_or, Lx.standsB, decide_eq_true_eq] at h
        omega
      have hpl : Lx.putL s o = Px.formL s.toNat ++ Px.formL (o - 16).toNat := if_neg (by omega)
      have Hn := Lib.hid hn
      have Hpl := Lib.hid hpl
      clear hn hpl
      obtain ⟨q1, q2, q3⟩ := hs
      have hsz := Px.sizeN_pos s.toNat
      have hfl := Px.formL_length s.toNat
      have Hfl := Lib.hid hfl
      clear hfl
      unfold lv
      go_enter Try.func14, Try.ntmps14
      go_wp2_with fail
      have b0 := bnew w (.cells #[.int .u32 s, .int .u32 o] 24)
      refine (may_b s o _ h0 h1 h2 h3 _ Hm.out).mono ?_
      rintro e w1 ⟨rfl, hb⟩
      have b1 := bstep b0 hb
      simp only [World.size_alloc] at hb
      have cc := box2 hb
      have hz1 := box_size hb
      clear hb b0
      have Hv1 := Lib.hid (Hv.out.on b1)
      obtain ⟨c0, c1⟩ := cc
      go_wp2_with fail
      refine (put_b _ l _ _ Hv1.out (by omega) (by omega) (by omega)).mono ?_
      rintro e w2 ⟨r2, rfl, hown, hb⟩
      have d0 : w2.cell? ⟨w.heap.size, 0, none⟩ = some (.int .u32 s) := (hb.cell (by simp; omega)).trans c0
      have d1 : w2.cell? ⟨w.heap.size, 1, none⟩ = some (.int .u32 o) := (hb.cell (by simp; omega)).trans c1
      have hz2 : w.heap.size + 1 ≤ w2.heap.size := by have := hb.size; omega
      have b2 := bstep b1 hb
      have Hs2 := Lib.hid (Bs.of_own hown)
      clear hown hb c0 c1 b1 Hv1
      go_wp2_with fail
      refine (none_b s o _ _ Hn.out).mono ?_
      rintro e w3 ⟨rfl, hb⟩
      have c0 : w3.cell? ⟨w.heap.size, 0, none⟩ = some (.int .u32 s) := (hb.cell (by simp; omega)).trans d0
      have c1 : w3.cell? ⟨w.heap.size, 1, none⟩ = some (.int .u32 o) := (hb.cell (by simp; omega)).trans d1
      have b3 := bstep b2 hb
      have Hs3 := Lib.hid (Hs2.out.on hb)
      clear hb d0 d1 b2 Hs2
      go_wp2_with fail
      refine (put_b _ (l ++ Px.formL s.toNat) _ _ Hs3.out (by omega) (by omega) (by rw [List.length_append, Hfl.out]; omega)).mono ?_
      rintro e w4 ⟨r4, rfl, hown, hb⟩
      have b4 := bstep b3 hb
      have Hs4 := Lib.hid (Bs.of_own hown)
      clear hown hb
      go_wp2_with fail
      go_ret2
      refine ⟨_, rfl, ?_, b4⟩
      rw [Hpl.out, ← List.append_assoc]
      exact Hs4.out
    · have hs : s = 0 ∧ o = 0 := by
        rw [Lx.noneB, decide_eq_true_eq] at hn
        exact hn
      have hpl : Lx.putL s o = Px.formL 0 := if_pos hs.1
      obtain ⟨rfl, rfl⟩ := hs
      have Hn := Lib.hid hn
      have Hpl := Lib.hid hpl
      clear hn hpl
      unfold lv
      go_enter Try.func14, Try.ntmps14
      go_wp2_with fail
      have b0 := bnew w (.cells #[.int .u32 0, .int .u32 0] 24)
      refine (may_b 0 0 _ h0 h1 h2 h3 _ Hm.out).mono ?_
      rintro e w1 ⟨rfl, hb⟩
      have b1 := bstep b0 hb
      simp only [World.size_alloc] at hb
      have cc := box2 hb
      have hz1 := box_size hb
      clear hb b0
      have Hv1 := Lib.hid (Hv.out.on b1)
      obtain ⟨c0, c1⟩ := cc
      go_wp2_with fail
      refine (put_b _ l _ _ Hv1.out (by omega) (by omega) (by omega)).mono ?_
      rintro e w2 ⟨r2, rfl, hown, hb⟩
      have d0 : w2.cell? ⟨w.heap.size, 0, none⟩ = some (.int .u32 0) := (hb.cell (by simp; omega)).trans c0
      have d1 : w2.cell? ⟨w.heap.size, 1, none⟩ = some (.int .u32 0) := (hb.cell (by simp; omega)).trans c1
      have b2 := bstep b1 hb
      have Hs2 := Lib.hid (Bs.of_own hown)
      clear hown hb c0 c1 b1 Hv1
      go_wp2_with fail
      refine (none_b 0 0 _ _ Hn.out).mono ?_
      rintro e w3 ⟨rfl, hb⟩
      have b3 := bstep b2 hb
      have Hs3 := Lib.hid (Hs2.out.on hb)
      clear hb d0 d1 b2 Hs2
      go_wp2_with fail
      go_ret2
      refine ⟨_, rfl, ?_, b3⟩
      rw [Hpl.out]
      exact Hs3.out

def Lx.getV (l : List UInt8) : Value := .tuple #[lv (Lx.getQ l).1 (Lx.getQ l).2.1, .int .i64 (Lx.getQ l).2.2.1, .int .i64 (Lx.getQ l).2.2.2]
def Lx.gV (s o k e : Int) : Value := .tuple #[lv s o, .int .i64 k, .int .i64 e]
theorem Lx.getV_eq {l : List UInt8} {s o k e : Int} (h : Lx.getQ l = (s, o, k, e)) : Lx.getV l = Lx.gV s o k e := by unfold Lx.getV Lx.gV; rw [h]

theorem getV_eq {l : List UInt8} {n k e : Nat} (h : Px.getN l = (n, k, e)) : getV l = .tuple #[.int .u64 n, .int .i64 k, .int .i64 e] := by unfold getV; rw [h]

/-- prefix.Get where the answer is known -/
theorem get_is (v : Value) (l : List UInt8) (n k e : Nat) (B : Nat) (w : World) (hn : Px.getN l = (n, k, e)) (h : Bs w B v l) (hl : l.length ≤ 9223372036854775807) :
    Calls Try.prog 45 #[v] w fun e' w' => e' = .returned (.tuple #[.int .u64 n, .int .i64 k, .int .i64 e]) ∧ Below w.heap.size w w' := by
  rw [← getV_eq hn]
  exact get_b v l B w h hl

set_option maxHeartbeats 2000000 in
theorem lget_any (v : Value) (l : List UInt8) (w : World) (h : Bs w w.heap.size v l) (hl : l.length ≤ 9223372036854775807) :
    Calls Try.prog 16 #[v] w fun e w' => e = .returned (Lx.getV l) ∧ Below w.heap.size w w' := by
  have Hv := Lib.hid h
  clear h
  rcases Px.getN_cases l with hg | ⟨n, k, hg, hn, hk1, hkl, hx1, hx2⟩
  · obtain ⟨er, her, hg⟩ : ∃ er : Nat, (er = 4 ∨ er = 5) ∧ Px.getN l = (0, 0, er) := by
      rcases hg with hg | hg
      · exact ⟨4, .inl rfl, hg⟩
      · exact ⟨5, .inr rfl, hg⟩
    have hq : Lx.getV l = Lx.gV 0 0 0 er := Lx.getV_eq (by unfold Lx.getQ; rw [hg]; simp; omega)
    rw [hq]
    have Hg := Lib.hid hg
    have hne : ((er : Int) != 0) = true := by simp; omega
    clear hg hq
    go_enter Try.func16, Try.ntmps16
    go_wp2_with fail
    have b0 := bnew w (.cells #[.int .u32 0, .int .u32 0] 24)
    refine (get_is _ l 0 0 er _ _ Hg.out (Hv.out.on b0) hl).mono ?_
    rintro e w1 ⟨rfl, hb⟩
    have b1 := bstep b0 hb
    simp only [World.size_alloc] at hb
    have cc := box2f hb
    clear hb b0
    obtain ⟨c0, c1, f0, f1⟩ := cc
    go_wp2_with fail
    exact bodyPost_ret (v := Lx.gV 0 0 0 er) (by simp [results, Try.results16, go_sem, c0, c1, Lx.gV, lv]) rfl ⟨rfl, (b1.setCell (Nat.le_refl _) _).setCell (Nat.le_refl _) _⟩
  · clear hx1 hx2
    obtain ⟨A, c, rfl, hc, hr⟩ := Hv.out
    by_cases hn0 : n = 0
    · subst hn0
      have hq : Lx.getV l = Lx.gV 0 0 k 0 := Lx.getV_eq (by unfold Lx.getQ; rw [hg]; simp)
      rw [hq]
      have Hg := Lib.hid hg
      clear hg hq
      go_enter Try.func16, Try.ntmps16
      go_wp2_with fail
      have b0 := bnew w (.cells #[.int .u32 0, .int .u32 0] 24)
      refine (get_is _ l 0 k 0 _ _ Hg.out (Hv.out.on b0) hl).mono ?_
      rintro e w1 ⟨rfl, hb⟩
      have b1 := bstep b0 hb
      simp only [World.size_alloc] at hb
      have cc := box2f hb
      clear hb b0
      obtain ⟨c0, c1, f0, f1⟩ := cc
      go_wp2_with fail
      exact bodyPost_ret (v := Lx.gV 0 0 k 0) (by simp [results, Try.results16, go_sem, c0, c1, Lx.gV, lv]) rfl ⟨rfl, (b1.setCell (Nat.le_refl _) _).setCell (Nat.le_refl _) _⟩
    · obtain ⟨A', c', hcut, hc', hcr⟩ := cut_l A l.length c k (l.length - k) (by omega) hc
      have hll : (l.drop k).length = l.length - k := List.length_drop
      have hbs : ∀ w' : World, Below w.heap.size w w' → Bs w' w'.heap.size (.slice A' (l.length - k) c') (l.drop k) := fun w' hb =>
        ⟨A', c', by rw [hll], by omega, ((hcr w w.heap.size l hc hr).below hb (Nat.le_refl _)).mono hb.size⟩
      have Hbs := Lib.hid hbs
      have Hll := Lib.hid hll
      clear hr hcr hbs hll
      have hnz : ((n : Int) == 0) = false := by simp; omega
      rcases Px.getN_cases (l.drop k) with hg2 | ⟨m, j, hg2, hm, hj1, hjl, hx1, hx2⟩
      · obtain ⟨er, her, hg2⟩ : ∃ er : Nat, (er = 4 ∨ er = 5) ∧ Px.getN (l.drop k) = (0, 0, er) := by
          rcases hg2 with hg2 | hg2
          · exact ⟨4, .inl rfl, hg2⟩
          · exact ⟨5, .inr rfl, hg2⟩
        have hq : Lx.getV l = Lx.gV 0 0 0 er := Lx.getV_eq (by unfold Lx.getQ; rw [hg]; simp [hn0, hg2]; omega)
        rw [hq]
        have Hg := Lib.hid hg
        have Hg2 := Lib.hid hg2
        have hne : ((er : Int) != 0) = true := by simp; omega
        clear hg hg2 hq
        go_enter Try.func16, Try.ntmps16
        go_wp2_with fail
        have b0 := bnew w (.cells #[.int .u32 0, .int .u32 0] 24)
        refine (get_is _ l n k 0 _ _ Hg.out (Hv.out.on b0) hl).mono ?_
        rintro e w1 ⟨rfl, hb⟩
        have b1 := bstep b0 hb
        simp only [World.size_alloc] at hb
        have cc := box2f hb
        have hz := box_size hb
        clear hb b0
        obtain ⟨c0, c1, f0, f1⟩ := cc
        go_wp2_with fail
        refine (get_is _ (l.drop k) 0 0 er _ _ Hg2.out (Hbs.out w1 b1) (by rw [Hll.out]; omega)).mono ?_
        rintro e w2 ⟨rfl, hb⟩
        have d0 : w2.cell? ⟨w.heap.size, 0, none⟩ = some (.int .u32 0) := (hb.cell (by simp; omega)).trans c0
        have d1 : w2.cell? ⟨w.heap.size, 1, none⟩ = some (.int .u32 0) := (hb.cell (by simp; omega)).trans c1
        have g0 : w2.frozen? ⟨w.heap.size, 0, none⟩ = false := (hb.frozen (by simp; omega)).trans f0
        have g1 : w2.frozen? ⟨w.heap.size, 1, none⟩ = false := (hb.frozen (by simp; omega)).trans f1
        have b2 := bstep b1 hb
        clear hb c0 c1 f0 f1 b1
        go_wp2_with fail
        exact bodyPost_ret (v := Lx.gV 0 0 0 er) (by simp [results, Try.results16, go_sem, d0, d1, Lx.gV, lv]) rfl ⟨rfl, (b2.setCell (Nat.le_refl _) _).setCell (Nat.le_refl _) _⟩
      · clear hx1 hx2
        have hjl' : j ≤ l.length - k := by rw [← Hll.out]; exact hjl
        clear hjl
        by_cases hbig : 16777215 < n ∨ 16777200 < m
        · have hq : Lx.getV l = Lx.gV 0 0 0 5 := Lx.getV_eq (by unfold Lx.getQ; rw [hg]; simp [hn0, hg2]; omega)
          rw [hq]
          have Hg := Lib.hid hg
          have Hg2 := Lib.hid hg2
          clear hg hg2 hq
          rcases Nat.lt_or_ge 16777215 n with hb1 | hb1
          all_goals
            have q1 : 16777200 < m ∨ 16777215 < n := by omega
            go_enter Try.func16, Try.ntmps16
            go_wp2_with fail
            have b0 := bnew w (.cells #[.int .u32 0, .int .u32 0] 24)
            refine (get_is _ l n k 0 _ _ Hg.out (Hv.out.on b0) hl).mono ?_
            rintro e w1 ⟨rfl, hb⟩
            have b1 := bstep b0 hb
            simp only [World.size_alloc] at hb
            have cc := box2f hb
            have hz := box_size hb
            clear hb b0
            obtain ⟨c0, c1, f0, f1⟩ := cc
            go_wp2_with fail
            refine (get_is _ (l.drop k) m j 0 _ _ Hg2.out (Hbs.out w1 b1) (by rw [Hll.out]; omega)).mono ?_
            rintro e w2 ⟨rfl, hb⟩
            have d0 : w2.cell? ⟨w.heap.size, 0, none⟩ = some (.int .u32 0) := (hb.cell (by simp; omega)).trans c0
            have d1 : w2.cell? ⟨w.heap.size, 1, none⟩ = some (.int .u32 0) := (hb.cell (by simp; omega)).trans c1
            have g0 : w2.frozen? ⟨w.heap.size, 0, none⟩ = false := (hb.frozen (by simp; omega)).trans f0
            have g1 : w2.frozen? ⟨w.heap.size, 1, none⟩ = false := (hb.frozen (by simp; omega)).trans f1
            have b2 := bstep b1 hb
            clear hb c0 c1 f0 f1 b1
          · have q2 : decide ((16777215 : Int) < (n : Int)) = true := by simp; omega
            go_wp2_with fail
            exact bodyPost_ret (v := Lx.gV 0 0 0 5) (by simp [results, Try.results16, go_sem, d0, d1, Lx.gV, lv]) rfl ⟨rfl, (b2.setCell (Nat.le_refl _) _).setCell (Nat.le_refl _) _⟩
          · have q2 : decide ((16777215 : Int) < (n : Int)) = false := by simp; omega
            have q3 : decide ((16777200 : Int) < (m : Int)) = true := by simp; omega
            go_wp2_with fail
            exact bodyPost_ret (v := Lx.gV 0 0 0 5) (by simp [results, Try.results16, go_sem, d0, d1, Lx.gV, lv]) rfl ⟨rfl, (b2.setCell (Nat.le_refl _) _).setCell (Nat.le_refl _) _⟩
        · have hq : Lx.getV l = Lx.gV n (m + 16) (k + j) 0 := Lx.getV_eq (by unfold Lx.getQ; rw [hg]; simp [hn0, hg2]; omega)
          rw [hq]
          have Hg := Lib.hid hg
          have Hg2 := Lib.hid hg2
          have hb1 : n ≤ 16777215 := by omega
          have hb2 : m ≤ 16777200 := by omega
          clear hg hg2 hq hbig
          go_enter Try.func16, Try.ntmps16
          go_wp2_with fail
          have b0 := bnew w (.cells #[.int .u32 0, .int .u32 0] 24)
          refine (get_is _ l n k 0 _ _ Hg.out (Hv.out.on b0) hl).mono ?_
          rintro e w1 ⟨rfl, hb⟩
          have b1 := bstep b0 hb
          simp only [World.size_alloc] at hb
          have cc := box2f hb
          have hz := box_size hb
          clear hb b0
          obtain ⟨c0, c1, f0, f1⟩ := cc
          go_wp2_with fail
          refine (get_is _ (l.drop k) m j 0 _ _ Hg2.out (Hbs.out w1 b1) (by rw [Hll.out]; omega)).mono ?_
          rintro e w2 ⟨rfl, hb⟩
          have d0 : w2.cell? ⟨w.heap.size, 0, none⟩ = some (.int .u32 0) := (hb.cell (by simp; omega)).trans c0
          have d1 : w2.cell? ⟨w.heap.size, 1, none⟩ = some (.int .u32 0) := (hb.cell (by simp; omega)).trans c1
          have g0 : w2.frozen? ⟨w.heap.size, 0, none⟩ = false := (hb.frozen (by simp; omega)).trans f0
          have g1 : w2.frozen? ⟨w.heap.size, 1, none⟩ = false := (hb.frozen (by simp; omega)).trans f1
          have b2 := bstep b1 hb
          clear hb c0 c1 f0 f1 b1
          have q2 : decide ((16777215 : Int) < (n : Int)) = false := by simp; omega
          have q3 : decide ((16777200 : Int) < (m : Int)) = false := by simp; omega
          go_wp2_with fail
          exact bodyPost_ret (v := Lx.gV n (m + 16) (k + j) 0) (by simp [results, Try.results16, go_sem, d0, d1, Lx.gV, lv]) rfl ⟨rfl, (b2.setCell (Nat.le_refl _) _).setCell (Nat.le_refl _) _⟩
end Go.Proofs.Ytikdpldfklbdoaa
