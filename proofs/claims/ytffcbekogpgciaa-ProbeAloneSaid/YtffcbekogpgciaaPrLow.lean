
/-
  Layer 14 (probe): the small calls: ahead, round and its closure, home, room, made, may.
-/
import Derived.Test.YtffcbekogpgciaaPrMem
import Derived.Test.YtffcbekogpgciaaStep
import Derived.Laws.EntriesVeiled
import Derived.BigQuiet
import Derived.Test.YtffcbekogpgciaaRegion
import Derived.Test.YtffcbekogpgciaaOrdL
set_option linter.unusedVariables false
set_option linter.unusedSimpArgs false
namespace Go.Proofs.Ytffcbekogpgciaa.Pr
open Go Go.RowKit

theorem box4 {w : World} {g : Nat} {y0 y1 y2 y3 : Value} {t : TypeId} (h : w.heap[g]? = some (.cells #[y0, y1, y2, y3] t (0, 0))) :
    w.cell? ⟨g, 0, none⟩ = some y0 ∧ w.cell? ⟨g, 1, none⟩ = some y1 ∧ w.cell? ⟨g, 2, none⟩ = some y2 ∧ w.cell? ⟨g, 3, none⟩ = some y3 :=
  ⟨by simp [World.cell?, h], by simp [World.cell?, h], by simp [World.cell?, h], by simp [World.cell?, h]⟩

/-- (Slot).ahead -/
theorem ahead_b (b b' : Bool) (v v' : Value) (n n' : Nat) (f f' : Nat) (l l' : List UInt8) (B : Nat) (w : World) (h : Bs w B v l) (h' : Bs w B v' l') (hB : B ≤ w.heap.size) (d : Bool) (hd : decide (Ahead ⟨l, n, f⟩ ⟨l', n', f'⟩) = d) (hf : f < 1000000000) (hf' : f' < 1000000000) :
    Calls Try.prog 43 #[.agg #[.bool b, v, .int .u64 (n : Int), .int .i64 (f : Int)], .agg #[.bool b', v', .int .u64 (n' : Int), .int .i64 (f' : Int)]] w fun e w' => e = .returned (.bool d) ∧ Below w.heap.size w w' := by
  have H := Lib.hid h
  have H' := Lib.hid h'
  have HB := Lib.hid hB
  have Hd := Lib.hid hd
  obtain ⟨A, c, rfl, _, _⟩ := h
  obtain ⟨A', c', rfl, _, _⟩ := h'
  clear hB hd
  by_cases hff : f = f'
  · subst hff
    have j0 : ((f : Int) != (f : Int)) = false := by simp
    go_enter Try.func43, Try.ntmps43
    go_wp2_with fail
    refine (kcompare_b _ _ l l' B B _ (((H.out.alloc HB.out _)).alloc (by have := HB.out; simp; omega) _) ((H'.out.alloc HB.out _).alloc (by have := HB.out; simp; omega) _)).mono ?_
    rintro e w1 ⟨rfl, rfl⟩
    go_wp2
    go_ret
    refine ⟨?_, ((Below.refl _ _).alloc (Nat.le_refl _) _).alloc (by simp) _⟩
    rw [← Hd.out]
    congr 2
    unfold Ahead kl
    simp
  · have j0 : ((f : Int) != (f' : Int)) = true := by simp; omega
    go_enter Try.func43, Try.ntmps43
    go_wp2
    go_ret
    refine ⟨?_, ((Below.refl _ _).alloc (Nat.le_refl _) _).alloc (by simp) _⟩
    rw [← Hd.out]
    congr 2
    unfold Ahead kl
    simp [hff]
/-- what the closure that goes round reads: its cell N, the box Tb of its table -/
structure CloAt (w : World) (N Tb T next : Nat) : Prop where
  n : w.heap[N]? = some (.cells #[.int .i64 (next : Int)] 3 (0, 0))
  t : w.heap[Tb]? = some (.cells #[.pointer (some ⟨T, 0, none⟩)] 24 (0, 0))
theorem CloAt.lt {w : World} {N Tb T next : Nat} (h : CloAt w N Tb T next) : N < w.heap.size ∧ Tb < w.heap.size := ⟨(Array.getElem?_eq_some_iff.1 h.n).1, (Array.getElem?_eq_some_iff.1 h.t).1⟩
theorem CloAt.ne {w : World} {N Tb T next : Nat} (h : CloAt w N Tb T next) : N ≠ Tb := fun e => by
  have h1 := h.n
  rw [e, h.t] at h1
  simp at h1
theorem CloAt.chg {w w' : World} {M : Nat → Prop} {N Tb T next : Nat} (h : CloAt w N Tb T next) (hc : Chg M w w') (hN : ¬ M N) (hT : ¬ M Tb) : CloAt w' N Tb T next :=
  ⟨(hc.block N h.lt.1 hN).trans h.n, (hc.block Tb h.lt.2 hT).trans h.t⟩
theorem CloAt.on {w w' : World} {N Tb T next : Nat} (h : CloAt w N Tb T next) (hb : Below w.heap.size w w') : CloAt w' N Tb T next := h.chg (Chg.of_below (M := fun _ => False) hb) (fun e => e.elim) (fun e => e.elim)
theorem round_b (T a : Nat) (w : World) :
    Calls Try.prog 41 #[.pointer (some ⟨T, 0, none⟩), .int .i64 (a : Int)] w fun e w' => ∃ N Tb, e = .returned (.func (.func 52) #[] #[.pointer (some ⟨N, 0, none⟩), .pointer (some ⟨Tb, 0, none⟩)]) ∧ CloAt w' N Tb T a ∧ w.heap.size ≤ N ∧ w.heap.size ≤ Tb ∧ Below w.heap.size w w' := by
  go_enter Try.func41, Try.ntmps41
  go_wp2
  go_ret
  refine ⟨_, _, rfl, ⟨by have := heap_alloc_new (w.alloc (Obj.cells #[Value.pointer (some ⟨T, 0, none⟩)] 24)) (Obj.cells #[Value.int IntKind.i64 (a : Int)] 3); simpa using this, ?_⟩, by simp, Nat.le_refl _, ((Below.refl _ _).alloc (Nat.le_refl _) _).alloc (by simp) _⟩
  rw [Below.heap_alloc _ _ _ (by simp)]
  exact heap_alloc_new _ _
theorem round1_b (N Tb T S c a seed n keys : Nat) (w : World) (h : CloAt w N Tb T a) (ht : TCells w T S c seed n keys) (hn : 0 < n) (ha : a < 2000000000) (hn9 : n < 2000000000) (m : Nat) (hm : a % n = m) :
    Calls Try.prog 52 #[.pointer (some ⟨N, 0, none⟩), .pointer (some ⟨Tb, 0, none⟩)] w fun e w' => e = .returned (.int .i64 (m : Int)) ∧ CloAt w' N Tb T (m + 1) ∧ Chg (fun i => i = N) w w' := by
  have hN : w.cell? ⟨N, 0, none⟩ = some (.int .i64 (a : Int)) := by simp [World.cell?, h.n]
  have hTb : w.cell? ⟨Tb, 0, none⟩ = some (.pointer (some ⟨T, 0, none⟩)) := by simp [World.cell?, h.t]
  have hNf : w.frozen? ⟨N, 0, none⟩ = false := by simp [World.frozen?, h.n]
  have hT1 := ht.c1
  have j0 : (n : Int) ≠ 0 := by omega
  have Hm := Lib.hid (show (a : Int) % (n : Int) = ((a % n : Nat) : Int) by omega)
  have hlt := Nat.mod_lt a hn
  rw [hm] at hlt Hm
  clear hm
  have Hh := Lib.hid h
  clear h
  go_enter Try.func52, Try.ntmps52
  go_wp2_with fail
  go_quiet (fail)
  simp only [Hm.out]
  have hNf2 : (w.drewN nq).frozen? ⟨N, 0, none⟩ = false := hNf
  have hN2 : (w.drewN nq).cell? ⟨N, 0, none⟩ = some (.int .i64 (a : Int)) := hN
  have HC := Lib.hid (show Chg (fun i => i = N) w (w.drewN nq) from ⟨rfl, rfl, rfl, Nat.le_refl _, fun _ _ _ => rfl⟩)
  have Hh2 := Lib.hid (show CloAt (w.drewN nq) N Tb T a from ⟨Hh.out.n, Hh.out.t⟩)
  generalize World.drewN w nq = V at *
  go_wp2
  go_ret
  have hset := set1p (i := 0) Hh2.out.n (.int .i64 ((m : Int) + 1))
  refine ⟨rfl, ⟨?_, ?_⟩, HC.out.setCell (p := ⟨N, 0, none⟩) rfl _⟩
  · simpa using hset
  · rw [Below.heap_setCell _ _ _ _ (fun c => Hh2.out.ne c.symm)]
    exact Hh2.out.t
theorem hash_lt (s : Nat) (l : List UInt8) (hs : s < 18446744073709551616) : Ky.hash s l < 18446744073709551616 := by
  unfold Ky.hash
  have key : ∀ k (l : List UInt8) (H : Nat), l.length ≤ k → H < 18446744073709551616 → Ky.hashN H l < 18446744073709551616 := by
    intro k
    induction k with
    | zero => intro l H hl hH; rw [List.length_eq_zero_iff.1 (Nat.le_zero.1 hl), Ky.hashN_nil]; exact hH
    | succ k ih =>
      intro l H hl hH
      by_cases e : l = []
      · rw [e, Ky.hashN_nil]; exact hH
      · rw [Ky.hashN_step H l e]
        exact ih _ _ (by have := List.length_pos_iff.2 e; simp; omega) (Ky.stepH_lt _ _)
  exact key _ l _ (Nat.le_refl _) (seedH_lt s _ hs)
theorem home_b (T S c seed n keys : Nat) (w : World) (ht : TCells w T S c seed n keys) (hn : 0 < n) (hn9 : n < 2000000000) (hs : seed < 18446744073709551616) (v : Value) (l : List UInt8) (B : Nat) (hv : Bs w B v l) (hl : l.length < 1000000) (m : Nat) (hm : Ky.hash seed l % n = m) :
    Calls Try.prog 42 #[.pointer (some ⟨T, 0, none⟩), v] w fun e w' => e = .returned (.int .i64 (m : Int)) ∧ Chg (fun _ => False) w w' := by
  have hT0 := ht.c0
  have hT1 := ht.c1
  have HV := Lib.hid hv
  have j0 : (n : Int) ≠ 0 := by omega
  go_enter Try.func42, Try.ntmps42
  have hh : ∀ V, Calls Try.prog 23 #[.int .u64 (seed : Int), v] (w.drewN V) fun e w' => e = .returned (.int .u64 (Ky.hash seed l : Nat)) ∧ w.drewN V = w' := fun V => hash_any v l B _ seed (hv.drewN V) (by omega) hs
  have H64 : Ky.hash seed l < 18446744073709551616 := hash_lt seed l hs
  have HH := Lib.hid hh
  clear hh hv HV
  generalize Ky.hash seed l = x at *
  have Hm := Lib.hid (show (x : Int) % (n : Int) = ((x % n : Nat) : Int) by omega)
  have hlt := Nat.mod_lt x hn
  rw [hm] at hlt Hm
  clear hm
  have j1 : IntKind.u64.wrap (n : Int) = (n : Int) := by rw [IntKind.wrap_u64]; omega
  go_wp2_with fail
  go_quiet ((go_at_call 23; (with_reducible exact quiet_left (HH.out _))))
  simp only [Hm.out, show wrap64 (m : Int) = (m : Int) from IntWalk.wrap64_in _ (by omega)]
  go_wp2
  go_ret
  exact ⟨rfl, ⟨rfl, rfl, rfl, Nat.le_refl _, fun _ _ _ => rfl⟩⟩
theorem room_b (k : Nat) (w : World) (hk : k < 100000000) :
    Calls Try.prog 45 #[.int .i64 (k : Int)] w fun e w' => e = .returned (.int .i64 (room k : Int)) ∧ w = w' := by
  have hr : roomS k 8 = room k := rfl
  have Hr := Lib.hid hr
  generalize room k = R at *
  clear hr
  go_enter Try.func45, Try.ntmps45
  go_wp2_with fail
  go_loop [3] (fun s => ∃ z : Nat, s = .int .i64 (z : Int) ∧ 0 < z ∧ z ≤ 8 * k + 8 ∧ Hid (roomS k z = R)) (fun s => 4 * k - (intOf s).toNat)
  case atStart => exact ⟨8, rfl, by omega, by omega, Hr⟩
  case round =>
    obtain ⟨z, rfl, h0, h1, h2⟩ := hrel
    by_cases hlt : 3 * z < 4 * k
    · have j0 : 3 * (z : Int) < 4 * (k : Int) := by omega
      go_wp2
      go_round
      case rel => exact ⟨z * 2, by go_num, by omega, by omega, Lib.hid (by rw [← h2.out]; exact (roomS_step h0 hlt).symm)⟩
      case measure => simp [intOf]; omega
    · have j0 : ¬ 3 * (z : Int) < 4 * (k : Int) := by omega
      have j1 : decide (3 * (z : Int) < 4 * (k : Int)) = false := by simpa using j0
      go_wp2
      go_ret
      refine ⟨?_, rfl⟩
      rw [← h2.out, roomS_done hlt]
      rfl
theorem made_yes (T S c seed n keys : Nat) (w : World) (ht : TCells w T S c seed n keys) :
    Calls Try.prog 33 #[.pointer (some ⟨T, 0, none⟩)] w fun e w' => e = .returned (.bool true) ∧ w = w' := by
  have hT1 := ht.c1
  have hq := @Lib.run_eql_slice_nil Try.prog
  go_enter Try.func33, Try.ntmps33
  go_wp2
  go_ret
  exact ⟨rfl, rfl⟩
theorem made_nil (w : World) :
    Calls Try.prog 33 #[.pointer none] w fun e w' => e = .returned (.bool false) ∧ w = w' := by
  go_enter Try.func33, Try.ntmps33
  go_wp2
  go_ret
  exact ⟨rfl, rfl⟩
theorem made_zero (T : Nat) (w : World) (ht : w.cell? ⟨T, 1, none⟩ = some (.slice none 0 0)) :
    Calls Try.prog 33 #[.pointer (some ⟨T, 0, none⟩)] w fun e w' => e = .returned (.bool false) ∧ w = w' := by
  have hq := @Lib.run_eql_slice_nil Try.prog
  go_enter Try.func33, Try.ntmps33
  go_wp2
  go_ret
  exact ⟨rfl, rfl⟩
theorem mayT_nil (v : Value) (w : World) :
    Calls Try.prog 25 #[.pointer none, v] w fun e w' => e = .returned (.int .i64 2) ∧ w = w' := by
  go_enter Try.func25, Try.ntmps25
  go_wp2_with fail
  refine (made_nil _).mono ?_
  rintro e w1 ⟨rfl, rfl⟩
  go_wp2
  go_ret
  exact ⟨rfl, rfl⟩
theorem mayT_zero (T : Nat) (v : Value) (w : World) (ht : w.cell? ⟨T, 1, none⟩ = some (.slice none 0 0)) :
    Calls Try.prog 25 #[.pointer (some ⟨T, 0, none⟩), v] w fun e w' => e = .returned (.int .i64 2) ∧ w = w' := by
  go_enter Try.func25, Try.ntmps25
  go_wp2_with fail
  refine (made_zero T _ ht).mono ?_
  rintro e w1 ⟨rfl, rfl⟩
  go_wp2
  go_ret
  exact ⟨rfl, rfl⟩
theorem mayT_yes (T S c seed n keys : Nat) (w : World) (ht : TCells w T S c seed n keys) (v : Value) (l : List UInt8) (B : Nat) (hv : Bs w B v l) (h0 : 0 < l.length) (h1 : l.length ≤ 64) :
    Calls Try.prog 25 #[.pointer (some ⟨T, 0, none⟩), v] w fun e w' => e = .returned (.int .i64 0) ∧ w = w' := by
  have HV := Lib.hid hv
  clear hv
  go_enter Try.func25, Try.ntmps25
  go_wp2_with fail
  refine (made_yes T S c seed n keys _ ht).mono ?_
  rintro e w1 ⟨rfl, rfl⟩
  go_wp2_with fail
  refine (may_yes_b _ _ _ _ HV.out h0 h1).mono ?_
  rintro e w1 ⟨rfl, rfl⟩
  go_wp2
  go_ret
  exact ⟨rfl, rfl⟩
theorem mayT_no (T S c seed n keys : Nat) (w : World) (ht : TCells w T S c seed n keys) (v : Value) (l : List UInt8) (B : Nat) (hv : Bs w B v l) (h0 : l.length = 0 ∨ 64 < l.length) (h1 : l.length ≤ 9223372036854775807) :
    Calls Try.prog 25 #[.pointer (some ⟨T, 0, none⟩), v] w fun e w' => e = .returned (.int .i64 1) ∧ w = w' := by
  have HV := Lib.hid hv
  have H0 := Lib.hid h0
  clear hv h0
  go_enter Try.func25, Try.ntmps25
  go_wp2_with fail
  refine (made_yes T S c seed n keys _ ht).mono ?_
  rintro e w1 ⟨rfl, rfl⟩
  go_wp2_with fail
  refine (may_no_b _ _ _ _ HV.out H0.out h1).mono ?_
  rintro e w1 ⟨rfl, rfl⟩
  go_wp2
  go_ret
  exact ⟨rfl, rfl⟩
end Go.Proofs.Ytffcbekogpgciaa.Pr
