/-
  ScanLost, part 8 of what the law's proof leans on: HdMem.
-/
import Derived.BigQuiet
import Derived.Deep.QuietTactic
import Derived.Deep.MidRow
import Derived.Lib.SlBytesConst
import Derived.DeepKeys
import Derived.Test.YtkpkfgcbccaibaaDoorScanLostQ3
import Derived.Test.YtkpkfgcbccaibaaDoorScanLostQ2
import Derived.Test.YtkpkfgcbccaibaaDoorScanLostQ1
/- HdMem -/

/-
  Layer 10: the walks of the program's heads: may, Put, Get, Check; '!=' of arrays of sixteen bytes.
-/
set_option linter.unusedVariables false
set_option linter.unusedSimpArgs false
namespace Go.Proofs.YtkpkfgcbccaibaaDoor.Hd
open Go.RowKit

theorem hbstep {a w w' : World} (h : Below a.heap.size a w) (h' : Below w.heap.size w w') : Below a.heap.size a w' := h.trans (h'.mono h.size)
theorem hbnew (w : World) (o : Obj) : Below w.heap.size w (w.alloc o) := (Below.refl _ _).alloc (Nat.le_refl _) _
theorem hret_bool {a b : Bool} (h : a = b) : Ending.returned (.bool a) = .returned (.bool b) := by rw [h]

/-! '!=' of arrays of sixteen bytes -/
def hl (b : UInt8) : Lit := .int .u8 (b.toNat : Int)
theorem hl_inj {a b : UInt8} (h : hl a = hl b) : a = b := by
  unfold hl at h
  injection h with _ h
  exact UInt8.toNat_inj.1 (by omega)
theorem map_hl_inj : ∀ {a b : List UInt8}, a.map hl = b.map hl → a = b
  | [], [], _ => rfl
  | [], _ :: _, h => by simp at h
  | _ :: _, [], h => by simp at h
  | x :: a, y :: b, h => by
    simp only [List.map_cons, List.cons.injEq] at h
    rw [hl_inj h.1, map_hl_inj h.2]
theorem sixteen {α : Type} {a : List α} (ha : a.length = 16) : ∃ a0 a1 a2 a3 a4 a5 a6 a7 b0 b1 b2 b3 b4 b5 b6 b7, a = [a0, a1, a2, a3, a4, a5, a6, a7, b0, b1, b2, b3, b4, b5, b6, b7] := by
  match a, ha with
  | [a0, a1, a2, a3, a4, a5, a6, a7, b0, b1, b2, b3, b4, b5, b6, b7], _ => exact ⟨a0, a1, a2, a3, a4, a5, a6, a7, b0, b1, b2, b3, b4, b5, b6, b7, rfl⟩
theorem hlit1 (x : UInt8) : Tryd.prog.keyLits 2 5 [bv x] = some [hl x] := by
  have h : (Lit.int .u8 (x.toNat : Int)).wf = true := by
    have := UInt8.toNat_lt x
    have e1 : IntKind.u8.min = 0 := by decide
    have e2 : IntKind.u8.max = 255 := by decide
    simp only [Lit.wf, e1, e2, Bool.and_eq_true, decide_eq_true_eq]
    omega
  have e : Tryd.prog.keyLits 2 5 [bv x] = (if IntKind.u8 = IntKind.u8 ∧ (Lit.int .u8 (x.toNat : Int)).wf = true then some [hl x] else none) := by kernel_rfl
  rw [e, if_pos ⟨rfl, h⟩]
theorem hlits (a : List UInt8) (ha : a.length = 16) : Tryd.prog.keyLits 3 108 (bvs a) = some (a.map hl) := by
  obtain ⟨a0, a1, a2, a3, a4, a5, a6, a7, b0, b1, b2, b3, b4, b5, b6, b7, rfl⟩ := sixteen ha
  have e : Tryd.prog.keyLits 3 108 (bvs [a0, a1, a2, a3, a4, a5, a6, a7, b0, b1, b2, b3, b4, b5, b6, b7]) = ([Tryd.prog.keyLits 2 5 [bv a0], Tryd.prog.keyLits 2 5 [bv a1], Tryd.prog.keyLits 2 5 [bv a2], Tryd.prog.keyLits 2 5 [bv a3], Tryd.prog.keyLits 2 5 [bv a4], Tryd.prog.keyLits 2 5 [bv a5], Tryd.prog.keyLits 2 5 [bv a6], Tryd.prog.keyLits 2 5 [bv a7], Tryd.prog.keyLits 2 5 [bv b0], Tryd.prog.keyLits 2 5 [bv b1], Tryd.prog.keyLits 2 5 [bv b2], Tryd.prog.keyLits 2 5 [bv b3], Tryd.prog.keyLits 2 5 [bv b4], Tryd.prog.keyLits 2 5 [bv b5], Tryd.prog.keyLits 2 5 [bv b6], Tryd.prog.keyLits 2 5 [bv b7]].mapM id).map List.flatten := by kernel_rfl
  rw [e]
  simp only [hlit1]
  rfl
theorem neq_arr16 (a b : List UInt8) (ha : a.length = 16) (hb : b.length = 16) (w : World) : (binOp .neq 108 (.agg (bvs a).toArray) (.agg (bvs b).toArray)).run Tryd.prog w = .ok (.bool (!decide (a = b))) w := by
  have hk : Tryd.prog.keyTypeAt 3 108 = true := by kernel_rfl
  have fx : (Value.agg (bvs a).toArray).formed Tryd.prog 108 = true := by
    obtain ⟨a0, a1, a2, a3, a4, a5, a6, a7, b0, b1, b2, b3, b4, b5, b6, b7, rfl⟩ := sixteen ha
    kernel_rfl
  have fy : (Value.agg (bvs b).toArray).formed Tryd.prog 108 = true := by
    obtain ⟨a0, a1, a2, a3, a4, a5, a6, a7, b0, b1, b2, b3, b4, b5, b6, b7, rfl⟩ := sixteen hb
    kernel_rfl
  obtain ⟨r, hr, hiff⟩ := run_equalIn_deep 9997 3 108 hk w 3 3 _ _ _ _ fx fy (hlits a ha) (hlits b hb)
  rw [run_neq_struct, show (10000 : Nat) = 9997 + 3 from rfl, hr]
  have : r = decide (a = b) := by
    rw [Bool.eq_iff_iff, hiff]
    simp only [decide_eq_true_eq]
    exact ⟨map_hl_inj, fun h => by rw [h]⟩
  rw [this]
  rfl
/-- a slice that is long enough, as a pointer to an array -/
theorem arrayAt16 (A : Option Addr) (n c : Nat) (h : 16 ≤ n) (w : World) : (Instr.arrayAt 108 (.slice A n c)).run Tryd.prog w = .ok (.pointer A) w := by
  unfold Instr.arrayAt
  rw [Sem.run_bind, run_underlying Tryd.underlying108]
  simp [Result.andThen]
  omega

theorem bs_newM (w : World) (l : List UInt8) (e : TypeId) (fr : Nat × Nat) : Bs (w.alloc (.cells (bvs l).toArray e fr)) (w.heap.size + 1) (.slice (some ⟨w.heap.size, 0, none⟩) l.length l.length) l := by
  refine ⟨_, _, rfl, Nat.le_refl _, fun _ => ⟨w.heap.size, 0, rfl, by omega, fun j u hu => ?_⟩⟩
  rw [Nat.zero_add, cell_of_row (w.alloc (.cells (bvs l).toArray e fr)) w.heap.size j _ e fr (heap_alloc_new w _)]
  simpa using hu
theorem may_any (k n : Int) (w : World) (h0 : 0 ≤ n) (h1 : n < 4294967296) : Calls Tryd.prog 53 #[.int .i64 k, .int .u32 n] w fun e w' => e = .returned (.bool (mayB k n)) ∧ w = w' := by
  obtain ⟨r, hr⟩ : ∃ r, mayB k n = r := ⟨_, rfl⟩
  rw [hr]
  have H := Lib.hid hr
  clear hr
  by_cases k1 : k = 1
  · subst k1
    have H := Lib.hid (show r = (decide (1 ≤ n) && decide (n ≤ 16777215)) by rw [← H.out, Bool.eq_iff_iff]; simp [mayB])
    by_cases a : 1 ≤ n
    · go_enter Tryd.func53, Tryd.ntmps53
      go_wp2_with fail
      go_ret
      exact ⟨hret_bool (by rw [H.out, decide_eq_true a]; rfl), rfl⟩
    · have d : decide (1 ≤ n) = false := decide_eq_false a
      go_enter Tryd.func53, Tryd.ntmps53
      go_wp2_with fail
      go_ret
      exact ⟨hret_bool (by rw [H.out, d]; rfl), rfl⟩
  · have e1 : (k == 1) = false := by simp [k1]
    by_cases k2 : k = 2
    · subst k2
      have H := Lib.hid (show r = (n == 0) by rw [← H.out, Bool.eq_iff_iff]; simp [mayB])
      clear e1 k1
      go_enter Tryd.func53, Tryd.ntmps53
      go_wp2_with fail
      go_ret
      exact ⟨hret_bool (by rw [H.out]), rfl⟩
    · have e2 : (k == 2) = false := by simp [k2]
      have H := Lib.hid (show r = false by rw [← H.out]; simp [mayB, k1, k2])
      clear k1 k2
      go_enter Tryd.func53, Tryd.ntmps53
      go_wp2_with fail
      go_ret
      exact ⟨hret_bool (by rw [H.out]), rfl⟩
theorem put_no (k n : Int) (w : World) (h0 : 0 ≤ n) (h1 : n < 4294967296) (h : mayB k n = false) : Calls Tryd.prog 43 #[.int .i64 k, .int .u32 n] w fun e w' => e = .returned (.tuple #[.slice none 0 0, .int .i64 1]) ∧ w = w' := by
  have hm := may_any k n w h0 h1
  rw [h] at hm
  clear h
  go_enter Tryd.func43, Tryd.ntmps43
  go_wp2_with fail
  refine hm.mono ?_
  rintro e w1 ⟨rfl, rfl⟩
  go_wp2_with fail
  go_ret2
  exact ⟨rfl, rfl⟩
set_option maxRecDepth 100000 in
set_option maxHeartbeats 4000000 in
theorem put_ok (k n : Nat) (w : World) (h : mayB k n = true) (ht : Crc.Tab w) : Calls Tryd.prog 43 #[.int .i64 k, .int .u32 n] w fun e w' => ∃ v, e = .returned (.tuple #[v, .int .i64 0]) ∧ w'.ownsRow w.heap.size 5 1 v 16 (bvs (headL k n)) ∧ Below w.heap.size w w' := by
  obtain ⟨q1, q2, q3, q4⟩ := may_lt h
  have hm := may_any k n w q3 (by omega)
  rw [h] at hm
  clear h
  have z1 : IntKind.u64.wrap (k : Int) = (k : Int) := IntWalk.u64_in _ (by omega)
  have z2 : IntKind.u64.wrap (n : Int) = (n : Int) := IntWalk.u64_in _ (by omega)
  have kc := fun (w : World) (C : Array Value) (n c : Nat) => Lib.run_convert_bytes_const (P := Tryd.prog) w 23 5 C n c Tryd.underlying23 Tryd.underlying5
  go_enter Tryd.func43, Tryd.ntmps43
  go_wp2_with fail
  refine hm.mono ?_
  rintro e w1 ⟨rfl, rfl⟩
  go_wp2_with fail
  have hb0 := hbnew w (.cells #[.int .u8 104, .int .u8 111, .int .u8 117, .int .u8 114, .int .u8 98, .int .u8 107, .int .u8 49] 5 (7, 8))
  have hl0 : Bs (w.alloc (.cells #[.int .u8 104, .int .u8 111, .int .u8 117, .int .u8 114, .int .u8 98, .int .u8 107, .int .u8 49] 5 (7, 8))) (w.alloc (.cells #[.int .u8 104, .int .u8 111, .int .u8 117, .int .u8 114, .int .u8 98, .int .u8 107, .int .u8 49] 5 (7, 8))).heap.size (.slice (some ⟨w.heap.size, 0, none⟩) 7 7) letters := by
    rw [World.size_alloc]
    exact bs_newM w letters 5 (7, 8)
  refine (fixed_b _ letters k 1 _ hl0 (by omega) (by omega) (by omega) (by omega) (Int.ediv_eq_zero_of_lt (by omega) (by show (k : Int) < 2 ^ 8; omega)) (by simp [letters])).mono ?_
  rintro e w2 ⟨v2, rfl, hown2, hb2⟩
  rw [Int.toNat_natCast] at hown2
  have B2 := Lib.hid (hbstep hb0 hb2)
  have O2 := Lib.hid (Bs.of_own hown2)
  clear hb0 hb2 hown2
  go_wp2_with fail
  refine (fixed_b v2 (letters ++ Px.leL k 1) n 4 _ O2.out (by omega) (by omega) (by omega) (by omega) (Int.ediv_eq_zero_of_lt (by omega) (by show (n : Int) < 2 ^ 32; omega)) (by simp [letters, Px.leL_length])).mono ?_
  rintro e w3 ⟨v3, rfl, hown3, hb3⟩
  rw [Int.toNat_natCast, List.append_assoc] at hown3
  have B3 := Lib.hid (hbstep B2.out hb3)
  have O3 := Lib.hid (Bs.of_own hown3)
  clear hb3 hown3
  go_wp2_with fail
  refine (Crc.cover_b v3 (bodyL k n) _ O3.out (ht.on B3.out) (by rw [bodyL_length]; omega)).mono ?_
  rintro e w4 ⟨v4, rfl, hown4, hb4⟩
  rw [bodyL_length] at hown4
  have O4 := Lib.hid (own_base hown4 B3.out.size)
  have B4 := Lib.hid (hbstep B3.out hb4)
  clear hb4 hown4
  go_wp2_with fail
  go_ret2
  exact ⟨v4, rfl, O4.out, B4.out⟩
/-- what a closure looks at: the bytes that the box holds, from a place on -/
theorem look_any (A : Option Addr) (c : Nat) (l : List UInt8) (g B : Nat) (W : World) (a z : Nat) (hx : W.cell? ⟨g, 0, none⟩ = some (.slice A l.length c)) (hc : l.length ≤ c) (hr : Rd W B A (bvs l)) (h1 : 1 ≤ z) (h8 : z ≤ 8) (hl : a + z ≤ l.length) (hm : l.length ≤ 140737488355328) :
    Calls Tryd.prog 41 #[.int .i64 a, .int .i64 z, .pointer (some ⟨g, 0, none⟩)] W fun e w' => e = .returned (.int .u64 ((Px.rdN (l.drop a) z : Nat) : Int)) ∧ W = w' := by
  obtain ⟨A', c', hcut, hc', hcr⟩ := cut_l A l.length c a (l.length - a) (by omega) hc
  have hrd := read_b (.slice A' (l.length - a) c') (l.drop a) B z W ⟨A', c', by rw [List.length_drop], by rw [List.length_drop]; exact hc', hcr W B l hc hr⟩ (by omega) (by omega) (by rw [Int.toNat_natCast, List.length_drop]; omega) (by rw [List.length_drop]; omega)
  rw [Int.toNat_natCast] at hrd
  have Hrd := Lib.hid hrd
  clear hcr hr hrd
  go_enter Tryd.func41, Tryd.ntmps41
  go_wp2_with fail
  refine Hrd.out.mono ?_
  rintro e w1 ⟨rfl, rfl⟩
  go_wp2_with fail
  go_ret
  exact ⟨rfl, rfl⟩
set_option maxRecDepth 100000 in
set_option maxHeartbeats 4000000 in
theorem get_any (v : Value) (l : List UInt8) (B : Nat) (w : World) (h : Bs w B v l) (hB : B ≤ w.heap.size) (hm : l.length ≤ 140737488355328) (ht : Crc.Tab w) (q : Nat × Nat × Nat) (hq : getQ l = q) :
    Calls Tryd.prog 31 #[v] w fun e w' => e = .returned (.tuple #[.int .i64 q.1, .int .u32 q.2.1, .int .i64 q.2.2]) ∧ Below w.heap.size w w' := by
  obtain ⟨A, c, rfl, hc, hr⟩ := h
  have b0 := hbnew w (.cells #[.slice A l.length c] 23)
  have hR := hr.below b0 hB
  have HQ := Lib.hid hq
  have B0 := Lib.hid b0
  by_cases hs : l.length < 16
  · have hs' : (l.length : Int) < 16 := by omega
    have H := Lib.hid (show q = (0, 0, 22) by rw [← HQ.out, get_short hs])
    clear hr hR b0 hq
    go_enter Tryd.func31, Tryd.ntmps31
    go_wp2_with fail
    go_ret3
    rw [H.out]
    exact ⟨rfl, B0.out⟩
  · have hs' : ¬ (l.length : Int) < 16 := by omega
    have hx0 : (w.alloc (.cells #[.slice A l.length c] 23)).cell? ⟨w.heap.size, 0, none⟩ = some (.slice A l.length c) := by
      rw [cell_of_row _ w.heap.size 0 #[.slice A l.length c] 23 (0, 0) (heap_alloc_new w _)]
      rfl
    have hgo : q = if mayB (kindN l) (idN l) = true ∧ l.take 16 = headL (kindN l) (idN l) then (kindN l, idN l, 0) else (0, 0, 23) := by
      rw [← HQ.out]
      unfold getQ
      rw [if_neg hs]
    have k7 : Calls Tryd.prog 41 #[.int .i64 7, .int .i64 1, .pointer (some ⟨w.heap.size, 0, none⟩)] _ fun e w' => e = .returned (.int .u64 ((kindN l : Nat) : Int)) ∧ _ = w' := look_any A c l w.heap.size B _ 7 1 hx0 hc hR (by omega) (by omega) (by omega) hm
    have k8 : Calls Tryd.prog 41 #[.int .i64 8, .int .i64 4, .pointer (some ⟨w.heap.size, 0, none⟩)] _ fun e w' => e = .returned (.int .u64 ((idN l : Nat) : Int)) ∧ _ = w' := look_any A c l w.heap.size B _ 8 4 hx0 hc hR (by omega) (by omega) (by omega) hm
    have hK : kindN l < 256 := Px.rdN_lt (l.drop 7) 1
    have hI : idN l < 4294967296 := Px.rdN_lt (l.drop 8) 4
    generalize kindN l = K at hgo k7 hK
    generalize idN l = I at hgo k8 hI
    obtain ⟨b, o, rfl, hbB, hcell⟩ := hR (by intro e; have := congrArg List.length e; simp [bvs] at this; subst this; simp at hs)
    have HC := Lib.hid hcell
    have K7 := Lib.hid k7
    have K8 := Lib.hid k8
    have HG := Lib.hid hgo
    have hge : 16 ≤ l.length := by omega
    have HL : Hid ((l.take 16).length = 16) := Lib.hid (by rw [List.length_take]; omega)
    have z1 : IntKind.i64.wrap (K : Int) = (K : Int) := IntWalk.i64_in _ (by omega)
    have z2 : IntKind.u32.wrap (I : Int) = (I : Int) := IntWalk.u32_in _ (by omega)
    clear k7 k8 hr hR hq hgo hcell
    go_enter Tryd.func31, Tryd.ntmps31
    go_wp2_with fail
    refine K7.out.mono ?_
    rintro e w1 ⟨rfl, rfl⟩
    go_wp2_with fail
    refine K8.out.mono ?_
    rintro e w1 ⟨rfl, rfl⟩
    go_wp2_with fail
    cases hmb : mayB (K : Int) (I : Int)
    · refine (put_no K I _ (by omega) (by omega) hmb).mono ?_
      rintro e w1 ⟨rfl, rfl⟩
      have H := Lib.hid (show q = (0, 0, 23) by rw [HG.out, if_neg (by rw [hmb]; simp)])
      clear hmb
      go_wp2_with fail
      go_quiet (fail)
      go_wp2_with fail
      go_ret3
      rw [H.out]
      exact ⟨rfl, below_drewN B0.out _⟩
    · refine (put_ok K I _ hmb (ht.on B0.out)).mono ?_
      rintro e w2 ⟨v2, rfl, hown2, hb2⟩
      obtain ⟨g, cap, rfl, hgg, hgl⟩ := hown2.form (by omega)
      have hx2 : w2.cell? ⟨w.heap.size, 0, none⟩ = some (.slice (some ⟨b, o, none⟩) l.length c) := (hb2.cell (by simp)).trans hx0
      have r1 : w2.rangeAt b o (bvs (l.take 16)) := fun j u hu => by
        rw [hb2.cell (by simp; omega)]
        refine HC.out j u ?_
        rw [bvs_take, List.getElem?_take] at hu
        split at hu
        · exact hu
        · cases hu
      have r2 : w2.rangeAt g 0 (bvs (headL K I)) := fun j u hu => by
        have := hown2.cellAt j (by have h9 := (List.getElem?_eq_some_iff.1 hu).1; rw [bvs_length, headL_length] at h9; omega)
        rw [Nat.zero_add]
        rw [hu] at this
        exact this
      obtain ⟨a0, a1, a2, a3, a4, a5, a6, a7, a8, a9, a10, a11, a12, a13, a14, a15, ha⟩ := sixteen HL.out
      obtain ⟨d0, d1, d2, d3, d4, d5, d6, d7, d8, d9, d10, d11, d12, d13, d14, d15, hd⟩ := sixteen (headL_length K I)
      rw [ha] at r1
      rw [hd] at r2
      obtain ⟨x0, x1, x2, x3, x4, x5, x6, x7, x8, x9, x10, x11, x12, x13, x14, x15⟩ : w2.cell? ⟨b, o, none⟩ = some (.int .u8 (a0.toNat : Int)) ∧ w2.cell? ⟨b, o + 1, none⟩ = some (.int .u8 (a1.toNat : Int)) ∧ w2.cell? ⟨b, o + 2, none⟩ = some (.int .u8 (a2.toNat : Int)) ∧ w2.cell? ⟨b, o + 3, none⟩ = some (.int .u8 (a3.toNat : Int)) ∧ w2.cell? ⟨b, o + 4, none⟩ = some (.int .u8 (a4.toNat : Int)) ∧ w2.cell? ⟨b, o + 5, none⟩ = some (.int .u8 (a5.toNat : Int)) ∧ w2.cell? ⟨b, o + 6, none⟩ = some (.int .u8 (a6.toNat : Int)) ∧ w2.cell? ⟨b, o + 7, none⟩ = some (.int .u8 (a7.toNat : Int)) ∧ w2.cell? ⟨b, o + 8, none⟩ = some (.int .u8 (a8.toNat : Int)) ∧ w2.cell? ⟨b, o + 9, none⟩ = some (.int .u8 (a9.toNat : Int)) ∧ w2.cell? ⟨b, o + 10, none⟩ = some (.int .u8 (a10.toNat : Int)) ∧ w2.cell? ⟨b, o + 11, none⟩ = some (.int .u8 (a11.toNat : Int)) ∧ w2.cell? ⟨b, o + 12, none⟩ = some (.int .u8 (a12.toNat : Int)) ∧ w2.cell? ⟨b, o + 13, none⟩ = some (.int .u8 (a13.toNat : Int)) ∧ w2.cell? ⟨b, o + 14, none⟩ = some (.int .u8 (a14.toNat : Int)) ∧ w2.cell? ⟨b, o + 15, none⟩ = some (.int .u8 (a15.toNat : Int)) := ⟨by simpa [bv] using r1 0 _ rfl, r1 1 _ rfl, r1 2 _ rfl, r1 3 _ rfl, r1 4 _ rfl, r1 5 _ rfl, r1 6 _ rfl, r1 7 _ rfl, r1 8 _ rfl, r1 9 _ rfl, r1 10 _ rfl, r1 11 _ rfl, r1 12 _ rfl, r1 13 _ rfl, r1 14 _ rfl, r1 15 _ rfl⟩
      obtain ⟨y0, y1, y2, y3, y4, y5, y6, y7, y8, y9, y10, y11, y12, y13, y14, y15⟩ : w2.cell? ⟨g, 0, none⟩ = some (.int .u8 (d0.toNat : Int)) ∧ w2.cell? ⟨g, 1, none⟩ = some (.int .u8 (d1.toNat : Int)) ∧ w2.cell? ⟨g, 2, none⟩ = some (.int .u8 (d2.toNat : Int)) ∧ w2.cell? ⟨g, 3, none⟩ = some (.int .u8 (d3.toNat : Int)) ∧ w2.cell? ⟨g, 4, none⟩ = some (.int .u8 (d4.toNat : Int)) ∧ w2.cell? ⟨g, 5, none⟩ = some (.int .u8 (d5.toNat : Int)) ∧ w2.cell? ⟨g, 6, none⟩ = some (.int .u8 (d6.toNat : Int)) ∧ w2.cell? ⟨g, 7, none⟩ = some (.int .u8 (d7.toNat : Int)) ∧ w2.cell? ⟨g, 8, none⟩ = some (.int .u8 (d8.toNat : Int)) ∧ w2.cell? ⟨g, 9, none⟩ = some (.int .u8 (d9.toNat : Int)) ∧ w2.cell? ⟨g, 10, none⟩ = some (.int .u8 (d10.toNat : Int)) ∧ w2.cell? ⟨g, 11, none⟩ = some (.int .u8 (d11.toNat : Int)) ∧ w2.cell? ⟨g, 12, none⟩ = some (.int .u8 (d12.toNat : Int)) ∧ w2.cell? ⟨g, 13, none⟩ = some (.int .u8 (d13.toNat : Int)) ∧ w2.cell? ⟨g, 14, none⟩ = some (.int .u8 (d14.toNat : Int)) ∧ w2.cell? ⟨g, 15, none⟩ = some (.int .u8 (d15.toNat : Int)) := ⟨by simpa [bv] using r2 0 _ rfl, by simpa [bv] using r2 1 _ rfl, by simpa [bv] using r2 2 _ rfl, by simpa [bv] using r2 3 _ rfl, by simpa [bv] using r2 4 _ rfl, by simpa [bv] using r2 5 _ rfl, by simpa [bv] using r2 6 _ rfl, by simpa [bv] using r2 7 _ rfl, by simpa [bv] using r2 8 _ rfl, by simpa [bv] using r2 9 _ rfl, by simpa [bv] using r2 10 _ rfl, by simpa [bv] using r2 11 _ rfl, by simpa [bv] using r2 12 _ rfl, by simpa [bv] using r2 13 _ rfl, by simpa [bv] using r2 14 _ rfl, by simpa [bv] using r2 15 _ rfl⟩
      have n1 : ∀ w, (binOp .neq 108 (.agg #[.int .u8 (a0.toNat : Int), .int .u8 (a1.toNat : Int), .int .u8 (a2.toNat : Int), .int .u8 (a3.toNat : Int), .int .u8 (a4.toNat : Int), .int .u8 (a5.toNat : Int), .int .u8 (a6.toNat : Int), .int .u8 (a7.toNat : Int), .int .u8 (a8.toNat : Int), .int .u8 (a9.toNat : Int), .int .u8 (a10.toNat : Int), .int .u8 (a11.toNat : Int), .int .u8 (a12.toNat : Int), .int .u8 (a13.toNat : Int), .int .u8 (a14.toNat : Int), .int .u8 (a15.toNat : Int)]) (.agg #[.int .u8 (d0.toNat : Int), .int .u8 (d1.toNat : Int), .int .u8 (d2.toNat : Int), .int .u8 (d3.toNat : Int), .int .u8 (d4.toNat : Int), .int .u8 (d5.toNat : Int), .int .u8 (d6.toNat : Int), .int .u8 (d7.toNat : Int), .int .u8 (d8.toNat : Int), .int .u8 (d9.toNat : Int), .int .u8 (d10.toNat : Int), .int .u8 (d11.toNat : Int), .int .u8 (d12.toNat : Int), .int .u8 (d13.toNat : Int), .int .u8 (d14.toNat : Int), .int .u8 (d15.toNat : Int)])).run Tryd.prog w = .ok (.bool (!decide ([a0, a1, a2, a3, a4, a5, a6, a7, a8, a9, a10, a11, a12, a13, a14, a15] = [d0, d1, d2, d3, d4, d5, d6, d7, d8, d9, d10, d11, d12, d13, d14, d15]))) w := neq_arr16 [a0, a1, a2, a3, a4, a5, a6, a7, a8, a9, a10, a11, a12, a13, a14, a15] [d0, d1, d2, d3, d4, d5, d6, d7, d8, d9, d10, d11, d12, d13, d14, d15] rfl rfl
      rw [← ha, ← hd] at n1
      have a1 := arrayAt16 (some ⟨b, o, none⟩) l.length c hge
      have a2 := arrayAt16 (some ⟨g, 0, none⟩) 16 cap (Nat.le_refl _)
      have B2 := Lib.hid (hbstep B0.out hb2)
      by_cases he : l.take 16 = headL K I
      · rw [decide_eq_true he] at n1
        have H := Lib.hid (show q = (K, I, 0) by rw [HG.out, if_pos ⟨hmb, he⟩])
        clear he hmb hown2 r1 r2 ha hd
        go_wp2_with fail
        go_quiet (fail)
        go_wp2_with fail
        go_ret3
        rw [H.out]
        exact ⟨rfl, below_drewN B2.out _⟩
      · rw [decide_eq_false he] at n1
        have H := Lib.hid (show q = (0, 0, 23) by rw [HG.out, if_neg (fun h => he h.2)])
        clear he hmb hown2 r1 r2 ha hd
        go_wp2_with fail
        go_quiet (fail)
        go_wp2_with fail
        go_ret3
        rw [H.out]
        exact ⟨rfl, below_drewN B2.out _⟩
end Go.Proofs.YtkpkfgcbccaibaaDoor.Hd

