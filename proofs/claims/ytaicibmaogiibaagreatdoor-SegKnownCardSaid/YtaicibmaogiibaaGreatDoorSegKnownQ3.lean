/-
  SegKnown, part 3 of what the law's proof leans on: HdMem, LxPlain, RcPlain, LxPure, KyMem, RcMem, RcHead, RcPut, RcRead, RcRow.
-/
import Derived.BigQuiet
import Derived.Deep.QuietTactic
import Derived.Deep.MidRow
import Derived.Lib.SlBytesConst
import Derived.DeepKeys
import Derived.Test.YtaicibmaogiibaaGreatDoorSegKnownQ2
import Derived.Test.YtaicibmaogiibaaGreatDoorSegKnownQ1
import Derived.Lib.BytesEntry
import Derived.Laws.StructEq
import Derived.IntWalk
import Derived.Deep.LoopGhost
import Derived.BigRegion
import Derived.RegionTactic
import Derived.Deep.OwnRows
/- HdMem -/

/-
  Layer 10: the walks of the program's heads: may, Put, Get, Check; '!=' of arrays of sixteen bytes.
-/
set_option linter.unusedVariables false
set_option linter.unusedSimpArgs false
namespace Go.Proofs.YtaicibmaogiibaaGreatDoor.Hd
open Go.RowKit

theorem hbstep {a w w' : World} (h : Below a.heap.size a w) (h' : Below w.heap.size w w') : Below a.heap.size a w' := h.trans (h'.mono h.size)
theorem hbnew (w : World) (o : Obj) : Below w.heap.size w (w.alloc o) := (Below.refl _ _).alloc (Nat.le_refl _) _
theorem hret_bool {a b : Bool} (h : a = b) : Ending.returned (.bool a) = .returned (.bool b) := by rw [h]

/-! '!=' of arrays of sixteen bytes -/
def hl (b : UInt8) : Lit := .int .u8 (b.toNat : Int)
theorem hl_inj {a b : UInt8} (h : hl a = hl b) : a = b := by
  unfold hl at h
  injection h with _ h
  exact UInt8.toNat_inj.1 (by omega)
theorem map_hl_inj : ∀ {a b : List UInt8}, a.map hl = b.map hl → a = b
  | [], [], _ => rfl
  | [], _ :: _, h => by simp at h
  | _ :: _, [], h => by simp at h
  | x :: a, y :: b, h => by
    simp only [List.map_cons, List.cons.injEq] at h
    rw [hl_inj h.1, map_hl_inj h.2]
theorem sixteen {α : Type} {a : List α} (ha : a.length = 16) : ∃ a0 a1 a2 a3 a4 a5 a6 a7 b0 b1 b2 b3 b4 b5 b6 b7, a = [a0, a1, a2, a3, a4, a5, a6, a7, b0, b1, b2, b3, b4, b5, b6, b7] := by
  match a, ha with
  | [a0, a1, a2, a3, a4, a5, a6, a7, b0, b1, b2, b3, b4, b5, b6, b7], _ => exact ⟨a0, a1, a2, a3, a4, a5, a6, a7, b0, b1, b2, b3, b4, b5, b6, b7, rfl⟩
theorem hlit1 (x : UInt8) : Tryz.prog.keyLits 2 5 [bv x] = some [hl x] := by
  have h : (Lit.int .u8 (x.toNat : Int)).wf = true := by
    have := UInt8.toNat_lt x
    have e1 : IntKind.u8.min = 0 := by decide
    have e2 : IntKind.u8.max = 255 := by decide
    simp only [Lit.wf, e1, e2, Bool.and_eq_true, decide_eq_true_eq]
    omega
  have e : Tryz.prog.keyLits 2 5 [bv x] = (if IntKind.u8 = IntKind.u8 ∧ (Lit.int .u8 (x.toNat : Int)).wf = true then some [hl x] else none) := by kernel_rfl
  rw [e, if_pos ⟨rfl, h⟩]
theorem hlits (a : List UInt8) (ha : a.length = 16) : Tryz.prog.keyLits 3 211 (bvs a) = some (a.map hl) := by
  obtain ⟨a0, a1, a2, a3, a4, a5, a6, a7, b0, b1, b2, b3, b4, b5, b6, b7, rfl⟩ := sixteen ha
  have e : Tryz.prog.keyLits 3 211 (bvs [a0, a1, a2, a3, a4, a5, a6, a7, b0, b1, b2, b3, b4, b5, b6, b7]) = ([Tryz.prog.keyLits 2 5 [bv a0], Tryz.prog.keyLits 2 5 [bv a1], Tryz.prog.keyLits 2 5 [bv a2], Tryz.prog.keyLits 2 5 [bv a3], Tryz.prog.keyLits 2 5 [bv a4], Tryz.prog.keyLits 2 5 [bv a5], Tryz.prog.keyLits 2 5 [bv a6], Tryz.prog.keyLits 2 5 [bv a7], Tryz.prog.keyLits 2 5 [bv b0], Tryz.prog.keyLits 2 5 [bv b1], Tryz.prog.keyLits 2 5 [bv b2], Tryz.prog.keyLits 2 5 [bv b3], Tryz.prog.keyLits 2 5 [bv b4], Tryz.prog.keyLits 2 5 [bv b5], Tryz.prog.keyLits 2 5 [bv b6], Tryz.prog.keyLits 2 5 [bv b7]].mapM id).map List.flatten := by kernel_rfl
  rw [e]
  simp only [hlit1]
  rfl
theorem neq_arr16 (a b : List UInt8) (ha : a.length = 16) (hb : b.length = 16) (w : World) : (binOp .neq 211 (.agg (bvs a).toArray) (.agg (bvs b).toArray)).run Tryz.prog w = .ok (.bool (!decide (a = b))) w := by
  have hk : Tryz.prog.keyTypeAt 3 211 = true := by kernel_rfl
  have fx : (Value.agg (bvs a).toArray).formed Tryz.prog 211 = true := by
    obtain ⟨a0, a1, a2, a3, a4, a5, a6, a7, b0, b1, b2, b3, b4, b5, b6, b7, rfl⟩ := sixteen ha
    kernel_rfl
  have fy : (Value.agg (bvs b).toArray).formed Tryz.prog 211 = true := by
    obtain ⟨a0, a1, a2, a3, a4, a5, a6, a7, b0, b1, b2, b3, b4, b5, b6, b7, rfl⟩ := sixteen hb
    kernel_rfl
  obtain ⟨r, hr, hiff⟩ := run_equalIn_deep 9997 3 211 hk w 3 3 _ _ _ _ fx fy (hlits a ha) (hlits b hb)
  rw [run_neq_struct, show (10000 : Nat) = 9997 + 3 from rfl, hr]
  have : r = decide (a = b) := by
    rw [Bool.eq_iff_iff, hiff]
    simp only [decide_eq_true_eq]
    exact ⟨map_hl_inj, fun h => by rw [h]⟩
  rw [this]
  rfl
/-- a slice that is long enough, as a pointer to an array -/
theorem arrayAt16 (A : Option Addr) (n c : Nat) (h : 16 ≤ n) (w : World) : (Instr.arrayAt 211 (.slice A n c)).run Tryz.prog w = .ok (.pointer A) w := by
  unfold Instr.arrayAt
  rw [Sem.run_bind, run_underlying Tryz.underlying211]
  simp [Result.andThen]
  omega

theorem bs_newM (w : World) (l : List UInt8) (e : TypeId) (fr : Nat × Nat) : Bs (w.alloc (.cells (bvs l).toArray e fr)) (w.heap.size + 1) (.slice (some ⟨w.heap.size, 0, none⟩) l.length l.length) l := by
  refine ⟨_, _, rfl, Nat.le_refl _, fun _ => ⟨w.heap.size, 0, rfl, by omega, fun j u hu => ?_⟩⟩
  rw [Nat.zero_add, cell_of_row (w.alloc (.cells (bvs l).toArray e fr)) w.heap.size j _ e fr (heap_alloc_new w _)]
  simpa using hu
theorem may_any (k n : Int) (w : World) (h0 : 0 ≤ n) (h1 : n < 4294967296) : Calls Tryz.prog 119 #[.int .i64 k, .int .u32 n] w fun e w' => e = .returned (.bool (mayB k n)) ∧ w = w' := by
  obtain ⟨r, hr⟩ : ∃ r, mayB k n = r := ⟨_, rfl⟩
  rw [hr]
  have H := Lib.hid hr
  clear hr
  by_cases k1 : k = 1
  · subst k1
    have H := Lib.hid (show r = (decide (1 ≤ n) && decide (n ≤ 16777215)) by rw [← H.out, Bool.eq_iff_iff]; simp [mayB])
    by_cases a : 1 ≤ n
    · go_enter Tryz.func119, Tryz.ntmps119
      go_wp2_with fail
      go_ret
      exact ⟨hret_bool (by rw [H.out, decide_eq_true a]; rfl), rfl⟩
    · have d : decide (1 ≤ n) = false := decide_eq_false a
      go_enter Tryz.func119, Tryz.ntmps119
      go_wp2_with fail
      go_ret
      exact ⟨hret_bool (by rw [H.out, d]; rfl), rfl⟩
  · have e1 : (k == 1) = false := by simp [k1]
    by_cases k2 : k = 2
    · subst k2
      have H := Lib.hid (show r = (n == 0) by rw [← H.out, Bool.eq_iff_iff]; simp [mayB])
      clear e1 k1
      go_enter Tryz.func119, Tryz.ntmps119
      go_wp2_with fail
      go_ret
      exact ⟨hret_bool (by rw [H.out]), rfl⟩
    · have e2 : (k == 2) = false := by simp [k2]
      have H := Lib.hid (show r = false by rw [← H.out]; simp [mayB, k1, k2])
      clear k1 k2
      go_enter Tryz.func119, Tryz.ntmps119
      go_wp2_with fail
      go_ret
      exact ⟨hret_bool (by rw [H.out]), rfl⟩
theorem put_no (k n : Int) (w : World) (h0 : 0 ≤ n) (h1 : n < 4294967296) (h : mayB k n = false) : Calls Tryz.prog 70 #[.int .i64 k, .int .u32 n] w fun e w' => e = .returned (.tuple #[.slice none 0 0, .int .i64 1]) ∧ w = w' := by
  have hm := may_any k n w h0 h1
  rw [h] at hm
  clear h
  go_enter Tryz.func70, Tryz.ntmps70
  go_wp2_with fail
  refine hm.mono ?_
  rintro e w1 ⟨rfl, rfl⟩
  go_wp2_with fail
  go_ret2
  exact ⟨rfl, rfl⟩
set_option maxRecDepth 100000 in
set_option maxHeartbeats 4000000 in
theorem put_ok (k n : Nat) (w : World) (h : mayB k n = true) (ht : Crc.Tab w) : Calls Tryz.prog 70 #[.int .i64 k, .int .u32 n] w fun e w' => ∃ v, e = .returned (.tuple #[v, .int .i64 0]) ∧ w'.ownsRow w.heap.size 5 1 v 16 (bvs (headL k n)) ∧ Below w.heap.size w w' := by
  obtain ⟨q1, q2, q3, q4⟩ := may_lt h
  have hm := may_any k n w q3 (by omega)
  rw [h] at hm
  clear h
  have z1 : IntKind.u64.wrap (k : Int) = (k : Int) := IntWalk.u64_in _ (by omega)
  have z2 : IntKind.u64.wrap (n : Int) = (n : Int) := IntWalk.u64_in _ (by omega)
  have kc := fun (w : World) (C : Array Value) (n c : Nat) => Lib.run_convert_bytes_const (P := Tryz.prog) w 47 5 C n c Tryz.underlying47 Tryz.underlying5
  go_enter Tryz.func70, Tryz.ntmps70
  go_wp2_with fail
  refine hm.mono ?_
  rintro e w1 ⟨rfl, rfl⟩
  go_wp2_with fail
  have hb0 := hbnew w (.cells #[.int .u8 104, .int .u8 111, .int .u8 117, .int .u8 114, .int .u8 98, .int .u8 107, .int .u8 49] 5 (7, 8))
  have hl0 : Bs (w.alloc (.cells #[.int .u8 104, .int .u8 111, .int .u8 117, .int .u8 114, .int .u8 98, .int .u8 107, .int .u8 49] 5 (7, 8))) (w.alloc (.cells #[.int .u8 104, .int .u8 111, .int .u8 117, .int .u8 114, .int .u8 98, .int .u8 107, .int .u8 49] 5 (7, 8))).heap.size (.slice (some ⟨w.heap.size, 0, none⟩) 7 7) letters := by
    rw [World.size_alloc]
    exact bs_newM w letters 5 (7, 8)
  refine (fixed_b _ letters k 1 _ hl0 (by omega) (by omega) (by omega) (by omega) (Int.ediv_eq_zero_of_lt (by omega) (by show (k : Int) < 2 ^ 8; omega)) (by simp [letters])).mono ?_
  rintro e w2 ⟨v2, rfl, hown2, hb2⟩
  rw [Int.toNat_natCast] at hown2
  have B2 := Lib.hid (hbstep hb0 hb2)
  have O2 := Lib.hid (Bs.of_own hown2)
  clear hb0 hb2 hown2
  go_wp2_with fail
  refine (fixed_b v2 (letters ++ Px.leL k 1) n 4 _ O2.out (by omega) (by omega) (by omega) (by omega) (Int.ediv_eq_zero_of_lt (by omega) (by show (n : Int) < 2 ^ 32; omega)) (by simp [letters, Px.leL_length])).mono ?_
  rintro e w3 ⟨v3, rfl, hown3, hb3⟩
  rw [Int.toNat_natCast, List.append_assoc] at hown3
  have B3 := Lib.hid (hbstep B2.out hb3)
  have O3 := Lib.hid (Bs.of_own hown3)
  clear hb3 hown3
  go_wp2_with fail
  refine (Crc.cover_b v3 (bodyL k n) _ O3.out (ht.on B3.out) (by rw [bodyL_length]; omega)).mono ?_
  rintro e w4 ⟨v4, rfl, hown4, hb4⟩
  rw [bodyL_length] at hown4
  have O4 := Lib.hid (own_base hown4 B3.out.size)
  have B4 := Lib.hid (hbstep B3.out hb4)
  clear hb4 hown4
  go_wp2_with fail
  go_ret2
  exact ⟨v4, rfl, O4.out, B4.out⟩
/-- what a closure looks at: the bytes that the box holds, from a place on -/
theorem look_any (A : Option Addr) (c : Nat) (l : List UInt8) (g B : Nat) (W : World) (a z : Nat) (hx : W.cell? ⟨g, 0, none⟩ = some (.slice A l.length c)) (hc : l.length ≤ c) (hr : Rd W B A (bvs l)) (h1 : 1 ≤ z) (h8 : z ≤ 8) (hl : a + z ≤ l.length) (hm : l.length ≤ 140737488355328) :
    Calls Tryz.prog 160 #[.int .i64 a, .int .i64 z, .pointer (some ⟨g, 0, none⟩)] W fun e w' => e = .returned (.int .u64 ((Px.rdN (l.drop a) z : Nat) : Int)) ∧ W = w' := by
  obtain ⟨A', c', hcut, hc', hcr⟩ := cut_l A l.length c a (l.length - a) (by omega) hc
  have hrd := read_b (.slice A' (l.length - a) c') (l.drop a) B z W ⟨A', c', by rw [List.length_drop], by rw [List.length_drop]; exact hc', hcr W B l hc hr⟩ (by omega) (by omega) (by rw [Int.toNat_natCast, List.length_drop]; omega) (by rw [List.length_drop]; omega)
  rw [Int.toNat_natCast] at hrd
  have Hrd := Lib.hid hrd
  clear hcr hr hrd
  go_enter Tryz.func160, Tryz.ntmps160
  go_wp2_with fail
  refine Hrd.out.mono ?_
  rintro e w1 ⟨rfl, rfl⟩
  go_wp2_with fail
  go_ret
  exact ⟨rfl, rfl⟩
set_option maxRecDepth 100000 in
set_option maxHeartbeats 4000000 in
theorem get_any (v : Value) (l : List UInt8) (B : Nat) (w : World) (h : Bs w B v l) (hB : B ≤ w.heap.size) (hm : l.length ≤ 140737488355328) (ht : Crc.Tab w) (q : Nat × Nat × Nat) (hq : getQ l = q) :
    Calls Tryz.prog 127 #[v] w fun e w' => e = .returned (.tuple #[.int .i64 q.1, .int .u32 q.2.1, .int .i64 q.2.2]) ∧ Below w.heap.size w w' := by
  obtain ⟨A, c, rfl, hc, hr⟩ := h
  have b0 := hbnew w (.cells #[.slice A l.length c] 47)
  have hR := hr.below b0 hB
  have HQ := Lib.hid hq
  have B0 := Lib.hid b0
  by_cases hs : l.length < 16
  · have hs' : (l.length : Int) < 16 := by omega
    have H := Lib.hid (show q = (0, 0, 22) by rw [← HQ.out, get_short hs])
    clear hr hR b0 hq
    go_enter Tryz.func127, Tryz.ntmps127
    go_wp2_with fail
    go_ret3
    rw [H.out]
    exact ⟨rfl, B0.out⟩
  · have hs' : ¬ (l.length : Int) < 16 := by omega
    have hx0 : (w.alloc (.cells #[.slice A l.length c] 47)).cell? ⟨w.heap.size, 0, none⟩ = some (.slice A l.length c) := by
      rw [cell_of_row _ w.heap.size 0 #[.slice A l.length c] 47 (0, 0) (heap_alloc_new w _)]
      rfl
    have hgo : q = if mayB (kindN l) (idN l) = true ∧ l.take 16 = headL (kindN l) (idN l) then (kindN l, idN l, 0) else (0, 0, 23) := by
      rw [← HQ.out]
      unfold getQ
      rw [if_neg hs]
    have k7 : Calls Tryz.prog 160 #[.int .i64 7, .int .i64 1, .pointer (some ⟨w.heap.size, 0, none⟩)] _ fun e w' => e = .returned (.int .u64 ((kindN l : Nat) : Int)) ∧ _ = w' := look_any A c l w.heap.size B _ 7 1 hx0 hc hR (by omega) (by omega) (by omega) hm
    have k8 : Calls Tryz.prog 160 #[.int .i64 8, .int .i64 4, .pointer (some ⟨w.heap.size, 0, none⟩)] _ fun e w' => e = .returned (.int .u64 ((idN l : Nat) : Int)) ∧ _ = w' := look_any A c l w.heap.size B _ 8 4 hx0 hc hR (by omega) (by omega) (by omega) hm
    have hK : kindN l < 256 := Px.rdN_lt (l.drop 7) 1
    have hI : idN l < 4294967296 := Px.rdN_lt (l.drop 8) 4
    generalize kindN l = K at hgo k7 hK
    generalize idN l = I at hgo k8 hI
    obtain ⟨b, o, rfl, hbB, hcell⟩ := hR (by intro e; have := congrArg List.length e; simp [bvs] at this; subst this; simp at hs)
    have HC := Lib.hid hcell
    have K7 := Lib.hid k7
    have K8 := Lib.hid k8
    have HG := Lib.hid hgo
    have hge : 16 ≤ l.length := by omega
    have HL : Hid ((l.take 16).length = 16) := Lib.hid (by rw [List.length_take]; omega)
    have z1 : IntKind.i64.wrap (K : Int) = (K : Int) := IntWalk.i64_in _ (by omega)
    have z2 : IntKind.u32.wrap (I : Int) = (I : Int) := IntWalk.u32_in _ (by omega)
    clear k7 k8 hr hR hq hgo hcell
    go_enter Tryz.func127, Tryz.ntmps127
    go_wp2_with fail
    refine K7.out.mono ?_
    rintro e w1 ⟨rfl, rfl⟩
    go_wp2_with fail
    refine K8.out.mono ?_
    rintro e w1 ⟨rfl, rfl⟩
    go_wp2_with fail
    cases hmb : mayB (K : Int) (I : Int)
    · refine (put_no K I _ (by omega) (by omega) hmb).mono ?_
      rintro e w1 ⟨rfl, rfl⟩
      have H := Lib.hid (show q = (0, 0, 23) by rw [HG.out, if_neg (by rw [hmb]; simp)])
      clear hmb
      go_wp2_with fail
      go_quiet (fail)
      go_wp2_with fail
      go_ret3
      rw [H.out]
      exact ⟨rfl, below_drewN B0.out _⟩
    · refine (put_ok K I _ hmb (ht.on B0.out)).mono ?_
      rintro e w2 ⟨v2, rfl, hown2, hb2⟩
      obtain ⟨g, cap, rfl, hgg, hgl⟩ := hown2.form (by omega)
      have hx2 : w2.cell? ⟨w.heap.size, 0, none⟩ = some (.slice (some ⟨b, o, none⟩) l.length c) := (hb2.cell (by simp)).trans hx0
      have r1 : w2.rangeAt b o (bvs (l.take 16)) := fun j u hu => by
        rw [hb2.cell (by simp; omega)]
        refine HC.out j u ?_
        rw [bvs_take, List.getElem?_take] at hu
        split at hu
        · exact hu
        · cases hu
      have r2 : w2.rangeAt g 0 (bvs (headL K I)) := fun j u hu => by
        have := hown2.cellAt j (by have h9 := (List.getElem?_eq_some_iff.1 hu).1; rw [bvs_length, headL_length] at h9; omega)
        rw [Nat.zero_add]
        rw [hu] at this
        exact this
      obtain ⟨a0, a1, a2, a3, a4, a5, a6, a7, a8, a9, a10, a11, a12, a13, a14, a15, ha⟩ := sixteen HL.out
      obtain ⟨d0, d1, d2, d3, d4, d5, d6, d7, d8, d9, d10, d11, d12, d13, d14, d15, hd⟩ := sixteen (headL_length K I)
      rw [ha] at r1
      rw [hd] at r2
      obtain ⟨x0, x1, x2, x3, x4, x5, x6, x7, x8, x9, x10, x11, x12, x13, x14, x15⟩ : w2.cell? ⟨b, o, none⟩ = some (.int .u8 (a0.toNat : Int)) ∧ w2.cell? ⟨b, o + 1, none⟩ = some (.int .u8 (a1.toNat : Int)) ∧ w2.cell? ⟨b, o + 2, none⟩ = some (.int .u8 (a2.toNat : Int)) ∧ w2.cell? ⟨b, o + 3, none⟩ = some (.int .u8 (a3.toNat : Int)) ∧ w2.cell? ⟨b, o + 4, none⟩ = some (.int .u8 (a4.toNat : Int)) ∧ w2.cell? ⟨b, o + 5, none⟩ = some (.int .u8 (a5.toNat : Int)) ∧ w2.cell? ⟨b, o + 6, none⟩ = some (.int .u8 (a6.toNat : Int)) ∧ w2.cell? ⟨b, o + 7, none⟩ = some (.int .u8 (a7.toNat : Int)) ∧ w2.cell? ⟨b, o + 8, none⟩ = some (.int .u8 (a8.toNat : Int)) ∧ w2.cell? ⟨b, o + 9, none⟩ = some (.int .u8 (a9.toNat : Int)) ∧ w2.cell? ⟨b, o + 10, none⟩ = some (.int .u8 (a10.toNat : Int)) ∧ w2.cell? ⟨b, o + 11, none⟩ = some (.int .u8 (a11.toNat : Int)) ∧ w2.cell? ⟨b, o + 12, none⟩ = some (.int .u8 (a12.toNat : Int)) ∧ w2.cell? ⟨b, o + 13, none⟩ = some (.int .u8 (a13.toNat : Int)) ∧ w2.cell? ⟨b, o + 14, none⟩ = some (.int .u8 (a14.toNat : Int)) ∧ w2.cell? ⟨b, o + 15, none⟩ = some (.int .u8 (a15.toNat : Int)) := ⟨by simpa [bv] using r1 0 _ rfl, r1 1 _ rfl, r1 2 _ rfl, r1 3 _ rfl, r1 4 _ rfl, r1 5 _ rfl, r1 6 _ rfl, r1 7 _ rfl, r1 8 _ rfl, r1 9 _ rfl, r1 10 _ rfl, r1 11 _ rfl, r1 12 _ rfl, r1 13 _ rfl, r1 14 _ rfl, r1 15 _ rfl⟩
      obtain ⟨y0, y1, y2, y3, y4, y5, y6, y7, y8, y9, y10, y11, y12, y13, y14, y15⟩ : w2.cell? ⟨g, 0, none⟩ = some (.int .u8 (d0.toNat : Int)) ∧ w2.cell? ⟨g, 1, none⟩ = some (.int .u8 (d1.toNat : Int)) ∧ w2.cell? ⟨g, 2, none⟩ = some (.int .u8 (d2.toNat : Int)) ∧ w2.cell? ⟨g, 3, none⟩ = some (.int .u8 (d3.toNat : Int)) ∧ w2.cell? ⟨g, 4, none⟩ = some (.int .u8 (d4.toNat : Int)) ∧ w2.cell? ⟨g, 5, none⟩ = some (.int .u8 (d5.toNat : Int)) ∧ w2.cell? ⟨g, 6, none⟩ = some (.int .u8 (d6.toNat : Int)) ∧ w2.cell? ⟨g, 7, none⟩ = some (.int .u8 (d7.toNat : Int)) ∧ w2.cell? ⟨g, 8, none⟩ = some (.int .u8 (d8.toNat : Int)) ∧ w2.cell? ⟨g, 9, none⟩ = some (.int .u8 (d9.toNat : Int)) ∧ w2.cell? ⟨g, 10, none⟩ = some (.int .u8 (d10.toNat : Int)) ∧ w2.cell? ⟨g, 11, none⟩ = some (.int .u8 (d11.toNat : Int)) ∧ w2.cell? ⟨g, 12, none⟩ = some (.int .u8 (d12.toNat : Int)) ∧ w2.cell? ⟨g, 13, none⟩ = some (.int .u8 (d13.toNat : Int)) ∧ w2.cell? ⟨g, 14, none⟩ = some (.int .u8 (d14.toNat : Int)) ∧ w2.cell? ⟨g, 15, none⟩ = some (.int .u8 (d15.toNat : Int)) := ⟨by simpa [bv] using r2 0 _ rfl, by simpa [bv] using r2 1 _ rfl, by simpa [bv] using r2 2 _ rfl, by simpa [bv] using r2 3 _ rfl, by simpa [bv] using r2 4 _ rfl, by simpa [bv] using r2 5 _ rfl, by simpa [bv] using r2 6 _ rfl, by simpa [bv] using r2 7 _ rfl, by simpa [bv] using r2 8 _ rfl, by simpa [bv] using r2 9 _ rfl, by simpa [bv] using r2 10 _ rfl, by simpa [bv] using r2 11 _ rfl, by simpa [bv] using r2 12 _ rfl, by simpa [bv] using r2 13 _ rfl, by simpa [bv] using r2 14 _ rfl, by simpa [bv] using r2 15 _ rfl⟩
      have n1 : ∀ w, (binOp .neq 211 (.agg #[.int .u8 (a0.toNat : Int), .int .u8 (a1.toNat : Int), .int .u8 (a2.toNat : Int), .int .u8 (a3.toNat : Int), .int .u8 (a4.toNat : Int), .int .u8 (a5.toNat : Int), .int .u8 (a6.toNat : Int), .int .u8 (a7.toNat : Int), .int .u8 (a8.toNat : Int), .int .u8 (a9.toNat : Int), .int .u8 (a10.toNat : Int), .int .u8 (a11.toNat : Int), .int .u8 (a12.toNat : Int), .int .u8 (a13.toNat : Int), .int .u8 (a14.toNat : Int), .int .u8 (a15.toNat : Int)]) (.agg #[.int .u8 (d0.toNat : Int), .int .u8 (d1.toNat : Int), .int .u8 (d2.toNat : Int), .int .u8 (d3.toNat : Int), .int .u8 (d4.toNat : Int), .int .u8 (d5.toNat : Int), .int .u8 (d6.toNat : Int), .int .u8 (d7.toNat : Int), .int .u8 (d8.toNat : Int), .int .u8 (d9.toNat : Int), .int .u8 (d10.toNat : Int), .int .u8 (d11.toNat : Int), .int .u8 (d12.toNat : Int), .int .u8 (d13.toNat : Int), .int .u8 (d14.toNat : Int), .int .u8 (d15.toNat : Int)])).run Tryz.prog w = .ok (.bool (!decide ([a0, a1, a2, a3, a4, a5, a6, a7, a8, a9, a10, a11, a12, a13, a14, a15] = [d0, d1, d2, d3, d4, d5, d6, d7, d8, d9, d10, d11, d12, d13, d14, d15]))) w := neq_arr16 [a0, a1, a2, a3, a4, a5, a6, a7, a8, a9, a10, a11, a12, a13, a14, a15] [d0, d1, d2, d3, d4, d5, d6, d7, d8, d9, d10, d11, d12, d13, d14, d15] rfl rfl
      rw [← ha, ← hd] at n1
      have a1 := arrayAt16 (some ⟨b, o, none⟩) l.length c hge
      have a2 := arrayAt16 (some ⟨g, 0, none⟩) 16 cap (Nat.le_refl _)
      have B2 := Lib.hid (hbstep B0.out hb2)
      by_cases he : l.take 16 = headL K I
      · rw [decide_eq_true he] at n1
        have H := Lib.hid (show q = (K, I, 0) by rw [HG.out, if_pos ⟨hmb, he⟩])
        clear he hmb hown2 r1 r2 ha hd
        go_wp2_with fail
        go_quiet (fail)
        go_wp2_with fail
        go_ret3
        rw [H.out]
        exact ⟨rfl, below_drewN B2.out _⟩
      · rw [decide_eq_false he] at n1
        have H := Lib.hid (show q = (0, 0, 23) by rw [HG.out, if_neg (fun h => he h.2)])
        clear he hmb hown2 r1 r2 ha hd
        go_wp2_with fail
        go_quiet (fail)
        go_wp2_with fail
        go_ret3
        rw [H.out]
        exact ⟨rfl, below_drewN B2.out _⟩
end Go.Proofs.YtaicibmaogiibaaGreatDoor.Hd

/- LxPlain -/

/-
  Layer 3, plain mathematics: which locs may be, how they are packed, compared and written.
-/
set_option linter.unusedVariables false
set_option linter.unusedSimpArgs false
namespace Go.Proofs.YtaicibmaogiibaaGreatDoor
open Go.RowKit

/-- a loc as a value -/
def lv (s o : Int) : Value := .agg #[.int .u32 s, .int .u32 o]

namespace Lx
def noneB (s o : Int) : Bool := decide (s = 0 ∧ o = 0)
def standsB (s o : Int) : Bool := decide (1 ≤ s ∧ s ≤ 16777215 ∧ 16 ≤ o ∧ o ≤ 16777216)
def mayB (s o : Int) : Bool := noneB s o || standsB s o
/-- what bytes begin with: Seg, Off, how many bytes, the error's number -/
def getQ (l : List UInt8) : Int × Int × Int × Int :=
  if (Px.getN l).2.2 ≠ 0 then (0, 0, 0, (Px.getN l).2.2)
  else if (Px.getN l).1 = 0 then (0, 0, (Px.getN l).2.1, 0)
  else if (Px.getN (l.drop (Px.getN l).2.1)).2.2 ≠ 0 then (0, 0, 0, (Px.getN (l.drop (Px.getN l).2.1)).2.2)
  else if 16777215 < (Px.getN l).1 ∨ 16777200 < (Px.getN (l.drop (Px.getN l).2.1)).1 then (0, 0, 0, 5)
  else ((Px.getN l).1, (Px.getN (l.drop (Px.getN l).2.1)).1 + 16, ((Px.getN l).2.1 + (Px.getN (l.drop (Px.getN l).2.1)).2.1 : Nat), 0)
end Lx
end Go.Proofs.YtaicibmaogiibaaGreatDoor

/- RcPlain -/

/-
  Layer 8, plain mathematics: records as runs, what bytes begin with, turned bits.
-/
set_option linter.unusedVariables false
set_option linter.unusedSimpArgs false
namespace Go.Proofs.YtaicibmaogiibaaGreatDoor.Rc
open Go.RowKit

/-- a version of a key -/
structure Rec where
  seq : Int
  kind : Int
  key : List UInt8
  val : List UInt8
  seg : Int
  off : Int

theorem Rec.ext' {a b : Rec} (h1 : a.seq = b.seq) (h2 : a.kind = b.kind) (h3 : a.key = b.key) (h4 : a.val = b.val) (h5 : a.seg = b.seg) (h6 : a.off = b.off) : a = b := by
  cases a; cases b; simp_all

def none : Rec := ⟨0, 0, [], [], 0, 0⟩
/-- the kind, and the value that it may have -/
def kindB (r : Rec) : Bool := decide (r.kind = 1 ∧ r.val.length ≤ 1024) || decide (r.kind = 2 ∧ r.val.length = 0)
def mayB (r : Rec) : Bool := decide (1 ≤ r.seq ∧ r.seq ≤ 1099511627776) && decide (1 ≤ r.key.length ∧ r.key.length ≤ 64) && Lx.mayB r.seg r.off && kindB r
def sizeN (r : Rec) : Nat := 25 + r.key.length + r.val.length
/-- what a head tells, and in how many bytes -/
def told (r : Rec) : List (Nat × Nat) := [(r.kind.toNat, 1), (r.key.length, 1), (r.val.length, 2), (r.seq.toNat, 6), (r.seg.toNat, 3), (r.off.toNat, 4)]
def rowL (l : List (Nat × Nat)) : List UInt8 := l.flatMap fun p => Px.leL p.1 p.2
theorem rowL_snoc (l : List (Nat × Nat)) (p : Nat × Nat) : rowL (l ++ [p]) = rowL l ++ Px.leL p.1 p.2 := by simp [rowL]
def headL (r : Rec) : List UInt8 := rowL (told r)
theorem headL_eq (r : Rec) : headL r = Px.leL r.kind.toNat 1 ++ (Px.leL r.key.length 1 ++ (Px.leL r.val.length 2 ++ (Px.leL r.seq.toNat 6 ++ (Px.leL r.seg.toNat 3 ++ Px.leL r.off.toNat 4)))) := by
  simp [headL, rowL, told]
theorem headL_length (r : Rec) : (headL r).length = 17 := by
  rw [headL_eq]; simp [Px.leL_length]
/-- its run -/
def runL (r : Rec) : List UInt8 := Cx.cover (Cx.cover (headL r) ++ r.key ++ r.val)
theorem runL_length (r : Rec) : (runL r).length = sizeN r := by
  simp [runL, Cx.cover_length, headL_length, sizeN]; omega

/-- as a head tells it -/
def rdR (b : List UInt8) : Rec :=
  { seq := (Px.rdN (b.drop 4) 6 : Nat), kind := (Px.rdN b 1 : Nat), key := List.replicate (Px.rdN (b.drop 1) 1) 0, val := List.replicate (Px.rdN (b.drop 2) 2) 0,
    seg := (Px.rdN (b.drop 10) 3 : Nat), off := (Px.rdN (b.drop 13) 4 : Nat) }
/-- with its key and its value -/
def full (b : List UInt8) : Rec :=
  { rdR b with key := (b.drop 21).take (Px.rdN (b.drop 1) 1), val := (b.drop (21 + Px.rdN (b.drop 1) 1)).take (Px.rdN (b.drop 2) 2) }
/-- what bytes begin with: the record, how many bytes, the error's number -/
def getQ (b : List UInt8) : Rec × Nat × Nat :=
  if b.length < 21 then (none, 0, 22)
  else if Cx.right (b.take 21) = false then (none, 0, 23)
  else if mayB (rdR b) = false then (none, 0, 23)
  else if b.length < sizeN (rdR b) then (none, 0, 22)
  else if Cx.right (b.take (sizeN (rdR b))) = false then (none, sizeN (rdR b), 23)
  else (full b, sizeN (rdR b), 0)

/-- as long, and nothing in it -/
def blank (r : Rec) : Rec := { r with key := List.replicate r.key.length 0, val := List.replicate r.val.length 0 }
theorem mayB_blank (r : Rec) : mayB (blank r) = mayB r := by
  unfold mayB kindB
  rw [show (blank r).key.length = r.key.length by simp [blank], show (blank r).val.length = r.val.length by simp [blank]]
  rfl
theorem sizeN_blank (r : Rec) : sizeN (blank r) = sizeN r := by simp [sizeN, blank]

theorem may_bounds {r : Rec} (h : mayB r = true) : 1 ≤ r.seq ∧ r.seq ≤ 1099511627776 ∧ 1 ≤ r.key.length ∧ r.key.length ≤ 64 ∧ 0 ≤ r.seg ∧ r.seg ≤ 16777215 ∧ 0 ≤ r.off ∧ r.off ≤ 16777216 ∧
    1 ≤ r.kind ∧ r.kind ≤ 2 ∧ r.val.length ≤ 1024 := by
  simp only [mayB, kindB, Lx.mayB, Lx.noneB, Lx.standsB, Bool.and_eq_true, Bool.or_eq_true, decide_eq_true_eq] at h
  omega
theorem may_size {r : Rec} (h : mayB r = true) : 26 ≤ sizeN r ∧ sizeN r ≤ 1113 := by
  have := may_bounds h
  unfold sizeN
  omega

theorem rd_head {r : Rec} (h : mayB r = true) (m : List UInt8) : rdR (headL r ++ m) = blank r := by
  obtain ⟨h1, h2, h3, h4, h5, h6, h7, h8, h9, h10, h11⟩ := may_bounds h
  have e := headL_eq r
  have hl := Px.leL_length
  have d1 : (headL r ++ m).drop 1 = Px.leL r.key.length 1 ++ (Px.leL r.val.length 2 ++ (Px.leL r.seq.toNat 6 ++ (Px.leL r.seg.toNat 3 ++ (Px.leL r.off.toNat 4 ++ m)))) := by
    rw [e]; simp only [List.append_assoc]; exact List.drop_left' (hl _ _)
  have d2 : (headL r ++ m).drop 2 = Px.leL r.val.length 2 ++ (Px.leL r.seq.toNat 6 ++ (Px.leL r.seg.toNat 3 ++ (Px.leL r.off.toNat 4 ++ m))) := by
    rw [show 2 = 1 + 1 by rfl, ← List.drop_drop, d1]; exact List.drop_left' (hl _ _)
  have d4 : (headL r ++ m).drop 4 = Px.leL r.seq.toNat 6 ++ (Px.leL r.seg.toNat 3 ++ (Px.leL r.off.toNat 4 ++ m)) := by
    rw [show 4 = 2 + 2 by rfl, ← List.drop_drop, d2]; exact List.drop_left' (hl _ _)
  have d10 : (headL r ++ m).drop 10 = Px.leL r.seg.toNat 3 ++ (Px.leL r.off.toNat 4 ++ m) := by
    rw [show 10 = 4 + 6 by rfl, ← List.drop_drop, d4]; exact List.drop_left' (hl _ _)
  have d13 : (headL r ++ m).drop 13 = Px.leL r.off.toNat 4 ++ m := by
    rw [show 13 = 10 + 3 by rfl, ← List.drop_drop, d10]; exact List.drop_left' (hl _ _)
  have d0 : headL r ++ m = Px.leL r.kind.toNat 1 ++ (Px.leL r.key.length 1 ++ (Px.leL r.val.length 2 ++ (Px.leL r.seq.toNat 6 ++ (Px.leL r.seg.toNat 3 ++ (Px.leL r.off.toNat 4 ++ m))))) := by
    rw [e]; simp only [List.append_assoc]
  have r0 : Px.rdN (headL r ++ m) 1 = r.kind.toNat := by rw [d0]; exact Px.rdN_fix _ _ _ (Nat.div_eq_of_lt (by simp; omega))
  apply Rec.ext'
  · show ((Px.rdN ((headL r ++ m).drop 4) 6 : Nat) : Int) = r.seq
    rw [d4, Px.rdN_fix _ _ _ (Nat.div_eq_of_lt (by simp; omega))]; omega
  · show ((Px.rdN (headL r ++ m) 1 : Nat) : Int) = r.kind
    rw [r0]; omega
  · show List.replicate (Px.rdN ((headL r ++ m).drop 1) 1) 0 = List.replicate r.key.length 0
    rw [d1, Px.rdN_fix _ _ _ (Nat.div_eq_of_lt (by simp; omega))]
  · show List.replicate (Px.rdN ((headL r ++ m).drop 2) 2) 0 = List.replicate r.val.length 0
    rw [d2, Px.rdN_fix _ _ _ (Nat.div_eq_of_lt (by simp; omega))]
  · show ((Px.rdN ((headL r ++ m).drop 10) 3 : Nat) : Int) = r.seg
    rw [d10, Px.rdN_fix _ _ _ (Nat.div_eq_of_lt (by simp; omega))]; omega
  · show ((Px.rdN ((headL r ++ m).drop 13) 4 : Nat) : Int) = r.off
    rw [d13, Px.rdN_fix _ _ _ (Nat.div_eq_of_lt (by simp; omega))]; omega
theorem rd_lens {r : Rec} (h : mayB r = true) (m : List UInt8) : Px.rdN ((headL r ++ m).drop 1) 1 = r.key.length ∧ Px.rdN ((headL r ++ m).drop 2) 2 = r.val.length := by
  have e := rd_head h m
  have e1 := congrArg (fun r => r.key.length) e
  have e2 := congrArg (fun r => r.val.length) e
  simp [rdR, blank] at e1 e2
  simp [e1, e2]

/-- behind the head -/
def tailL (r : Rec) : List UInt8 := Cx.leL (Cx.sum (headL r)).toNat 4 ++ (r.key ++ (r.val ++ Cx.leL (Cx.sum (Cx.cover (headL r) ++ r.key ++ r.val)).toNat 4))
theorem runL_parts (r : Rec) : runL r = headL r ++ tailL r := by simp [runL, tailL, Cx.cover]
theorem runL_cover (r : Rec) : runL r = Cx.cover (headL r) ++ (r.key ++ (r.val ++ Cx.leL (Cx.sum (Cx.cover (headL r) ++ r.key ++ r.val)).toNat 4)) := by simp [runL, Cx.cover]
theorem cover_head_length (r : Rec) : (Cx.cover (headL r)).length = 21 := by rw [Cx.cover_length, headL_length]

theorem take_head (r : Rec) (k : Nat) (m : List UInt8) (h : 21 ≤ k) : ((runL r).take k ++ m).take 21 = Cx.cover (headL r) := by
  rw [List.take_append_of_le_length (by rw [List.length_take, runL_length]; unfold sizeN; omega), List.take_take, Nat.min_eq_left h, runL_cover]
  exact List.take_left' (cover_head_length r)
theorem take_head' (r : Rec) (m : List UInt8) : (runL r ++ m).take 21 = Cx.cover (headL r) := by
  have := take_head r (runL r).length m (by rw [runL_length]; unfold sizeN; omega)
  rwa [List.take_length] at this
theorem rd_run {r : Rec} (h : mayB r = true) (m : List UInt8) : rdR (runL r ++ m) = blank r := by
  rw [runL_parts, List.append_assoc]; exact rd_head h _
theorem rd_run_take {r : Rec} (h : mayB r = true) (k : Nat) (hk : 21 ≤ k) : rdR ((runL r).take k) = blank r := by
  rw [runL_parts, List.take_append, List.take_of_length_le (by rw [headL_length]; omega)]
  exact rd_head h _
theorem full_run {r : Rec} (h : mayB r = true) (m : List UInt8) : full (runL r ++ m) = r := by
  obtain ⟨l1, l2⟩ := rd_lens h (tailL r ++ m)
  have e : runL r ++ m = headL r ++ (tailL r ++ m) := by rw [runL_parts, List.append_assoc]
  have hd : (runL r ++ m).drop 21 = r.key ++ (r.val ++ (Cx.leL (Cx.sum (Cx.cover (headL r) ++ r.key ++ r.val)).toNat 4 ++ m)) := by
    rw [runL_cover]; simp only [List.append_assoc]; exact List.drop_left' (cover_head_length r)
  have hrd := rd_run h m
  rw [← e] at l1 l2
  unfold full
  rw [l1, l2, hrd, ← List.drop_drop, hd, List.drop_left' rfl, List.take_left' rfl, List.take_left' rfl]
  rfl
/-- a run, whatever stands behind -/
theorem get_run {r : Rec} (h : mayB r = true) (m : List UInt8) : getQ (runL r ++ m) = (r, sizeN r, 0) := by
  have hs := may_size h
  have hl : (runL r ++ m).length = sizeN r + m.length := by rw [List.length_append, runL_length]
  unfold getQ
  rw [rd_run h, mayB_blank, h, sizeN_blank, take_head' r m, Cx.right_cover, full_run h, hl, List.take_left' (runL_length r), if_neg (by omega), if_neg (by simp), if_neg (by simp), if_neg (by omega)]
  rw [show Cx.right (runL r) = true from Cx.right_cover _, if_neg (by simp)]
/-- a beginning of it -/
theorem get_torn {r : Rec} (h : mayB r = true) (k : Nat) (hk : k < sizeN r) : getQ ((runL r).take k) = (none, 0, 22) := by
  have hs := may_size h
  have hl : ((runL r).take k).length = k := by rw [List.length_take, runL_length]; omega
  unfold getQ
  rw [hl]
  by_cases h21 : k < 21
  · rw [if_pos h21]
  · have ht := take_head r k [] (by omega)
    rw [List.append_nil] at ht
    rw [if_neg h21, ht, Cx.right_cover, if_neg (by simp), rd_run_take h k (by omega), mayB_blank, h, if_neg (by simp), sizeN_blank, if_pos hk]

/-- the run is turned, bit by bit, beginning at 'first': the whole, and its head -/
def Turns (R : List UInt8) (b : BitVec 32) (first k : Nat) (l : List UInt8) : Prop :=
  Cx.turned R b first k l ∧ (first < 168 → ∃ k', k' ≤ k ∧ (0 < k → 0 < k') ∧ (first + k ≤ 168 → k' = k) ∧ Cx.turned (R.take 21) b first k' (l.take 21)) ∧ (168 ≤ first → l.take 21 = R.take 21)
theorem Turns.zero (R : List UInt8) (b : BitVec 32) (first : Nat) : Turns R b first 0 R :=
  ⟨Cx.turned_zero R b first, fun _ => ⟨0, by omega, by omega, by omega, Cx.turned_zero _ b first⟩, fun _ => rfl⟩
theorem Turns.same {R l : List UInt8} {b : BitVec 32} {first k : Nat} (h : Turns R b first k l) (hk : k < 32) (hb : b.getLsbD k = false) : Turns R b first (k + 1) l := by
  refine ⟨Cx.turned_same h.1 hk hb, fun hf => ?_, h.2.2⟩
  obtain ⟨k', h1, h2, h3, h4⟩ := h.2.1 hf
  by_cases hc : first + k < 168
  · have e := h3 (by omega)
    subst e
    exact ⟨k' + 1, by omega, by omega, by omega, Cx.turned_same h4 hk hb⟩
  · exact ⟨k', by omega, fun _ => h2 (by omega), by omega, h4⟩
theorem Turns.bit {R l : List UInt8} {b : BitVec 32} {first k p q : Nat} {c : UInt8} (h : Turns R b first k l) (hk : k < 32) (hb : b.getLsbD k = true) (hp : l[p]? = some c) (hq : q < 8) (hf : first + k = 8 * p + q) :
    Turns R b first (k + 1) (l.set p (c ^^^ UInt8.ofNat (2 ^ q))) := by
  have hset : (l.set p (c ^^^ UInt8.ofNat (2 ^ q))).take 21 = if p < 21 then (l.take 21).set p (c ^^^ UInt8.ofNat (2 ^ q)) else l.take 21 := by
    split
    · rw [List.take_set]
    · rw [List.take_set, List.set_eq_of_length_le (by rw [List.length_take]; omega)]
  refine ⟨Cx.turned_bit h.1 hk hb hp hq hf, fun hf1 => ?_, fun hf1 => ?_⟩
  · obtain ⟨k', h1, h2, h3, h4⟩ := h.2.1 hf1
    by_cases hc : first + k < 168
    · have e := h3 (by omega)
      subst e
      rw [hset, if_pos (by omega)]
      exact ⟨k' + 1, by omega, by omega, by omega, Cx.turned_bit h4 hk hb (by rw [List.getElem?_take, if_pos (by omega)]; exact hp) hq hf⟩
    · rw [hset, if_neg (by omega)]
      exact ⟨k', by omega, fun _ => h2 (by omega), by omega, h4⟩
  · rw [hset, if_neg (by omega)]
    exact h.2.2 hf1
end Go.Proofs.YtaicibmaogiibaaGreatDoor.Rc

/- LxPure -/

/-
  Layer 3: the contracts of the functions over locs alone.
-/
set_option linter.unusedVariables false
set_option linter.unusedSimpArgs false
namespace Go.Proofs.YtaicibmaogiibaaGreatDoor
open Go.RowKit

/-- '==' of locs -/
theorem run_eql_loc (s o s' o' : Int) (w : World) : (binOp .eql 49 (.agg #[.int .u32 s, .int .u32 o]) (.agg #[.int .u32 s', .int .u32 o'])).run Tryz.prog w = .ok (.bool (decide (s = s' ∧ o = o'))) w := by
  have u := Tryz.underlying23
  have a := Tryz.isAgg23
  have z := Tryz.sizeOf23
  have hS : Tryz.prog.underlying 49 = some (.struct (Tryz.prog.fieldsOf 49)) := by kernel_rfl
  have hp : Tryz.prog.stoodInHeld 49 = false := by kernel_rfl
  rw [run_eql_struct, show (10000 : Nat) = 9999 + 1 from rfl, run_equalIn_agg w 9999 49 _ _ hS hp]
  simp only [Program.fieldsOf, Tryz.underlying49]
  go_simp
  by_cases h1 : s = s' <;> by_cases h2 : o = o' <;> simp [h1, h2]

theorem guard_loc : Tryz.prog.eqGuardType Tryz.prog.depth 49 = false := by kernel_rfl

theorem ret_bool {a b : Bool} (h : a = b) : Ending.returned (.bool a) = .returned (.bool b) := by rw [h]
/-- what a box of two cells holds, a call later -/
theorem box2 {w w1 : World} {x y : Value} {t : TypeId} (hb : Below (w.heap.size + 1) (w.alloc (.cells #[x, y] t)) w1) : w1.cell? ⟨w.heap.size, 0, none⟩ = some x ∧ w1.cell? ⟨w.heap.size, 1, none⟩ = some y := by
  refine ⟨(hb.cell (p := ⟨w.heap.size, 0, none⟩) (by simp)).trans (by simp), (hb.cell (p := ⟨w.heap.size, 1, none⟩) (by simp)).trans (by simp)⟩

theorem none_any (s o : Int) (w : World) :
    Calls Tryz.prog 128 #[lv s o] w fun e w' => e = .returned (.bool (Lx.noneB s o)) ∧ Below w.heap.size w w' := by
  unfold lv
  have he := run_eql_loc
  have hg := guard_loc
  go_enter Tryz.func128, Tryz.ntmps128
  go_wp2
  go_ret
  exact ⟨ret_bool (by unfold Lx.noneB; simp), (Below.refl _ _).alloc (Nat.le_refl _) _⟩

set_option maxRecDepth 100000 in
theorem stands_any (s o : Int) (w : World) (h0 : 0 ≤ s) (h1 : s < 4294967296) (h2 : 0 ≤ o) (h3 : o < 4294967296) :
    Calls Tryz.prog 129 #[lv s o] w fun e w' => e = .returned (.bool (Lx.standsB s o)) ∧ Below w.heap.size w w' := by
  unfold lv
  go_enter Tryz.func129, Tryz.ntmps129
  go_wp2
  all_goals go_ret
  all_goals refine ⟨ret_bool ?_, (Below.refl _ _).alloc (Nat.le_refl _) _⟩
  all_goals (unfold Lx.standsB; rw [Bool.eq_iff_iff]; simp; omega)

theorem bstep {a w w' : World} (h : Below a.heap.size a w) (h' : Below w.heap.size w w') : Below a.heap.size a w' := h.trans (h'.mono h.size)
theorem balloc {a w : World} (h : Below a.heap.size a w) (o : Obj) : Below a.heap.size a (w.alloc o) := h.alloc h.size o
theorem bnew (w : World) (o : Obj) : Below w.heap.size w (w.alloc o) := (Below.refl _ _).alloc (Nat.le_refl _) _

theorem none_b (s o : Int) (w : World) (b : Bool) (h : Lx.noneB s o = b) :
    Calls Tryz.prog 128 #[lv s o] w fun e w' => e = .returned (.bool b) ∧ Below w.heap.size w w' := h ▸ none_any s o w
theorem may_any (s o : Int) (w : World) (h0 : 0 ≤ s) (h1 : s < 4294967296) (h2 : 0 ≤ o) (h3 : o < 4294967296) :
    Calls Tryz.prog 82 #[lv s o] w fun e w' => e = .returned (.bool (Lx.mayB s o)) ∧ Below w.heap.size w w' := by
  cases hn : Lx.noneB s o
  · have hm : Lx.mayB s o = Lx.standsB s o := by simp [Lx.mayB, hn]
    rw [hm]
    have Hn := Lib.hid hn
    clear hn hm
    unfold lv
    go_enter Tryz.func82, Tryz.ntmps82
    go_wp2_with fail
    have b0 := bnew w (.cells #[.int .u32 s, .int .u32 o] 49)
    refine (none_b s o _ false Hn.out).mono ?_
    rintro e w1 ⟨rfl, hb⟩
    have b1 := bstep b0 hb
    simp only [World.size_alloc] at hb
    obtain ⟨c0, c1⟩ := box2 hb
    clear hb b0
    go_wp2_with fail
    refine (stands_any s o _ h0 h1 h2 h3).mono ?_
    rintro e w2 ⟨rfl, hb2⟩
    go_wp2_with fail
    go_ret
    exact ⟨rfl, bstep b1 hb2⟩
  · have hm : Lx.mayB s o = true := by simp [Lx.mayB, hn]
    rw [hm]
    have Hn := Lib.hid hn
    clear hn hm
    unfold lv
    go_enter Tryz.func82, Tryz.ntmps82
    go_wp2_with fail
    have b0 := bnew w (.cells #[.int .u32 s, .int .u32 o] 49)
    refine (none_b s o _ true Hn.out).mono ?_
    rintro e w1 ⟨rfl, hb⟩
    have b1 := bstep b0 hb
    clear hb b0
    go_wp2_with fail
    go_ret
    exact ⟨rfl, b1⟩
theorem may_b (s o : Int) (w : World) (h0 : 0 ≤ s) (h1 : s < 4294967296) (h2 : 0 ≤ o) (h3 : o < 4294967296) (b : Bool) (h : Lx.mayB s o = b) :
    Calls Tryz.prog 82 #[lv s o] w fun e w' => e = .returned (.bool b) ∧ Below w.heap.size w w' := h ▸ may_any s o w h0 h1 h2 h3

end Go.Proofs.YtaicibmaogiibaaGreatDoor

/- KyMem -/

/-
  Layer 4: the walks of May, MayValue, MayName, word.
-/
set_option linter.unusedVariables false
set_option linter.unusedSimpArgs false
namespace Go.Proofs.YtaicibmaogiibaaGreatDoor
open Go.RowKit

theorem may_yes (A : Option Addr) (n c : Nat) (w : World) (h0 : 0 < n) (h1 : n ≤ 64) :
    Calls Tryz.prog 81 #[.slice A n c] w fun e w' => e = .returned (.bool true) ∧ w = w' := by
  have d0 : (1 : Int) ≤ n := by omega
  have d1 : (n : Int) ≤ 64 := by omega
  go_enter Tryz.func81, Tryz.ntmps81
  go_wp2
  go_ret
  exact ⟨rfl, rfl⟩
theorem may_no (A : Option Addr) (n c : Nat) (w : World) (h : n = 0 ∨ 64 < n) (hb : n ≤ 9223372036854775807) :
    Calls Tryz.prog 81 #[.slice A n c] w fun e w' => e = .returned (.bool false) ∧ w = w' := by
  rcases h with rfl | h
  · go_enter Tryz.func81, Tryz.ntmps81
    go_wp2
    go_ret
    exact ⟨rfl, rfl⟩
  · have d0 : (1 : Int) ≤ n := by omega
    have d1 : decide ((n : Int) ≤ 64) = false := by simp; omega
    go_enter Tryz.func81, Tryz.ntmps81
    go_wp2
    go_ret
    exact ⟨rfl, rfl⟩
/-- 's[:k]' of bytes -/
theorem kcut_h (A : Option Addr) (n c k : Nat) (hk : k ≤ n) (hn : n ≤ c) : ∃ A' c', (∀ w, (Instr.sliceAt 47 (.slice A n c) none (some (.int .i64 (k : Int))) none).run Tryz.prog w = .ok (.slice A' k c') w) ∧
    k ≤ c' ∧ ∀ w B l, l.length = n → Rd w B A (bvs l) → Rd w B A' (bvs (l.take k)) := by
  refine ⟨if c = 0 then A else A.map (·.add 0), c, fun w => ?_, by omega, fun w B l hl hr => ?_⟩
  · rw [run_sliceAt_slice _ 47 _ _ _ _ elBytes, run_slice_h _ 47 A n c elBytes .i64 k (by omega) (by omega)]
    have : (sizeOf (Tryz.prog.elem 47)).run Tryz.prog w = .ok 1 w := by kernel_rfl
    rw [this]
    simp [Result.andThen, sliced]
  · rw [bvs_take]
    have := (hr.cut (k := 0) (cap := c) (by rw [bvs_length]; omega)).take k
    simpa using this
/-- a row as a value that can be handed in -/
theorem may_yes_b (v : Value) (l : List UInt8) (B : Nat) (w : World) (h : Bs w B v l) (h0 : 0 < l.length) (h1 : l.length ≤ 64) :
    Calls Tryz.prog 81 #[v] w fun e w' => e = .returned (.bool true) ∧ w = w' := by
  obtain ⟨A, c, rfl, hc, hr⟩ := h
  exact may_yes _ _ _ _ h0 h1
theorem may_no_b (v : Value) (l : List UInt8) (B : Nat) (w : World) (h : Bs w B v l) (h0 : l.length = 0 ∨ 64 < l.length) (h1 : l.length ≤ 9223372036854775807) :
    Calls Tryz.prog 81 #[v] w fun e w' => e = .returned (.bool false) ∧ w = w' := by
  obtain ⟨A, c, rfl, hc, hr⟩ := h
  exact may_no _ _ _ _ h0 h1
theorem mayValue_any (A : Option Addr) (n c : Nat) (w : World) (b : Bool) (hd : decide ((n : Int) ≤ 1024) = b) (hb : n ≤ 9223372036854775807) :
    Calls Tryz.prog 80 #[.slice A n c] w fun e w' => e = .returned (.bool b) ∧ w = w' := by
  have Hd := Lib.hid hd
  clear hd
  go_enter Tryz.func80, Tryz.ntmps80
  go_wp2
  go_ret
  exact ⟨by rw [← Hd.out]; rfl, rfl⟩
end Go.Proofs.YtaicibmaogiibaaGreatDoor

/- RcMem -/

/-
  Layer 8: records as values; the walks of May, Size, Same.
-/
set_option linter.unusedVariables false
set_option linter.unusedSimpArgs false
namespace Go.Proofs.YtaicibmaogiibaaGreatDoor
open Go.RowKit

/-- a record as a value -/
def recV (seq kind : Int) (kv vv : Value) (seg off : Int) : Value := .agg #[.int .u64 seq, .int .i64 kind, kv, vv, .int .u32 seg, .int .u32 off]
/-- numbers that their types have -/
structure Rc.Fit (r : Rc.Rec) : Prop where
  seq0 : 0 ≤ r.seq
  seq1 : r.seq < 18446744073709551616
  kind0 : -9223372036854775808 ≤ r.kind
  kind1 : r.kind < 9223372036854775808
  seg0 : 0 ≤ r.seg
  seg1 : r.seg < 4294967296
  off0 : 0 ≤ r.off
  off1 : r.off < 4294967296
  key1 : r.key.length ≤ 9223372036854775807
  val1 : r.val.length ≤ 9223372036854775807
theorem Rc.fit_may {r : Rc.Rec} (h : Rc.mayB r = true) : Rc.Fit r := by
  have := Rc.may_bounds h
  constructor <;> omega
/-- the value v is the record r -/
def RecV (w : World) (B : Nat) (v : Value) (r : Rc.Rec) : Prop := ∃ kv vv, v = recV r.seq r.kind kv vv r.seg r.off ∧ Bs w B kv r.key ∧ Bs w B vv r.val
section
variable {w w' : World} {B B' : Nat} {v : Value} {r : Rc.Rec}
theorem RecV.mono (h : RecV w B v r) (hB : B ≤ B') : RecV w B' v r := by
  obtain ⟨kv, vv, e, h1, h2⟩ := h
  exact ⟨kv, vv, e, h1.mono hB, h2.mono hB⟩
theorem RecV.below {C : Nat} (h : RecV w B v r) (hb : Below C w w') (hC : B ≤ C) : RecV w' B v r := by
  obtain ⟨kv, vv, e, h1, h2⟩ := h
  exact ⟨kv, vv, e, h1.below hb hC, h2.below hb hC⟩
theorem RecV.on (h : RecV w w.heap.size v r) (hb : Below w.heap.size w w') : RecV w' w'.heap.size v r := (h.below hb (Nat.le_refl _)).mono hb.size
theorem RecV.none_ : RecV w B (recV 0 0 (.slice Option.none 0 0) (.slice Option.none 0 0) 0 0) Rc.none := ⟨_, _, rfl, Bs.none_, Bs.none_⟩
end

/-- what a box of a record holds, a call later -/
theorem box6 {w w1 : World} {C : Nat} {x0 x1 x2 x3 x4 x5 : Value} {t : TypeId} (hb : Below C (w.alloc (.cells #[x0, x1, x2, x3, x4, x5] t)) w1) (hC : w.heap.size < C) :
    w1.cell? ⟨w.heap.size, 0, none⟩ = some x0 ∧ w1.cell? ⟨w.heap.size, 1, none⟩ = some x1 ∧ w1.cell? ⟨w.heap.size, 2, none⟩ = some x2 ∧ w1.cell? ⟨w.heap.size, 3, none⟩ = some x3 ∧ w1.cell? ⟨w.heap.size, 4, none⟩ = some x4 ∧ w1.cell? ⟨w.heap.size, 5, none⟩ = some x5 := by
  refine ⟨?_, ?_, ?_, ?_, ?_, ?_⟩
  all_goals exact (hb.cell (p := ⟨w.heap.size, _, none⟩) hC).trans (by simp)
theorem box6f {w w1 : World} {C : Nat} {x0 x1 x2 x3 x4 x5 : Value} {t : TypeId} (hb : Below C (w.alloc (.cells #[x0, x1, x2, x3, x4, x5] t)) w1) (hC : w.heap.size < C) :
    w1.frozen? ⟨w.heap.size, 0, none⟩ = false ∧ w1.frozen? ⟨w.heap.size, 1, none⟩ = false ∧ w1.frozen? ⟨w.heap.size, 2, none⟩ = false ∧ w1.frozen? ⟨w.heap.size, 3, none⟩ = false ∧ w1.frozen? ⟨w.heap.size, 4, none⟩ = false ∧ w1.frozen? ⟨w.heap.size, 5, none⟩ = false := by
  refine ⟨?_, ?_, ?_, ?_, ?_, ?_⟩
  all_goals exact (hb.frozen (p := ⟨w.heap.size, _, none⟩) hC).trans (by simp)

/-- the closure -/
theorem wrong_any (r : Rc.Rec) (w : World) (b B : Nat) (vv : Value) (c1 : w.cell? ⟨b, 1, none⟩ = some (.int .i64 r.kind)) (c3 : w.cell? ⟨b, 3, none⟩ = some vv) (hv : Bs w B vv r.val) (hl : r.val.length ≤ 9223372036854775807) :
    Calls Tryz.prog 79 #[.pointer (some ⟨b, 0, none⟩)] w fun e w' => e = .returned (.bool (!Rc.kindB r)) ∧ w = w' := by
  obtain ⟨A, c, rfl, _, _⟩ := hv
  generalize hn : r.val.length = n at *
  by_cases k1 : r.kind = 1
  · rw [k1] at c1
    obtain ⟨q, hq⟩ : ∃ q, decide ((n : Int) ≤ 1024) = q := ⟨_, rfl⟩
    have hr : Rc.kindB r = q := by unfold Rc.kindB; rw [← hq, k1, hn, Bool.eq_iff_iff]; simp; omega
    rw [hr]
    have hc := mayValue_any A n c w q hq (by omega)
    clear hr hq
    go_enter Tryz.func79, Tryz.ntmps79
    go_wp2_with fail
    refine hc.mono ?_
    rintro e w1 ⟨rfl, rfl⟩
    go_wp2_with fail
    go_ret
    exact ⟨rfl, rfl⟩
  · by_cases k2 : r.kind = 2
    · rw [k2] at c1
      have hr : (!Rc.kindB r) = ((n : Int) != 0) := by unfold Rc.kindB; rw [k2, hn, Bool.eq_iff_iff]; simp
      rw [hr]
      clear hr
      go_enter Tryz.func79, Tryz.ntmps79
      go_wp2_with fail
      go_ret
      exact ⟨rfl, rfl⟩
    · have hr : (!Rc.kindB r) = true := by unfold Rc.kindB; simp [k1, k2]
      rw [hr]
      have e1 : (r.kind == 1) = false := by simp [k1]
      have e2 : (r.kind == 2) = false := by simp [k2]
      clear hr
      go_enter Tryz.func79, Tryz.ntmps79
      go_wp2_with fail
      go_ret
      exact ⟨rfl, rfl⟩

theorem may_false {r : Rc.Rec} (h : decide (1 ≤ r.seq) = false ∨ decide (r.seq ≤ 1099511627776) = false ∨ (r.key.length = 0 ∨ 64 < r.key.length) ∨ Lx.mayB r.seg r.off = false ∨ Rc.kindB r = false) : Rc.mayB r = false := by
  rcases h with h | h | h | h | h
  · simp [Rc.mayB] at h ⊢; omega
  · simp [Rc.mayB] at h ⊢; omega
  · unfold Rc.mayB
    have : decide (1 ≤ r.key.length ∧ r.key.length ≤ 64) = false := by simp; omega
    rw [this]; simp
  · unfold Rc.mayB; rw [h]; simp
  · unfold Rc.mayB; rw [h]; simp
theorem rmay_v (r : Rc.Rec) (w : World) (kv vv : Value) (hk : Bs w w.heap.size kv r.key) (hv : Bs w w.heap.size vv r.val) (f : Rc.Fit r) :
    Calls Tryz.prog 31 #[recV r.seq r.kind kv vv r.seg r.off] w fun e w' => e = .returned (.bool (Rc.mayB r)) ∧ Below w.heap.size w w' := by
  have b0 := bnew w (.cells #[.int .u64 r.seq, .int .i64 r.kind, kv, vv, .int .u32 r.seg, .int .u32 r.off] 51)
  have f0 := f.seq0
  have f1 := f.seq1
  by_cases s1 : 1 ≤ r.seq
  · by_cases s2 : r.seq ≤ 1099511627776
    · by_cases s3 : 1 ≤ r.key.length ∧ r.key.length ≤ 64
      · cases s4 : Lx.mayB r.seg r.off
        · rw [may_false (.inr (.inr (.inr (.inl s4))))]
          have S4 := Lib.hid s4
          clear s4
          unfold recV
          go_enter Tryz.func31, Tryz.ntmps31
          go_wp2_with fail
          refine (may_yes_b _ _ _ _ (hk.alloc (Nat.le_refl _) _) s3.1 s3.2).mono ?_
          rintro e w1 ⟨rfl, rfl⟩
          go_wp2_with fail
          refine (may_b _ _ _ f.seg0 f.seg1 f.off0 f.off1 _ S4.out).mono ?_
          rintro e w1 ⟨rfl, b1⟩
          go_wp2_with fail
          go_ret
          exact ⟨rfl, bstep b0 b1⟩
        · have hm : Rc.mayB r = Rc.kindB r := by
            unfold Rc.mayB
            rw [s4, show decide (1 ≤ r.seq ∧ r.seq ≤ 1099511627776) = true by simp; omega, show decide (1 ≤ r.key.length ∧ r.key.length ≤ 64) = true by simp; omega]
            simp
          rw [hm]
          have S4 := Lib.hid s4
          clear s4 hm
          unfold recV
          go_enter Tryz.func31, Tryz.ntmps31
          go_wp2_with fail
          refine (may_yes_b _ _ _ _ (hk.alloc (Nat.le_refl _) _) s3.1 s3.2).mono ?_
          rintro e w1 ⟨rfl, rfl⟩
          go_wp2_with fail
          refine (may_b _ _ _ f.seg0 f.seg1 f.off0 f.off1 _ S4.out).mono ?_
          rintro e w1 ⟨rfl, b1⟩
          go_wp2_with fail
          obtain ⟨c0, c1, c2, c3, c4, c5⟩ := box6 b1 (by simp)
          refine (wrong_any r _ _ _ vv c1 c3 ((hv.below b0 (Nat.le_refl _)).below b1 (by simp)) f.val1).mono ?_
          rintro e w2 ⟨rfl, rfl⟩
          go_wp2_with fail
          go_ret
          exact ⟨ret_bool (by simp), bstep b0 b1⟩
      · rw [may_false (.inr (.inr (.inl (by omega))))]
        have s4 : r.key.length = 0 ∨ 64 < r.key.length := by omega
        unfold recV
        go_enter Tryz.func31, Tryz.ntmps31
        go_wp2_with fail
        refine (may_no_b _ _ _ _ (hk.alloc (Nat.le_refl _) _) s4 (by have := f.key1; omega)).mono ?_
        rintro e w1 ⟨rfl, rfl⟩
        go_wp2_with fail
        go_ret
        exact ⟨rfl, b0⟩
    · have d2 : decide (r.seq ≤ 1099511627776) = false := by simp; omega
      rw [may_false (.inr (.inl d2))]
      unfold recV
      go_enter Tryz.func31, Tryz.ntmps31
      go_wp2_with fail
      go_ret
      exact ⟨rfl, b0⟩
  · have d1 : decide (1 ≤ r.seq) = false := by simp; omega
    rw [may_false (.inl d1)]
    unfold recV
    go_enter Tryz.func31, Tryz.ntmps31
    go_wp2_with fail
    go_ret
    exact ⟨rfl, b0⟩
theorem rmay_b (v : Value) (r : Rc.Rec) (B : Nat) (w : World) (h : RecV w B v r) (hB : B ≤ w.heap.size) (f : Rc.Fit r) :
    Calls Tryz.prog 31 #[v] w fun e w' => e = .returned (.bool (Rc.mayB r)) ∧ Below w.heap.size w w' := by
  obtain ⟨kv, vv, rfl, h1, h2⟩ := h.mono hB
  exact rmay_v r w kv vv h1 h2 f

/-- Size -/
theorem rsize_b (v : Value) (r : Rc.Rec) (B : Nat) (w : World) (h : RecV w B v r) (f1 : r.key.length ≤ 100000) (f2 : r.val.length ≤ 100000) :
    Calls Tryz.prog 89 #[v] w fun e w' => e = .returned (.int .i64 (Rc.sizeN r : Nat)) ∧ Below w.heap.size w w' := by
  obtain ⟨kv, vv, rfl, ⟨A, c, rfl, _, _⟩, ⟨A', c', rfl, _, _⟩⟩ := h
  have b0 := bnew w (.cells #[.int .u64 r.seq, .int .i64 r.kind, .slice A r.key.length c, .slice A' r.val.length c', .int .u32 r.seg, .int .u32 r.off] 51)
  unfold recV Rc.sizeN
  go_enter Tryz.func89, Tryz.ntmps89
  go_wp2_with fail
  go_ret
  exact ⟨ret_int (by omega), b0⟩
end Go.Proofs.YtaicibmaogiibaaGreatDoor

/- RcHead -/

/-
  Layer 8: the walk of head.
-/
set_option linter.unusedVariables false
set_option linter.unusedSimpArgs false
namespace Go.Proofs.YtaicibmaogiibaaGreatDoor
open Go.RowKit

/-- the table, read as a whole -/
theorem width_at (i : Nat) (z n : Int) (hz : z = i) (h : [(1 : Int), 1, 2, 6, 3, 4][i]? = some n) (w : World) : (Instr.index 180 (.agg #[.int .i64 1, .int .i64 1, .int .i64 2, .int .i64 6, .int .i64 3, .int .i64 4]) (.int .i64 z)).run Tryz.prog w = .ok (.int .i64 n) w := by
  subst hz
  rcases i with _ | _ | _ | _ | _ | _ | i
  · cases h; kernel_rfl
  · cases h; kernel_rfl
  · cases h; kernel_rfl
  · cases h; kernel_rfl
  · cases h; kernel_rfl
  · cases h; kernel_rfl
  · simp at h
/-- the table of the fields' widths -/
def WTab (w : World) : Prop := w.cell? ⟨0, 0, none⟩ = some (.int .i64 1) ∧ w.cell? ⟨0, 1, none⟩ = some (.int .i64 1) ∧ w.cell? ⟨0, 2, none⟩ = some (.int .i64 2) ∧
  w.cell? ⟨0, 3, none⟩ = some (.int .i64 6) ∧ w.cell? ⟨0, 4, none⟩ = some (.int .i64 3) ∧ w.cell? ⟨0, 5, none⟩ = some (.int .i64 4)
theorem WTab.lt {w : World} (h : WTab w) : 0 < w.heap.size := block_lt_of_cell h.1
theorem WTab.on {w w' : World} (h : WTab w) (hb : Below w.heap.size w w') : WTab w' := by
  have hl := h.lt
  obtain ⟨h0, h1, h2, h3, h4, h5⟩ := h
  exact ⟨(hb.cell (p := ⟨_, 0, none⟩) hl).trans h0, (hb.cell (p := ⟨_, 1, none⟩) hl).trans h1, (hb.cell (p := ⟨_, 2, none⟩) hl).trans h2, (hb.cell (p := ⟨_, 3, none⟩) hl).trans h3, (hb.cell (p := ⟨_, 4, none⟩) hl).trans h4, (hb.cell (p := ⟨_, 5, none⟩) hl).trans h5⟩

theorem row_step {base n : Nat} {w w' : World} {v : Value} {l : List (Nat × Nat)} {p : Nat × Nat} {m : Nat} (hb : base ≤ w.heap.size) (hm : m = n + p.2)
    (h : w'.ownsRow w.heap.size 5 1 v (n + p.2) (bvs (Rc.rowL l ++ Px.leL p.1 p.2))) : w'.ownsRow base 5 1 v m (bvs (Rc.rowL (l ++ [p]))) := by
  subst hm
  rw [Rc.rowL_snoc]
  exact own_base h hb

set_option maxRecDepth 100000 in
set_option maxHeartbeats 4000000 in
theorem rhead_b (v : Value) (r : Rc.Rec) (B : Nat) (w : World) (h : RecV w B v r) (hm : Rc.mayB r = true) (ht : WTab w) :
    Calls Tryz.prog 93 #[v] w fun e w' => ∃ v', e = .returned v' ∧ w'.ownsRow w.heap.size 5 1 v' 17 (bvs (Rc.headL r)) ∧ Below w.heap.size w w' := by
  obtain ⟨kv, vv, rfl, ⟨A, c, rfl, _, _⟩, ⟨A', c', rfl, _, _⟩⟩ := h
  obtain ⟨h1, h2, h3, h4, h5, h6, h7, h8, h9, h10, h11⟩ := Rc.may_bounds hm
  obtain ⟨ht0, ht1, ht2, ht3, ht4, ht5⟩ := ht
  have hlt : 0 < w.heap.size := block_lt_of_cell ht0
  obtain ⟨seq, hseq⟩ := Int.eq_ofNat_of_zero_le (show 0 ≤ r.seq by omega)
  obtain ⟨kind, hkind⟩ := Int.eq_ofNat_of_zero_le (show 0 ≤ r.kind by omega)
  obtain ⟨seg, hseg⟩ := Int.eq_ofNat_of_zero_le (show 0 ≤ r.seg by omega)
  obtain ⟨off, hoff⟩ := Int.eq_ofNat_of_zero_le (show 0 ≤ r.off by omega)
  have hT : Hid (Rc.headL r = Rc.rowL [(kind, 1), (r.key.length, 1), (r.val.length, 2), (seq, 6), (seg, 3), (off, 4)]) := Lib.hid (by
    unfold Rc.headL Rc.told
    rw [hseq, hkind, hseg, hoff]
    rfl)
  unfold recV
  rw [hseq, hkind, hseg, hoff]
  rw [hseq] at h1 h2
  rw [hkind] at h9 h10
  rw [hseg] at h5 h6
  rw [hoff] at h7 h8
  clear hseq hkind hseg hoff hm
  generalize r.key.length = kl at *
  generalize r.val.length = vl at *
  go_enter Tryz.func93, Tryz.ntmps93
  go_wp2_with fail
  have b0 := balloc (bnew w (.cells #[.int .u64 (seq : Int), .int .i64 (kind : Int), .slice A kl c, .slice A' vl c', .int .u32 (seg : Int), .int .u32 (off : Int)] 51)) (.cells #[.int .u64 (kind : Int), .int .u64 (kl : Int), .int .u64 (vl : Int), .int .u64 (seq : Int), .int .u64 (seg : Int), .int .u64 (off : Int)] 132)
  clear ht0 ht1 ht2 ht3 ht4 ht5
  go_loopg [4, 30] 6 (fun k o i wr => ∃ j : Nat, j + k = 6 ∧ i = .int .i64 j ∧ wr.ownsRow w.heap.size 5 1 o (Rc.rowL ([(kind, 1), (kl, 1), (vl, 2), (seq, 6), (seg, 3), (off, 4)].take j)).length (bvs (Rc.rowL ([(kind, 1), (kl, 1), (vl, 2), (seq, 6), (seg, 3), (off, 4)].take j))) ∧ Below w.heap.size w wr ∧
    Below (w.heap.size + 1 + 1) ((w.alloc (.cells #[.int .u64 (seq : Int), .int .i64 (kind : Int), .slice A kl c, .slice A' vl c', .int .u32 (seg : Int), .int .u32 (off : Int)] 51)).alloc (.cells #[.int .u64 (kind : Int), .int .u64 (kl : Int), .int .u64 (vl : Int), .int .u64 (seq : Int), .int .u64 (seg : Int), .int .u64 (off : Int)] 132)) wr)
  case atStart => exact ⟨0, by omega, rfl, World.ownsRow_nil _ _ _ _, b0, Below.refl _ _⟩
  case round =>
    obtain ⟨j, hj, rfl, hown, hb, hb2⟩ := hrel
    by_cases hlt : j < 6
    · obtain ⟨c0, c1, c2, c3, c4, c5⟩ := box6 hb2 (by simp)
      simp only [World.size_alloc] at c0 c1 c2 c3 c4 c5
      have hsz := hb.size
      have hsz2 := hb2.size
      simp only [World.size_alloc] at hsz2
      have Hown := Lib.hid hown
      have Hb := Lib.hid hb
      have Hb2 := Lib.hid hb2
      clear hown hb hb2 b0
      have hjj : j = 0 ∨ j = 1 ∨ j = 2 ∨ j = 3 ∨ j = 4 ∨ j = 5 := by omega
      rcases hjj with rfl | rfl | rfl | rfl | rfl | rfl
      · have hx := width_at 0 0 1 rfl rfl
        go_wp2_with fail
        refine (fixed_b _ (Rc.rowL ([(kind, 1), (kl, 1), (vl, 2), (seq, 6), (seg, 3), (off, 4)].take 0)) kind 1 _ (Bs.of_own Hown.out) (by omega) (by omega) (by omega) (by omega) (Int.ediv_eq_zero_of_lt (by omega) (by simp; omega)) (by simp [Rc.rowL, Px.leL_length])).mono ?_
        rintro e w1 ⟨v2, rfl, hown2, b2⟩
        go_wp2_with fail
        go_roundg (gk - 1)
        case measure => omega
        case rel => exact ⟨1, by omega, by go_num, row_step (p := (kind, 1)) (l := [(kind, 1), (kl, 1), (vl, 2), (seq, 6), (seg, 3), (off, 4)].take 0) hsz (by simp [Rc.rowL, Px.leL_length]) hown2, bstep Hb.out b2, Hb2.out.trans (b2.mono hsz2)⟩
      · have hx := width_at 1 1 1 rfl rfl
        go_wp2_with fail
        refine (fixed_b _ (Rc.rowL ([(kind, 1), (kl, 1), (vl, 2), (seq, 6), (seg, 3), (off, 4)].take 1)) kl 1 _ (Bs.of_own Hown.out) (by omega) (by omega) (by omega) (by omega) (Int.ediv_eq_zero_of_lt (by omega) (by simp; omega)) (by simp [Rc.rowL, Px.leL_length])).mono ?_
        rintro e w1 ⟨v2, rfl, hown2, b2⟩
        go_wp2_with fail
        go_roundg (gk - 1)
        case measure => omega
        case rel => exact ⟨2, by omega, by go_num, row_step (p := (kl, 1)) (l := [(kind, 1), (kl, 1), (vl, 2), (seq, 6), (seg, 3), (off, 4)].take 1) hsz (by simp [Rc.rowL, Px.leL_length]) hown2, bstep Hb.out b2, Hb2.out.trans (b2.mono hsz2)⟩
      · have hx := width_at 2 2 2 rfl rfl
        go_wp2_with fail
        refine (fixed_b _ (Rc.rowL ([(kind, 1), (kl, 1), (vl, 2), (seq, 6), (seg, 3), (off, 4)].take 2)) vl 2 _ (Bs.of_own Hown.out) (by omega) (by omega) (by omega) (by omega) (Int.ediv_eq_zero_of_lt (by omega) (by simp; omega)) (by simp [Rc.rowL, Px.leL_length])).mono ?_
        rintro e w1 ⟨v2, rfl, hown2, b2⟩
        go_wp2_with fail
        go_roundg (gk - 1)
        case measure => omega
        case rel => exact ⟨3, by omega, by go_num, row_step (p := (vl, 2)) (l := [(kind, 1), (kl, 1), (vl, 2), (seq, 6), (seg, 3), (off, 4)].take 2) hsz (by simp [Rc.rowL, Px.leL_length]) hown2, bstep Hb.out b2, Hb2.out.trans (b2.mono hsz2)⟩
      · have hx := width_at 3 3 6 rfl rfl
        go_wp2_with fail
        refine (fixed_b _ (Rc.rowL ([(kind, 1), (kl, 1), (vl, 2), (seq, 6), (seg, 3), (off, 4)].take 3)) seq 6 _ (Bs.of_own Hown.out) (by omega) (by omega) (by omega) (by omega) (Int.ediv_eq_zero_of_lt (by omega) (by simp; omega)) (by simp [Rc.rowL, Px.leL_length])).mono ?_
        rintro e w1 ⟨v2, rfl, hown2, b2⟩
        go_wp2_with fail
        go_roundg (gk - 1)
        case measure => omega
        case rel => exact ⟨4, by omega, by go_num, row_step (p := (seq, 6)) (l := [(kind, 1), (kl, 1), (vl, 2), (seq, 6), (seg, 3), (off, 4)].take 3) hsz (by simp [Rc.rowL, Px.leL_length]) hown2, bstep Hb.out b2, Hb2.out.trans (b2.mono hsz2)⟩
      · have hx := width_at 4 4 3 rfl rfl
        go_wp2_with fail
        refine (fixed_b _ (Rc.rowL ([(kind, 1), (kl, 1), (vl, 2), (seq, 6), (seg, 3), (off, 4)].take 4)) seg 3 _ (Bs.of_own Hown.out) (by omega) (by omega) (by omega) (by omega) (Int.ediv_eq_zero_of_lt (by omega) (by simp; omega)) (by simp [Rc.rowL, Px.leL_length])).mono ?_
        rintro e w1 ⟨v2, rfl, hown2, b2⟩
        go_wp2_with fail
        go_roundg (gk - 1)
        case measure => omega
        case rel => exact ⟨5, by omega, by go_num, row_step (p := (seg, 3)) (l := [(kind, 1), (kl, 1), (vl, 2), (seq, 6), (seg, 3), (off, 4)].take 4) hsz (by simp [Rc.rowL, Px.leL_length]) hown2, bstep Hb.out b2, Hb2.out.trans (b2.mono hsz2)⟩
      · have hx := width_at 5 5 4 rfl rfl
        go_wp2_with fail
        refine (fixed_b _ (Rc.rowL ([(kind, 1), (kl, 1), (vl, 2), (seq, 6), (seg, 3), (off, 4)].take 5)) off 4 _ (Bs.of_own Hown.out) (by omega) (by omega) (by omega) (by omega) (Int.ediv_eq_zero_of_lt (by omega) (by simp; omega)) (by simp [Rc.rowL, Px.leL_length])).mono ?_
        rintro e w1 ⟨v2, rfl, hown2, b2⟩
        go_wp2_with fail
        go_roundg (gk - 1)
        case measure => omega
        case rel => exact ⟨6, by omega, by go_num, row_step (p := (off, 4)) (l := [(kind, 1), (kl, 1), (vl, 2), (seq, 6), (seg, 3), (off, 4)].take 5) hsz (by simp [Rc.rowL, Px.leL_length]) hown2, bstep Hb.out b2, Hb2.out.trans (b2.mono hsz2)⟩
    · obtain rfl : j = 6 := by omega
      go_wp2_with fail
      go_ret
      refine ⟨_, rfl, ?_, hb⟩
      rw [hT.out]
      have e : (Rc.rowL [(kind, 1), (kl, 1), (vl, 2), (seq, 6), (seg, 3), (off, 4)]).length = 17 := by simp [Rc.rowL, Px.leL_length]
      have h6 : [(kind, 1), (kl, 1), (vl, 2), (seq, 6), (seg, 3), (off, 4)].take 6 = [(kind, 1), (kl, 1), (vl, 2), (seq, 6), (seg, 3), (off, 4)] := rfl
      rw [h6, e] at hown
      exact hown
end Go.Proofs.YtaicibmaogiibaaGreatDoor

/- RcPut -/

/-
  Layer 8: the walk of Put.
-/
set_option linter.unusedVariables false
set_option linter.unusedSimpArgs false
namespace Go.Proofs.YtaicibmaogiibaaGreatDoor
open Go.RowKit

/-- the tables lie where they were laid -/
def RTab (w : World) : Prop := Crc.Tab w ∧ WTab w
theorem RTab.on {w w' : World} (h : RTab w) (hb : Below w.heap.size w w') : RTab w' := ⟨h.1.on hb, h.2.on hb⟩

theorem rput_no (v : Value) (r : Rc.Rec) (B : Nat) (w : World) (h : RecV w B v r) (hB : B ≤ w.heap.size) (f : Rc.Fit r) (hm : Rc.mayB r = false) :
    Calls Tryz.prog 44 #[v] w fun e w' => e = .returned (.tuple #[.slice none 0 0, .int .i64 1]) ∧ Below w.heap.size w w' := by
  obtain ⟨kv, vv, rfl, h1, h2⟩ := h.mono hB
  have b0 := bnew w (.cells #[.int .u64 r.seq, .int .i64 r.kind, kv, vv, .int .u32 r.seg, .int .u32 r.off] 51)
  have hc := rmay_b _ r _ _ ((show RecV w w.heap.size (recV r.seq r.kind kv vv r.seg r.off) r from ⟨_, _, rfl, h1, h2⟩).below b0 (Nat.le_refl _)) (by simp) f
  rw [hm] at hc
  unfold recV at hc ⊢
  clear hm
  go_enter Tryz.func44, Tryz.ntmps44
  go_wp2_with fail
  refine hc.mono ?_
  rintro e w1 ⟨rfl, b1⟩
  go_wp2_with fail
  go_ret2
  exact ⟨rfl, bstep b0 b1⟩

set_option maxRecDepth 100000 in
set_option maxHeartbeats 4000000 in
theorem rput_ok (v : Value) (r : Rc.Rec) (B : Nat) (w : World) (h : RecV w B v r) (hB : B ≤ w.heap.size) (hm : Rc.mayB r = true) (ht : RTab w) :
    Calls Tryz.prog 44 #[v] w fun e w' => ∃ v', e = .returned (.tuple #[v', .int .i64 0]) ∧ w'.ownsRow w.heap.size 5 1 v' (Rc.sizeN r) (bvs (Rc.runL r)) ∧ Below w.heap.size w w' := by
  obtain ⟨i0, hi0, hz0, hz1, hz2⟩ := info_parts byte_info
  have f := Rc.fit_may hm
  obtain ⟨kv, vv, rfl, h1, h2⟩ := h.mono hB
  have b0 := bnew w (.cells #[.int .u64 r.seq, .int .i64 r.kind, kv, vv, .int .u32 r.seg, .int .u32 r.off] 51)
  have hR := Lib.hid ((show RecV w w.heap.size (recV r.seq r.kind kv vv r.seg r.off) r from ⟨_, _, rfl, h1, h2⟩).on b0)
  have hc := rmay_b _ r _ _ hR.out (Nat.le_refl _) f
  rw [hm] at hc
  have Hm := Lib.hid hm
  have Ht0 := Lib.hid ht
  have Ht := Lib.hid (ht.on b0)
  have H1 := Lib.hid h1
  have H2 := Lib.hid h2
  have hbd := Rc.may_bounds hm
  have hkl := hbd.2.2.2.1
  have hvl := hbd.2.2.2.2.2.2.2.2.2.2
  clear hm ht h1 h2 h hbd
  unfold recV at hc hR ⊢
  go_enter Tryz.func44, Tryz.ntmps44
  go_wp2_with fail
  refine hc.mono ?_
  rintro e w1 ⟨rfl, b1⟩
  obtain ⟨c0, c1, c2, c3, c4, c5⟩ := box6 b1 (by simp)
  have Ht1 := Lib.hid (Ht.out.on b1)
  have hR1 := Lib.hid (hR.out.on b1)
  have hb1 := bstep b0 b1
  go_wp2_with fail
  refine (rhead_b _ r _ _ hR1.out Hm.out Ht1.out.2).mono ?_
  rintro e w2 ⟨v2, rfl, hown2, b2⟩
  have hs2 := Bs.of_own hown2
  have Ht2 := Lib.hid (Ht1.out.on b2)
  go_wp2_with fail
  refine (Crc.cover_b _ _ _ hs2 Ht2.out.1 (by rw [Rc.headL_length]; omega)).mono ?_
  rintro e w3 ⟨v3, rfl, hown3, b3⟩
  have Ht3 := Lib.hid (Ht2.out.on b3)
  have hb3 := bstep (bstep hb1 b2) b3
  have hb13 := bstep (bstep b1 b2) b3
  obtain ⟨d0, d1, d2, d3, d4, d5⟩ := box6 hb13 (by simp)
  have H1' := H1.out.below hb3 (Nat.le_refl _)
  have H2' := H2.out.below hb3 (Nat.le_refl _)
  obtain ⟨A, c, rfl, hkc, hrk⟩ := H1'
  obtain ⟨A', c', rfl, hvc, hrv⟩ := H2'
  rw [Rc.headL_length] at hown3
  simp only [World.size_alloc] at hb13
  have hsz2 : w.heap.size + 1 ≤ w2.heap.size := by have := (bstep b1 b2).size; simpa using this
  have hown3' := own_base (base' := w.heap.size + 1) hown3 hsz2
  have hsz3 := hb13.size
  simp only [World.size_alloc] at hsz3
  have HB13 := Lib.hid hb13
  have HB3 := Lib.hid hb3
  clear hown2 hown3 hs2 c0 c1 c2 c3 c4 c5 hb13 hb3 hb1 b1 b2 b3 b0
  go_wp2_with (first
    | (at_builtin; (refine wpList_append_rd _ rfl _ _ 47 rfl (w.heap.size + 1) 5 i0 (.int .u8 0) 1 1 Tryz.underlying47 hi0 hz0 hz1 hz2 rfl (by omega) v3 21 (bvs (Cx.cover (Rc.headL r))) rfl hown3' w.heap.size A r.key.length c (bvs r.key) rfl (by simp [bvs]) hrk (bvs_one _) (by unfold maxLen; omega) (by omega) hsz3 ?_); intro v4 w4 hown4 b4 hg4 _; obtain ⟨e0, e1, e2, e3, e4, e5⟩ := box6 (HB13.out.trans b4) (by omega); have hrv4 := hrv.below b4 (by omega))
    | (at_builtin; (refine wpList_append_rd _ rfl _ _ 47 rfl (w.heap.size + 1) 5 i0 (.int .u8 0) 1 1 Tryz.underlying47 hi0 hz0 hz1 hz2 rfl (by omega) v4 (21 + r.key.length) _ rfl hown4 w.heap.size A' r.val.length c' (bvs r.val) rfl (by simp [bvs]) hrv4 (bvs_one _) (by unfold maxLen; omega) (by omega) (by have := b4.size; omega) ?_); intro v5 w5 hown5 b5 hg5 _))
  rw [← bvs_append, ← bvs_append] at hown5
  have hs5 := Bs.of_own hown5
  have hb5 := HB13.out.trans (b4.trans b5)
  have hb5' := HB3.out.trans ((b4.trans b5).mono (by omega))
  have hl : (Cx.cover (Rc.headL r) ++ r.key ++ r.val).length = 21 + r.key.length + r.val.length := by
    rw [List.length_append, List.length_append, Rc.cover_head_length]
  refine (Crc.cover_b _ _ _ hs5 (Ht0.out.on hb5').1 (by rw [hl]; omega)).mono ?_
  rintro e w6 ⟨v6, rfl, hown6, b6⟩
  rw [hl] at hown6
  go_wp2_with fail
  go_ret2
  refine ⟨_, rfl, ?_, bstep hb5' b6⟩
  have e : 21 + r.key.length + r.val.length + 4 = Rc.sizeN r := by unfold Rc.sizeN; omega
  rw [e] at hown6
  exact own_base hown6 hb5'.size
end Go.Proofs.YtaicibmaogiibaaGreatDoor

/- RcRead -/

/-
  Layer 8: the walks of read, blank, fill.
-/
set_option linter.unusedVariables false
set_option linter.unusedSimpArgs false
namespace Go.Proofs.YtaicibmaogiibaaGreatDoor
open Go.RowKit

/-- one field of a head -/
def Rc.fieldN (l : List UInt8) (o n : Nat) : Nat := Px.rdN (l.drop o) n
/-- what a head tells, the first j fields of it -/
def toldA (l : List UInt8) (j : Nat) : Array Value :=
  match j with
  | 0 => #[.int .u64 0, .int .u64 0, .int .u64 0, .int .u64 0, .int .u64 0, .int .u64 0]
  | 1 => #[.int .u64 ((Rc.fieldN l 0 1 : Nat) : Int), .int .u64 0, .int .u64 0, .int .u64 0, .int .u64 0, .int .u64 0]
  | 2 => #[.int .u64 ((Rc.fieldN l 0 1 : Nat) : Int), .int .u64 ((Rc.fieldN l 1 1 : Nat) : Int), .int .u64 0, .int .u64 0, .int .u64 0, .int .u64 0]
  | 3 => #[.int .u64 ((Rc.fieldN l 0 1 : Nat) : Int), .int .u64 ((Rc.fieldN l 1 1 : Nat) : Int), .int .u64 ((Rc.fieldN l 2 2 : Nat) : Int), .int .u64 0, .int .u64 0, .int .u64 0]
  | 4 => #[.int .u64 ((Rc.fieldN l 0 1 : Nat) : Int), .int .u64 ((Rc.fieldN l 1 1 : Nat) : Int), .int .u64 ((Rc.fieldN l 2 2 : Nat) : Int), .int .u64 ((Rc.fieldN l 4 6 : Nat) : Int), .int .u64 0, .int .u64 0]
  | 5 => #[.int .u64 ((Rc.fieldN l 0 1 : Nat) : Int), .int .u64 ((Rc.fieldN l 1 1 : Nat) : Int), .int .u64 ((Rc.fieldN l 2 2 : Nat) : Int), .int .u64 ((Rc.fieldN l 4 6 : Nat) : Int), .int .u64 ((Rc.fieldN l 10 3 : Nat) : Int), .int .u64 0]
  | _ => #[.int .u64 ((Rc.fieldN l 0 1 : Nat) : Int), .int .u64 ((Rc.fieldN l 1 1 : Nat) : Int), .int .u64 ((Rc.fieldN l 2 2 : Nat) : Int), .int .u64 ((Rc.fieldN l 4 6 : Nat) : Int), .int .u64 ((Rc.fieldN l 10 3 : Nat) : Int), .int .u64 ((Rc.fieldN l 13 4 : Nat) : Int)]
def toldV (l : List UInt8) : Value := .agg #[.int .u64 ((Rc.fieldN l 0 1 : Nat) : Int), .int .u64 ((Rc.fieldN l 1 1 : Nat) : Int), .int .u64 ((Rc.fieldN l 2 2 : Nat) : Int), .int .u64 ((Rc.fieldN l 4 6 : Nat) : Int), .int .u64 ((Rc.fieldN l 10 3 : Nat) : Int), .int .u64 ((Rc.fieldN l 13 4 : Nat) : Int)]
def offN (j : Nat) : Nat := match j with | 0 => 0 | 1 => 1 | 2 => 2 | 3 => 4 | 4 => 10 | 5 => 13 | _ => 17
theorem cut_m {A : Option Addr} {m c : Nat} {l : List UInt8} {B : Nat} {w : World} (h : Bs w B (.slice A m c) l) (k : Nat) (z : Int) (hz : z = k) (hk : k ≤ l.length) : ∃ A' m' c', (∀ w, (Instr.sliceAt 47 (.slice A m c) (some (.int .i64 z)) none none).run Tryz.prog w = .ok (.slice A' m' c') w) ∧ Bs w B (.slice A' m' c') (l.drop k) := by
  subst hz
  obtain ⟨A2, c2, e, hc, hr⟩ := h
  injection e with e1 e2 e3
  subst e1 e2 e3
  obtain ⟨A', c', h1, h2, h3⟩ := cut_l A l.length c k (l.length - k) (by omega) hc
  exact ⟨_, _, _, h1, A', c', by rw [List.length_drop], by rw [List.length_drop]; exact h2, h3 w B l hc hr⟩
set_option maxRecDepth 100000 in
set_option maxHeartbeats 4000000 in
theorem rread_b (v : Value) (l : List UInt8) (B : Nat) (w : World) (h : Bs w B v l) (hB : B ≤ w.heap.size) (hl : 21 ≤ l.length) (hm : l.length ≤ 140737488355328) (ht : WTab w) :
    Calls Tryz.prog 88 #[v] w fun e w' => e = .returned (toldV l) ∧ Below w.heap.size w w' := by
  obtain ⟨ht0, ht1, ht2, ht3, ht4, ht5⟩ := ht
  have hlt : 0 < w.heap.size := block_lt_of_cell ht0
  have H := Lib.hid h
  obtain ⟨A, c, rfl, _, _⟩ := h
  go_enter Tryz.func88, Tryz.ntmps88
  go_wp2_with fail
  clear ht0 ht1 ht2 ht3 ht4 ht5
  go_loopg [0, 7] 6 (fun k b i wr => ∃ j : Nat, j + k = 6 ∧ i = .int .i64 j ∧ (∃ A m c, b = .slice A m c ∧ Bs w B (.slice A m c) (l.drop (offN j))) ∧ wr = (w.alloc (.cells #[.int .u64 0, .int .u64 0, .int .u64 0, .int .u64 0, .int .u64 0, .int .u64 0] 132)).alloc (.cells (toldA l j) 132))
  case atStart => exact ⟨0, by omega, rfl, ⟨_, _, _, rfl, H.out⟩, rfl⟩
  case round =>
    obtain ⟨j, hj, rfl, ⟨A1, m1, c1, rfl, hbs⟩, rfl⟩ := hrel
    by_cases hlt : j < 6
    · have hjj : j = 0 ∨ j = 1 ∨ j = 2 ∨ j = 3 ∨ j = 4 ∨ j = 5 := by omega
      rcases hjj with rfl | rfl | rfl | rfl | rfl | rfl
      · have hx := width_at 0 0 1 rfl rfl
        have hbw : Below w.heap.size w ((w.alloc (.cells #[.int .u64 0, .int .u64 0, .int .u64 0, .int .u64 0, .int .u64 0, .int .u64 0] 132)).alloc (.cells (toldA l 0) 132)) := balloc (bnew w _) _
        have hrd : Calls Tryz.prog 134 #[.slice A1 m1 c1, .int .i64 1] _ fun e w' => e = .returned (.tuple #[.int .u64 ((Rc.fieldN l 0 1 : Nat) : Int), .int .i64 0]) ∧ _ = w' := read_b _ _ B 1 _ (hbs.below hbw hB) (by omega) (by omega) (by simp [offN]; omega) (by simp; omega)
        obtain ⟨A2, m2, c2, hcut, hbs'⟩ := cut_m hbs 1 1 rfl (by simp [offN]; omega)
        have Hbs := Lib.hid hbs'
        clear hbs hbw hbs'
        unfold toldA at hrd ⊢
        go_wp2_with fail
        refine hrd.mono ?_
        rintro e w1 ⟨rfl, rfl⟩
        go_wp2_with fail
        go_roundg (gk - 1)
        case measure => omega
        case rel => exact ⟨1, by omega, by go_num, ⟨_, _, _, rfl, by have := Hbs.out; rw [List.drop_drop] at this; exact this⟩, rfl⟩
      · have hx := width_at 1 1 1 rfl rfl
        have hbw : Below w.heap.size w ((w.alloc (.cells #[.int .u64 0, .int .u64 0, .int .u64 0, .int .u64 0, .int .u64 0, .int .u64 0] 132)).alloc (.cells (toldA l 1) 132)) := balloc (bnew w _) _
        have hrd : Calls Tryz.prog 134 #[.slice A1 m1 c1, .int .i64 1] _ fun e w' => e = .returned (.tuple #[.int .u64 ((Rc.fieldN l 1 1 : Nat) : Int), .int .i64 0]) ∧ _ = w' := read_b _ _ B 1 _ (hbs.below hbw hB) (by omega) (by omega) (by simp [offN]; omega) (by simp; omega)
        obtain ⟨A2, m2, c2, hcut, hbs'⟩ := cut_m hbs 1 1 rfl (by simp [offN]; omega)
        have Hbs := Lib.hid hbs'
        clear hbs hbw hbs'
        unfold toldA at hrd ⊢
        go_wp2_with fail
        refine hrd.mono ?_
        rintro e w1 ⟨rfl, rfl⟩
        go_wp2_with fail
        go_roundg (gk - 1)
        case measure => omega
        case rel => exact ⟨2, by omega, by go_num, ⟨_, _, _, rfl, by have := Hbs.out; rw [List.drop_drop] at this; exact this⟩, rfl⟩
      · have hx := width_at 2 2 2 rfl rfl
        have hbw : Below w.heap.size w ((w.alloc (.cells #[.int .u64 0, .int .u64 0, .int .u64 0, .int .u64 0, .int .u64 0, .int .u64 0] 132)).alloc (.cells (toldA l 2) 132)) := balloc (bnew w _) _
        have hrd : Calls Tryz.prog 134 #[.slice A1 m1 c1, .int .i64 2] _ fun e w' => e = .returned (.tuple #[.int .u64 ((Rc.fieldN l 2 2 : Nat) : Int), .int .i64 0]) ∧ _ = w' := read_b _ _ B 2 _ (hbs.below hbw hB) (by omega) (by omega) (by simp [offN]; omega) (by simp; omega)
        obtain ⟨A2, m2, c2, hcut, hbs'⟩ := cut_m hbs 2 2 rfl (by simp [offN]; omega)
        have Hbs := Lib.hid hbs'
        clear hbs hbw hbs'
        unfold toldA at hrd ⊢
        go_wp2_with fail
        refine hrd.mono ?_
        rintro e w1 ⟨rfl, rfl⟩
        go_wp2_with fail
        go_roundg (gk - 1)
        case measure => omega
        case rel => exact ⟨3, by omega, by go_num, ⟨_, _, _, rfl, by have := Hbs.out; rw [List.drop_drop] at this; exact this⟩, rfl⟩
      · have hx := width_at 3 3 6 rfl rfl
        have hbw : Below w.heap.size w ((w.alloc (.cells #[.int .u64 0, .int .u64 0, .int .u64 0, .int .u64 0, .int .u64 0, .int .u64 0] 132)).alloc (.cells (toldA l 3) 132)) := balloc (bnew w _) _
        have hrd : Calls Tryz.prog 134 #[.slice A1 m1 c1, .int .i64 6] _ fun e w' => e = .returned (.tuple #[.int .u64 ((Rc.fieldN l 4 6 : Nat) : Int), .int .i64 0]) ∧ _ = w' := read_b _ _ B 6 _ (hbs.below hbw hB) (by omega) (by omega) (by simp [offN]; omega) (by simp; omega)
        obtain ⟨A2, m2, c2, hcut, hbs'⟩ := cut_m hbs 6 6 rfl (by simp [offN]; omega)
        have Hbs := Lib.hid hbs'
        clear hbs hbw hbs'
        unfold toldA at hrd ⊢
        go_wp2_with fail
        refine hrd.mono ?_
        rintro e w1 ⟨rfl, rfl⟩
        go_wp2_with fail
        go_roundg (gk - 1)
        case measure => omega
        case rel => exact ⟨4, by omega, by go_num, ⟨_, _, _, rfl, by have := Hbs.out; rw [List.drop_drop] at this; exact this⟩, rfl⟩
      · have hx := width_at 4 4 3 rfl rfl
        have hbw : Below w.heap.size w ((w.alloc (.cells #[.int .u64 0, .int .u64 0, .int .u64 0, .int .u64 0, .int .u64 0, .int .u64 0] 132)).alloc (.cells (toldA l 4) 132)) := balloc (bnew w _) _
        have hrd : Calls Tryz.prog 134 #[.slice A1 m1 c1, .int .i64 3] _ fun e w' => e = .returned (.tuple #[.int .u64 ((Rc.fieldN l 10 3 : Nat) : Int), .int .i64 0]) ∧ _ = w' := read_b _ _ B 3 _ (hbs.below hbw hB) (by omega) (by omega) (by simp [offN]; omega) (by simp; omega)
        obtain ⟨A2, m2, c2, hcut, hbs'⟩ := cut_m hbs 3 3 rfl (by simp [offN]; omega)
        have Hbs := Lib.hid hbs'
        clear hbs hbw hbs'
        unfold toldA at hrd ⊢
        go_wp2_with fail
        refine hrd.mono ?_
        rintro e w1 ⟨rfl, rfl⟩
        go_wp2_with fail
        go_roundg (gk - 1)
        case measure => omega
        case rel => exact ⟨5, by omega, by go_num, ⟨_, _, _, rfl, by have := Hbs.out; rw [List.drop_drop] at this; exact this⟩, rfl⟩
      · have hx := width_at 5 5 4 rfl rfl
        have hbw : Below w.heap.size w ((w.alloc (.cells #[.int .u64 0, .int .u64 0, .int .u64 0, .int .u64 0, .int .u64 0, .int .u64 0] 132)).alloc (.cells (toldA l 5) 132)) := balloc (bnew w _) _
        have hrd : Calls Tryz.prog 134 #[.slice A1 m1 c1, .int .i64 4] _ fun e w' => e = .returned (.tuple #[.int .u64 ((Rc.fieldN l 13 4 : Nat) : Int), .int .i64 0]) ∧ _ = w' := read_b _ _ B 4 _ (hbs.below hbw hB) (by omega) (by omega) (by simp [offN]; omega) (by simp; omega)
        obtain ⟨A2, m2, c2, hcut, hbs'⟩ := cut_m hbs 4 4 rfl (by simp [offN]; omega)
        have Hbs := Lib.hid hbs'
        clear hbs hbw hbs'
        unfold toldA at hrd ⊢
        go_wp2_with fail
        refine hrd.mono ?_
        rintro e w1 ⟨rfl, rfl⟩
        go_wp2_with fail
        go_roundg (gk - 1)
        case measure => omega
        case rel => exact ⟨6, by omega, by go_num, ⟨_, _, _, rfl, by have := Hbs.out; rw [List.drop_drop] at this; exact this⟩, rfl⟩
    · obtain rfl : j = 6 := by omega
      unfold toldA
      go_wp2_with fail
      exact bodyPost_ret (v := toldV l) (by simp [results, Tryz.results88, go_sem, toldV]) rfl ⟨rfl, balloc (bnew w _) _⟩
end Go.Proofs.YtaicibmaogiibaaGreatDoor

/- RcRow -/

/-
  Layer 8: blocks of bytes.
-/
set_option linter.unusedVariables false
set_option linter.unusedSimpArgs false
namespace Go.Proofs.YtaicibmaogiibaaGreatDoor
open Go.RowKit

/-- a new row of zeros -/
def zer (n : Nat) : Array Value := (bvs (List.replicate n 0)).toArray
theorem run_make_b (k1 k2 : IntKind) (n : Nat) (hn : n ≤ 100000) (w : World) :
    (Instr.makeSlice 47 (.int k1 (n : Int)) (.int k2 (n : Int))).run Tryz.prog w = .ok (.slice (some ⟨w.heap.size, 0, none⟩) n n) (w.alloc (.cells (zer n) 5)) := by
  have h := run_make_row' (P := Tryz.prog) 47 5 (.int .u8 0) 1 Tryz.underlying47 byte_info rfl k1 k2 n (by omega) (by omega) w
  have e : madeCells #[Value.int .u8 0] n = zer n := by
    unfold zer
    have := toList_madeCells_one (.int .u8 0) n
    rw [← Array.toList_inj, this]
    simp [bvs, bv]
  rw [e] at h
  exact h
/-- a block of bytes -/
def RowAt (w : World) (g : Nat) (l : List UInt8) : Prop := w.heap[g]? = some (.cells (bvs l).toArray 5 (0, 0))
theorem RowAt.bs {w : World} {g B : Nat} {l : List UInt8} (h : RowAt w g l) (hg : g < B) : Bs w B (.slice (some ⟨g, 0, none⟩) l.length l.length) l :=
  ⟨_, _, rfl, Nat.le_refl _, fun _ => ⟨g, 0, rfl, hg, fun j u hu => by
    rw [Nat.zero_add, cell_of_row w g j _ _ _ h]
    simpa using hu⟩⟩
theorem RowAt.below {w w' : World} {g C : Nat} {l : List UInt8} (h : RowAt w g l) (hb : Below C w w') (hC : g < C) : RowAt w' g l := (hb.block g hC).trans h
theorem RowAt.lt {w : World} {g : Nat} {l : List UInt8} (h : RowAt w g l) : g < w.heap.size := (Array.getElem?_eq_some_iff.1 h).1
theorem RowAt.on {w w' : World} {g : Nat} {l : List UInt8} (h : RowAt w g l) (hb : Below w.heap.size w w') : RowAt w' g l := h.below hb h.lt
theorem RowAt.new (w : World) (n : Nat) : RowAt (w.alloc (.cells (zer n) 5)) w.heap.size (List.replicate n 0) := heap_alloc_new w _
end Go.Proofs.YtaicibmaogiibaaGreatDoor

