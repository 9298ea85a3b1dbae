
/-
  Layer 14 (probe): standing, the range-function over the used slots, whatever loop keeps them.
-/
import Derived.Test.YtffcbekogpgciaaPrFind
import Derived.RangeFuncNested
import Derived.RangeFuncBound
import Derived.RangeFuncCalls
import Derived.RangeFuncLeaves
import Derived.RangeFuncBox
import Derived.RangeFuncMany
import Derived.Shelf.Abstract
import Derived.Shelf.RegionOpen
import Derived.OwnWalkIn
import Derived.TacticsInMore
import Derived.LoopNIn
import Derived.LoopIn
import Derived.RegionIn
import Derived.BigRegionIn
set_option linter.unusedVariables false
set_option linter.unusedSimpArgs false
namespace Go.Proofs.Ytffcbekogpgciaa.Pr
open Go Go.RowKit

/-- which ones are used -/
def usedIx (u : Nat → Bool) (n : Nat) : List Nat := (List.range n).filter u
def usedFrom (u : Nat → Bool) (i : Nat) : Nat → List Nat
  | 0 => []
  | k + 1 => (if u i then [i] else []) ++ usedFrom u (i + 1) k
theorem usedFrom_eq (u : Nat → Bool) : ∀ (k i : Nat), usedFrom u i k = (List.range' i k).filter u
  | 0, i => rfl
  | k + 1, i => by
    rw [usedFrom, usedFrom_eq u k, List.range'_succ, List.filter_cons]
    split <;> simp
theorem usedIx_eq (u : Nat → Bool) (n : Nat) : usedIx u n = usedFrom u 0 n := by rw [usedFrom_eq, usedIx, List.range_eq_range']
theorem usedFrom_len (u : Nat → Bool) : ∀ (k i : Nat), (usedFrom u i k).length ≤ k
  | 0, i => by simp [usedFrom]
  | k + 1, i => by
    have := usedFrom_len u k (i + 1)
    rw [usedFrom, List.length_append]
    split <;> simp <;> omega
abbrev Ix (u : Nat → Bool) (n : Nat) := { i : Nat // i < n ∧ u i = true }
def Ix.num {u : Nat → Bool} {n : Nat} (x : Ix u n) : Nat := x.1
def encI (y0 y1 y2 y3 : Nat → Value) {u : Nat → Bool} {n : Nat} (x : Ix u n) : Array Value := #[.agg #[y0 x.1, y1 x.1, y2 x.1, y3 x.1]]
/-- what a round that goes on keeps: the box of the slice, and the slots -/
def KpS (Bx S : Nat) (W W' : World) : Prop := ∀ b, b = Bx ∨ b = S → ∀ arr t z, W.heap[b]? = some (.cells arr t z) → W'.heap[b]? = some (.cells arr t z)
theorem KpS.trans {Bx S : Nat} {A B C : World} (h : KpS Bx S A B) (k : KpS Bx S B C) : KpS Bx S A C := fun b hb arr t z e => k b hb arr t z (h b hb arr t z e)
theorem KpS.refl {Bx S : Nat} {A : World} : KpS Bx S A A := fun _ _ _ _ _ e => e
theorem KpS.alloc {Bx S : Nat} {A : World} (o : Obj) : KpS Bx S A (A.alloc o) := fun b _ arr t z e => (Below.heap_alloc A o b (Array.getElem?_eq_some_iff.1 e).1).trans e
theorem KpS.turn {Bx S : Nat} {W : World} (l : Nat) (o o' : Obj) (h : W.heap[l]? = some o) (hc : o.isCells = false) : KpS Bx S W (W.putObj l o') := fun b _ arr t z e => by
  by_cases c : b = l
  · subst c
    rw [e] at h
    injection h with h
    subst h
    simp [Obj.isCells] at hc
  · exact (World.putObj_heap_other c).trans e
/-- what the iterator reads -/
structure StR (W : World) (Bx S nn c : Nat) (arr : Array Value) : Prop where
  box : W.heap[Bx]? = some (.cells #[.slice (some ⟨S, 0, none⟩) nn c] 41 (0, 0))
  row : W.heap[S]? = some (.cells arr 49 (0, 0))
theorem StR.on {W W' : World} {Bx S nn c : Nat} {arr : Array Value} (h : StR W Bx S nn c arr) (k : KpS Bx S W W') : StR W' Bx S nn c arr := ⟨k Bx (.inl rfl) _ _ _ h.box, k S (.inr rfl) _ _ _ h.row⟩

theorem standing_b (A : Option Addr) (n c : Nat) (w : World) :
    Calls Try.prog 37 #[.slice A n c] w fun e w' => e = .returned (.func (.func 48) #[] #[.pointer (some ⟨w.heap.size, 0, none⟩)]) ∧ w' = w.alloc (.cells #[.slice A n c] 41) := by
  go_enter Try.func37, Try.ntmps37
  go_wp2
  exact bodyPost_ret (results_tmp rfl _ _ _) rfl ⟨rfl, rfl⟩
set_option maxRecDepth 100000 in
set_option maxHeartbeats 8000000 in
theorem standing1_in (n : Nat) (hn : 1 ≤ n) (l Bx S nn c : Nat) (arr : Array Value) (y0 y1 y2 y3 : Nat → Value) (u : Nat → Bool) (hnn : nn < 1000000000)
    (ha : ∀ i, i < nn → arr[i * 4]? = some (.bool (u i)) ∧ y0 i = .bool (u i) ∧ arr[i * 4 + 1]? = some (y1 i) ∧ arr[i * 4 + 2]? = some (y2 i) ∧ arr[i * 4 + 3]? = some (y3 i) ∧ ∃ A k q m f, y1 i = .slice A k q ∧ y2 i = .int .u64 m ∧ y3 i = .int .i64 f) (J Jx : List (Ix u nn) → World → Prop)
    (hY : ∀ pre x W, J pre W → pre.length < (usedIx u nn).length → YieldAt Fence.wide (n - 1) Try.prog l (encI y0 y1 y2 y3 x) W fun e W' =>
      (e = .returned (.bool true) ∧ J (pre ++ [x]) W' ∧ KpS Bx S W W') ∨ (e = .returned (.bool false) ∧ Jx (pre ++ [x]) W'))
    (W : World) (hR : StR W Bx S nn c arr) (h0 : J [] W) (hJA : ∀ pre V o, J pre V → J pre (V.alloc o)) :
    CallsIn Fence.wide n Try.prog 48 #[.func (.yield l) #[] #[], .pointer (some ⟨Bx, 0, none⟩)] W fun e W' => (∃ v, e = .returned v) ∧
      ((∃ xs, xs.map Ix.num = usedIx u nn ∧ J xs W') ∨ (∃ pre, True ∧ Jx pre W')) := by
  refine callsIn_of_wp Try.func48 rfl trivial ?_ rfl
  simp only [Try.ntmps48, List.size_toArray, List.length_cons, List.length_nil, Nat.reduceAdd, Nat.reduceSub, Array.replicate_succ, Array.replicate_zero, List.push_toArray, List.append_toArray, List.nil_append, List.cons_append]
  have hb0 : W.cell? ⟨Bx, 0, none⟩ = some (.slice (some ⟨S, 0, none⟩) nn c) := by simp [World.cell?, hR.box]
  have HR := Lib.hid hR
  have HJA := Lib.hid hJA
  have HA := Lib.hid ha
  clear hJA hR ha
  gi_wp2
  gi_loopw [7] (fun ix wr => ∃ (i : Nat) (pre : List (Ix u nn)), ix = .int .i64 (i : Int) ∧ i ≤ nn ∧ Hid (pre.map Ix.num ++ usedFrom u i (nn - i) = usedIx u nn ∧ J pre wr ∧ StR wr Bx S nn c arr))
    (fun ix _ => nn - (RowKit.intOf ix).toNat)
  case atStart => exact ⟨0, [], rfl, Nat.zero_le _, Lib.hid ⟨by rw [usedIx_eq]; rfl, h0, HR.out⟩⟩
  case round =>
    clear hb0 h0
    obtain ⟨i, pre, rfl, hi, hh⟩ := hrel
    rename World => wr
    obtain ⟨hev, hJ, hS⟩ := hh.out
    by_cases hin : i < nn
    · have j0 : (i : Int) < (nn : Int) := by omega
      obtain ⟨a0, e0, a1, a2, a3, Ai, ki, qi, mi, fi, t1, t2, t3⟩ := HA.out i hin
      have c0 : wr.cell? ⟨S, i * 4, none⟩ = some (.bool (u i)) := by simp [World.cell?, hS.row, a0]
      have c1 : wr.cell? ⟨S, i * 4 + 1, none⟩ = some (.slice Ai ki qi) := by simp [World.cell?, hS.row, a1, t1]
      have c2 : wr.cell? ⟨S, i * 4 + 2, none⟩ = some (.int .u64 mi) := by simp [World.cell?, hS.row, a2, t2]
      have c3 : wr.cell? ⟨S, i * 4 + 3, none⟩ = some (.int .i64 fi) := by simp [World.cell?, hS.row, a3, t3]
      have huf : usedFrom u i (nn - i) = (if u i then [i] else []) ++ usedFrom u (i + 1) (nn - (i + 1)) := by rw [show nn - i = (nn - (i + 1)) + 1 by omega]; rfl
      rw [huf] at hev
      have HEnc : Hid (∀ hu : u i = true, encI y0 y1 y2 y3 (⟨i, hin, hu⟩ : Ix u nn) = #[.agg #[.bool true, .slice Ai ki qi, .int .u64 mi, .int .i64 fi]]) := Lib.hid (fun hu => by simp [encI, e0, t1, t2, t3, hu])
      clear huf a0 a1 a2 a3 e0 t1 t2 t3
      cases hu : u i with
      | false =>
        rw [hu] at c0 hev
        have HEV := Lib.hid hev
        have HJ := Lib.hid hJ
        have HS := Lib.hid hS
        clear hev hJ hS hh hu
        gi_wp2
        refine ⟨fun f hf => (by cases hf), ?_⟩
        gi_wp2
        go_roundw
        case rel => exact ⟨i + 1, pre, by push_cast; rfl, by omega, Lib.hid ⟨by simpa using HEV.out, HJA.out _ _ _ HJ.out, HS.out.on (KpS.alloc _)⟩⟩
        case measure => simp [RowKit.intOf]; omega
      | true =>
        rw [hu] at c0
        rw [if_pos hu] at hev
        have HU := Lib.hid hu
        have HEV := Lib.hid hev
        have HJ := Lib.hid hJ
        have HS := Lib.hid hS
        have hlen : pre.length < (usedIx u nn).length := by rw [← hev]; simp
        clear hev hJ hS hh
        obtain ⟨V, hV⟩ : ∃ V, wr.alloc (.cells #[.bool true, .slice Ai ki qi, .int .u64 mi, .int .i64 fi] 49) = V := ⟨_, rfl⟩
        have HJV : Hid (J pre V) := Lib.hid (by rw [← hV]; exact HJA.out _ _ _ HJ.out)
        have HSV : Hid (StR V Bx S nn c arr) := Lib.hid (by rw [← hV]; exact HS.out.on (KpS.alloc _))
        clear hu
        obtain ⟨fn, tmps, assign, body, hy, hRd⟩ := hY pre ⟨i, hin, HU.out⟩ V HJV.out hlen
        rw [HEnc.out HU.out] at hy
        obtain ⟨Yb, hYb⟩ : ∃ Yb, wr.heap.size = Yb := ⟨_, rfl⟩
        have hk : V.heap[Yb]? = some (.cells #[.bool true, .slice Ai ki qi, .int .u64 mi, .int .i64 fi] 49 (0, 0)) := by rw [← hV, ← hYb]; exact heap_alloc_new _ _
        obtain ⟨b0, b1, b2, b3⟩ := box4 hk
        clear hk
        gi_wp2
        refine hRd.mono ?_
        rintro e W3 (⟨rfl, hJ3, hk3⟩ | ⟨rfl, hJx3⟩)
        · gi_wp2
          go_roundw
          case rel => exact ⟨i + 1, pre ++ [⟨i, hin, HU.out⟩], by push_cast; rfl, by omega, Lib.hid ⟨by rw [List.map_append, List.append_assoc]; simpa [Ix.num] using HEV.out, hJ3, HSV.out.on hk3⟩⟩
          case measure => simp [RowKit.intOf]; omega
        · gi_wp2
          refine bodyPost_ret (results_none rfl _ _ _) rfl ?_
          exact ⟨⟨_, rfl⟩, .inr ⟨_, trivial, hJx3⟩⟩
    · have j0 : ¬ (i : Int) < (nn : Int) := by omega
      have j1 : decide ((i : Int) < (nn : Int)) = false := by simpa using j0
      obtain rfl : i = nn := by omega
      have HEV := Lib.hid hev
      have HJ := Lib.hid hJ
      clear hev hJ hS hh
      gi_wp2
      refine bodyPost_end (results_none rfl _ _ _) rfl ?_
      refine ⟨⟨_, rfl⟩, .inl ⟨pre, ?_, HJ.out⟩⟩
      have := HEV.out
      simpa [usedFrom] using this
end Go.Proofs.Ytffcbekogpgciaa.Pr
