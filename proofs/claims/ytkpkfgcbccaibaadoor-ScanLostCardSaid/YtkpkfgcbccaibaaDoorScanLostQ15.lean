/-
  ScanLost, part 15 of what the law's proof leans on: ScPlaces, ScLosts.
-/
import Derived.RangeFuncNested
import Derived.RangeFuncBound
import Derived.RangeFuncCalls
import Derived.RangeFuncLeaves
import Derived.RangeFuncBox
import Derived.RangeFuncMany
import Derived.Shelf.Abstract
import Derived.Shelf.RegionOpen
import Derived.OwnWalkIn
import Derived.TacticsInMore
import Derived.LoopNIn
import Derived.LoopIn
import Derived.RegionIn
import Derived.BigRegionIn
import Derived.Test.YtkpkfgcbccaibaaDoorScanLostQ14
import Derived.Laws.EntriesVeiled
import Derived.Test.YtkpkfgcbccaibaaDoorScanLostQ9
/- ScPlaces -/

/-
  Layer 12: the landed scan's places: the range-function, over whatever loop keeps the scan.
-/
set_option linter.unusedVariables false
set_option linter.unusedSimpArgs false
namespace Go.Proofs.YtkpkfgcbccaibaaDoor.Sc
open Go Go.RowKit

/-- what the places tell, by numbers: nothing for what was passed over, else which of the found ones -/
def evN : List Nat → List Nat → Nat → List (Option Nat)
  | [], [], _ => []
  | _ :: _, [], _ => [none]
  | ps, o :: l, i => (ps.takeWhile fun q => decide (q < o)).map (fun _ => none) ++ some i :: evN (ps.dropWhile fun q => decide (q < o)) l (i + 1)
theorem evN_low (q : Nat) (ps : List Nat) (o : Nat) (l : List Nat) (i : Nat) (h : q < o) : evN (q :: ps) (o :: l) i = none :: evN ps (o :: l) i := by
  have e : ∀ ps, evN ps (o :: l) i = (ps.takeWhile fun q => decide (q < o)).map (fun _ => none) ++ some i :: evN (ps.dropWhile fun q => decide (q < o)) l (i + 1) := fun ps => by cases ps <;> rfl
  rw [e, e, List.takeWhile_cons_of_pos (by simpa using h), List.dropWhile_cons_of_pos (by simpa using h)]
  rfl
theorem evN_high (ps : List Nat) (o : Nat) (l : List Nat) (i : Nat) (h : ∀ q r, ps = q :: r → ¬ q < o) : evN ps (o :: l) i = some i :: evN ps l (i + 1) := by
  have e : evN ps (o :: l) i = (ps.takeWhile fun q => decide (q < o)).map (fun _ => none) ++ some i :: evN (ps.dropWhile fun q => decide (q < o)) l (i + 1) := by cases ps <;> rfl
  rw [e]
  rcases ps with _ | ⟨q, r⟩
  · rfl
  · have := h q r rfl
    rw [List.takeWhile_cons_of_neg (by simpa using this), List.dropWhile_cons_of_neg (by simpa using this)]
    rfl
theorem evN_end (ps : List Nat) (i : Nat) : evN ps [] i = if ps = [] then [] else [none] := by
  rcases ps with _ | ⟨q, r⟩ <;> rfl
/-- a number below n, or none -/
abbrev Pla (n : Nat) := Option { i : Nat // i < n }
def Pla.num {n : Nat} (x : Pla n) : Option Nat := x.map (·.1)
def encP (g : Nat) {n : Nat} (x : Pla n) : Array Value := match x with
  | none => #[.pointer none]
  | some i => #[.pointer (some ⟨g, i.1 * 9, none⟩)]
/-- what a round that goes on keeps: what lay ahead of Lost, and the scan's block -/
def KpP (n₀ Bs : Nat) (W W' : World) : Prop := Below n₀ W W' ∧ ∀ arr z, W.heap[Bs]? = some (.cells arr 31 z) → W'.heap[Bs]? = some (.cells arr 31 z)
theorem KpP.trans {n₀ Bs : Nat} {A B C : World} (h : KpP n₀ Bs A B) (k : KpP n₀ Bs B C) : KpP n₀ Bs A C := ⟨h.1.trans k.1, fun arr z hh => k.2 arr z (h.2 arr z hh)⟩
theorem KpP.refl {n₀ Bs : Nat} {A : World} : KpP n₀ Bs A A := ⟨Below.refl _ _, fun _ _ h => h⟩
theorem KpP.turn {n₀ Bs : Nat} {W : World} (l : Nat) (o o' : Obj) (hl : n₀ ≤ l) (h : W.heap[l]? = some o) (hc : o.isCells = false) (hw : o.isWalk = false) : KpP n₀ Bs W (W.putObj l o') := by
  refine ⟨(Below.refl n₀ W).grown (grownBy_putObj' W l o') (by have := (Array.getElem?_eq_some_iff.1 h).1; omega) (fun k e => by cases e; omega), fun arr z hh => ?_⟩
  by_cases e : Bs = l
  · subst e
    rw [hh] at h
    injection h with h
    subst h
    simp [Obj.isCells] at hc
  · exact (World.putObj_heap_other e).trans hh
theorem run_cut1 (A : Option Addr) (n c : Nat) (hkn : 1 ≤ n) (w : World) :
    (Instr.sliceAt 28 (.slice A n c) (some (.int .i64 1)) none none).run Tryd.prog w = .ok (.slice (if c = 1 then A else A.map (·.add 1)) (n - 1) (c - 1)) w := by
  have el : Tryd.prog.underlying 28 = some (.slice (Tryd.prog.elem 28)) := by kernel_rfl
  rw [run_sliceAt_slice _ 28 _ _ _ _ el, run_slice_l _ 28 A n c el .i64 1 (by omega) (by omega)]
  have : (sizeOf (Tryd.prog.elem 28)).run Tryd.prog w = .ok 1 w := by kernel_rfl
  rw [this]
  simp [Result.andThen, sliced]
/-- what the iterator reads, in a world -/
structure PlR (W : World) (n₀ Bs g nf cf : Nat) (Af : Option Addr) (a0 a3 a4 : Value) (ps offs : List Nat) (Ap : Option Addr) (np cp : Nat) : Prop where
  blk : W.heap[Bs]? = some (.cells #[a0, .slice Af nf cf, .slice Ap np cp, a3, a4] 31 (0, 0))
  fnd : ∀ (i o : Nat), offs[i]? = some o → W.cell? ⟨g, i * 9 + 1, none⟩ = some (.int .u32 (o : Int))
  pas : Rd W n₀ Ap (ps.map fun q : Nat => Value.int .i64 (q : Int))
theorem PlR.on {W W' : World} {n₀ Bs g nf cf : Nat} {Af : Option Addr} {a0 a3 a4 : Value} {ps offs : List Nat} {Ap : Option Addr} {np cp : Nat} (h : PlR W n₀ Bs g nf cf Af a0 a3 a4 ps offs Ap np cp) (hk : KpP n₀ Bs W W') (hg : offs ≠ [] → g < n₀) : PlR W' n₀ Bs g nf cf Af a0 a3 a4 ps offs Ap np cp :=
  ⟨hk.2 _ _ h.blk, fun i o ho => (hk.1.cell (p := ⟨g, i * 9 + 1, none⟩) (hg (by rintro rfl; simp at ho))).trans (h.fnd i o ho), h.pas.below hk.1 (Nat.le_refl _)⟩
set_option maxRecDepth 100000 in
set_option maxHeartbeats 8000000 in
theorem places1_in (n : Nat) (hn : 1 ≤ n) (l Bs n₀ g nf cf : Nat) (Af : Option Addr) (a0 a3 a4 : Value) (ps offs : List Nat) (Ap : Option Addr) (np cp : Nat) (hof : offs.length = nf) (hps : ps.length = np) (hnc : np ≤ cp) (hcf : nf ≤ cf) (hAf : 0 < nf → Af = some ⟨g, 0, none⟩) (hg : offs ≠ [] → g < n₀)
    (hnf : nf ≤ 1000000) (hnp : np ≤ 1000000) (hoB : ∀ o ∈ offs, o < 4294967296) (J Jx : List (Pla nf) → World → Prop)
    (hY : ∀ pre x W, J pre W → pre.length < (evN ps offs 0).length → YieldAt Fence.wide (n - 1) Tryd.prog l (encP g x) W fun e W' =>
      (e = .returned (.bool true) ∧ J (pre ++ [x]) W' ∧ KpP n₀ Bs W W') ∨ (e = .returned (.bool false) ∧ Jx (pre ++ [x]) W'))
    (W : World) (hR : PlR W n₀ Bs g nf cf Af a0 a3 a4 ps offs Ap np cp) (h0 : J [] W) (hJD : ∀ pre V, J pre V → J pre V.drew) :
    CallsIn Fence.wide n Tryd.prog 38 #[.func (.yield l) #[] #[], .pointer (some ⟨Bs, 0, none⟩)] W fun e W' => (∃ v, e = .returned v) ∧
      ((∃ xs, xs.map Pla.num = evN ps offs 0 ∧ J xs W') ∨ (∃ pre, True ∧ Jx pre W')) := by
  refine callsIn_of_wp Tryd.func38 rfl trivial ?_ rfl
  simp only [Tryd.ntmps38, List.size_toArray, List.length_cons, List.length_nil, Nat.reduceAdd, Nat.reduceSub, Array.replicate_succ, Array.replicate_zero, List.push_toArray, List.append_toArray, List.nil_append, List.cons_append]
  obtain ⟨y0, y1, y2, y3, y4⟩ := rw5 hR.blk
  have HR := Lib.hid hR
  have HJD := Lib.hid hJD
  clear hJD
  gi_wp2
  have hPas := Lib.hid hR.pas
  gi_loopw [3, 4, 10] (fun p i4 ix wr => ∃ (i : Nat) (pt : List Nat) (A : Option Addr) (c m : Nat) (pre : List (Pla nf)), p = .slice A m c ∧ ix = .int .i64 (i : Int) ∧ pt.length = m ∧ m ≤ c ∧ m ≤ 1000000 ∧ i ≤ nf ∧ Hid (Rd wr n₀ A (pt.map fun q : Nat => Value.int .i64 (q : Int)) ∧ pre.map Pla.num ++ evN pt (offs.drop i) i = evN ps offs 0 ∧ J pre wr ∧ PlR wr n₀ Bs g nf cf Af a0 a3 a4 ps offs Ap np cp))
    (fun _ _ ix _ => nf - (RowKit.intOf ix).toNat)
  case atStart => exact ⟨0, ps, Ap, cp, np, [], rfl, rfl, hps, hnc, hnp, Nat.zero_le _, Lib.hid ⟨hPas.out, by simp, h0, HR.out⟩⟩
  case round =>
    obtain ⟨i, pt, A, c, m, pre, rfl, rfl, hpt, hmc, hm6, hi, hh⟩ := hrel
    rename World => wr
    clear y0 y1 y2 y3 y4 hR h0 hPas HR
    by_cases hin : i < nf
    · have j0 : (i : Int) < (nf : Int) := by omega
      obtain rfl := hAf (by omega)
      gi_wp2
      gi_loopw [3] (fun p wr => ∃ (pt : List Nat) (A : Option Addr) (c m : Nat) (pre : List (Pla nf)), p = .slice A m c ∧ pt.length = m ∧ m ≤ c ∧ m ≤ 1000000 ∧ Hid (Rd wr n₀ A (pt.map fun q : Nat => Value.int .i64 (q : Int)) ∧ pre.map Pla.num ++ evN pt (offs.drop i) i = evN ps offs 0 ∧ J pre wr ∧ PlR wr n₀ Bs g nf cf (some ⟨g, 0, none⟩) a0 a3 a4 ps offs Ap np cp))
        (fun p _ => (match p with | .slice _ m _ => m | _ => 0))
      case atStart => exact ⟨pt, A, c, m, pre, rfl, hpt, hmc, hm6, hh⟩
      case round =>
        clear hh hpt hmc hm6
        obtain ⟨pt, A, c, m, pre, rfl, hpt, hmc, hm6, hh⟩ := hrel
        rename World => wr
        obtain ⟨hrd, hev, hJ, hPl⟩ := hh.out
        obtain ⟨y0, y1, y2, y3, y4⟩ := rw5 hPl.blk
        obtain ⟨o, ho⟩ : ∃ o, offs[i]? = some o := ⟨_, List.getElem?_eq_getElem (by omega)⟩
        have hc1 := hPl.fnd i o ho
        have hdr : offs.drop i = o :: offs.drop (i + 1) := by rw [List.drop_eq_getElem_cons (by omega)]; congr 1; rw [List.getElem?_eq_getElem (by omega)] at ho; injection ho
        have hob := hoB o (List.mem_of_getElem? ho)
        have hwo : IntKind.i64.wrap (o : Int) = (o : Int) := IntWalk.i64_in _ (by omega)
        by_cases hm0 : m = 0
        · subst hm0
          obtain rfl : pt = [] := List.length_eq_zero_iff.1 hpt
          have hHeld0 : True := trivial
          gi_wp2
          refine wpIn_wide.2 ?_
          refine wp_region_noPanic ?_
          refine wp_region_held_drew (S := fun w' => w'.cell? ⟨Bs, 1, none⟩ = some (.slice (some ⟨g, 0, none⟩) nf cf) ∧ w'.cell? ⟨g, i * 9 + 1, none⟩ = some (.int .u32 (o : Int))) (by kernel_rfl) (⟨y1, hc1⟩) (fun hHeld => ?_)
          have HDR := Lib.hid (show KpP n₀ Bs wr wr.drew from ⟨(Below.refl n₀ wr).drew, fun _ _ h => h⟩)
          have HPL := Lib.hid (hPl.on HDR.out hg)
          have HJ := Lib.hid (show J pre wr.drew from HJD.out pre wr hJ)
          have HRDD := Lib.hid (hrd.below HDR.out.1 (Nat.le_refl _))
          generalize World.drew wr = V at *
          clear hPl hrd hJ hHeld0 y0 y1 y2 y3 y4 hc1
          refine wpAnyH_take (i := 0) (v := ?_) opAt_0 (by kernel_rfl) (by kernel_rfl) (by kernel_rfl) (fun _ _ _ h => h) (Or.inl ⟨by rfl, ?_⟩) (by assumption) ?_
          rotate_left
          · (intro w hSw; obtain ⟨y1, c1⟩ := hSw; go_simp; try with_reducible rfl)
          try simp only [Act.put, List.setIfInBounds_toArray, List.set_cons_zero, List.set_cons_succ]
          refine wpAnyH_take (i := 1) (v := ?_) opAt_1 (by kernel_rfl) (by kernel_rfl) (by kernel_rfl) (fun _ _ _ h => h) (Or.inl ⟨by rfl, ?_⟩) (by assumption) ?_
          rotate_left
          · (intro w hSw; obtain ⟨y1, c1⟩ := hSw; go_simp; try with_reducible rfl)
          try simp only [Act.put, List.setIfInBounds_toArray, List.set_cons_zero, List.set_cons_succ]
          refine wpAnyH_take (i := 2) (v := ?_) opAt_2 (by kernel_rfl) (by kernel_rfl) (by kernel_rfl) (fun _ _ _ h => h) (Or.inl ⟨by rfl, ?_⟩) (by assumption) ?_
          rotate_left
          · (intro w hSw; obtain ⟨y1, c1⟩ := hSw; go_simp; try with_reducible rfl)
          try simp only [Act.put, List.setIfInBounds_toArray, List.set_cons_zero, List.set_cons_succ]
          refine wpAnyH_take (i := 3) (v := ?_) opAt_3 (by kernel_rfl) (by kernel_rfl) (by kernel_rfl) (fun _ _ _ h => h) (Or.inl ⟨by rfl, ?_⟩) (by assumption) ?_
          rotate_left
          · (intro w hSw; obtain ⟨y1, c1⟩ := hSw; go_simp; try with_reducible rfl)
          try simp only [Act.put, List.setIfInBounds_toArray, List.set_cons_zero, List.set_cons_succ]
          refine wpAnyH_take (i := 4) (v := undef) opAt_4 (by kernel_rfl) (by kernel_rfl) (by kernel_rfl) (fun _ _ _ h => h) (Or.inr ⟨by rfl, rfl⟩) (by assumption) ?_
          try simp only [Act.put, List.setIfInBounds_toArray, List.set_cons_zero, List.set_cons_succ]
          refine wpAnyH_take (i := 5) (v := undef) opAt_5 (by kernel_rfl) (by kernel_rfl) (by kernel_rfl) (fun _ _ _ h => h) (Or.inr ⟨by rfl, rfl⟩) (by assumption) ?_
          try simp only [Act.put, List.setIfInBounds_toArray, List.set_cons_zero, List.set_cons_succ]
          refine wpAnyH_take (i := 6) (v := undef) opAt_6 (by kernel_rfl) (by kernel_rfl) (by kernel_rfl) (fun _ _ _ h => h) (Or.inr ⟨by rfl, rfl⟩) (by assumption) ?_
          try simp only [Act.put, List.setIfInBounds_toArray, List.set_cons_zero, List.set_cons_succ]
          refine wpAnyH_take (i := 7) (v := undef) opAt_7 (by kernel_rfl) (by kernel_rfl) (by kernel_rfl) (fun _ _ _ h => h) (Or.inr ⟨by rfl, rfl⟩) (by assumption) ?_
          try simp only [Act.put, List.setIfInBounds_toArray, List.set_cons_zero, List.set_cons_succ]
          refine wpAnyH_take (i := 8) (v := undef) opAt_8 (by kernel_rfl) (by kernel_rfl) (by kernel_rfl) (fun _ _ _ h => h) (Or.inr ⟨by rfl, rfl⟩) (by assumption) ?_
          try simp only [Act.put, List.setIfInBounds_toArray, List.set_cons_zero, List.set_cons_succ]
          refine wpAnyH_take (i := 9) (v := undef) opAt_9 (by kernel_rfl) (by kernel_rfl) (by kernel_rfl) (fun _ _ _ h => h) (Or.inr ⟨by rfl, rfl⟩) (by assumption) ?_
          try simp only [Act.put, List.setIfInBounds_toArray, List.set_cons_zero, List.set_cons_succ]
          refine wpAnyH_take (i := 10) (v := undef) opAt_10 (by kernel_rfl) (by kernel_rfl) (by kernel_rfl) (fun _ _ _ h => h) (Or.inr ⟨by rfl, rfl⟩) (by assumption) ?_
          try simp only [Act.put, List.setIfInBounds_toArray, List.set_cons_zero, List.set_cons_succ]
          refine wpAnyH_take (i := 11) (v := undef) opAt_11 (by kernel_rfl) (by kernel_rfl) (by kernel_rfl) (fun _ _ _ h => h) (Or.inr ⟨by rfl, rfl⟩) (by assumption) ?_
          try simp only [Act.put, List.setIfInBounds_toArray, List.set_cons_zero, List.set_cons_succ]
          refine wpAnyH_take (i := 12) (v := undef) opAt_12 (by kernel_rfl) (by kernel_rfl) (by kernel_rfl) (fun _ _ _ h => h) (Or.inr ⟨by rfl, rfl⟩) (by assumption) ?_
          try simp only [Act.put, List.setIfInBounds_toArray, List.set_cons_zero, List.set_cons_succ]
          refine wpAnyH_take (i := 13) (v := undef) opAt_13 (by kernel_rfl) (by kernel_rfl) (by kernel_rfl) (fun _ _ _ h => h) (Or.inr ⟨by rfl, rfl⟩) (by assumption) ?_
          try simp only [Act.put, List.setIfInBounds_toArray, List.set_cons_zero, List.set_cons_succ]
          refine wpAnyH_take (i := 14) (v := undef) opAt_14 (by kernel_rfl) (by kernel_rfl) (by kernel_rfl) (fun _ _ _ h => h) (Or.inr ⟨by rfl, rfl⟩) (by assumption) ?_
          try simp only [Act.put, List.setIfInBounds_toArray, List.set_cons_zero, List.set_cons_succ]
          refine wpAnyH_take (i := 15) (v := undef) opAt_15 (by kernel_rfl) (by kernel_rfl) (by kernel_rfl) (fun _ _ _ h => h) (Or.inr ⟨by rfl, rfl⟩) (by assumption) ?_
          try simp only [Act.put, List.setIfInBounds_toArray, List.set_cons_zero, List.set_cons_succ]
          refine wpAnyH_take (i := 16) (v := ?_) opAt_16 (by kernel_rfl) (by kernel_rfl) (by kernel_rfl) (fun _ _ _ h => h) (Or.inl ⟨by rfl, ?_⟩) (by assumption) ?_
          rotate_left
          · (intro w hSw; obtain ⟨y1, c1⟩ := hSw; go_simp; try with_reducible rfl)
          try simp only [Act.put, List.setIfInBounds_toArray, List.set_cons_zero, List.set_cons_succ]
          refine wpAnyH_done (by kernel_rfl) ?_ _
          refine NoPanic.normal ?_
          obtain ⟨y0, y1, y2, y3, y4⟩ := rw5 HPL.out.blk
          rw [hdr, evN_high [] o _ i (by simp)] at hev
          obtain ⟨fn, tmps, assign, body, hy, hRd⟩ := hY pre (some ⟨i, hin⟩) V HJ.out (by have := congrArg List.length hev; rw [List.length_append, List.length_map, List.length_cons] at this; omega)
          dsimp only [encP] at hy
          have HEV := Lib.hid hev
          clear hev
          gi_wp2
          refine hRd.mono ?_
          rintro e W3 (⟨rfl, hJ3, hk3⟩ | ⟨rfl, hJx3⟩)
          · gi_wp2
            go_roundw
            case rel =>
              have hpl3 := HPL.out.on hk3 hg
              exact ⟨i + 1, [], A, c, 0, pre ++ [some ⟨i, hin⟩], rfl, by push_cast; rfl, hpt, hmc, hm6, by omega, Lib.hid ⟨HRDD.out.below hk3.1 (Nat.le_refl _), by rw [List.map_append, List.append_assoc]; exact HEV.out, hJ3, hpl3⟩⟩
            case measure => simp [RowKit.intOf]; omega
          · gi_wp2
            refine bodyPost_ret (results_none rfl _ _ _) rfl ?_
            exact ⟨⟨_, rfl⟩, .inr ⟨_, trivial, hJx3⟩⟩
        · obtain ⟨k, rfl⟩ : ∃ k, m = k + 1 := ⟨m - 1, by omega⟩
          obtain ⟨q, r, rfl⟩ : ∃ q r, pt = q :: r := by
            rcases pt with _ | ⟨q, r⟩
            · simp at hpt
            · exact ⟨q, r, rfl⟩
          obtain ⟨b, oo, rfl, hbn, hcc⟩ := hrd (by simp)
          have hq1 : wr.cell? ⟨b, oo, none⟩ = some (.int .i64 (q : Int)) := by have := hcc 0 (.int .i64 (q : Int)) (by simp); rwa [Nat.add_zero] at this
          have hrd2 : Rd wr n₀ (if c = 1 then some ⟨b, oo, none⟩ else (some (⟨b, oo, none⟩ : Addr)).map (·.add 1)) ((r).map fun q : Nat => Value.int .i64 (q : Int)) := by
            have := hrd.cut (k := 1) (cap := c) (by rw [List.length_map, hpt]; exact hmc)
            simpa using this
          obtain ⟨A2, hA2⟩ : ∃ A2, (if c = 1 then some (⟨b, oo, none⟩ : Addr) else (some (⟨b, oo, none⟩ : Addr)).map (·.add 1)) = A2 := ⟨_, rfl⟩
          rw [hA2] at hrd2
          have hcut : ∀ w, (Instr.sliceAt 28 (.slice (some ⟨b, oo, none⟩) (k + 1) c) (some (.int .i64 1)) none none).run Tryd.prog w = .ok (.slice A2 k (c - 1)) w := fun w => by rw [run_cut1 _ _ _ (by omega) w, hA2, Nat.add_sub_cancel]
          have hk0 : (0 : Int) < (k : Int) + 1 := by omega
          have hrl : r.length = k := by simpa using hpt
          by_cases hqo : q < o
          · have jq : decide ((q : Int) < (o : Int)) = true := decide_eq_true (by omega)
            have hHeld0 : True := trivial
            have HRD2 := Lib.hid hrd2
            clear hrd2 hA2
            gi_wp2
            refine wpIn_wide.2 ?_
            refine wp_region_noPanic ?_
            refine wp_region_held_drew (S := fun w' => w'.cell? ⟨Bs, 1, none⟩ = some (.slice (some ⟨g, 0, none⟩) nf cf) ∧ w'.cell? ⟨g, i * 9 + 1, none⟩ = some (.int .u32 (o : Int)) ∧ w'.cell? ⟨b, oo, none⟩ = some (.int .i64 (q : Int))) (by kernel_rfl) (⟨y1, hc1, hq1⟩) (fun hHeld => ?_)
            have HDR := Lib.hid (show KpP n₀ Bs wr wr.drew from ⟨(Below.refl n₀ wr).drew, fun _ _ h => h⟩)
            have HPL := Lib.hid (hPl.on HDR.out hg)
            have HJ := Lib.hid (show J pre wr.drew from HJD.out pre wr hJ)
            have HRDD := Lib.hid (hrd.below HDR.out.1 (Nat.le_refl _))
            generalize World.drew wr = V at *
            clear hPl hrd hJ hHeld0 y0 y1 y2 y3 y4 hc1
            clear hq1 hcc
            refine wpAnyH_take (i := 0) (v := ?_) opAt_0 (by kernel_rfl) (by kernel_rfl) (by kernel_rfl) (fun _ _ _ h => h) (Or.inl ⟨by rfl, ?_⟩) (by assumption) ?_
            rotate_left
            · (intro w hSw; obtain ⟨y1, c1, q1⟩ := hSw; go_simp; try with_reducible rfl)
            try simp only [Act.put, List.setIfInBounds_toArray, List.set_cons_zero, List.set_cons_succ]
            refine wpAnyH_take (i := 1) (v := ?_) opAt_1 (by kernel_rfl) (by kernel_rfl) (by kernel_rfl) (fun _ _ _ h => h) (Or.inl ⟨by rfl, ?_⟩) (by assumption) ?_
            rotate_left
            · (intro w hSw; obtain ⟨y1, c1, q1⟩ := hSw; go_simp; try with_reducible rfl)
            try simp only [Act.put, List.setIfInBounds_toArray, List.set_cons_zero, List.set_cons_succ]
            refine wpAnyH_take (i := 2) (v := ?_) opAt_2 (by kernel_rfl) (by kernel_rfl) (by kernel_rfl) (fun _ _ _ h => h) (Or.inl ⟨by rfl, ?_⟩) (by assumption) ?_
            rotate_left
            · (intro w hSw; obtain ⟨y1, c1, q1⟩ := hSw; go_simp; try with_reducible rfl)
            try simp only [Act.put, List.setIfInBounds_toArray, List.set_cons_zero, List.set_cons_succ]
            refine wpAnyH_take (i := 3) (v := ?_) opAt_3 (by kernel_rfl) (by kernel_rfl) (by kernel_rfl) (fun _ _ _ h => h) (Or.inl ⟨by rfl, ?_⟩) (by assumption) ?_
            rotate_left
            · (intro w hSw; obtain ⟨y1, c1, q1⟩ := hSw; go_simp; try with_reducible rfl)
            try simp only [Act.put, List.setIfInBounds_toArray, List.set_cons_zero, List.set_cons_succ]
            refine wpAnyH_take (i := 4) (v := ?_) opAt_4 (by kernel_rfl) (by kernel_rfl) (by kernel_rfl) (fun _ _ _ h => h) (Or.inl ⟨by rfl, ?_⟩) (by assumption) ?_
            rotate_left
            · (intro w hSw; obtain ⟨y1, c1, q1⟩ := hSw; go_simp; try with_reducible rfl)
            try simp only [Act.put, List.setIfInBounds_toArray, List.set_cons_zero, List.set_cons_succ]
            refine wpAnyH_take (i := 5) (v := ?_) opAt_5 (by kernel_rfl) (by kernel_rfl) (by kernel_rfl) (fun _ _ _ h => h) (Or.inl ⟨by rfl, ?_⟩) (by assumption) ?_
            rotate_left
            · (intro w hSw; obtain ⟨y1, c1, q1⟩ := hSw; go_simp; try with_reducible rfl)
            try simp only [Act.put, List.setIfInBounds_toArray, List.set_cons_zero, List.set_cons_succ]
            refine wpAnyH_take (i := 6) (v := ?_) opAt_6 (by kernel_rfl) (by kernel_rfl) (by kernel_rfl) (fun _ _ _ h => h) (Or.inl ⟨by rfl, ?_⟩) (by assumption) ?_
            rotate_left
            · (intro w hSw; obtain ⟨y1, c1, q1⟩ := hSw; go_simp; try with_reducible rfl)
            try simp only [Act.put, List.setIfInBounds_toArray, List.set_cons_zero, List.set_cons_succ]
            refine wpAnyH_take (i := 7) (v := ?_) opAt_7 (by kernel_rfl) (by kernel_rfl) (by kernel_rfl) (fun _ _ _ h => h) (Or.inl ⟨by rfl, ?_⟩) (by assumption) ?_
            rotate_left
            · (intro w hSw; obtain ⟨y1, c1, q1⟩ := hSw; go_simp; try with_reducible rfl)
            try simp only [Act.put, List.setIfInBounds_toArray, List.set_cons_zero, List.set_cons_succ]
            refine wpAnyH_take (i := 8) (v := ?_) opAt_8 (by kernel_rfl) (by kernel_rfl) (by kernel_rfl) (fun _ _ _ h => h) (Or.inl ⟨by rfl, ?_⟩) (by assumption) ?_
            rotate_left
            · (intro w hSw; obtain ⟨y1, c1, q1⟩ := hSw; go_simp; try with_reducible rfl)
            try simp only [Act.put, List.setIfInBounds_toArray, List.set_cons_zero, List.set_cons_succ]
            refine wpAnyH_take (i := 9) (v := ?_) opAt_9 (by kernel_rfl) (by kernel_rfl) (by kernel_rfl) (fun _ _ _ h => h) (Or.inl ⟨by rfl, ?_⟩) (by assumption) ?_
            rotate_left
            · (intro w hSw; obtain ⟨y1, c1, q1⟩ := hSw; go_simp; try with_reducible rfl)
            try simp only [Act.put, List.setIfInBounds_toArray, List.set_cons_zero, List.set_cons_succ]
            refine wpAnyH_take (i := 10) (v := ?_) opAt_10 (by kernel_rfl) (by kernel_rfl) (by kernel_rfl) (fun _ _ _ h => h) (Or.inl ⟨by rfl, ?_⟩) (by assumption) ?_
            rotate_left
            · (intro w hSw; obtain ⟨y1, c1, q1⟩ := hSw; go_simp; try with_reducible rfl)
            try simp only [Act.put, List.setIfInBounds_toArray, List.set_cons_zero, List.set_cons_succ]
            refine wpAnyH_take (i := 11) (v := ?_) opAt_11 (by kernel_rfl) (by kernel_rfl) (by kernel_rfl) (fun _ _ _ h => h) (Or.inl ⟨by rfl, ?_⟩) (by assumption) ?_
            rotate_left
            · (intro w hSw; obtain ⟨y1, c1, q1⟩ := hSw; go_simp; try with_reducible rfl)
            try simp only [Act.put, List.setIfInBounds_toArray, List.set_cons_zero, List.set_cons_succ]
            refine wpAnyH_take (i := 12) (v := ?_) opAt_12 (by kernel_rfl) (by kernel_rfl) (by kernel_rfl) (fun _ _ _ h => h) (Or.inl ⟨by rfl, ?_⟩) (by assumption) ?_
            rotate_left
            · (intro w hSw; obtain ⟨y1, c1, q1⟩ := hSw; go_simp; try with_reducible rfl)
            try simp only [Act.put, List.setIfInBounds_toArray, List.set_cons_zero, List.set_cons_succ]
            refine wpAnyH_take (i := 13) (v := ?_) opAt_13 (by kernel_rfl) (by kernel_rfl) (by kernel_rfl) (fun _ _ _ h => h) (Or.inl ⟨by rfl, ?_⟩) (by assumption) ?_
            rotate_left
            · (intro w hSw; obtain ⟨y1, c1, q1⟩ := hSw; go_simp; try with_reducible rfl)
            try simp only [Act.put, List.setIfInBounds_toArray, List.set_cons_zero, List.set_cons_succ]
            refine wpAnyH_take (i := 14) (v := ?_) opAt_14 (by kernel_rfl) (by kernel_rfl) (by kernel_rfl) (fun _ _ _ h => h) (Or.inl ⟨by rfl, ?_⟩) (by assumption) ?_
            rotate_left
            · (intro w hSw; obtain ⟨y1, c1, q1⟩ := hSw; go_simp; try with_reducible rfl)
            try simp only [Act.put, List.setIfInBounds_toArray, List.set_cons_zero, List.set_cons_succ]
            refine wpAnyH_take (i := 15) (v := ?_) opAt_15 (by kernel_rfl) (by kernel_rfl) (by kernel_rfl) (fun _ _ _ h => h) (Or.inl ⟨by rfl, ?_⟩) (by assumption) ?_
            rotate_left
            · (intro w hSw; obtain ⟨y1, c1, q1⟩ := hSw; go_simp; try with_reducible rfl)
            try simp only [Act.put, List.setIfInBounds_toArray, List.set_cons_zero, List.set_cons_succ]
            refine wpAnyH_take (i := 16) (v := ?_) opAt_16 (by kernel_rfl) (by kernel_rfl) (by kernel_rfl) (fun _ _ _ h => h) (Or.inl ⟨by rfl, ?_⟩) (by assumption) ?_
            rotate_left
            · (intro w hSw; obtain ⟨y1, c1, q1⟩ := hSw; go_simp; try with_reducible rfl)
            try simp only [Act.put, List.setIfInBounds_toArray, List.set_cons_zero, List.set_cons_succ]
            refine wpAnyH_done (by kernel_rfl) ?_ _
            refine NoPanic.normal ?_
            rw [hdr, evN_low q r o _ i hqo, ← hdr] at hev
            obtain ⟨fn, tmps, assign, body, hy, hRd⟩ := hY pre none V HJ.out (by have := congrArg List.length hev; rw [List.length_append, List.length_map, List.length_cons] at this; omega)
            dsimp only [encP] at hy
            have HEV := Lib.hid hev
            clear hev hqo jq
            gi_wp2
            refine hRd.mono ?_
            rintro e W3 (⟨rfl, hJ3, hk3⟩ | ⟨rfl, hJx3⟩)
            · gi_wp2
              go_roundw
              case rel =>
                exact ⟨r, A2, c - 1, k, pre ++ [none], rfl, hrl, by omega, by omega, Lib.hid ⟨(HRD2.out.below HDR.out.1 (Nat.le_refl _)).below hk3.1 (Nat.le_refl _), by rw [List.map_append, List.append_assoc]; exact HEV.out, hJ3, HPL.out.on hk3 hg⟩⟩
              case measure => simp
            · gi_wp2
              refine bodyPost_ret (results_none rfl _ _ _) rfl ?_
              exact ⟨⟨_, rfl⟩, .inr ⟨_, trivial, hJx3⟩⟩
          · have jq : decide ((q : Int) < (o : Int)) = false := decide_eq_false (by omega)
            have hHeld0 : True := trivial
            gi_wp2
            refine wpIn_wide.2 ?_
            refine wp_region_noPanic ?_
            refine wp_region_held_drew (S := fun w' => w'.cell? ⟨Bs, 1, none⟩ = some (.slice (some ⟨g, 0, none⟩) nf cf) ∧ w'.cell? ⟨g, i * 9 + 1, none⟩ = some (.int .u32 (o : Int)) ∧ w'.cell? ⟨b, oo, none⟩ = some (.int .i64 (q : Int))) (by kernel_rfl) (⟨y1, hc1, hq1⟩) (fun hHeld => ?_)
            have HDR := Lib.hid (show KpP n₀ Bs wr wr.drew from ⟨(Below.refl n₀ wr).drew, fun _ _ h => h⟩)
            have HPL := Lib.hid (hPl.on HDR.out hg)
            have HJ := Lib.hid (show J pre wr.drew from HJD.out pre wr hJ)
            have HRDD := Lib.hid (hrd.below HDR.out.1 (Nat.le_refl _))
            generalize World.drew wr = V at *
            clear hPl hrd hJ hHeld0 y0 y1 y2 y3 y4 hc1
            clear hq1 hcc
            refine wpAnyH_take (i := 0) (v := ?_) opAt_0 (by kernel_rfl) (by kernel_rfl) (by kernel_rfl) (fun _ _ _ h => h) (Or.inl ⟨by rfl, ?_⟩) (by assumption) ?_
            rotate_left
            · (intro w hSw; obtain ⟨y1, c1, q1⟩ := hSw; go_simp; try with_reducible rfl)
            try simp only [Act.put, List.setIfInBounds_toArray, List.set_cons_zero, List.set_cons_succ]
            refine wpAnyH_take (i := 1) (v := ?_) opAt_1 (by kernel_rfl) (by kernel_rfl) (by kernel_rfl) (fun _ _ _ h => h) (Or.inl ⟨by rfl, ?_⟩) (by assumption) ?_
            rotate_left
            · (intro w hSw; obtain ⟨y1, c1, q1⟩ := hSw; go_simp; try with_reducible rfl)
            try simp only [Act.put, List.setIfInBounds_toArray, List.set_cons_zero, List.set_cons_succ]
            refine wpAnyH_take (i := 2) (v := ?_) opAt_2 (by kernel_rfl) (by kernel_rfl) (by kernel_rfl) (fun _ _ _ h => h) (Or.inl ⟨by rfl, ?_⟩) (by assumption) ?_
            rotate_left
            · (intro w hSw; obtain ⟨y1, c1, q1⟩ := hSw; go_simp; try with_reducible rfl)
            try simp only [Act.put, List.setIfInBounds_toArray, List.set_cons_zero, List.set_cons_succ]
            refine wpAnyH_take (i := 3) (v := ?_) opAt_3 (by kernel_rfl) (by kernel_rfl) (by kernel_rfl) (fun _ _ _ h => h) (Or.inl ⟨by rfl, ?_⟩) (by assumption) ?_
            rotate_left
            · (intro w hSw; obtain ⟨y1, c1, q1⟩ := hSw; go_simp; try with_reducible rfl)
            try simp only [Act.put, List.setIfInBounds_toArray, List.set_cons_zero, List.set_cons_succ]
            refine wpAnyH_take (i := 4) (v := ?_) opAt_4 (by kernel_rfl) (by kernel_rfl) (by kernel_rfl) (fun _ _ _ h => h) (Or.inl ⟨by rfl, ?_⟩) (by assumption) ?_
            rotate_left
            · (intro w hSw; obtain ⟨y1, c1, q1⟩ := hSw; go_simp; try with_reducible rfl)
            try simp only [Act.put, List.setIfInBounds_toArray, List.set_cons_zero, List.set_cons_succ]
            refine wpAnyH_take (i := 5) (v := ?_) opAt_5 (by kernel_rfl) (by kernel_rfl) (by kernel_rfl) (fun _ _ _ h => h) (Or.inl ⟨by rfl, ?_⟩) (by assumption) ?_
            rotate_left
            · (intro w hSw; obtain ⟨y1, c1, q1⟩ := hSw; go_simp; try with_reducible rfl)
            try simp only [Act.put, List.setIfInBounds_toArray, List.set_cons_zero, List.set_cons_succ]
            refine wpAnyH_take (i := 6) (v := ?_) opAt_6 (by kernel_rfl) (by kernel_rfl) (by kernel_rfl) (fun _ _ _ h => h) (Or.inl ⟨by rfl, ?_⟩) (by assumption) ?_
            rotate_left
            · (intro w hSw; obtain ⟨y1, c1, q1⟩ := hSw; go_simp; try with_reducible rfl)
            try simp only [Act.put, List.setIfInBounds_toArray, List.set_cons_zero, List.set_cons_succ]
            refine wpAnyH_take (i := 7) (v := ?_) opAt_7 (by kernel_rfl) (by kernel_rfl) (by kernel_rfl) (fun _ _ _ h => h) (Or.inl ⟨by rfl, ?_⟩) (by assumption) ?_
            rotate_left
            · (intro w hSw; obtain ⟨y1, c1, q1⟩ := hSw; go_simp; try with_reducible rfl)
            try simp only [Act.put, List.setIfInBounds_toArray, List.set_cons_zero, List.set_cons_succ]
            refine wpAnyH_take (i := 8) (v := ?_) opAt_8 (by kernel_rfl) (by kernel_rfl) (by kernel_rfl) (fun _ _ _ h => h) (Or.inl ⟨by rfl, ?_⟩) (by assumption) ?_
            rotate_left
            · (intro w hSw; obtain ⟨y1, c1, q1⟩ := hSw; go_simp; try with_reducible rfl)
            try simp only [Act.put, List.setIfInBounds_toArray, List.set_cons_zero, List.set_cons_succ]
            refine wpAnyH_take (i := 9) (v := ?_) opAt_9 (by kernel_rfl) (by kernel_rfl) (by kernel_rfl) (fun _ _ _ h => h) (Or.inl ⟨by rfl, ?_⟩) (by assumption) ?_
            rotate_left
            · (intro w hSw; obtain ⟨y1, c1, q1⟩ := hSw; go_simp; try with_reducible rfl)
            try simp only [Act.put, List.setIfInBounds_toArray, List.set_cons_zero, List.set_cons_succ]
            refine wpAnyH_take (i := 10) (v := ?_) opAt_10 (by kernel_rfl) (by kernel_rfl) (by kernel_rfl) (fun _ _ _ h => h) (Or.inl ⟨by rfl, ?_⟩) (by assumption) ?_
            rotate_left
            · (intro w hSw; obtain ⟨y1, c1, q1⟩ := hSw; go_simp; try with_reducible rfl)
            try simp only [Act.put, List.setIfInBounds_toArray, List.set_cons_zero, List.set_cons_succ]
            refine wpAnyH_take (i := 11) (v := ?_) opAt_11 (by kernel_rfl) (by kernel_rfl) (by kernel_rfl) (fun _ _ _ h => h) (Or.inl ⟨by rfl, ?_⟩) (by assumption) ?_
            rotate_left
            · (intro w hSw; obtain ⟨y1, c1, q1⟩ := hSw; go_simp; try with_reducible rfl)
            try simp only [Act.put, List.setIfInBounds_toArray, List.set_cons_zero, List.set_cons_succ]
            refine wpAnyH_take (i := 12) (v := ?_) opAt_12 (by kernel_rfl) (by kernel_rfl) (by kernel_rfl) (fun _ _ _ h => h) (Or.inl ⟨by rfl, ?_⟩) (by assumption) ?_
            rotate_left
            · (intro w hSw; obtain ⟨y1, c1, q1⟩ := hSw; go_simp; try with_reducible rfl)
            try simp only [Act.put, List.setIfInBounds_toArray, List.set_cons_zero, List.set_cons_succ]
            refine wpAnyH_take (i := 13) (v := ?_) opAt_13 (by kernel_rfl) (by kernel_rfl) (by kernel_rfl) (fun _ _ _ h => h) (Or.inl ⟨by rfl, ?_⟩) (by assumption) ?_
            rotate_left
            · (intro w hSw; obtain ⟨y1, c1, q1⟩ := hSw; go_simp; try with_reducible rfl)
            try simp only [Act.put, List.setIfInBounds_toArray, List.set_cons_zero, List.set_cons_succ]
            refine wpAnyH_take (i := 14) (v := ?_) opAt_14 (by kernel_rfl) (by kernel_rfl) (by kernel_rfl) (fun _ _ _ h => h) (Or.inl ⟨by rfl, ?_⟩) (by assumption) ?_
            rotate_left
            · (intro w hSw; obtain ⟨y1, c1, q1⟩ := hSw; go_simp; try with_reducible rfl)
            try simp only [Act.put, List.setIfInBounds_toArray, List.set_cons_zero, List.set_cons_succ]
            refine wpAnyH_take (i := 15) (v := ?_) opAt_15 (by kernel_rfl) (by kernel_rfl) (by kernel_rfl) (fun _ _ _ h => h) (Or.inl ⟨by rfl, ?_⟩) (by assumption) ?_
            rotate_left
            · (intro w hSw; obtain ⟨y1, c1, q1⟩ := hSw; go_simp; try with_reducible rfl)
            try simp only [Act.put, List.setIfInBounds_toArray, List.set_cons_zero, List.set_cons_succ]
            refine wpAnyH_take (i := 16) (v := ?_) opAt_16 (by kernel_rfl) (by kernel_rfl) (by kernel_rfl) (fun _ _ _ h => h) (Or.inl ⟨by rfl, ?_⟩) (by assumption) ?_
            rotate_left
            · (intro w hSw; obtain ⟨y1, c1, q1⟩ := hSw; go_simp; try with_reducible rfl)
            try simp only [Act.put, List.setIfInBounds_toArray, List.set_cons_zero, List.set_cons_succ]
            refine wpAnyH_done (by kernel_rfl) ?_ _
            refine NoPanic.normal ?_
            clear jq
            obtain ⟨y0, y1, y2, y3, y4⟩ := rw5 HPL.out.blk
            rw [hdr, evN_high (q :: r) o _ i (by rintro q' r' e; injection e with e _; rw [← e]; exact hqo)] at hev
            obtain ⟨fn, tmps, assign, body, hy, hRd⟩ := hY pre (some ⟨i, hin⟩) V HJ.out (by have := congrArg List.length hev; rw [List.length_append, List.length_map, List.length_cons] at this; omega)
            dsimp only [encP] at hy
            have HEV := Lib.hid hev
            clear hev
            gi_wp2
            refine hRd.mono ?_
            rintro e W3 (⟨rfl, hJ3, hk3⟩ | ⟨rfl, hJx3⟩)
            · gi_wp2
              go_roundw
              case rel =>
                have hpl3 := HPL.out.on hk3 hg
                exact ⟨i + 1, (q :: r), (some ⟨b, oo, none⟩), c, (k + 1), pre ++ [some ⟨i, hin⟩], rfl, by push_cast; rfl, hpt, hmc, hm6, by omega, Lib.hid ⟨HRDD.out.below hk3.1 (Nat.le_refl _), by rw [List.map_append, List.append_assoc]; exact HEV.out, hJ3, hpl3⟩⟩
              case measure => simp [RowKit.intOf]; omega
            · gi_wp2
              refine bodyPost_ret (results_none rfl _ _ _) rfl ?_
              exact ⟨⟨_, rfl⟩, .inr ⟨_, trivial, hJx3⟩⟩
    · have j0 : ¬ (i : Int) < (nf : Int) := by omega
      obtain ⟨hrd, hev, hJ, hPl⟩ := hh.out
      obtain rfl : i = nf := by omega
      rw [List.drop_of_length_le (by omega), evN_end] at hev
      by_cases hm0 : m = 0
      · subst hm0
        obtain rfl : pt = [] := List.length_eq_zero_iff.1 hpt
        rw [if_pos rfl, List.append_nil] at hev
        have HEV := Lib.hid hev
        clear hev
        gi_wp2
        go_end0
        exact ⟨⟨_, rfl⟩, .inl ⟨pre, HEV.out, hJ⟩⟩
      · have j1 : (0 : Int) < (m : Int) := by omega
        rw [if_neg (fun e => hm0 (by rw [e] at hpt; exact hpt.symm))] at hev
        obtain ⟨fn, tmps, assign, body, hy, hRd⟩ := hY pre none wr hJ (by have := congrArg List.length hev; rw [List.length_append, List.length_map] at this; simp at this; omega)
        dsimp only [encP] at hy
        have HEV := Lib.hid hev
        clear hev
        gi_wp2
        refine hRd.mono ?_
        rintro e W3 (⟨rfl, hJ3, hk3⟩ | ⟨rfl, hJx3⟩)
        · gi_wp2
          go_end0
          exact ⟨⟨_, rfl⟩, .inl ⟨pre ++ [none], by rw [List.map_append]; exact HEV.out, hJ3⟩⟩
        · gi_wp2
          go_end0
          exact ⟨⟨_, rfl⟩, .inr ⟨_, trivial, hJx3⟩⟩
end Go.Proofs.YtkpkfgcbccaibaaDoor.Sc

/- ScLosts -/

/-
  Layer 12: the landed scan: what may be lost, by a seal.
-/
set_option linter.unusedVariables false
set_option linter.unusedSimpArgs false
namespace Go.Proofs.YtkpkfgcbccaibaaDoor.Sc
open Go Go.RowKit
attribute [local go_sem] Oper.semAt_some

/-- the value v is the row of these periods, in memory from `lo` on -/
def LostV (w : World) (lo : Nat) (v : Value) (o : List (Int × Int)) : Prop := ∃ A n c, v = .slice A n c ∧ o.length = n ∧ w.ownsRow lo 45 2 (.slice A n c) n (rowP o)
theorem LostV.on {w w' : World} {lo : Nat} {v : Value} {o : List (Int × Int)} (h : LostV w lo v o) (hb : Below w.heap.size w w') : LostV w' lo v o := by
  obtain ⟨A, n, c, h1, h2, h3⟩ := h
  exact ⟨A, n, c, h1, h2, own_below h3 hb (Nat.le_refl _)⟩
section
variable {w w' : World} {row : Option Nat}
theorem grown_cells (hg : w.grownBy w' row) (hr : ∀ r, row = some r → ∃ o : Obj, w.heap[r]? = some o ∧ o.isCells = false) {k : Nat} {arr : Array Value} {T : TypeId} {z : Nat × Nat} (hk : w.heap[k]? = some (.cells arr T z)) : w'.heap[k]? = some (.cells arr T z) := by
  refine (hg.block k (Array.getElem?_eq_some_iff.1 hk).1 (fun e => ?_)).trans hk
  obtain ⟨o, ho, hc⟩ := hr k e.symm
  rw [hk] at ho
  injection ho with ho
  subst ho
  simp [Obj.isCells] at hc
theorem grown_own (hg : w.grownBy w' row) (hr : ∀ r, row = some r → ∃ o : Obj, w.heap[r]? = some o ∧ o.isCells = false) {lo size n : Nat} {e : TypeId} {v : Value} {xs : List Value} (ho : w.ownsRow lo e size v n xs) : w'.ownsRow lo e size v n xs := by
  refine (Chg.of_grown (M := fun g => row = some g) hg (fun g h => h)).own ho fun g hv hN => ?_
  obtain ⟨arr, z, h⟩ := own_typed ho g hv
  obtain ⟨o, ho2, hc⟩ := hr g hN
  rw [h] at ho2
  injection ho2 with ho2
  subst ho2
  simp [Obj.isCells] at hc
theorem LostB.grown {lo L : Nat} {o : List (Int × Int)} (h : LostB w lo L o) (hg : w.grownBy w' row) (hr : ∀ r, row = some r → ∃ o : Obj, w.heap[r]? = some o ∧ o.isCells = false) : LostB w' lo L o := by
  obtain ⟨A, n, c, h1, h2, h3⟩ := h
  exact ⟨A, n, c, grown_cells hg hr h1, h2, grown_own hg hr h3⟩
end
/-- what was found there -/
def Pla.fd {n : Nat} (fs : List Fd) (x : Pla n) : Option Fd := x.num.bind fun i => fs[i]?
theorem evN_ev (fs : List Fd) : ∀ (l : List Fd) (i : Nat) (ps : List Nat), fs.drop i = l → (evN ps (l.map (·.off)) i).map (fun o => o.bind fun k => fs[k]?) = ev ps l
  | [], i, ps, _ => by rcases ps with _ | ⟨q, r⟩ <;> rfl
  | f :: l, i, ps, h => by
    have hi : fs[i]? = some f := by
      have := congrArg (·[0]?) h
      simpa using this
    have hd : fs.drop (i + 1) = l := by
      have := congrArg List.tail h
      rwa [List.tail_drop, List.tail_cons] at this
    have e1 : evN ps ((f :: l).map (·.off)) i = (ps.takeWhile fun q => decide (q < f.off)).map (fun _ => none) ++ some i :: evN (ps.dropWhile fun q => decide (q < f.off)) (l.map (·.off)) (i + 1) := by cases ps <;> rfl
    have e2 : ev ps (f :: l) = (ps.takeWhile fun q => decide (q < f.off)).map (fun _ => none) ++ some f :: ev (ps.dropWhile fun q => decide (q < f.off)) l := by cases ps <;> rfl
    rw [e1, e2, List.map_append, List.map_cons, List.map_map, evN_ev fs l (i + 1) _ hd]
    simp [hi]
theorem evN_len (ps offs : List Nat) (i : Nat) : (evN ps offs i).length ≤ ps.length + offs.length := by
  induction offs generalizing ps i with
  | nil => rcases ps with _ | ⟨q, r⟩ <;> simp [evN]
  | cons o l ih =>
    have e1 : evN ps (o :: l) i = (ps.takeWhile fun q => decide (q < o)).map (fun _ => none) ++ some i :: evN (ps.dropWhile fun q => decide (q < o)) l (i + 1) := by cases ps <;> rfl
    rw [e1, List.length_append, List.length_map, List.length_cons]
    have h1 := ih (ps.dropWhile fun q => decide (q < o)) (i + 1)
    have h2 : (ps.takeWhile fun q => decide (q < o)).length + (ps.dropWhile fun q => decide (q < o)).length = ps.length := by rw [← List.length_append, List.takeWhile_append_dropWhile]
    simp only [List.length_cons]
    omega
/-- the number to go on from, whether one was passed over, the periods, behind some of the places -/
def stP {n : Nat} (fs : List Fd) (f : Int) (pre : List (Pla n)) : Int × Bool × List (Int × Int) := (pre.map (Pla.fd fs)).foldl stepL (f, false, [])
theorem stP_snoc {n : Nat} (fs : List Fd) (f : Int) (pre : List (Pla n)) (x : Pla n) : stP fs f (pre ++ [x]) = stepL (stP fs f pre) (x.fd fs) := by simp [stP]
theorem stepL_len (st : Int × Bool × List (Int × Int)) (x : Option Fd) : (stepL st x).2.2.length ≤ st.2.2.length + 1 := by
  obtain ⟨n, g, o⟩ := st
  cases x with
  | none => simp [stepL]
  | some f =>
    simp only [stepL]
    split <;> simp
theorem stP_len {n : Nat} (fs : List Fd) (f : Int) (pre : List (Pla n)) : (stP fs f pre).2.2.length ≤ pre.length := by
  unfold stP
  suffices h : ∀ (l : List (Option Fd)) (st : Int × Bool × List (Int × Int)), (l.foldl stepL st).2.2.length ≤ st.2.2.length + l.length by
    have := h (pre.map (Pla.fd fs)) (f, false, [])
    simpa using this
  intro l
  induction l with
  | nil => intro st; simp
  | cons x l ih =>
    intro st
    have h1 := ih (stepL st x)
    have h2 := stepL_len st x
    simp only [List.foldl_cons, List.length_cons]
    omega
/-- what stands within Lost's loop -/
structure LoopI (w W : World) (bx L Fb g7 g8 : Nat) (s : S) (x : Sl) (vf vp : Value) (st : Int × Bool × List (Int × Int)) : Prop where
  below : Below bx w W
  sb : W.heap[bx]? = some (.cells #[.int .u32 (s.id : Int), vf, vp, .int .i64 (s.stop : Int), .int .i64 (s.why : Int)] 31 (0, 0))
  xb : W.heap[bx + 1]? = some (.cells #[.int .u32 (x.id : Int), .int .u32 (x.size : Int), .int .u32 (x.many : Int), .int .u64 (x.first : Int), .int .u64 (x.last : Int)] 26 (0, 0))
  lb : LostB W bx L st.2.2
  fb : W.heap[Fb]? = some (.cells #[.func (.func 22) #[] #[.pointer (some ⟨L, 0, none⟩)]] 74 (0, 0))
  nb : W.heap[g7]? = some (.cells #[.int .u64 st.1] 24 (0, 0))
  gb : W.heap[g8]? = some (.cells #[.bool st.2.1] 4 (0, 0))
section
variable {w W W' : World} {bx L Fb g7 g8 : Nat} {s : S} {x : Sl} {vf vp : Value} {st : Int × Bool × List (Int × Int)}
theorem LoopI.grown {row : Option Nat} (h : LoopI w W bx L Fb g7 g8 s x vf vp st) (hg : W.grownBy W' row) (hbx : bx ≤ W.heap.size) (hr : ∀ r, row = some r → bx ≤ r ∧ ∃ o : Obj, W.heap[r]? = some o ∧ o.isCells = false) : LoopI w W' bx L Fb g7 g8 s x vf vp st :=
  have hr2 : ∀ r, row = some r → ∃ o : Obj, W.heap[r]? = some o ∧ o.isCells = false := fun r e => (hr r e).2
  ⟨h.below.trans ((Below.refl bx W).grown hg hbx fun k e => (hr k e).1), grown_cells hg hr2 h.sb, grown_cells hg hr2 h.xb, h.lb.grown hg hr2, grown_cells hg hr2 h.fb, grown_cells hg hr2 h.nb, grown_cells hg hr2 h.gb⟩
theorem LoopI.lt (h : LoopI w W bx L Fb g7 g8 s x vf vp st) : bx < W.heap.size := (Array.getElem?_eq_some_iff.1 h.sb).1
theorem LoopI.on (h : LoopI w W bx L Fb g7 g8 s x vf vp st) (hb : Below W.heap.size W W') : LoopI w W' bx L Fb g7 g8 s x vf vp st :=
  ⟨h.below.trans (hb.mono (by have := h.lt; omega)), (hb.block _ (Array.getElem?_eq_some_iff.1 h.sb).1).trans h.sb, (hb.block _ (Array.getElem?_eq_some_iff.1 h.xb).1).trans h.xb, h.lb.on hb, (hb.block _ (Array.getElem?_eq_some_iff.1 h.fb).1).trans h.fb, (hb.block _ (Array.getElem?_eq_some_iff.1 h.nb).1).trans h.nb, (hb.block _ (Array.getElem?_eq_some_iff.1 h.gb).1).trans h.gb⟩
theorem LoopI.lost {o : List (Int × Int)} (h : LoopI w W bx L Fb g7 g8 s x vf vp st) (hl : LostB W' bx L o) (hk : KeepX W W') (hb : Below bx W W') : LoopI w W' bx L Fb g7 g8 s x vf vp (st.1, st.2.1, o) :=
  ⟨h.below.trans hb, hk.cells h.sb (by decide) (by decide), hk.cells h.xb (by decide) (by decide), hl, hk.cells h.fb (by decide) (by decide), hk.cells h.nb (by decide) (by decide), hk.cells h.gb (by decide) (by decide)⟩
theorem LoopI.set7 (h : LoopI w W bx L Fb g7 g8 s x vf vp st) (hg : bx ≤ g7) (n : Int) : LoopI w (W.setCell ⟨g7, 0, none⟩ (.int .u64 n)) bx L Fb g7 g8 s x vf vp (n, st.2.1, st.2.2) := by
  have hty : Typed W 24 (fun i => i = g7) := fun g e => by obtain rfl : g = g7 := e; exact ⟨_, _, h.nb⟩
  have hc := chg1 W g7 0 (.int .u64 n)
  obtain ⟨A, m, c, h1, h2, h3⟩ := h.lb
  exact ⟨h.below.setCell (p := ⟨g7, 0, none⟩) hg _, hty.keep hc h.sb (by decide), hty.keep hc h.xb (by decide), ⟨A, m, c, hty.keep hc h1 (by decide), h2, hty.own (by decide) hc h3⟩, hty.keep hc h.fb (by decide), Go.Joins.block_setCell (i := 0) h.nb (.int .u64 n), hty.keep hc h.gb (by decide)⟩
theorem LoopI.set8 (h : LoopI w W bx L Fb g7 g8 s x vf vp st) (hg : bx ≤ g8) (b : Bool) : LoopI w (W.setCell ⟨g8, 0, none⟩ (.bool b)) bx L Fb g7 g8 s x vf vp (st.1, b, st.2.2) := by
  have hty : Typed W 4 (fun i => i = g8) := fun g e => by obtain rfl : g = g8 := e; exact ⟨_, _, h.gb⟩
  have hc := chg1 W g8 0 (.bool b)
  obtain ⟨A, m, c, h1, h2, h3⟩ := h.lb
  exact ⟨h.below.setCell (p := ⟨g8, 0, none⟩) hg _, hty.keep hc h.sb (by decide), hty.keep hc h.xb (by decide), ⟨A, m, c, hty.keep hc h1 (by decide), h2, hty.own (by decide) hc h3⟩, hty.keep hc h.fb (by decide), hty.keep hc h.nb (by decide), Go.Joins.block_setCell (i := 0) h.gb (.bool b)⟩
/-- what a round keeps -/
def Fr2 (n₀ Bs : Nat) (W W' : World) : Prop := KeepsOthers W W' ∧ KpP n₀ Bs W W'
theorem Fr2.trans {n₀ Bs : Nat} {A B C : World} (h : Fr2 n₀ Bs A B) (k : Fr2 n₀ Bs B C) : Fr2 n₀ Bs A C := ⟨h.1.trans k.1, h.2.trans k.2⟩
theorem Fr2.drew {n₀ Bs : Nat} {W : World} : Fr2 n₀ Bs W W.drew := ⟨⟨Nat.le_refl _, fun _ _ h _ => h⟩, (Below.refl n₀ W).drew, fun _ _ h => h⟩
theorem Fr2.set7 {Bs : Nat} (h : LoopI w W bx L Fb g7 g8 s x vf vp st) (hg : bx ≤ g7) (n : Int) : Fr2 bx Bs W (W.setCell ⟨g7, 0, none⟩ (.int .u64 n)) :=
  ⟨KeepsOthers.setCell _ _ _, (Below.refl bx W).setCell (p := ⟨g7, 0, none⟩) hg _, fun arr z hh => (show Typed W 24 (fun i => i = g7) from fun g e => by obtain rfl : g = g7 := e; exact ⟨_, _, h.nb⟩).keep (chg1 W g7 0 (.int .u64 n)) hh (by decide)⟩
theorem Fr2.set8 {Bs : Nat} (h : LoopI w W bx L Fb g7 g8 s x vf vp st) (hg : bx ≤ g8) (b : Bool) : Fr2 bx Bs W (W.setCell ⟨g8, 0, none⟩ (.bool b)) :=
  ⟨KeepsOthers.setCell _ _ _, (Below.refl bx W).setCell (p := ⟨g8, 0, none⟩) hg _, fun arr z hh => (show Typed W 4 (fun i => i = g8) from fun g e => by obtain rfl : g = g8 := e; exact ⟨_, _, h.gb⟩).keep (chg1 W g8 0 (.bool b)) hh (by decide)⟩
theorem Fr2.lost {n₀ Bs : Nat} (hk : KeepX W W') (hb : Below n₀ W W') : Fr2 n₀ Bs W W' :=
  ⟨⟨hk.size, fun k o hh ho => hk.same k o hh fun arr T z e => by subst e; simp [Obj.isCells] at ho⟩, hb, fun arr z hh => hk.cells hh (by decide) (by decide)⟩
end
set_option maxRecDepth 100000 in
set_option maxHeartbeats 16000000 in
theorem slost {w : World} {lo : Nat} {v : Value} {s : S} {x : Sl} (h : ScanV 52 w lo v s) (hr : Rise s) (hid : s.id < 4294967296) (hst : s.stop < 4294967296) (hm : s.found.length + s.passed.length ≤ 100000) (hx : x.Fits) :
    Calls Tryd.prog 12 #[v, x.val] w fun e w' => ∃ rv, e = .returned rv ∧ LostV w' w.heap.size rv (lostL s x) ∧ Below w.heap.size w w' := by
  have hpos : ∀ f ∈ s.found, 0 ≤ f.r.seq := fun f hf => by have := (hr.num f hf).1; omega
  have HF := Lib.hid (fun (V : World) (hb : Below w.heap.size w V) => sfits (x := x) (h.on hb) hid hst (by omega) hpos)
  have HWh := Lib.hid (fun (V : World) (hb : Below w.heap.size w V) => swhole (x := x) (h.on hb) hid hst (by omega) hpos hx.2.1)
  have HH := Lib.hid h
  have HRise := Lib.hid hr
  have HX := Lib.hid hx
  have HM := Lib.hid hm
  obtain ⟨Af, n, cf, Ap, np, cp, q, rfl, h1, hq, hp, hfl, e1, e2, e3, e4, h2, h3, h4⟩ := h.open
  have HOP := Lib.hid (And.intro h1 (And.intro hq (And.intro hp (And.intro hfl (And.intro h2 h4)))))
  obtain ⟨bx, hbx⟩ : ∃ bx, w.heap.size = bx := ⟨_, rfl⟩
  obtain ⟨xi, xs, xm, xf, xl⟩ := x
  obtain ⟨W1, hW1⟩ : ∃ W1, w.alloc (.cells #[.int .u32 (s.id : Int), .slice Af n cf, .slice Ap np cp, .int .i64 (s.stop : Int), .int .i64 (s.why : Int)] 31) = W1 := ⟨_, rfl⟩
  obtain ⟨W2, hW2⟩ : ∃ W, W1.alloc (.cells #[.int .u32 (xi : Int), .int .u32 (xs : Int), .int .u32 (xm : Int), .int .u64 (xf : Int), .int .u64 (xl : Int)] 26) = W := ⟨_, rfl⟩
  have hs1 : W1.heap.size = bx + 1 := by rw [← hW1, ← hbx]; simp
  have hs2' : W2.heap.size = bx + 1 + 1 := by rw [← hW2, World.size_alloc, hs1]
  obtain ⟨L, hs2⟩ : ∃ L, W2.heap.size = L := ⟨_, rfl⟩
  have hLb : bx + 1 < L := by omega
  clear hs2'
  have hb1 : Below w.heap.size w W1 := by rw [← hW1]; exact (Below.refl _ _).alloc (Nat.le_refl _) _
  have hb2 : Below W1.heap.size W1 W2 := by rw [← hW2]; exact (Below.refl _ _).alloc (Nat.le_refl _) _
  have k1 : W1.heap[bx]? = some (.cells #[.int .u32 (s.id : Int), .slice Af n cf, .slice Ap np cp, .int .i64 (s.stop : Int), .int .i64 (s.why : Int)] 31 (0, 0)) := by rw [← hW1, ← hbx]; exact heap_alloc_new w _
  have k2 : W2.heap[bx + 1]? = some (.cells #[.int .u32 (xi : Int), .int .u32 (xs : Int), .int .u32 (xm : Int), .int .u64 (xf : Int), .int .u64 (xl : Int)] 26 (0, 0)) := by rw [← hW2, ← hs1]; exact heap_alloc_new W1 _
  have k1' := (hb2.block bx (by omega)).trans k1
  have HB2 := Lib.hid (hb1.trans (hb2.mono hb1.size))
  have HBX := Lib.hid hbx
  obtain ⟨W3, hW3⟩ : ∃ W, W2.alloc (.cells #[.slice none 0 0] 40) = W := ⟨_, rfl⟩
  obtain ⟨Fb, hs3⟩ : ∃ L, W3.heap.size = L := ⟨_, rfl⟩
  obtain ⟨W4, hW4⟩ : ∃ W, W3.alloc (.cells #[.func (.func 22) #[] #[.pointer (some ⟨L, 0, none⟩)]] 74) = W := ⟨_, rfl⟩
  have hb3 : Below W2.heap.size W2 W3 := by rw [← hW3]; exact (Below.refl _ _).alloc (Nat.le_refl _) _
  have hb4 : Below W3.heap.size W3 W4 := by rw [← hW4]; exact (Below.refl _ _).alloc (Nat.le_refl _) _
  have k3 : W3.heap[L]? = some (.cells #[.slice none 0 0] 40 (0, 0)) := by rw [← hW3, ← hs2]; exact heap_alloc_new W2 _
  have k4 : W4.heap[Fb]? = some (.cells #[.func (.func 22) #[] #[.pointer (some ⟨L, 0, none⟩)]] 74 (0, 0)) := by rw [← hW4, ← hs3]; exact heap_alloc_new W3 _
  have hb24 : Below W2.heap.size W2 W4 := hb3.trans (hb4.mono hb3.size)
  have k3' := (hb4.block L (Array.getElem?_eq_some_iff.1 k3).1).trans k3
  have k1'' := (hb24.block bx (Array.getElem?_eq_some_iff.1 k1').1).trans k1'
  have k2'' := (hb24.block (bx + 1) (Array.getElem?_eq_some_iff.1 k2).1).trans k2
  have HB4 := Lib.hid (HB2.out.trans (hb24.mono HB2.out.size))
  have HK4 := Lib.hid (And.intro k1'' (And.intro k2'' (And.intro k3' k4)))
  have HLb := Lib.hid hLb
  obtain ⟨y0, y1, y2, y3, y4⟩ := rw5 k1''
  obtain ⟨x0, x1, x2, x3, x4⟩ := rw5 k2''
  obtain ⟨z0, z1, z2, z3, z4⟩ := rw5 k2
  clear h h1 hq hp hfl h2 h3 h4 hb1 hb2 k1 k1' k2 hr hx hm hpos hb3 hb4 k3 k4 hb24 k3' k1'' k2'' hLb
  have HF4 := Lib.hid (HF.out W4 HB4.out)
  simp only [Sl.val] at *
  refine (callsIn_wide (n := 5)).1 ?_
  refine callsIn_of_wp_marks Tryd.func12 rfl trivial ?_ rfl
  simp only [Tryd.ntmps12, List.size_toArray, List.length_cons, List.length_nil, Nat.reduceAdd, Nat.reduceSub, Array.replicate_succ, Array.replicate_zero, List.push_toArray, List.append_toArray, List.nil_append, List.cons_append]
  refine wpIn_wide.2 ?_
  by_cases hm0 : xm = 0
  · subst hm0
    rw [show ((0 : Nat) : Int) = 0 from rfl] at *
    go_wp2_with fail
    refine ⟨_, results_tmp rfl _ _ _, ⟨_, rfl, ?_, HB2.out⟩⟩
    rw [show lostL s ⟨xi, xs, 0, xf, xl⟩ = [] from if_pos rfl]
    exact ⟨none, 0, 0, rfl, rfl, World.ownsRow_nil _ _ _ _⟩
  · have j0 : ¬ (xm : Int) = 0 := by omega
    go_wp2_with fail
    refine HF4.out.mono ?_
    rintro e w5 ⟨rfl, hb5⟩
    have k1 := (hb5.block bx (Array.getElem?_eq_some_iff.1 HK4.out.1).1).trans HK4.out.1
    have k2 := (hb5.block (bx + 1) (Array.getElem?_eq_some_iff.1 HK4.out.2.1).1).trans HK4.out.2.1
    have k3 := (hb5.block L (Array.getElem?_eq_some_iff.1 HK4.out.2.2.1).1).trans HK4.out.2.2.1
    have k4 := (hb5.block Fb (Array.getElem?_eq_some_iff.1 HK4.out.2.2.2).1).trans HK4.out.2.2.2
    have HB5 := Lib.hid (HB4.out.trans (hb5.mono HB4.out.size))
    have HL5 := Lib.hid (show LostB w5 bx L [] from ⟨none, 0, 0, k3, rfl, World.ownsRow_nil _ _ _ _⟩)
    clear y0 y1 y2 y3 y4 x0 x1 x2 x3 x4 z0 z1 z2 z3 z4 hb5
    obtain ⟨y0, y1, y2, y3, y4⟩ := rw5 k1
    obtain ⟨x0, x1, x2, x3, x4⟩ := rw5 k2
    have f0 : w5.cell? ⟨Fb, 0, none⟩ = some (.func (.func 22) #[] #[.pointer (some ⟨L, 0, none⟩)]) := cell_of_row w5 Fb 0 _ _ _ k4
    have HK5 := Lib.hid (And.intro k1 (And.intro k2 (And.intro k3 k4)))
    clear k1 k2 k3 k4 HK4 HB4 HF4 HB2
    by_cases hfit : fitsL s ⟨xi, xs, xm, xf, xl⟩ = false
    · rw [hfit]
      have hll : lostL s ⟨xi, xs, xm, xf, xl⟩ = if (xf : Int) ≤ (xl : Int) then [] ++ [((xf : Int), (xl : Int))] else [] := by
        unfold lostL
        rw [if_neg hm0, if_pos hfit]
        by_cases hc : xf ≤ xl
        · rw [if_pos hc, if_pos (by omega)]; rfl
        · rw [if_neg hc, if_neg (by omega)]
      have HLL := Lib.hid hll
      clear hll
      go_wp2_with fail
      refine (sbetw HL5.out (by have := HLb.out; omega) (by have := HB5.out.size; have := HBX.out; omega) (xf : Int) (xl : Int) (by simp)).mono ?_
      rintro e w6 ⟨⟨u, rfl⟩, hl6, hk6, hb6⟩
      obtain ⟨A6, n6, c6, k6, hn6, ho6⟩ := hl6
      have l0 : w6.cell? ⟨L, 0, none⟩ = some (.slice A6 n6 c6) := cell_of_row w6 L 0 _ _ _ k6
      have HR := Lib.hid (And.intro hn6 ho6)
      have HB6 := Lib.hid (show Below w.heap.size w w6 by have h1 := HB5.out; rw [HBX.out] at h1 ⊢; exact h1.trans hb6)
      clear k6 hn6 ho6 hk6 hb6
      go_wp2_with fail
      refine ⟨_, results_tmp rfl _ _ _, ⟨_, rfl, ?_, ?_⟩⟩
      · rw [HLL.out]
        first
        | exact ⟨A6, n6, c6, rfl, HR.out.1, HR.out.2⟩
        | (rw [HBX.out]; exact ⟨A6, n6, c6, rfl, HR.out.1, HR.out.2⟩)
      · first
        | exact HB6.out
        | (rw [← HBX.out]; exact HB6.out)
    · rw [Bool.not_eq_false] at hfit
      rw [hfit]
      obtain ⟨W6, hW6⟩ : ∃ W, w5.alloc (.cells #[.int .u64 0] 24) = W := ⟨_, rfl⟩
      obtain ⟨g7, hs5⟩ : ∃ L, w5.heap.size = L := ⟨_, rfl⟩
      obtain ⟨W7, hW7⟩ : ∃ W, W6.alloc (.cells #[.bool false] 4) = W := ⟨_, rfl⟩
      obtain ⟨g8, hs6⟩ : ∃ L, W6.heap.size = L := ⟨_, rfl⟩
      have hb6 : Below w5.heap.size w5 W6 := by rw [← hW6]; exact (Below.refl _ _).alloc (Nat.le_refl _) _
      have hb7 : Below W6.heap.size W6 W7 := by rw [← hW7]; exact (Below.refl _ _).alloc (Nat.le_refl _) _
      have k6 : W6.heap[g7]? = some (.cells #[.int .u64 0] 24 (0, 0)) := by rw [← hW6, ← hs5]; exact heap_alloc_new w5 _
      have k7 : W7.heap[g8]? = some (.cells #[.bool false] 4 (0, 0)) := by rw [← hW7, ← hs6]; exact heap_alloc_new W6 _
      have k6' := (hb7.block g7 (Array.getElem?_eq_some_iff.1 k6).1).trans k6
      have hb57 : Below w5.heap.size w5 W7 := hb6.trans (hb7.mono hb6.size)
      have hLI : LoopI w W7 bx L Fb g7 g8 s ⟨xi, xs, xm, xf, xl⟩ (.slice Af n cf) (.slice Ap np cp) (0, false, []) :=
        ⟨by have h1 := HB5.out; rw [HBX.out] at h1; exact h1.trans (hb57.mono (by have := h1.size; rw [HBX.out] at this; exact this)), (hb57.block _ (Array.getElem?_eq_some_iff.1 HK5.out.1).1).trans HK5.out.1, (hb57.block _ (Array.getElem?_eq_some_iff.1 HK5.out.2.1).1).trans HK5.out.2.1, HL5.out.on hb57, (hb57.block _ (Array.getElem?_eq_some_iff.1 HK5.out.2.2.2).1).trans HK5.out.2.2.2, k6', k7⟩
      have HG := Lib.hid (show bx ≤ g7 ∧ bx ≤ g8 by have h1 := HB5.out.size; have h2 := hb6.size; have h3 := HBX.out; omega)
      have hsz : w5.heap.size + 1 = g8 := by rw [← hs6, ← hW6]; simp
      rw [hs5] at hsz
      have hL8 := (hLI.set7 HG.out.1 (xf : Int)).set8 HG.out.2 false
      have q7 : W7.cell? ⟨g7, 0, none⟩ = some (.int .u64 0) := cell_of_row W7 g7 0 _ _ _ k6'
      have q8 : W7.cell? ⟨g8, 0, none⟩ = some (.bool false) := cell_of_row W7 g8 0 _ _ _ k7
      have v7 : W7.frozen? ⟨g7, 0, none⟩ = false := by simp [World.frozen?, k6']
      have v8 : W7.frozen? ⟨g8, 0, none⟩ = false := by simp [World.frozen?, k7]
      have hne : ¬ g8 = g7 := by omega
      have hne2 : ¬ g7 = g8 := by omega
      clear y0 y1 y2 y3 y4
      obtain ⟨y0, y1, y2, y3, y4⟩ := rw5 hL8.sb
      have HL8 := Lib.hid hL8
      clear f0 hLI hb6 hb7 k6 k7 k6' hb57 HK5 HL5 hL8
      generalize hU : (W7.setCell ⟨g7, 0, none⟩ (.int .u64 (xf : Int))).setCell ⟨g8, 0, none⟩ (.bool false) = U at *
      go_wp2_with fail
      obtain ⟨Bs, hBs⟩ : ∃ B, U.heap.size = B := ⟨_, rfl⟩
      refine (splaces _ _ _ _ _ U).mono ?_
      rintro e W8 ⟨rfl, hW8⟩
      have hb8 : Below U.heap.size U W8 := by rw [hW8]; exact (Below.refl _ _).alloc (Nat.le_refl _) _
      have k8 : W8.heap[Bs]? = some (.cells #[.int .u32 (s.id : Int), .slice Af n cf, .slice Ap np cp, .int .i64 (s.stop : Int), .int .i64 (s.why : Int)] 31 (0, 0)) := by rw [hW8, ← hBs]; exact heap_alloc_new U _
      rw [hBs]
      have HL := Lib.hid (HL8.out.on hb8)
      have HK8 := Lib.hid k8
      clear hW8 hb8 k8 HL8 y0 y1 y2 y3 y4 x0 x1 x2 x3 x4 q7 q8 v7 v8 hU hBs
      obtain ⟨h1, hq, hp, hfl, h2, h4⟩ := HOP.out
      obtain ⟨g, hgA, hgL⟩ : ∃ g, (0 < n → Af = some ⟨g, 0, none⟩) ∧ (s.found.map (·.off) ≠ [] → g < bx) := by
        by_cases hn : 0 < n
        · obtain ⟨g, hg, _⟩ := own_at h2 hn
          subst hg
          exact ⟨g, fun _ => rfl, fun _ => by have := (h2.lt g rfl).2; rw [HBX.out] at this; exact this⟩
        · exact ⟨0, fun h => absurd h hn, fun h => absurd (by rw [List.length_eq_zero_iff.1 (show s.found.length = 0 by omega)]; rfl) h⟩
      have hcell : ∀ (V : World), Below bx w V → ∀ (i : Nat) (f : Fd), s.found[i]? = some f → V.cell? ⟨g, i * 9 + 1, none⟩ = some (.int .u32 (f.off : Int)) ∧ V.cell? ⟨g, i * 9 + 3, none⟩ = some (.int .u64 f.r.seq) := by
        intro V hV i f hf
        obtain ⟨hi, _⟩ := List.getElem?_eq_some_iff.1 hf
        have hAf := hgA (by omega)
        rw [hAf] at h2
        obtain ⟨y, hy⟩ : ∃ y, q[i]? = some y := ⟨_, List.getElem?_eq_getElem (by omega)⟩
        have hyf : y.1 = f := by
          have : s.found[i]? = some y.1 := by rw [← h1, List.getElem?_map, hy]; rfl
          rw [hf] at this
          injection this with this
          exact this.symm
        rw [← HBX.out] at hV
        have hO := own_below h2 hV (Nat.le_refl _)
        have c1 := found_cell hO hy 1 (by omega)
        have c3 := found_cell hO hy 3 (by omega)
        rw [← hyf]
        exact ⟨c1, c3⟩
      have HCELL := Lib.hid hcell
      have hpas : ∀ (V : World), Below bx w V → Rd V bx Ap (s.passed.map fun q : Nat => Value.int .i64 (q : Int)) := by
        intro V hV
        have := Rd.of_own h4
        rw [HBX.out] at this
        exact this.below hV (Nat.le_refl _)
      have HPAS := Lib.hid hpas
      have HN := Lib.hid (And.intro hfl (And.intro hp (And.intro hgA hgL)))
      have HEL := Lib.hid (show (evN s.passed (s.found.map (·.off)) 0).length ≤ 100000 by have := evN_len s.passed (s.found.map (·.off)) 0; rw [List.length_map] at this; have := HM.out; omega)
      clear h1 hq hp hfl h2 h4 hcell hpas hgA hgL HOP
      have hbxU : bx ≤ W8.heap.size := by have := HL.out.lt; omega
      go_wp2_with fail
      refine (wpIn_wide (n := 5)).1 ?_
      refine wpIn_rangeFunc_ownG rfl (by omega) (gf := 38) (lb := #[.pointer (some ⟨Bs, 0, none⟩)]) rfl trivial (enters_of Tryd.func38 (by kernel_rfl) rfl)
        (encs := fun x : Pla n => encP g x) (Kp := KpP bx Bs) (S := fun xs => xs.map Pla.num = evN s.passed (s.found.map (·.off)) 0) (Sp := fun _ => True) (N := (evN s.passed (s.found.map (·.off)) 0).length) (w0 := W8) ?hseq
        (fun h k => h.trans k) (fun W l o o' hl h hc hw => KpP.turn l o o' (Nat.le_trans hbxU hl) h hc hw) (Below.refl _ _) (fun x => by cases x <;> rfl)
        (fun pre W => LoopI w W bx L Fb g7 g8 s ⟨xi, xs, xm, xf, xl⟩ (.slice Af n cf) (.slice Ap np cp) (stP s.found (xf : Int) pre)) (fun _ _ _ => False)
        (fun pre A B row hs hg hr => hs.grown hg (by have := hs.lt; omega) (fun r e => ⟨Nat.le_trans hbxU (hr r e).1, (hr r e).2⟩)) (fun _ _ _ _ _ hs _ _ => hs) HL.out
        (fun x => { tmps := #[(.agg #[.int .u32 (s.id : Int), .slice Af n cf, .slice Ap np cp, .int .i64 (s.stop : Int), .int .i64 (s.why : Int)]), (.agg #[.int .u32 (xi : Int), .int .u32 (xs : Int), .int .u32 (xm : Int), .int .u64 (xf : Int), .int .u64 (xl : Int)]), .pointer (some ⟨bx, 0, none⟩), .pointer (some ⟨bx + 1, 0, none⟩), .slice none 0 0, .pointer (some ⟨L, 0, none⟩), .pointer (some ⟨Fb, 0, none⟩), .pointer (some ⟨g7, 0, none⟩), .pointer (some ⟨g8, 0, none⟩), (match x with | none => .pointer none | some i => .pointer (some ⟨g, i.1 * 9, none⟩)), .pointer (some ⟨bx + 1, 2, none⟩), .int .u32 (xm : Int), .bool false, .func (.func 22) #[] #[.pointer (some ⟨L, 0, none⟩)], (.agg #[.int .u32 (s.id : Int), .slice Af n cf, .slice Ap np cp, .int .i64 (s.stop : Int), .int .i64 (s.why : Int)]), (.agg #[.int .u32 (xi : Int), .int .u32 (xs : Int), .int .u32 (xm : Int), .int .u64 (xf : Int), .int .u64 (xl : Int)]), .bool true, .bool false, undef, undef, undef, undef, undef, undef, undef, .pointer (some ⟨bx + 1, 3, none⟩), .int .u64 (xf : Int), (.agg #[.int .u32 (s.id : Int), .slice Af n cf, .slice Ap np cp, .int .i64 (s.stop : Int), .int .i64 (s.why : Int)]), .func (.func 38) #[] #[.pointer (some ⟨Bs, 0, none⟩)], (match x with | none => .pointer none | some i => .pointer (some ⟨g, i.1 * 9, none⟩)), undef, undef, undef, undef, undef, undef, undef, undef, undef, undef, undef, undef, undef, undef, undef, undef, undef, undef, undef, undef, undef, undef, undef, undef, undef, undef, undef, undef, undef, undef, undef], defers := [] }) ?assign ?body ?done ?stop
      case hseq =>
        intro l J Jx W hW hJ hJx hY h0
        have hbW : Below bx w W := HL.out.below.trans (hW.mono hbxU)
        have hPR : PlR W bx Bs g n cf Af (.int .u32 (s.id : Int)) (.int .i64 (s.stop : Int)) (.int .i64 (s.why : Int)) s.passed (s.found.map (·.off)) Ap np cp :=
          ⟨(hW.block Bs (Array.getElem?_eq_some_iff.1 HK8.out).1).trans HK8.out, fun i o ho => by
            rw [List.getElem?_map] at ho
            rcases hf : s.found[i]? with _ | f
            · rw [hf] at ho; cases ho
            · rw [hf] at ho
              injection ho with ho
              rw [← ho]
              exact (HCELL.out W hbW i f hf).1, HPAS.out W hbW⟩
        have hn6 := HM.out
        exact places1_in 4 (by omega) l Bs bx g n cf Af _ _ _ s.passed (s.found.map (·.off)) Ap np cp (by rw [List.length_map]; exact HN.out.1) HN.out.2.1 e3 e1 HN.out.2.2.1 HN.out.2.2.2 (by have := HN.out.1; omega) (by have := HN.out.2.1; omega)
          (fun o ho => by obtain ⟨f, hf, rfl⟩ := List.mem_map.1 ho; have := (HRise.out.at_ f hf).2; omega) J Jx hY W hPR h0 (fun pre V hj => hJ pre V V.drew none hj ⟨rfl, rfl, rfl, Nat.le_refl _, fun _ _ _ => rfl⟩ (fun r e => by cases e))
      case assign =>
        intro l x W K hK
        cases x with
        | none => dsimp only [encP]; gi_wp2; exact hK
        | some i => dsimp only [encP]; gi_wp2; exact hK
      case body =>
        intro l pre x W hI hlen
        have hlo : (stP s.found (xf : Int) pre).2.2.length ≤ 100000 := Nat.le_trans (stP_len _ _ _) (by have := HEL.out; omega)
        have hI : LoopI w W bx L Fb g7 g8 s ⟨xi, xs, xm, xf, xl⟩ (.slice Af n cf) (.slice Ap np cp) (stP s.found (xf : Int) pre) := hI
        obtain ⟨st, hst⟩ : ∃ st, stP s.found (xf : Int) pre = st := ⟨_, rfl⟩
        rw [hst] at hI hlo
        have HST := Lib.hid hst
        clear hst
        obtain ⟨nx, gp, o⟩ := st
        cases x with
        | none =>
          have c8 : W.cell? ⟨g8, 0, none⟩ = some (.bool gp) := cell_of_row W g8 0 _ _ _ hI.gb
          have v8 : W.frozen? ⟨g8, 0, none⟩ = false := by simp [World.frozen?, hI.gb]
          have HI := Lib.hid hI
          clear hI
          gi_wp2
          exact ⟨((Fr2.set8 (Bs := Bs) HI.out HG.out.2 true).1).from _, (Fr2.set8 HI.out HG.out.2 true).2, by dsimp only; rw [stP_snoc, HST.out]; exact HI.out.set8 HG.out.2 true⟩
        | some i =>
          have hil : i.1 < s.found.length := by rw [HN.out.1]; exact i.2
          obtain ⟨f, hf⟩ : ∃ f, s.found[i.1]? = some f := ⟨_, List.getElem?_eq_getElem hil⟩
          have hfs := HRise.out.num f (List.mem_of_getElem? hf)
          have hc3 := (HCELL.out W hI.below i.1 f hf).2
          have c7 : W.cell? ⟨g7, 0, none⟩ = some (.int .u64 nx) := cell_of_row W g7 0 _ _ _ hI.nb
          have c8 : W.cell? ⟨g8, 0, none⟩ = some (.bool gp) := cell_of_row W g8 0 _ _ _ hI.gb
          have cF : W.cell? ⟨Fb, 0, none⟩ = some (.func (.func 22) #[] #[.pointer (some ⟨L, 0, none⟩)]) := cell_of_row W Fb 0 _ _ _ hI.fb
          have hw1 : IntKind.u64.wrap (f.r.seq + 1) = f.r.seq + 1 := IntWalk.u64_in _ (by omega)
          have hw2 : IntKind.u64.wrap (f.r.seq - 1) = f.r.seq - 1 := IntWalk.u64_in _ (by omega)
          have HFD := Lib.hid (show Pla.fd s.found (some i : Pla n) = some f by simp [Pla.fd, Pla.num, hf])
          have HI := Lib.hid hI
          have HFF := Lib.hid hf
          clear hI hil hf
          cases gp with
          | false =>
            have v7 : W.frozen? ⟨g7, 0, none⟩ = false := by simp [World.frozen?, HI.out.nb]
            have v8 : W.frozen? ⟨g8, 0, none⟩ = false := by simp [World.frozen?, HI.out.gb]
            gi_wp2
            have hs7 := HI.out.set7 HG.out.1 (f.r.seq + 1)
            have hs8 := hs7.set8 HG.out.2 false
            have hfr := ((Fr2.set7 (Bs := Bs) HI.out HG.out.1 (f.r.seq + 1)).trans (Fr2.set8 hs7 HG.out.2 false))
            exact ⟨hfr.1.from _, hfr.2, by dsimp only; rw [stP_snoc, HST.out, HFD.out]; exact hs8⟩
          | true =>
            have HCELL2 := Lib.hid (fun (V : World) (hV : Below bx w V) => HCELL.out V hV i.1 f HFF.out)
            gi_wp2
            refine OrdR.region_in (by kernel_rfl) (by kernel_rfl) (fun w' => w'.cell? ⟨Fb, 0, none⟩ = some (.func (.func 22) #[] #[.pointer (some ⟨L, 0, none⟩)]) ∧ w'.cell? ⟨g7, 0, none⟩ = some (.int .u64 nx) ∧ w'.cell? ⟨g, i.1 * 9 + 3, none⟩ = some (.int .u64 f.r.seq)) 8 ?_
            have hHeld : W.drew.cell? ⟨Fb, 0, none⟩ = _ ∧ W.drew.cell? ⟨g7, 0, none⟩ = _ ∧ W.drew.cell? ⟨g, i.1 * 9 + 3, none⟩ = _ := ⟨cF, c7, hc3⟩
            have HID := Lib.hid (HI.out.on ((Below.refl W.heap.size W).drew))
            have HFR := Lib.hid (show Fr2 bx Bs W W.drew from Fr2.drew)
            generalize World.drew W = V at *
            clear HI cF c7 c8 hc3
            refine OrdL.wpL_take (i := 0) (v := ?_) opAt_0 [] (by kernel_rfl) (by kernel_rfl) (by kernel_rfl) (by kernel_rfl) (by kernel_rfl) (by kernel_rfl) (fun _ _ _ h => h) (Or.inl ⟨by rfl, ?_⟩) hHeld ?_
            rotate_left
            · (intro w' hSw; obtain ⟨s1, s2, s3⟩ := hSw; go_simp; try with_reducible rfl)
            try simp only [Act.put, List.setIfInBounds_toArray, List.set_cons_zero, List.set_cons_succ]
            refine OrdL.wpL_take (i := 1) (v := ?_) opAt_1 [] (by kernel_rfl) (by kernel_rfl) (by kernel_rfl) (by kernel_rfl) (by kernel_rfl) (by kernel_rfl) (fun _ _ _ h => h) (Or.inl ⟨by rfl, ?_⟩) hHeld ?_
            rotate_left
            · (intro w' hSw; obtain ⟨s1, s2, s3⟩ := hSw; go_simp; try with_reducible rfl)
            try simp only [Act.put, List.setIfInBounds_toArray, List.set_cons_zero, List.set_cons_succ]
            refine OrdL.wpL_take (i := 2) (v := ?_) opAt_2 [7, 6, 5, 4, 3] (by kernel_rfl) (by kernel_rfl) (by kernel_rfl) (by kernel_rfl) (by kernel_rfl) (by kernel_rfl) (fun _ _ _ h => h) (Or.inl ⟨by rfl, ?_⟩) hHeld ?_
            rotate_left
            · (intro w' hSw; obtain ⟨s1, s2, s3⟩ := hSw; go_simp; try with_reducible rfl)
            try simp only [Act.put, List.setIfInBounds_toArray, List.set_cons_zero, List.set_cons_succ]
            refine OrdL.wpL_take (i := 3) (v := ?_) opAt_3 [7, 6, 5, 4] (by kernel_rfl) (by kernel_rfl) (by kernel_rfl) (by kernel_rfl) (by kernel_rfl) (by kernel_rfl) (fun _ _ _ h => h) (Or.inl ⟨by rfl, ?_⟩) hHeld ?_
            rotate_left
            · (intro w' hSw; obtain ⟨s1, s2, s3⟩ := hSw; go_simp; try with_reducible rfl)
            try simp only [Act.put, List.setIfInBounds_toArray, List.set_cons_zero, List.set_cons_succ]
            refine OrdL.wpL_take (i := 4) (v := ?_) opAt_4 [7, 6, 5] (by kernel_rfl) (by kernel_rfl) (by kernel_rfl) (by kernel_rfl) (by kernel_rfl) (by kernel_rfl) (fun _ _ _ h => h) (Or.inl ⟨by rfl, ?_⟩) hHeld ?_
            rotate_left
            · (intro w' hSw; obtain ⟨s1, s2, s3⟩ := hSw; go_simp; try with_reducible rfl)
            try simp only [Act.put, List.setIfInBounds_toArray, List.set_cons_zero, List.set_cons_succ]
            refine OrdL.wpL_take (i := 5) (v := ?_) opAt_5 [7, 6] (by kernel_rfl) (by kernel_rfl) (by kernel_rfl) (by kernel_rfl) (by kernel_rfl) (by kernel_rfl) (fun _ _ _ h => h) (Or.inl ⟨by rfl, ?_⟩) hHeld ?_
            rotate_left
            · (intro w' hSw; obtain ⟨s1, s2, s3⟩ := hSw; go_simp; try with_reducible rfl)
            try simp only [Act.put, List.setIfInBounds_toArray, List.set_cons_zero, List.set_cons_succ]
            refine OrdL.wpL_take (i := 6) (v := ?_) opAt_6 [7] (by kernel_rfl) (by kernel_rfl) (by kernel_rfl) (by kernel_rfl) (by kernel_rfl) (by kernel_rfl) (fun _ _ _ h => h) (Or.inl ⟨by rfl, ?_⟩) hHeld ?_
            rotate_left
            · (intro w' hSw; obtain ⟨s1, s2, s3⟩ := hSw; go_simp; try with_reducible rfl)
            try simp only [Act.put, List.setIfInBounds_toArray, List.set_cons_zero, List.set_cons_succ]
            refine OrdL.wpL_take (i := 7) (v := ?_) opAt_7 [] (by kernel_rfl) (by kernel_rfl) (by kernel_rfl) (by kernel_rfl) (by kernel_rfl) (by kernel_rfl) (fun _ _ _ h => h) (Or.inl ⟨by rfl, ?_⟩) hHeld ?_
            rotate_left
            · (intro w' hSw; obtain ⟨s1, s2, s3⟩ := hSw; go_simp; try with_reducible rfl)
            try simp only [Act.put, List.setIfInBounds_toArray, List.set_cons_zero, List.set_cons_succ]
            refine OrdL.wpL_ready (rs := [8]) (by kernel_rfl) (by simp) ?_
            refine OrdL.AllL.cons rfl (fun K hK => ?_) OrdL.AllL.nil
            go_simp
            refine (sbetw HID.out.lb (by have := HLb.out; omega) (by have := HID.out.lt; omega) nx (f.r.seq - 1) (by simp only at hlo ⊢; omega)).mono ?_
            rintro e V2 ⟨⟨u, rfl⟩, hl2, hk2, hb2⟩
            have HI2 := Lib.hid (HID.out.lost hl2 hk2 hb2)
            have HFR2 := Lib.hid (HFR.out.trans (Fr2.lost (Bs := Bs) hk2 hb2))
            clear hl2 hk2 hb2 hHeld
            go_wp2_with fail
            refine hK.out _ _ (fun h => absurd (show true = false from h) (by decide)) ?_
            clear hK K
            try simp only [Act.put, List.setIfInBounds_toArray, List.set_cons_zero, List.set_cons_succ]
            refine OrdL.wpL_done (by kernel_rfl) ?_ _
            refine OrdR.OnlyN.normal ?_
            have c7 : V2.cell? ⟨g7, 0, none⟩ = some (.int .u64 nx) := cell_of_row V2 g7 0 _ _ _ HI2.out.nb
            have c8 : V2.cell? ⟨g8, 0, none⟩ = some (.bool true) := cell_of_row V2 g8 0 _ _ _ HI2.out.gb
            have hc3 := (HCELL2.out V2 HI2.out.below).2
            have v7 : V2.frozen? ⟨g7, 0, none⟩ = false := by simp [World.frozen?, HI2.out.nb]
            have v8 : V2.frozen? ⟨g8, 0, none⟩ = false := by simp [World.frozen?, HI2.out.gb]
            gi_wp2
            have hs7 := HI2.out.set7 HG.out.1 (f.r.seq + 1)
            have hs8 := hs7.set8 HG.out.2 false
            have hfr := HFR2.out.trans ((Fr2.set7 (Bs := Bs) HI2.out HG.out.1 (f.r.seq + 1)).trans (Fr2.set8 hs7 HG.out.2 false))
            refine ⟨hfr.1.from _, hfr.2, ?_⟩
            dsimp only
            rw [stP_snoc, HST.out, HFD.out]
            have e1 : stepL (nx, true, o) (some f) = (f.r.seq + 1, false, if nx ≤ f.r.seq - 1 then o ++ [(nx, f.r.seq - 1)] else o) := by simp [stepL]
            rw [e1]
            exact hs8
      case done =>
        intro D ys W hD hS hI hK
        have hI : LoopI w W bx L Fb g7 g8 s ⟨xi, xs, xm, xf, xl⟩ (.slice Af n cf) (.slice Ap np cp) (stP s.found (xf : Int) ys) := hI
        have hst : stP s.found (xf : Int) ys = evL s.passed s.found (xf : Int) := by
          unfold stP evL
          congr 1
          rw [← evN_ev s.found s.found 0 s.passed rfl, ← hS, List.map_map]
          rfl
        have hlo : (stP s.found (xf : Int) ys).2.2.length ≤ 100000 := by
          have h1 := stP_len s.found (xf : Int) ys
          have h2 := congrArg List.length hS
          rw [List.length_map] at h2
          have := HEL.out
          omega
        have hll : lostL s ⟨xi, xs, xm, xf, xl⟩ = if ((stP s.found (xf : Int) ys).2.1 = true ∨ wholeL s ⟨xi, xs, xm, xf, xl⟩ = false) ∧ (stP s.found (xf : Int) ys).1 ≤ (xl : Int) then (stP s.found (xf : Int) ys).2.2 ++ [((stP s.found (xf : Int) ys).1, (xl : Int))] else (stP s.found (xf : Int) ys).2.2 := by
          rw [hst]
          unfold lostL
          rw [if_neg hm0, if_neg (by rw [hfit]; decide)]
        obtain ⟨st, hst2⟩ : ∃ st, stP s.found (xf : Int) ys = st := ⟨_, rfl⟩
        rw [hst2] at hI hlo hll
        obtain ⟨nx, gp, o⟩ := st
        simp only at hll
        have HI := Lib.hid hI
        have HD := Lib.hid hK
        have HDD := Lib.hid hD
        obtain ⟨y0, y1, y2, y3, y4⟩ := rw5 hI.sb
        have c8 : W.cell? ⟨g8, 0, none⟩ = some (.bool gp) := cell_of_row W g8 0 _ _ _ hI.gb
        clear hI hK hD hS hst hst2 hfit hm0
        cases gp with
        | true =>
          have hll2 : lostL s ⟨xi, xs, xm, xf, xl⟩ = if nx ≤ (xl : Int) then o ++ [(nx, (xl : Int))] else o := by rw [hll]; simp
          have HLL := Lib.hid hll2
          clear hll hll2
          have cF : W.cell? ⟨Fb, 0, none⟩ = some (.func (.func 22) #[] #[.pointer (some ⟨L, 0, none⟩)]) := cell_of_row W Fb 0 _ _ _ HI.out.fb
          have c7 : W.cell? ⟨g7, 0, none⟩ = some (.int .u64 nx) := cell_of_row W g7 0 _ _ _ HI.out.nb
          obtain ⟨x0, x1, x2, x3, x4⟩ := rw5 HI.out.xb
          go_wp2_with fail
          refine (sbetw HI.out.lb (by have := HLb.out; omega) (by have := HI.out.lt; omega) nx (xl : Int) (by simp only at hlo ⊢; omega)).mono ?_
          rintro e V9 ⟨⟨u, rfl⟩, hl9, hk9, hb9⟩
          have HI9 := Lib.hid (HI.out.lost hl9 hk9 hb9)
          have HD9 := Lib.hid (hk9.same D _ HD.out (fun arr T z e => by cases e))
          clear hl9 hk9 hb9 HD
          have HD := HD9
          obtain ⟨A9, n9, c9, k9, hn9, ho9⟩ := HI9.out.lb
          have l0 : V9.cell? ⟨L, 0, none⟩ = some (.slice A9 n9 c9) := cell_of_row V9 L 0 _ _ _ k9
          have HR9 := Lib.hid (And.intro hn9 ho9)
          clear k9 hn9 ho9
          go_wp2_with fail
          refine ⟨by simp, .inl ⟨_, _, rfl, run_takeDeferred HD.out, ?_⟩⟩
          refine ⟨_, results_tmp rfl _ _ _, _, rfl, ⟨A9, n9, c9, rfl, ?_, ?_⟩, ?_⟩
          · rw [HLL.out]; exact HR9.out.1
          · rw [HLL.out, HBX.out]; exact ownsRow_putObj HR9.out.2 _ HD.out rfl
          · have hbb := HI9.out.below
            exact (by rw [HBX.out]; exact hbb.trans (belowK_b (w := W8) hbxU V9 D _ _ HDD.out HD.out rfl rfl))
        | false =>
          obtain ⟨x0, x1, x2, x3, x4⟩ := rw5 HI.out.xb
          have HW9 := Lib.hid (HWh.out W (by rw [HBX.out]; exact HI.out.below))
          go_wp2_with fail
          refine HW9.out.mono ?_
          rintro e V8 ⟨rfl, hb8⟩
          have HI8 := Lib.hid (HI.out.on hb8)
          have HD8 := Lib.hid ((hb8.block D (Array.getElem?_eq_some_iff.1 HD.out).1).trans HD.out)
          clear hb8 HD HI y0 y1 y2 y3 y4 x0 x1 x2 x3 x4 c8
          have HD := HD8
          by_cases hwh : wholeL s ⟨xi, xs, xm, xf, xl⟩ = false
          · have hll2 : lostL s ⟨xi, xs, xm, xf, xl⟩ = if nx ≤ (xl : Int) then o ++ [(nx, (xl : Int))] else o := by rw [hll, hwh]; simp
            have HLL := Lib.hid hll2
            clear hll hll2
            rw [hwh]
            have cF : V8.cell? ⟨Fb, 0, none⟩ = some (.func (.func 22) #[] #[.pointer (some ⟨L, 0, none⟩)]) := cell_of_row V8 Fb 0 _ _ _ HI8.out.fb
            have c7 : V8.cell? ⟨g7, 0, none⟩ = some (.int .u64 nx) := cell_of_row V8 g7 0 _ _ _ HI8.out.nb
            obtain ⟨x0, x1, x2, x3, x4⟩ := rw5 HI8.out.xb
            go_wp2_with fail
            refine (sbetw HI8.out.lb (by have := HLb.out; omega) (by have := HI8.out.lt; omega) nx (xl : Int) (by simp only at hlo ⊢; omega)).mono ?_
            rintro e V9 ⟨⟨u, rfl⟩, hl9, hk9, hb9⟩
            have HI9 := Lib.hid (HI8.out.lost hl9 hk9 hb9)
            have HD9 := Lib.hid (hk9.same D _ HD.out (fun arr T z e => by cases e))
            clear hl9 hk9 hb9 HD
            have HD := HD9
            obtain ⟨A9, n9, c9, k9, hn9, ho9⟩ := HI9.out.lb
            have l0 : V9.cell? ⟨L, 0, none⟩ = some (.slice A9 n9 c9) := cell_of_row V9 L 0 _ _ _ k9
            have HR9 := Lib.hid (And.intro hn9 ho9)
            clear k9 hn9 ho9
            go_wp2_with fail
            refine ⟨by simp, .inl ⟨_, _, rfl, run_takeDeferred HD.out, ?_⟩⟩
            refine ⟨_, results_tmp rfl _ _ _, _, rfl, ⟨A9, n9, c9, rfl, ?_, ?_⟩, ?_⟩
            · rw [HLL.out]; exact HR9.out.1
            · rw [HLL.out, HBX.out]; exact ownsRow_putObj HR9.out.2 _ HD.out rfl
            · have hbb := HI9.out.below
              exact (by rw [HBX.out]; exact hbb.trans (belowK_b (w := W8) hbxU V9 D _ _ HDD.out HD.out rfl rfl))
          · rw [Bool.not_eq_false] at hwh
            have hll2 : lostL s ⟨xi, xs, xm, xf, xl⟩ = o := by rw [hll, hwh]; simp
            have HLL := Lib.hid hll2
            clear hll hll2
            rw [hwh]
            obtain ⟨A9, n9, c9, k9, hn9, ho9⟩ := HI8.out.lb
            have l0 : V8.cell? ⟨L, 0, none⟩ = some (.slice A9 n9 c9) := cell_of_row V8 L 0 _ _ _ k9
            have HR9 := Lib.hid (And.intro hn9 ho9)
            clear k9 hn9 ho9
            go_wp2_with fail
            refine ⟨by simp, .inl ⟨_, _, rfl, run_takeDeferred HD.out, ?_⟩⟩
            refine ⟨_, results_tmp rfl _ _ _, _, rfl, ⟨A9, n9, c9, rfl, ?_, ?_⟩, ?_⟩
            · rw [HLL.out]; exact HR9.out.1
            · rw [HLL.out, HBX.out]; exact ownsRow_putObj HR9.out.2 _ HD.out rfl
            · have hbb := HI8.out.below
              exact (by rw [HBX.out]; exact hbb.trans (belowK_b (w := W8) hbxU V8 D _ _ HDD.out HD.out rfl rfl))
      case stop =>
        rintro D c pre W _ _ hf _
        exact hf.elim
end Go.Proofs.YtkpkfgcbccaibaaDoor.Sc

