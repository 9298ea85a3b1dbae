
/-
  Layer 6: the chapter's rows: knows.
-/
import Derived.Test.YtpjmjcjikaekiaaHxEnt
set_option linter.unusedVariables false
set_option linter.unusedSimpArgs false
namespace Go.Proofs.Ytpjmjcjikaekiaa
open Go.RowKit Go.Maps

def nA : ByteArray := ⟨#[97]⟩
def nB : ByteArray := ⟨#[98]⟩
theorem nA_list : nA.toList = [97] := by rw [ByteArray.toList_eq]; rfl
theorem nB_list : nB.toList = [98] := by rw [ByteArray.toList_eq]; rfl
theorem nAB : nA ≠ nB := fun e => by have := congrArg ByteArray.toList e; rw [nA_list, nB_list] at this; simp at this
theorem mayA : mayN nA = true := by decide
theorem mayB : mayN nB = true := by decide
def sA : PSt := ⟨[], [.mk nA 1], 1, 0⟩
def sB : PSt := ⟨[], [.mk nA 1, .mk nB 2], 2, 0⟩
def sC : PSt := ⟨[], [.mk nA 1, .mk nB 2, .mv nA nB], 2, 0⟩
theorem withA : withL [] nA 1 = [(nA, 1)] := by rw [withL_eq]; rfl
theorem withB : withL [(nA, 1)] nB 2 = [(nA, 1), (nB, 2)] := by
  rw [withL_eq]
  have h1 : withoutL [(nA, 1)] nB = [(nA, 1)] := by unfold withoutL; simp [nA_list, nB_list]
  rw [h1]
  have h2 : Op.bytesLess nB.toList nA.toList = false := by rw [nA_list, nB_list]; decide
  simp [insL, h2]
theorem nowA : sA.now = [(nA, 1)] := withA
theorem nowB : sB.now = [(nA, 1), (nB, 2)] := by
  show withL (withL [] nA 1) nB 2 = _
  rw [withA, withB]
theorem createA : createP PSt.new nA = (1, 0, sA) := by
  unfold createP
  rw [if_neg (by simp [mayA]), if_neg (by simp [PSt.new, PSt.now, doAll, findL]), if_neg (by simp [PSt.new, PSt.now, doAll])]
  rfl
theorem createB : createP sA nB = (2, 0, sB) := by
  unfold createP
  rw [if_neg (by simp [mayB]), nowA, if_neg, if_neg (by simp)]
  · rfl
  · have : findL [(nA, 1)] nB = none := findL_none.2 (fun x hx => by simp at hx; subst hx; exact nAB)
    rw [this]
    simp
theorem renameC : renameP sB nA nB = (0, sC) := by
  unfold renameP
  rw [if_neg (by simp [mayA, mayB]), nowB, if_neg, if_neg (by simp [nA_list, nB_list])]
  · rfl
  · unfold findL; simp
theorem settleC : sC.settle (keepN 2 sC.deeds.length) = ⟨[(nA, 1), (nB, 2)], [], 2, 2⟩ := by
  have h : doAll [] [.mk nA 1, .mk nB 2] = [(nA, 1), (nB, 2)] := by
    show withL (withL [] nA 1) nB 2 = _
    rw [withA, withB]
  show PSt.mk (doAll [] [.mk nA 1, .mk nB 2]) [] 2 2 = _
  rw [h]
theorem HMut.below {w0 w w' : World} {X : Nat} {M R : Nat → Prop} {s : PSt} (hm : HMut w w' X M R s) (hb : Below w0.heap.size w0 w) (hM : ∀ i, M i → w0.heap.size ≤ i) :
    ∃ M' R', HFolM w' X M' R' s ∧ Below w0.heap.size w0 w' ∧ (∀ i, M' i → w0.heap.size ≤ i) ∧ Chg M w w' := by
  obtain ⟨M', R', h1, h2, h3, h4⟩ := hm
  exact ⟨M', R', h1, hb.trans (h2.below hb.size hM), fun i hi => (h3 i hi).elim (hM i) (fun e => Nat.le_trans hb.size e), h2⟩
set_option maxRecDepth 100000 in
set_option maxHeartbeats 8000000 in
theorem hknows (w : World) : Calls Try.prog 24 #[] w fun e w' => e = .returned (.bool true) ∧ Below w.heap.size w w' := by
  go_enter Try.func24, Try.ntmps24
  go_wp2_with fail
  refine (hnew _).mono ?_
  rintro e w1 ⟨X, M1, rfl, h1, hb1, hM1⟩
  have H1 := Lib.hid h1
  have HB1 := Lib.hid hb1
  have HM1 := Lib.hid hM1
  clear h1 hb1 hM1
  go_wp2_with fail
  have k1 := hcreate H1.out (by simp [PSt.new]) (by simp [PSt.new]) nA (by decide)
  rw [createA] at k1
  refine Calls.mono k1 ?_
  rintro e w2 ⟨rfl, hm2⟩
  obtain ⟨M2, R2, h2, hb2, hM2, _⟩ := hm2.below HB1.out HM1.out
  have H2 := Lib.hid h2
  have HB2 := Lib.hid hb2
  have HM2 := Lib.hid hM2
  clear h2 hb2 hM2 hm2 k1
  go_wp2_with fail
  have k2 := hcreate H2.out (by simp [sA]) (by simp [sA]) nB (by decide)
  rw [createB] at k2
  refine Calls.mono k2 ?_
  rintro e w3 ⟨rfl, hm3⟩
  obtain ⟨M3, R3, h3, hb3, hM3, _⟩ := hm3.below HB2.out HM2.out
  have H3 := Lib.hid h3
  have HB3 := Lib.hid hb3
  have HM3 := Lib.hid hM3
  clear h3 hb3 hM3 hm3 k2
  go_wp2_with fail
  have k3 := hrename H3.out (by simp [sB]) nA nB (by decide) (by decide)
  rw [renameC] at k3
  refine Calls.mono k3 ?_
  rintro e w4 ⟨rfl, hm4⟩
  obtain ⟨M4, R4, h4, hb4, hM4, _⟩ := hm4.below HB3.out HM3.out
  have H4 := Lib.hid h4
  have HB4 := Lib.hid hb4
  have HM4 := Lib.hid hM4
  clear h4 hb4 hM4 hm4 k3
  obtain ⟨bs4, bn4, Ad4, cd4, hc4, hs4, hn4⟩ := H4.out.cells
  have HC4 := Lib.hid hc4
  have HS4 := Lib.hid (sortedAt0 hs4)
  clear hc4 hs4 hn4
  go_wp2_with fail
  refine (hloose HC4.out).mono ?_
  rintro e w' ⟨rfl, rfl⟩
  go_wp2_with fail
  refine (hlive_c HC4.out HS4.out (by simp) (by simp [sC]) (by simp [sC])).mono ?_
  rintro e w5 ⟨v5, rfl, ho5, hb5⟩
  have ho5' : w5.ownsRow w4.heap.size 29 1 v5 2 [.int .u64 1, .int .u64 2] := ho5
  obtain ⟨A5, c5, rfl, hc5, _, _⟩ := own_slice ho5'
  obtain ⟨g5, o5, rfl, hg5, hcc5⟩ := (Rd.of_own ho5') (by simp)
  have a50 : Hid (w5.cell? ⟨g5, o5, none⟩ = some (.int .u64 1)) := by have := hcc5 0 _ rfl; rw [Nat.add_zero] at this; exact this
  have a51 : Hid (w5.cell? ⟨g5, o5 + 1, none⟩ = some (.int .u64 2)) := hcc5 1 _ rfl
  have HG5 : Hid (g5 < w5.heap.size ∧ w4.heap.size ≤ g5) := ⟨hg5, by have := (ho5'.lt g5 rfl).1; omega⟩
  have H5 := Lib.hid (H4.out.on hb5)
  have HB5 := Lib.hid (HB4.out.trans (hb5.mono HB4.out.size))
  clear ho5 ho5' hb5 hcc5 hg5
  go_wp2_with fail
  have k5 := hcrash H5.out 2
  rw [settleC] at k5
  refine Calls.mono k5 ?_
  rintro e w6 ⟨rfl, hm6⟩
  obtain ⟨M6, R6, h6, hb6, hM6, hch6⟩ := hm6.below HB5.out HM4.out
  have hg6 : ¬ M4 g5 := fun e => by have := H4.out.2.2.1 _ e; have := HG5.out; omega
  have b60 : Hid (w6.cell? ⟨g5, o5, none⟩ = some (.int .u64 1)) := (hch6.cell (p := ⟨g5, o5, none⟩) HG5.out.1 hg6).trans a50.out
  have b61 : Hid (w6.cell? ⟨g5, o5 + 1, none⟩ = some (.int .u64 2)) := (hch6.cell (p := ⟨g5, o5 + 1, none⟩) HG5.out.1 hg6).trans a51.out
  have HG6 : Hid (g5 < w6.heap.size) := Nat.lt_of_lt_of_le HG5.out.1 hch6.size
  obtain ⟨bs6, bn6, Ad6, cd6, hc6, hs6, hn6⟩ := h6.cells
  have HC6 := Lib.hid hc6
  have HN6 := Lib.hid hn6
  have HB6 := Lib.hid hb6
  clear hc6 hs6 hn6 h6 hb6 hM6 hch6 hm6 hg6 k5
  go_wp2_with fail
  refine (hlist_c HC6.out HN6.out (by simp [PSt.now, doAll])).mono ?_
  rintro e w7 ⟨v7, rfl, ho7, hb7⟩
  have ho7' : w7.ownsRow w6.heap.size 52 2 v7 2 [.string nA, .int .u64 1, .string nB, .int .u64 2] := ho7
  obtain ⟨A7, c7, rfl, hc7, _, _⟩ := own_slice ho7'
  obtain ⟨g7, o7, rfl, hg7, hcc7⟩ := (Rd.of_own ho7') (by simp)
  have a0 : w7.cell? ⟨g7, o7, none⟩ = some (.string { data := #[97] }) := by have := hcc7 0 _ rfl; rw [Nat.add_zero] at this; exact this
  have a1 : w7.cell? ⟨g7, o7 + 1, none⟩ = some (.int .u64 1) := hcc7 1 _ rfl
  have a2 : w7.cell? ⟨g7, o7 + 2, none⟩ = some (.string { data := #[98] }) := hcc7 2 _ rfl
  have a3 : w7.cell? ⟨g7, o7 + 3, none⟩ = some (.int .u64 2) := hcc7 3 _ rfl
  have d0 : w7.cell? ⟨g5, o5, none⟩ = some (.int .u64 1) := (hb7.cell (p := ⟨g5, o5, none⟩) HG6.out).trans b60.out
  have d1 : w7.cell? ⟨g5, o5 + 1, none⟩ = some (.int .u64 2) := (hb7.cell (p := ⟨g5, o5 + 1, none⟩) HG6.out).trans b61.out
  have HB7 := Lib.hid (HB6.out.trans (hb7.mono HB6.out.size))
  have q1 := fun w => eql_ent { data := #[97] } { data := #[97] } 1 1 w
  have q2 := fun w => eql_ent { data := #[98] } { data := #[98] } 2 2 w
  simp only [beq_self_eq_true, Bool.and_self] at q1 q2
  clear ho7 ho7' hb7 hcc7 hg7
  go_wp2_with fail
  go_ret
  exact ⟨rfl, HB7.out⟩
end Go.Proofs.Ytpjmjcjikaekiaa
