
/-
  The walk of the law EditReads: it returns true, and writes nothing that was there.
-/
import Derived.Test.YtggijjknfcofoaaDoorEdRGet
import Derived.Test.YtggijjknfcofoaaDoorEdWakes
import Derived.Test.YtggijjknfcofoaaDoorEdRSame
import Derived.Test.YtggijjknfcofoaaDoorCutM
import Derived.Test.YtggijjknfcofoaaDoorRxMem
import Derived.OpenShut
set_option linter.unusedVariables false
set_option linter.unusedSimpArgs false
namespace Go.Proofs.YtggijjknfcofoaaDoor.editReads
open Go.RowKit

theorem fit_none : Ed.Fit Ed.none := ⟨by decide, by decide, by decide, by decide, by decide, by decide, fun s hs => by cases hs⟩

theorem fit_may {e : Ed.E} (h : Ed.mayE e = true) : Ed.Fit e := by
  have hm := Ed.may_iff.1 h
  have h1 := hm.k1
  have h6 := hm.k6
  have hq := Ed.seqB_le _ _ hm.seq
  have hi := Ed.idB_le _ _ hm.id
  have hn := Ed.many_le _ _ hm.many
  have hnm : e.name.size ≤ 32 := by
    have := hm.name
    unfold Ed.nameOk at this
    split at this <;> simp only [decide_eq_true_eq] at this <;> omega
  refine ⟨by omega, by omega, by omega, by omega, by omega, by omega, fun s hs => ?_⟩
  have := Ed.upS_mem _ _ hm.seals s hs
  simp only [Ed.mayS, decide_eq_true_eq] at this
  constructor <;> omega
theorem fit_get (l : List UInt8) : Ed.Fit (Ed.getR l).1 := by
  rcases h : Ed.getE l with c | x
  · rw [Ed.getR_er h]
    exact fit_none
  · rw [Ed.getR_ok h]
    exact fit_may (Ed.get_back h).1
theorem bs_form {w : World} {B : Nat} {v : Value} {l : List UInt8} (h : Bs w B v l) : ∃ A n c, v = .slice A n c ∧ Bs w B (.slice A n c) l := by
  obtain ⟨A, c, rfl, h1, h2⟩ := h
  exact ⟨_, _, _, rfl, _, _, rfl, h1, h2⟩
set_option maxRecDepth 100000 in
set_option maxHeartbeats 8000000 in
theorem walk (v0 : Value) (z0 : List Int) (w : World) (w0 : Ints w w.heap.size .u8 v0 z0) (g0 : ∀ n ∈ z0, (Lit.int .u8 n).wf = true) (s0 : z0.length * 1 ≤ 140737488351232) (ht : ETab w) :
    Calls Tryd.prog 4 #[v0] w fun e w' => e = .returned (.bool true) ∧ Below w.heap.size w w' := by
  have hbs := bs_of_ints w0 (fun z hz => bounds_u8 (g0 z hz))
  have hll : (z0.map fun z => UInt8.ofNat z.toNat).length ≤ 140737488351232 := by rw [List.length_map]; omega
  generalize z0.map (fun z => UInt8.ofNat z.toNat) = l at hbs hll
  clear w0 g0 s0
  obtain ⟨A1, c1, k1, A1', c1', rfl, m1, hk1, cut1, s1⟩ := cut_min v0 l w.heap.size 3000 w hbs
  have e3 : ((3000 : Nat) : Int) = 3000 := rfl
  rw [e3] at m1
  have hb1 := s1 w w.heap.size hbs
  have hl3 : (l.take 3000).length ≤ 3000 := by rw [List.length_take]; omega
  have HB := Lib.hid hb1
  have HL := Lib.hid hl3
  have HT := Lib.hid ht
  generalize l.take 3000 = m at *
  generalize l.length = n at *
  clear hbs s1 hb1 hl3 ht e3
  obtain ⟨⟨X, C⟩, hQ⟩ : ∃ p, Ed.getR m = p := ⟨_, rfl⟩
  have hf := fit_get m
  rw [hQ] at hf
  have HF := Lib.hid hf
  have HQ := Lib.hid hQ
  clear hf hQ
  go_enter Tryd.func4, Tryd.ntmps4
  go_wp2_with fail
  refine (own_b _ m w HB.out (by have := HL.out; omega)).mono ?_
  rintro e w1 ⟨r1, rfl, hown, hb⟩
  obtain ⟨A2, n2, c2, rfl, h2⟩ := bs_form (Bs.of_own hown)
  have HO := Lib.hid h2
  have B1 := Lib.hid hb
  clear hown hb h2
  go_wp2_with fail
  refine (eget_b _ m w1 HO.out (by have := HL.out; omega) (HT.out.on B1.out)).mono ?_
  rw [HQ.out]
  rintro e w2 ⟨⟨ev, rfl, sv, rfl, hs⟩, hb⟩
  obtain ⟨P, p, rfl, _, _⟩ := id hs
  have b3 := bnew w2 (.cells #[.int .i64 X.kind, .string X.name, .int .u64 X.seq, .int .u32 X.id, .slice P X.seals.length p] 26)
  have HX := Lib.hid (Bx.new w2 #[.int .i64 X.kind, .string X.name, .int .u64 X.seq, .int .u32 X.id, .slice P X.seals.length p] 26 _ rfl)
  have XE : Hid (EdV _ _ (edV X.kind X.name X.seq X.id (.slice P X.seals.length p)) X) := Lib.hid (EdV.on ⟨_, rfl, hs⟩ b3)
  have HO := Lib.hid (((HO.out.below hb (Nat.le_refl _)).mono hb.size).below b3 (Nat.le_refl _))
  have HO := Lib.hid (HO.out.mono b3.size)
  have B3 := Lib.hid (bstep (bstep B1.out hb) b3)
  clear hs hb b3
  unfold edV at XE ⊢
  go_wp2_with fail
  generalize hWn : World.alloc _ _ = W3 at *
  clear hWn
  refine (rget9_any _ m W3 ((HB.out.below B3.out (Nat.le_refl _)).mono B3.out.size) (by have := HL.out; omega)).mono ?_
  rw [HQ.out]
  rintro e w4 ⟨⟨ev, rfl, sv, rfl, hs⟩, hb⟩
  obtain ⟨Q, q, rfl, _, _⟩ := id hs
  have b5 := bnew w4 (.cells #[.int .i64 X.kind, .string X.name, .int .u64 X.seq, .int .u32 X.id, .slice Q X.seals.length q] 36)
  have HY := Lib.hid (Bx.new w4 #[.int .i64 X.kind, .string X.name, .int .u64 X.seq, .int .u32 X.id, .slice Q X.seals.length q] 36 _ rfl)
  have YE : Hid (EdV _ _ (edV X.kind X.name X.seq X.id (.slice Q X.seals.length q)) X) := Lib.hid (EdV.on ⟨_, rfl, hs⟩ b5)
  have XE := Lib.hid (EdV.on (EdV.on XE.out hb) b5)
  have HX := Lib.hid ((HX.out.on hb).on b5)
  have HO := Lib.hid (((HO.out.below hb (Nat.le_refl _)).mono hb.size).below b5 (Nat.le_refl _))
  have HO := Lib.hid (HO.out.mono b5.size)
  have B5 := Lib.hid (bstep (bstep B3.out hb) b5)
  clear hs hb b5
  obtain ⟨x0, x1, x2, x3, x4⟩ := HX.out.at5
  obtain ⟨y0, y1, y2, y3, y4⟩ := HY.out.at5
  unfold edV at YE ⊢
  go_wp2_with fail
  generalize hWn : World.alloc _ _ = W5 at *
  clear hWn x0 x1 x2 x3 x4 y0 y1 y2 y3 y4
  refine (rsame_any _ _ X X W5 XE.out YE.out HF.out HF.out).mono ?_
  rw [show decide (X = X) = true by simp]
  rintro e w6 ⟨rfl, hb⟩
  have HO := Lib.hid ((HO.out.below hb (Nat.le_refl _)).mono hb.size)
  have B6 := Lib.hid (bstep B5.out hb)
  clear hb
  go_wp2_with fail
  refine (equal_b _ _ m m _ _ w6 HO.out (HB.out.below B6.out (Nat.le_refl _))).mono ?_
  rw [show (m == m) = true by simp]
  rintro e w7 ⟨rfl, rfl⟩
  go_wp2_with fail
  refine (wakes9 w6 (HT.out.on B6.out)).mono ?_
  rintro e w8 ⟨rfl, hb⟩
  go_wp2_with fail
  go_ret
  exact ⟨rfl, bstep B6.out hb⟩
end Go.Proofs.YtggijjknfcofoaaDoor.editReads
