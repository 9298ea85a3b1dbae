/-
  SegKnown, part 4 of what the law's proof leans on: RcFill.
-/
import Derived.Laws.CopyOwn
import Derived.Laws.CopyRow
import Derived.Deep.RegionLaw
import Derived.Test.YtaicibmaogiibaaGreatDoorSegKnownQ3
/- RcFill -/

/-
  Layer 8: the walk of fill.
-/
set_option linter.unusedVariables false
set_option linter.unusedSimpArgs false
namespace Go.Proofs.YtaicibmaogiibaaGreatDoor
open Go.RowKit

theorem byte_size : (Tryz.prog.info? 5).map (·.size) = some 1 := by kernel_rfl
/-- a copy onto a whole block, as one step of a region -/
theorem step_copy_row {P : Program} {ops : Array Oper} {o : Oper} {a : Act} {w : World} {K : Act → World → Prop} {Q : Exit → Act → World → Prop} {E : Prop} (hgd : o.guard = none) (d s : Operand) (dT sT : TypeId)
    (ho : o.op = .call { callee := .builtin .copy, args := #[d, s], argTypes := #[dT, sT] }) (elem : TypeId) (hu : P.underlying dT = some (.slice elem)) (hsz : (P.info? elem).map (·.size) = some 1)
    (g dLen dCap : Nat) (ad : Addr) (sLen sCap : Nat) (hd : a.eval d = .slice (some ⟨g, 0, none⟩) dLen dCap) (hs : a.eval s = .slice (some ad) sLen sCap)
    (l l' : List UInt8) (hg : RowAt w g l) (hn : l'.length = Nat.min sLen dLen) (hsrc : ∀ j v, (bvs l')[j]? = some v → w.cell? (ad.add j) = some v) (hl : l'.length = l.length)
    (h : ∀ w', RowAt w' g l' → (∀ k, k ≠ g → w'.heap[k]? = w.heap[k]?) → (∀ C, C ≤ g → Below C w w') → K (a.put o.dst (goInt (bvs l').length)) w') :
    if Region.wanted o (yielded ops a.tmps) = true then Oper.wp P o a w K Q else E := by
  have hw : Region.wanted o (yielded ops a.tmps) = true := by simp [Region.wanted, hgd]
  rw [if_pos hw]
  have hrun := run_copy_row (P := P) w dT sT o.type elem g 0 dLen dCap ad sLen sCap (bvs l).toArray _ (bvs l') hu hsz hg (by rw [bvs_length]; exact hn) hsrc (by simp [bvs_length, hl]) (bvs_one _)
  unfold Oper.wp
  simp [execOp, ho, resolve, invoke, builtin, hd, hs, hrun, Result.andThen]
  refine h _ ?_ (fun k hk => setRow_other w g k _ hk) (fun C hC => below_setRow (Below.refl _ _) hC _)
  have := setRow_heap w g (bvs l).toArray (bvs l').toArray _ (0, 0) hg
  have e : (bvs l).drop (bvs l').length = [] := List.drop_eq_nil_of_le (by simp [bvs_length, hl])
  rw [e, List.append_nil]
  exact this
theorem wpList_copy_b {P : Program} {w : World} {ops : Array Oper} {rest : List Oper} {o : Oper} {a : Act} {Q : Exit → Act → World → Prop} (hgd : o.guard = none) (d s : Operand) (dT sT : TypeId)
    (ho : o.op = .call { callee := .builtin .copy, args := #[d, s], argTypes := #[dT, sT] }) (elem : TypeId) (hu : P.underlying dT = some (.slice elem)) (hsz : (P.info? elem).map (·.size) = some 1)
    (g dLen dCap : Nat) (ad : Addr) (sLen sCap : Nat) (hd : a.eval d = .slice (some ⟨g, 0, none⟩) dLen dCap) (hs : a.eval s = .slice (some ad) sLen sCap)
    (l l' : List UInt8) (hg : RowAt w g l) (hn : l'.length = Nat.min sLen dLen) (hsrc : ∀ j v, (bvs l')[j]? = some v → w.cell? (ad.add j) = some v) (hl : l'.length = l.length)
    (h : ∀ w', RowAt w' g l' → (∀ k, k ≠ g → w'.heap[k]? = w.heap[k]?) → (∀ C, C ≤ g → Below C w w') → wpList P ops Q rest (a.put o.dst (goInt (bvs l').length)) w') : wpList P ops Q (o :: rest) a w := by
  refine wpList_plain hgd fun K hK => ?_
  have hrun := run_copy_row (P := P) w dT sT o.type elem g 0 dLen dCap ad sLen sCap (bvs l).toArray _ (bvs l') hu hsz hg (by rw [bvs_length]; exact hn) hsrc (by simp [bvs_length, hl]) (bvs_one _)
  unfold Oper.wp
  simp [execOp, ho, resolve, invoke, builtin, hd, hs, hrun, Result.andThen]
  refine hK _ _ (h _ ?_ (fun k hk => setRow_other w g k _ hk) (fun C hC => below_setRow (Below.refl _ _) hC _))
  have := setRow_heap w g (bvs l).toArray (bvs l').toArray _ (0, 0) hg
  have e : (bvs l).drop (bvs l').length = [] := List.drop_eq_nil_of_le (by simp [bvs_length, hl])
  rw [e, List.append_nil]
  exact this
theorem box6h {w : World} {g : Nat} {x0 x1 x2 x3 x4 x5 : Value} {t : TypeId} {fr : Nat × Nat} (h : w.heap[g]? = some (.cells #[x0, x1, x2, x3, x4, x5] t fr)) :
    w.cell? ⟨g, 0, none⟩ = some x0 ∧ w.cell? ⟨g, 1, none⟩ = some x1 ∧ w.cell? ⟨g, 2, none⟩ = some x2 ∧ w.cell? ⟨g, 3, none⟩ = some x3 ∧ w.cell? ⟨g, 4, none⟩ = some x4 ∧ w.cell? ⟨g, 5, none⟩ = some x5 := by
  refine ⟨?_, ?_, ?_, ?_, ?_, ?_⟩
  all_goals (rw [cell_of_row w g _ _ _ _ h]; simp)
theorem box6hf {w : World} {g : Nat} {x0 x1 x2 x3 x4 x5 : Value} {t : TypeId} (h : w.heap[g]? = some (.cells #[x0, x1, x2, x3, x4, x5] t (0, 0))) :
    w.frozen? ⟨g, 0, none⟩ = false ∧ w.frozen? ⟨g, 1, none⟩ = false ∧ w.frozen? ⟨g, 2, none⟩ = false ∧ w.frozen? ⟨g, 3, none⟩ = false ∧ w.frozen? ⟨g, 4, none⟩ = false ∧ w.frozen? ⟨g, 5, none⟩ = false := by
  refine ⟨?_, ?_, ?_, ?_, ?_, ?_⟩
  all_goals simp [World.frozen?, h]
set_option maxRecDepth 100000 in
set_option maxHeartbeats 4000000 in
theorem fill_any (seq kind seg off : Int) (g1 g2 n1 n2 : Nat) (v : Value) (l l1 l2 : List UInt8) (B C : Nat) (w : World) (h : Bs w B v l) (hl : n1 + n2 < l.length) (hm : l.length ≤ 140737488355328)
    (h1 : RowAt w g1 l1) (h2 : RowAt w g2 l2) (e1 : l1.length = n1) (e2 : l2.length = n2) (hg : g1 ≠ g2) (hB : B ≤ C) (hC : C ≤ w.heap.size) (hg1 : C ≤ g1) (hg2 : C ≤ g2) :
    Calls Tryz.prog 90 #[recV seq kind (.slice (some ⟨g1, 0, none⟩) n1 n1) (.slice (some ⟨g2, 0, none⟩) n2 n2) seg off, v] w fun e w' =>
      (∃ u, e = .returned u) ∧ RowAt w' g1 (l.take n1) ∧ RowAt w' g2 ((l.drop n1).take n2) ∧ (∀ k, k < w.heap.size → k ≠ g1 → k ≠ g2 → w'.heap[k]? = w.heap[k]?) ∧ Below C w w' := by
  have b0 : Below w.heap.size w (w.alloc (.cells #[.int .u64 seq, .int .i64 kind, .slice (some ⟨g1, 0, none⟩) n1 n1, .slice (some ⟨g2, 0, none⟩) n2 n2, .int .u32 seg, .int .u32 off] 51)) := bnew _ _
  have bx := heap_alloc_new w (.cells #[.int .u64 seq, .int .i64 kind, .slice (some ⟨g1, 0, none⟩) n1 n1, .slice (some ⟨g2, 0, none⟩) n2 n2, .int .u32 seg, .int .u32 off] 51)
  have hlt1 := h1.lt
  have hlt2 := h2.lt
  have K1 := Lib.hid (h1.on b0)
  have K2 := Lib.hid (h2.on b0)
  have BX := Lib.hid bx
  have B0 := Lib.hid b0
  have hs := h.below b0 (by omega)
  obtain ⟨A, c, rfl, hc, hr⟩ := hs
  obtain ⟨b, o, rfl, hbB, hcell⟩ := hr (by intro e; have := congrArg List.length e; simp [bvs] at this; subst this; simp at hl)
  obtain ⟨A', c', hcut, hc', hcr⟩ := cut_l (some ⟨b, o, none⟩) l.length c n1 (l.length - n1) (by omega) hc
  have L1 := Lib.hid (show (l.take n1).length = n1 by rw [List.length_take]; omega)
  have L2 := Lib.hid (show ((l.drop n1).take n2).length = n2 by rw [List.length_take, List.length_drop]; omega)
  have C1 := Lib.hid (show ∀ j u, (bvs (l.take n1))[j]? = some u → (w.alloc (.cells #[.int .u64 seq, .int .i64 kind, .slice (some ⟨g1, 0, none⟩) n1 n1, .slice (some ⟨g2, 0, none⟩) n2 n2, .int .u32 seg, .int .u32 off] 51)).cell? ((⟨b, o, none⟩ : Addr).add j) = some u from fun j u hu => by
    rw [add_none]
    refine hcell j u ?_
    rw [bvs_take, List.getElem?_take] at hu
    split at hu
    · exact hu
    · cases hu)
  have hne : bvs (l.drop n1) ≠ [] := by intro e; have := congrArg List.length e; rw [bvs_length, List.length_drop, List.length_nil] at this; omega
  obtain ⟨b2, o2, rfl, _, _⟩ := hcr _ B l hc hr hne
  have HNE := Lib.hid hne
  clear hne
  have HR := Lib.hid hr
  have HL := Lib.hid hl
  have HCR := Lib.hid hcr
  have HC := Lib.hid hc
  have E1 := Lib.hid e1
  have E2 := Lib.hid e2
  obtain ⟨m, hm'⟩ : ∃ m, m = l.length - n1 := ⟨_, rfl⟩
  rw [← hm'] at hcut hc'
  have HM := Lib.hid hm'
  have T1 := Lib.hid (show (l.take n1).length = Nat.min l.length n1 by rw [List.length_take]; exact Nat.min_comm _ _)
  have T2 := Lib.hid (show ((l.drop n1).take n2).length = Nat.min m n2 by rw [List.length_take, List.length_drop, ← hm']; exact Nat.min_comm _ _)
  clear hm' hr hcr b0 bx hcell h h1 h2 e1 e2 hc
  obtain ⟨la, hla⟩ : ∃ la, la = l.take n1 := ⟨_, rfl⟩
  obtain ⟨lb, hlb⟩ : ∃ lb, lb = (l.drop n1).take n2 := ⟨_, rfl⟩
  rw [← hla] at L1 C1 T1 ⊢
  rw [← hlb] at L2 T2 ⊢
  have HLA := Lib.hid hla
  have HLB := Lib.hid hlb
  clear hla hlb
  generalize hll : l.length = ll at *
  have HLL := Lib.hid hll
  clear hll
  unfold recV
  go_enter Tryz.func90, Tryz.ntmps90
  go_wp2_with ((refine wpList_copy_b rfl (.tmp 5) (.tmp 6) 47 47 rfl 5 Tryz.underlying47 byte_size g1 n1 n1 ⟨b, o, none⟩ ll c rfl rfl l1 la K1.out T1.out C1.out (L1.out.trans E1.out.symm) ?_); intro w1 r1 o1 b1; obtain ⟨d0, d1, d2, d3, d4, d5⟩ := box6h ((o1 w.heap.size (by omega)).trans BX.out))
  have k2 := (o1 g2 (Ne.symm hg)).trans K2.out
  have b1C := b1 C hg1
  have R2 := HCR.out w1 B l (by rw [HLL.out]; exact HC.out) (HR.out.below b1C hB)
  have hsrc : ∀ j u, (bvs lb)[j]? = some u → w1.cell? ((⟨b2, o2, none⟩ : Addr).add j) = some u := by
    intro j u hu
    obtain ⟨b3, o3, e3, _, hc3⟩ := R2 HNE.out
    injection e3 with e3
    injection e3 with e4 e5
    subst e4 e5
    rw [add_none]
    refine hc3 j u ?_
    rw [HLB.out, bvs_take, List.getElem?_take] at hu
    split at hu
    · exact hu
    · cases hu
  have HS := Lib.hid hsrc
  have HK2 := Lib.hid k2
  have HO1 := Lib.hid o1
  have HB1 := Lib.hid b1
  have HR1 := Lib.hid r1
  clear hsrc k2 o1 b1 r1 R2 b1C
  go_region_law (refine step_copy_row rfl (.tmp 9) (.tmp 14) 47 47 rfl 5 Tryz.underlying47 byte_size g2 n2 n2 ⟨b2, o2, none⟩ m c' (by simp [Act.eval, Act.put]) (by simp [Act.eval, Act.put]) l2 lb HK2.out T2.out HS.out (L2.out.trans E2.out.symm) ?_; intro w2 r2 oo2 bb2)
  all_goals go_wp2_with fail
  all_goals go_end0
  all_goals exact ⟨⟨_, rfl⟩, (oo2 g1 hg).trans HR1.out, r2, fun k hk h1 h2 => (oo2 k h2).trans ((HO1.out k h1).trans (B0.out.block k hk)), ((B0.out.mono hC).trans (HB1.out C hg1)).drew.trans (bb2 C hg2)⟩
end Go.Proofs.YtaicibmaogiibaaGreatDoor

