
/-
  Layer 5: Append.
-/
import Derived.Test.YtmlbhconbabdhaaFxAdd
set_option linter.unusedVariables false
set_option linter.unusedSimpArgs false
namespace Go.Proofs.Ytmlbhconbabdhaa
open Go.RowKit

/-- the value v is a slice that reads as the bytes l, out of a block of N -/
def BsIn (w : World) (N : Nat → Prop) (v : Value) (l : List UInt8) : Prop := ∃ A c, v = .slice A l.length c ∧ l.length ≤ c ∧ RdR w N A (bvs l)
theorem BsIn.bs {w : World} {N : Nat → Prop} {v : Value} {l : List UInt8} (h : BsIn w N v l) : Bs w w.heap.size v l := by
  obtain ⟨A, c, e, hc, hr⟩ := h
  exact ⟨A, c, e, hc, hr.rd⟩
theorem Bs.inB {w : World} {B : Nat} {v : Value} {l : List UInt8} (h : Bs w B v l) : BsIn w (fun i => i < B) v l := by
  obtain ⟨A, c, e, hc, hr⟩ := h
  exact ⟨A, c, e, hc, hr⟩
theorem BsIn.chg {w w' : World} {N M : Nat → Prop} {v : Value} {l : List UInt8} (h : BsIn w N v l) (hc : Chg M w w') (hM : ∀ i, M i → ¬ N i) : BsIn w' N v l := by
  obtain ⟨A, c, e, hc', hr⟩ := h
  exact ⟨A, c, e, hc', hr.chg hc hM⟩
theorem BsIn.mono {w : World} {N N' : Nat → Prop} {v : Value} {l : List UInt8} (h : BsIn w N v l) (hN : ∀ i, N i → N' i) : BsIn w N' v l := by
  obtain ⟨A, c, e, hc', hr⟩ := h
  exact ⟨A, c, e, hc', hr.mono hN⟩
theorem BsIn.of_own {w : World} {b n : Nat} {e : TypeId} {v : Value} {l : List UInt8} (h : w.ownsRow b e 1 v n (bvs l)) : BsIn w (fun i => v.ownBlock = some i) v l := by
  have hn : l.length = n := by have := h.1; simpa [bvs] using this
  subst hn
  obtain ⟨A, c, rfl, hc, _⟩ := own_slice h
  refine ⟨A, c, rfl, hc, fun hx => ?_⟩
  obtain ⟨b, o, rfl, hb, hcell⟩ := Rd.of_own h hx
  exact ⟨b, o, rfl, rfl, hcell⟩

theorem FileAt.mono {w : World} {F : Nat} {R R' : Nat → Prop} {vs vt vd : Value} {dvs : List Value} {s : FSt} (h : FileAt w F R vs vt vd dvs s) (hR : ∀ i, R i → R' i) (hn : ∀ i, FOwn F vs vt vd i → ¬ R' i) : FileAt w F R' vs vt vd dvs s :=
  ⟨h.cells, h.safe, h.tail, h.deeds, h.each.mono hR, h.apart, hn⟩
/-- another tail, as memory has it -/
theorem FileAt.tailed {w w' : World} {F k : Nat} {R : Nat → Prop} {vs vt vt' vd : Value} {dvs : List Value} {s : FSt} {t : List UInt8} (h : FileAt w F R vs vt vd dvs s) (hR : ∀ i, R i → i < w.heap.size)
    (hc : Chg (fun i => i = F ∨ vt.ownBlock = some i) w w') (hcells : FCells w' F vs vt' vd k s.loose) (hown : w'.ownsRow 0 5 1 vt' t.length (bvs t)) (hob : vt'.ownBlock = vt.ownBlock ∨ ∀ g, vt'.ownBlock = some g → w.heap.size ≤ g) :
    FileAt w' F R vs vt' vd dvs ⟨s.safe, k, t, s.deeds⟩ := by
  have hno : ∀ i, (i = F ∨ vt.ownBlock = some i) → ¬ R i := by
    rintro i (rfl | hi)
    · exact h.rows _ (.inl rfl)
    · exact h.rows _ (.inr (.inr (.inl hi)))
  have hs := (h.safe.lt)
  have ht := (h.deeds.lt)
  have hF := h.cells.lt
  refine ⟨hcells, hc.own h.safe ?_, hown, hc.own h.deeds ?_, h.each.chg hc hno, ⟨h.apart.s, ?_, h.apart.d, ?_, h.apart.sd, ?_⟩, ?_⟩
  · rintro g hg (rfl | e)
    · exact h.apart.s hg
    · exact h.apart.st g hg e
  · rintro g hg (rfl | e)
    · exact h.apart.d hg
    · exact h.apart.td g e hg
  · intro e
    rcases hob with h1 | h1
    · exact h.apart.t (h1 ▸ e)
    · have := h1 _ e; omega
  · intro g hg e
    rcases hob with h1 | h1
    · exact h.apart.st g hg (h1 ▸ e)
    · have := h1 _ e; have := (hs g hg).2; omega
  · intro g e hg
    rcases hob with h1 | h1
    · exact h.apart.td g (h1 ▸ e) hg
    · have := h1 _ e; have := (ht g hg).2; omega
  · rintro i (rfl | hi | hi | hi) hr
    · exact h.rows _ (.inl rfl) hr
    · exact h.rows _ (.inr (.inl hi)) hr
    · rcases hob with h1 | h1
      · exact h.rows _ (.inr (.inr (.inl (h1 ▸ hi)))) hr
      · have := h1 _ hi; have := hR i hr; omega
    · exact h.rows _ (.inr (.inr (.inr hi))) hr
theorem own_le {w : World} {base n : Nat} {e : TypeId} {size : Nat} {v : Value} {xs : List Value} (h : w.ownsRow base e size v n xs) : ∀ g, v.ownBlock = some g → base ≤ g := fun g hg => (h.lt g hg).1

theorem fappend_nil (v : Value) (w : World) : Calls Try.prog 19 #[.pointer none, v] w fun e w' => e = .returned (.int .i64 2) ∧ Below w.heap.size w w' := by
  go_enter Try.func19, Try.ntmps19
  go_wp2
  go_ret
  exact ⟨rfl, Below.refl _ _⟩
theorem fappend_none {w : World} (F c : Nat) (A : Option Addr) : Calls Try.prog 19 #[.pointer (some ⟨F, 0, none⟩), .slice A 0 c] w fun e w' => e = .returned (.int .i64 0) ∧ Below w.heap.size w w' := by
  go_enter Try.func19, Try.ntmps19
  go_wp2
  go_ret
  exact ⟨rfl, Below.refl _ _⟩

set_option maxRecDepth 100000 in
set_option maxHeartbeats 4000000 in
theorem fappend_m {w : World} {F : Nat} {M R N : Nat → Prop} {s : FSt} {v : Value} {r : List UInt8} (h : FileM w F M R s) (hv : BsIn w N v r) (hN : ∀ i, M i → ¬ N i) (hr : r ≠ []) (hb : s.big + r.length ≤ 10000000) :
    Calls Try.prog 19 #[.pointer (some ⟨F, 0, none⟩), v] w fun e w' => e = .returned (.int .i64 0) ∧ Mut w w' F M R (s.app r) := by
  obtain ⟨i0, hi0, hz0, hz1, hz2⟩ := info_parts fbyte_info
  obtain ⟨ho, hMR, hM, hR, vs, vt, vd, dvs, h, hOM⟩ := h
  have hbl := FSt.bytes_length ho
  have hbt := FSt.length_bytes ho
  have hdl : s.deeds.length ≤ s.loose := length_le_units _ _ ho.valid
  have hbig : s.big = s.safe.length + s.loose := rfl
  have HV := Lib.hid hv
  have HBs := Lib.hid hv.bs
  have HOk := Lib.hid ho
  have HMR := Lib.hid hMR
  have HM := Lib.hid hM
  have HR := Lib.hid hR
  have HOM := Lib.hid hOM
  have HN := Lib.hid hN
  have H := Lib.hid h
  obtain ⟨A, c, rfl, hlc, _⟩ := hv
  have hlen : 0 < r.length := List.length_pos_iff.2 hr
  have hne : ((r.length : Int) == 0) = false := by simp; omega
  obtain ⟨nr, hnr⟩ : ∃ nr, nr = r.length := ⟨_, rfl⟩
  rw [← hnr] at hne hlc hb
  rw [← hnr] at HV HBs
  rw [← hnr]
  have HNr := Lib.hid hnr
  clear ho hMR hM hR hOM hN h hnr
  go_enter Try.func19, Try.ntmps19
  go_wp2_with fail
  refine (fclone _ r _ _ HBs.out (Nat.le_refl _) (by have := HNr.out; omega)).mono ?_
  rintro e w1 ⟨v1, rfl, hown1, hb1⟩
  obtain ⟨A1, c1, rfl, hlc1, hcm1, hAb1⟩ := own_slice hown1
  have HO1 := Lib.hid hown1
  have HB1 := Lib.hid hb1
  clear hAb1 hown1 hb1
  go_wp2_with fail
  have HR1 : Hid (∀ i, (R i ∨ (w.heap.size ≤ i ∧ i < w1.heap.size)) → i < w1.heap.size) := fun i hi => hi.elim (fun h => Nat.lt_of_lt_of_le (HR.out i h) HB1.out.size) (fun h => h.2)
  have H1 : Hid (FileAt w1 F (fun i => R i ∨ (w.heap.size ≤ i ∧ i < w1.heap.size)) vs vt vd dvs s) :=
    (H.out.chg (Chg.of_below (M := fun _ => False) HB1.out) (fun i e => e.elim)).mono (fun i h => .inl h) (fun i hi hr => hr.elim (H.out.rows i hi) (fun h => by have := H.out.lt i hi; omega))
  have HD1 : Hid (DeedAt w1 (fun i => R i ∨ (w.heap.size ≤ i ∧ i < w1.heap.size)) (addV A1 r.length c1) (.added r)) :=
    ⟨A1, c1, rfl, hlc1, by
      obtain ⟨A2, c2, e, _, hr2⟩ := BsIn.of_own HO1.out
      injection e with e1 e2 e3
      subst e1
      exact hr2.mono (fun i hi => .inr (HO1.out.lt i hi))⟩
  refine (fadd_added H1.out HR1.out HD1.out rfl (by have := HNr.out; omega) (by omega)).mono ?_
  rintro e w2 ⟨rfl, vd2, h2, hc2, hd2⟩
  have H2 := Lib.hid h2
  have HC2 := Lib.hid hc2
  have HD2 := Lib.hid hd2
  have HV2 : Hid (BsIn w2 N (.slice A nr c) r) := (HV.out.chg (Chg.of_below (M := fun _ => False) HB1.out) (fun i e => e.elim)).chg HC2.out (fun i hi => HN.out i (HOM.out i (hi.elim .inl (fun h => .inr (.inr (.inr h))))))
  have HBs2 := Lib.hid HV2.out.bs
  obtain ⟨At, ct, hvt, hlt, hct, _⟩ := own_slice h2.tail
  obtain ⟨nt, hnt⟩ : ∃ nt, nt = s.tail.length := ⟨_, rfl⟩
  have hvt' : vt = .slice At nt ct := by rw [hnt]; exact hvt
  have HOt : Hid (w2.ownsRow 0 5 1 (.slice At nt ct) nt (bvs s.tail)) := by have := h2.tail; rw [hvt'] at this; rw [hnt]; rw [hnt] at this; exact this
  obtain ⟨c0, k1, c2, c3, c4, f0, f1, f2, f3, f4⟩ := h2.cells
  rw [hvt'] at c2
  have Hvt := Lib.hid hvt'
  have Hnt := Lib.hid hnt
  have hnt3 : nt ≤ 10000000 := by have : nt = s.tail.length := hnt; omega
  have hF2 := h2.cells.lt
  have hTF : vt.ownBlock ≠ some F := h2.apart.t
  clear h2 hc2 hd2 hvt hlt hct hvt' hnt
  obtain ⟨Ab, cb, eb, hcb, hrb⟩ := HBs2.out
  injection eb with eb1 eb2 eb3
  subst eb1 eb3
  have Hrb := Lib.hid hrb
  have Hcb := Lib.hid hcb
  clear hcb hrb eb2
  go_wp2_with (at_builtin; (refine wpList_append_rd _ rfl _ _ 22 rfl 0 5 i0 (.int .u8 0) 1 1 Try.underlying22 hi0 hz0 hz1 hz2 rfl (by omega) _ nt (bvs s.tail) rfl HOt.out w2.heap.size A nr c (bvs r) rfl (by rw [bvs_length, ← HNr.out]; omega) Hrb.out (bvs_one r) (by unfold maxLen; omega) (by omega) (Nat.zero_le _) ?_); intro v3 w3 hown3 hb3 hg3 hv3; rw [← Hvt.out] at hg3 hv3; have hbF : w3.heap[F]? = w2.heap[F]? := (hg3.block F hF2 (fun e => hTF e.symm)); have hcl := H2.out.cells.of_block hbF; have HC3 := Lib.hid hcl; have HG3 := Lib.hid hg3; have HV3 := Lib.hid hv3; have HO3 := Lib.hid hown3; obtain ⟨A3, n3, rfl, _, _, _⟩ := own_slice hown3; clear hg3 hv3 hown3 hb3 hbF; clear c0 k1 c2 c3 c4 f0 f1 f2 f3 f4; obtain ⟨c0, k1, c2, c3, c4, f0, f1, f2, f3, f4⟩ := hcl)
  go_ret
  have hcc : Chg (fun i => i = F ∨ vt.ownBlock = some i) w2 (w3.setCell ⟨F, 2, none⟩ (.slice A3 (nt + nr) n3)) := (Chg.of_grown HG3.out (fun g hg => .inr hg)).setCell (.inl rfl) _
  have hown4 : (w3.setCell ⟨F, 2, none⟩ (.slice A3 (nt + nr) n3)).ownsRow 0 5 1 (.slice A3 (nt + nr) n3) (s.tail ++ r).length (bvs (s.tail ++ r)) := by
    rw [List.length_append, ← Hnt.out, ← HNr.out, bvs_append]
    refine ((Chg.refl (M := fun i => i = F) (w := w3)).setCell rfl _).own HO3.out (fun g hg e => ?_)
    subst e
    rcases HV3.out with h1 | h1
    · exact hTF (h1 ▸ hg)
    · rw [hg] at h1; injection h1 with h1; omega
  have hfin := H2.out.tailed (fun i hi => Nat.lt_of_lt_of_le (HR1.out i hi) HC2.out.size) hcc (HC3.out.set2 _) hown4 (HV3.out.imp id (fun h1 g hg => by rw [h1] at hg; injection hg with hg; omega))
  have hcw : Chg M w (w3.setCell ⟨F, 2, none⟩ (.slice A3 (nt + nr) n3)) := ((Chg.of_below (M := M) HB1.out).trans HC2.out (fun i hi => .inl (HOM.out i (hi.elim .inl (fun h => .inr (.inr (.inr h))))))).trans hcc (fun i hi => .inl (HOM.out i (hi.elim .inl (fun h => .inr (.inr (.inl h))))))
  refine ⟨rfl, fun i => FOwn F vs (.slice A3 (nt + nr) n3) vd2 i, fun i => R i ∨ (w.heap.size ≤ i ∧ i < w1.heap.size), ⟨FSt.app_ok HOk.out hr, hfin.rows, hfin.lt, fun i hi => Nat.lt_of_lt_of_le (HR1.out i hi) (Nat.le_trans HC2.out.size hcc.size), vs, _, vd2, _, hfin, fun i h => h⟩, hcw, ?_, fun i hi => hi.imp id (fun h => h.1)⟩
  have hs1 := HB1.out.size
  have hs2 := HC2.out.size
  rintro i (rfl | hi | hi | hi)
  · exact .inl (HOM.out _ (.inl rfl))
  · exact .inl (HOM.out _ (.inr (.inl hi)))
  · rcases HV3.out with h1 | h1
    · exact .inl (HOM.out _ (.inr (.inr (.inl (h1 ▸ hi)))))
    · rw [hi] at h1; injection h1 with h1; exact .inr (by omega)
  · rcases HD2.out with h1 | h1
    · exact .inl (HOM.out _ (.inr (.inr (.inr (h1 ▸ hi)))))
    · have := h1 _ hi; exact .inr (by omega)
end Go.Proofs.Ytmlbhconbabdhaa
