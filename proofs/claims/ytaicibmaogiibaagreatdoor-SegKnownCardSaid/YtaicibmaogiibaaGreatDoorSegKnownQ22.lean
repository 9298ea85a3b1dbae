/-
  SegKnown, part 22 of what the law's proof leans on: WSegKnown.
-/
import Derived.BigQuiet
import Derived.Test.YtaicibmaogiibaaGreatDoorSegKnownQ21
import Derived.Test.YtaicibmaogiibaaGreatDoorSegKnownQ19
import Derived.Test.YtaicibmaogiibaaGreatDoorSegKnownQ7
import Derived.Test.YtaicibmaogiibaaGreatDoorSegKnownQ14
/- WSegKnown -/

/-
  SegKnown, walked: the chapter's rows, ends, none.
-/
set_option linter.unusedVariables false
set_option linter.unusedSimpArgs false
namespace Go.Proofs.YtaicibmaogiibaaGreatDoor.segKnown
open Go Go.RowKit Go.Proofs.YtaicibmaogiibaaGreatDoor Go.Proofs.YtaicibmaogiibaaGreatDoor.Sg

theorem al (w : World) (o : Obj) : Below w.heap.size w (w.alloc o) := (Below.refl _ _).alloc (Nat.le_refl _) _
theorem bel0 {w w1 w2 : World} (h : Below w.heap.size w w1) (k : Below w1.heap.size w1 w2) : Below w.heap.size w w2 := h.trans (k.mono h.size)
theorem bel1 {w w1 w2 : World} {o : Obj} (h : Below w.heap.size w w1) (k : Below (w1.alloc o).heap.size (w1.alloc o) w2) : Below w.heap.size w w2 := bel0 (bel0 h (al w1 o)) k
theorem on1 {w1 w2 : World} {o : Obj} (k : Below (w1.alloc o).heap.size (w1.alloc o) w2) : Below w1.heap.size w1 w2 := bel0 (al w1 o) k
/-- and of a segment beside it; blocks that are kept -/
def SgK (w w1 : World) (A G : Nat) (s : FsP) (x : S) (F : Nat × Obj → Prop) : Prop := ∃ M R, SegIn w1 G A M R s x ∧ (∀ i, M i → w.heap.size ≤ i) ∧ w.heap.size ≤ G ∧ Below w.heap.size w w1 ∧ ∀ p, F p → w1.heap[p.1]? = some p.2 ∧ ¬ M p.1 ∧ p.1 ≠ G
section
variable {w w1 w2 : World} {A G : Nat} {s t : FsP} {x y : S} {F : Nat × Obj → Prop}
theorem kblk {p : Nat × Obj} (h : w1.heap[p.1]? = some p.2) : p.1 < w1.heap.size := (Array.getElem?_eq_some_iff.1 h).1
theorem SgK.on (h : SgK w w1 A G s x F) (k : Below w1.heap.size w1 w2) : SgK w w2 A G s x F := by
  obtain ⟨M, R, h1, h2, h3, h4, h5⟩ := h
  exact ⟨M, R, ⟨h1.1.on k, h1.2.1.on k, h1.2.2⟩, h2, h3, bel0 h4 k, fun p hp => ⟨(k.block p.1 (kblk (h5 p hp).1)).trans (h5 p hp).1, (h5 p hp).2⟩⟩
theorem SgK.below (h : SgK w w1 A G s x F) : Below w.heap.size w w1 := by obtain ⟨M, R, h1, h2, h3, h4, _⟩ := h; exact h4
theorem SgK.add (h : SgK w w1 A G s x F) {g : Nat} {o : Obj} {z : Nat} (k : Below w1.heap.size w1 w2) (hg : w2.heap[g]? = some o) (hz : w1.heap.size ≤ g) : SgK w w2 A G s x (fun p => F p ∨ p = (g, o)) := by
  obtain ⟨M, R, h1, h2, h3, h4, h5⟩ := h.on k
  obtain ⟨M0, R0, k1, k2, k3, k4, k5⟩ := h
  refine ⟨M0, R0, ⟨k1.1.on k, k1.2.1.on k, k1.2.2⟩, k2, k3, bel0 k4 k, fun p hp => ?_⟩
  rcases hp with hp | rfl
  · exact ⟨(k.block p.1 (kblk (k5 p hp).1)).trans (k5 p hp).1, (k5 p hp).2⟩
  · exact ⟨hg, fun e => by have := k1.1.ml _ e; omega, fun e => by have := k1.2.1.lt; simp at e; omega⟩
theorem SgK.kept (h : SgK w w1 A G s x F) {g : Nat} {o : Obj} (hp : F (g, o)) : w1.heap[g]? = some o := by obtain ⟨M, R, _, _, _, _, h5⟩ := h; exact (h5 _ hp).1
theorem sg_mut {M R : Nat → Prop} (h : SegMut w1 w2 G A M R t y) (hM : ∀ i, M i → w.heap.size ≤ i) (hG : w.heap.size ≤ G) (hB : Below w.heap.size w w1) (hF : ∀ p, F p → w1.heap[p.1]? = some p.2 ∧ ¬ M p.1 ∧ p.1 ≠ G) : SgK w w2 A G t y F := by
  obtain ⟨M', R', h1, h2, h3, h4, h5, h6, h7⟩ := h
  have hs := hB.size
  exact ⟨M', R', ⟨h1, h5, h6, h7⟩, fun i e => (h3 i e).elim (hM i) (fun e => by omega), hG, hB.trans (h2.below hs (fun i e => e.elim (hM i) (fun e => by omega))), fun p hp => ⟨(h2.block p.1 (kblk (hF p hp).1) (fun e => e.elim (hF p hp).2.1 (hF p hp).2.2)).trans (hF p hp).1, fun e => (h3 _ e).elim (hF p hp).2.1 (fun e => by have := kblk (hF p hp).1; omega), (hF p hp).2.2⟩⟩
theorem fs_mut {M R : Nat → Prop} (h : SegIn w1 G A M R s x) (hm : FsMut w1 w2 A t.used M R t) (hM : ∀ i, M i → w.heap.size ≤ i) (hG : w.heap.size ≤ G) (hB : Below w.heap.size w w1) (hF : ∀ p, F p → w1.heap[p.1]? = some p.2 ∧ ¬ M p.1 ∧ p.1 ≠ G) : SgK w w2 A G t x F := by
  obtain ⟨M', R', h1, h2, h3, h4⟩ := hm
  have hs := hB.size
  have hl := h.2.1.lt
  exact ⟨M', R', ⟨h1, h.2.1.chg h2 h.2.2.1, fun e => (h3 _ e).elim h.2.2.1 (fun e => by omega), fun e => (h4 _ e).elim h.2.2.2 (fun e => by omega)⟩, fun i e => (h3 i e).elim (hM i) (fun e => by omega), hG, hB.trans (h2.below hs (fun i e => hM i e)), fun p hp => ⟨(h2.block p.1 (kblk (hF p hp).1) (hF p hp).2.1).trans (hF p hp).1, fun e => (h3 _ e).elim (hF p hp).2.1 (fun e => by have := kblk (hF p hp).1; omega), (hF p hp).2.2⟩⟩
/-- Append, as it is called here: a literal's bytes lie in new blocks -/
theorem gapp {q T Br : Nat} {r : Rc.Rec} {v : Value} (h : SgK w w1 A G s x F) (hx : Ctx w.heap.size w) (hxf : x.Fit) (hmany : x.many < 1000000) (hv : RecV w1 Br v r) (hBr : Br ≤ w1.heap.size) (hr : Rc.Fit r) (hf : FInv s q T) (hT : T ≤ 100000) (hst : s.steps + 1 ≤ 1000000) :
    Calls Tryz.prog 19 #[.pointer (some ⟨G, 0, none⟩), v] w1 fun e w' => e = .returned (.tuple #[locV (appG s x r).2.1, .int .i64 ((appG s x r).1 : Int)]) ∧ SgK w w' A G (appG s x r).2.2.1 (appG s x r).2.2.2 F := by
  obtain ⟨M, R, h1, h2, h3, h4, h5⟩ := h
  refine (sappend h1 (hx.below h4) h4.size h2 hxf hmany hv hBr hr hf hT hst).mono ?_
  rintro e w2 ⟨rfl, hm⟩
  exact ⟨rfl, sg_mut hm h2 h3 h4 h5⟩
theorem kcre {q T id : Nat} (h : SgK w w1 A G s x F) (hx : Ctx w.heap.size w) (hi : 1 ≤ id ∧ id ≤ 16777215) (hf : FInv s q T) (hq : q ≤ 100) (hT : T ≤ 90000) (hst : s.steps + 6 ≤ 1000000) (hc : (createG s id).1 ≠ 0) :
    Calls Tryz.prog 24 #[.pointer (some ⟨A, 0, none⟩), .int .u32 (id : Int)] w1 fun e w' => e = .returned (.tuple #[.pointer none, .int .i64 ((createG s id).1 : Int)]) ∧ SgK w w' A G (createG s id).2 x F := by
  obtain ⟨M, R, h1, h2, h3, h4, h5⟩ := h
  refine (screate (hx.below h4) h4.size h2 hi h1.1 hf hq hT hst).mono ?_
  rintro e w2 (⟨h0, _⟩ | ⟨_, rfl, hm⟩)
  · exact absurd h0 hc
  · exact ⟨rfl, fs_mut h1 hm h2 h3 h4 h5⟩
theorem kquo (h : SgK w w1 A G s x F) (k : Nat) (hk : k ≤ 1073741824) :
    Calls Tryz.prog 26 #[.pointer (some ⟨A, 0, none⟩), .int .i64 (k : Int)] w1 fun e w' => e = .returned (.int .i64 0) ∧ SgK w w' A G { s with quota := k } x F := by
  obtain ⟨M, R, h1, h2, h3, h4, h5⟩ := h
  refine (kquota h1.1 k hk).mono ?_
  rintro e w2 ⟨rfl, hm⟩
  exact ⟨rfl, fs_mut (t := { s with quota := k }) h1 hm h2 h3 h4 h5⟩
theorem klst {l : List ByteArray} (h : SgK w w1 A G s x F) (ho : s.off = false) (hl : namesL s.dir.now = l) :
    Calls Tryz.prog 25 #[.pointer (some ⟨A, 0, none⟩)] w1 fun e w' => ∃ v, e = .returned v ∧ w'.ownsRow w1.heap.size 9 1 v l.length (svs l) ∧ SgK w w' A G s x F ∧ Below w1.heap.size w1 w' := by
  obtain ⟨M, R, h1, h2, h3, h4, h5⟩ := show SgK w w1 A G s x F from h
  refine (klist h1.1 ho).mono ?_
  rintro e w2 ⟨v, rfl, ho, hb⟩
  rw [hl] at ho
  exact ⟨v, rfl, ho, h.on hb, hb⟩
theorem kseal (h : SgK w w1 A G s x F) : Calls Tryz.prog 12 #[.pointer (some ⟨G, 0, none⟩)] w1 fun e w' => e = .returned x.seal ∧ SgK w w' A G s x F ∧ Below w1.heap.size w1 w' := by
  obtain ⟨M, R, h1, h2, h3, h4, h5⟩ := show SgK w w1 A G s x F from h
  refine (sseal h1.2.1).mono ?_
  rintro e w2 ⟨rfl, hb⟩
  exact ⟨rfl, h.on hb, hb⟩
theorem kload {q T id : Nat} {f : FSt} (h : SgK w w1 A G s x F) (hx : Ctx w.heap.size w) (hi : 1 ≤ id ∧ id ≤ 16777215) (hf : FInv s q T) (hT : T ≤ 1000000) (hl : LoneN s (nameB id) f) (hlen : f.bytes.length ≤ 100000) :
    Calls Tryz.prog 13 #[.pointer (some ⟨A, 0, none⟩), .int .u32 (id : Int)] w1 fun e w' => ∃ rv, e = .returned (.tuple #[rv, .int .i64 0]) ∧ Sc.ScanV 56 w' w1.heap.size rv (Sc.of id f.bytes) ∧ SgK w w' A G s x F ∧ Below w1.heap.size w1 w' := by
  obtain ⟨M, R, h1, h2, h3, h4, h5⟩ := show SgK w w1 A G s x F from h
  refine (sload ofC (hx.below h4) h4.size hi h1.1 hf hT hl (mayN_name hi) hlen).mono ?_
  rintro e w2 ⟨rv, rfl, hs, hb⟩
  exact ⟨rv, rfl, hs, h.on hb, hb⟩
theorem krd {q T i off cnt : Nat} {nm : ByteArray} (h : SgK w w1 A G s x F) (hf : FInv s q T) (hT : T ≤ 1000000) (ho : s.off = false) (hn : nm.size ≤ maxLen) (h0 : nodeF s nm = (0, i)) (hle : off + cnt ≤ (s.file i).bytes.length) :
    Calls Tryz.prog 27 #[.pointer (some ⟨A, 0, none⟩), .string nm, .int .i64 (off : Int), .int .i64 (cnt : Int)] w1 fun e w' => ∃ r, e = .returned (.tuple #[r, .int .i64 0]) ∧ w'.ownsRow w1.heap.size 5 1 r cnt (bvs (((s.file i).bytes.drop off).take cnt)) ∧ SgK w w' A G s x F ∧ Below w1.heap.size w1 w' := by
  obtain ⟨M, R, h1, h2, h3, h4, h5⟩ := show SgK w w1 A G s x F from h
  refine (kreadat h1.1 hf hT ho hn h0 hle).mono ?_
  rintro e w2 ⟨r, rfl, hs, hb⟩
  exact ⟨r, rfl, hs, h.on hb, hb⟩
theorem lit_new (w : World) (l : List UInt8) (C : Array Value) (hC : C = (bvs l).toArray) (e : TypeId) (fr : Nat × Nat) (n : Nat) (hn : n = l.length) : Bs (w.alloc (.cells C e fr)) (w.alloc (.cells C e fr)).heap.size (.slice (some ⟨w.heap.size, 0, none⟩) n n) l :=
  bytes_bs l C hC e fr w.heap.size n hn (heap_alloc_new w _) (by simp)
theorem nil_bs (w : World) (B : Nat) : Bs w B (.slice none 0 0) [] := ⟨none, 0, rfl, Nat.le_refl _, fun h => absurd rfl h⟩
theorem bs_al {w : World} {v : Value} {l : List UInt8} (h : Bs w w.heap.size v l) (o : Obj) : Bs (w.alloc o) (w.alloc o).heap.size v l := by
  obtain ⟨A, c, rfl, hc, hr⟩ := h
  exact ⟨A, c, rfl, hc, fun hne => by
    obtain ⟨g, k, h1, h2, h3⟩ := hr hne
    exact ⟨g, k, h1, by simp; omega, fun j u hu => cell_al (h3 j u hu) o⟩⟩
end
theorem own_block28 {w : World} {base g c n : Nat} {T : TypeId} {xs : List Value} (h : w.ownsRow base T 1 (.slice (some ⟨g, 0, none⟩) n c) n xs) (u : Value) (hu : xs[0]? = some u) : ∃ o, w.heap[g]? = some o ∧ ∀ V : World, V.heap[g]? = some o → V.cell? ⟨g, 0, none⟩ = some u := by
  have hc := h.cells (g := g) rfl 0 u hu
  rw [addr_add0] at hc
  have hl := (h.lt g rfl).2
  exact ⟨_, Array.getElem?_eq_getElem hl, fun V hV => (World.cell?_of_block (hV.trans (Array.getElem?_eq_getElem hl).symm)).trans hc⟩
set_option maxRecDepth 100000 in
set_option maxHeartbeats 32000000 in
theorem walk (w : World) (ht : Ctx w.heap.size w) :
    Calls Tryz.prog 6 #[] w fun e w' => e = .returned (.bool true) ∧ Below w.heap.size w w' := by
  have HX := Lib.hid ht
  clear ht
  go_enter Tryz.func6, Tryz.ntmps6
  go_wp2_with fail
  refine (sappend_nil w 0 0 (.slice none 0 0) (.slice none 0 0) 0 0).mono ?_
  rintro e w1 ⟨rfl, hb⟩
  have HB1 := Lib.hid hb
  clear hb
  go_wp2_with fail
  refine (sread_nil _ 0 0).mono ?_
  rintro e w2 ⟨rfl, hb⟩
  have HB2 := Lib.hid (bel1 HB1.out hb)
  clear hb
  unfold recV
  go_wp2_with fail
  refine (screate_no none 1 2 _ rfl (by decide)).mono ?_
  rintro e w3 ⟨rfl, hb⟩
  have HB3 := Lib.hid (bel1 HB2.out hb)
  clear hb
  go_wp2_with fail
  refine (sof_nil 0 0 0 0 0 _).mono ?_
  rintro e w4 ⟨rfl, hb⟩
  have HB4 := Lib.hid (bel0 HB3.out hb)
  clear hb
  go_wp2_with fail
  refine (sload_no none 1 2 _ rfl (by decide)).mono ?_
  rintro e w5 ⟨rfl, hb⟩
  have HB5 := Lib.hid (bel0 HB4.out hb)
  clear hb
  go_wp2_with fail
  refine (ssync_nil _).mono ?_
  rintro e w6 ⟨rfl, rfl⟩
  go_wp2_with fail
  refine (sseal_nil _).mono ?_
  rintro e w7 ⟨rfl, hb⟩
  have HB7 := Lib.hid (bel1 HB5.out hb)
  clear hb
  unfold S.seal
  go_wp2_with fail
  refine (ssafe_nil _).mono ?_
  rintro e w8 ⟨rfl, rfl⟩
  go_wp2_with fail
  refine (knew _ 20 (by omega)).mono ?_
  rintro e w8 ⟨A, M, rfl, hm, hb, hM⟩
  have HB8 := Lib.hid (bel0 HB7.out hb)
  have HF8 := Lib.hid hm
  have HM := Lib.hid (show ∀ i, M i → w.heap.size ≤ i from fun i hi => Nat.le_trans HB7.out.size (hM i hi))
  clear hb hm hM
  go_wp2_with fail
  refine (screate_no (some ⟨A, 0, none⟩) 0 1 _ (by simp) (by decide)).mono ?_
  rintro e w9 ⟨rfl, hb⟩
  have HB9 := Lib.hid (bel0 HB8.out hb)
  have HF9 := Lib.hid (HF8.out.on hb)
  clear hb
  go_wp2_with fail
  refine (screate_no (some ⟨A, 0, none⟩) 16777216 1 _ (by simp) (by decide)).mono ?_
  rintro e w10 ⟨rfl, hb⟩
  have HB10 := Lib.hid (bel0 HB9.out hb)
  have HF10 := Lib.hid (HF9.out.on hb)
  clear hb
  go_wp2_with fail
  refine (sload_none (id := 5) (HX.out.below HB10.out) HB10.out.size (by omega) HF10.out (FInv.new 20) (by omega) rfl kload5 (by decide)).mono ?_
  rintro e w11 ⟨rfl, hb⟩
  have HB11 := Lib.hid (bel0 HB10.out hb)
  have HF11 := Lib.hid (HF10.out.on hb)
  clear hb
  go_wp2_with fail
  refine (sof_arg 5 15 0 0 0 _ (by omega)).mono ?_
  rintro e w12 ⟨rfl, hb⟩
  have HB12 := Lib.hid (bel1 HB11.out hb)
  have HF12 := Lib.hid (HF11.out.on (show Below w11.heap.size w11 w12 from on1 hb))
  clear hb
  go_wp2_with fail
  refine (screate (id := 5) (HX.out.below HB12.out) HB12.out.size HM.out (by omega) HF12.out (FInv.new 20) (by omega) (by omega) (by decide)).mono ?_
  rintro e w13 (⟨_, G, rfl, hG, hS⟩ | ⟨hne, _⟩)
  rotate_left
  · exact absurd kc1 hne
  have HK13 : Hid (SgK w w13 A G sk1 sx0 (fun _ => False)) := Lib.hid (sg_mut hS HM.out (Nat.le_trans HB12.out.size hG) HB12.out (fun _ e => e.elim))
  clear hS hG HF8 HF9 HF10 HF11 HF12 HB1 HB2 HB3 HB4 HB5 HB7 HB8 HB9 HB10 HB11 HB12 HM
  go_wp2_with fail
  have HC := kcre (id := 5) HK13.out HX.out (by omega) kf1.1 (by omega) (by omega) (by have := kf1.2; omega) (by rw [kc2]; decide)
  rw [kc2] at HC
  refine HC.mono ?_
  clear HC
  rintro e w14 ⟨rfl, hk⟩
  have HK14 : Hid (SgK w w14 A G sk2 sx0 (fun _ => False)) := Lib.hid hk
  clear hk
  go_wp2_with fail
  have HC := kcre (id := 6) HK14.out HX.out (by omega) kf2.1 (by omega) (by omega) (by have := kf2.2; omega) (by rw [kc3]; decide)
  rw [kc3] at HC
  refine HC.mono ?_
  clear HC
  rintro e w15 ⟨rfl, hk⟩
  have HK15 : Hid (SgK w w15 A G sk3 sx0 (fun _ => False)) := Lib.hid hk
  clear hk
  go_wp2_with fail
  refine (klst HK15.out kl3 kn3).mono ?_
  rintro e w16 ⟨v28, rfl, hown, hk, hb⟩
  obtain ⟨A28, c28, rfl, _, _, _⟩ := own_slice hown
  obtain ⟨g28, rfl, hg28⟩ := Sc.own_at hown (by decide)
  obtain ⟨o28, hcl, hc28⟩ := own_block28 hown (.string (nameB 5)) rfl
  rw [kw5] at hc28
  have HC28 := Lib.hid hc28
  have HK16 := Lib.hid (HK15.out.add (z := 0) hb hcl hg28)
  clear hk hb hown hg28 hcl hc28
  have kca := fun V : World => Lib.run_convert_bytes_const (P := Tryz.prog) V 47 5 #[.int .u8 97] 1 1 Tryz.underlying47 Tryz.underlying5
  have kcv := fun V : World => Lib.run_convert_bytes_const (P := Tryz.prog) V 47 5 #[.int .u8 118] 1 1 Tryz.underlying47 Tryz.underlying5
  go_wp2_with fail
  refine Calls.mono (gapp (r := kr0) (HK16.out.on (al _ _)) HX.out ⟨by decide, by decide, by decide, by decide, by decide, by decide⟩ (by decide) ⟨_, _, rfl, lit_new _ [97] _ rfl _ _ 1 rfl, nil_bs _ _⟩ (Nat.le_refl _) (Rc.fit_may km0) kf3.1 (by omega) (by have := kf3.2; omega)) ?_
  rintro e w17 ⟨rfl, hk⟩
  rw [ka0.1, ka0.2.1]
  rw [ka0.2.2] at hk
  have HK17 : Hid (SgK w w17 A G sk4 sx0 _) := Lib.hid hk
  clear hk
  unfold locV
  go_wp2_with fail
  refine Calls.mono (kquo (HK17.out.on (al _ _)) 1000 (by omega)) ?_
  rintro e w18 ⟨rfl, hk⟩
  have HK18 : Hid (SgK w w18 A G sk5 sx0 _) := Lib.hid hk
  clear hk
  go_wp2_with fail
  refine Calls.mono (gapp (r := kr1) (HK18.out.on (al _ _)) HX.out ⟨by decide, by decide, by decide, by decide, by decide, by decide⟩ (by decide) ⟨_, _, rfl, lit_new _ [97] _ rfl _ _ 1 rfl, nil_bs _ _⟩ (Nat.le_refl _) (by constructor <;> decide) kf5.1 (by omega) (by have := kf5.2; omega)) ?_
  rintro e w19 ⟨rfl, hk⟩
  rw [ka1p.1, ka1p.2.1]
  rw [ka1p.2.2.1, ka1p.2.2.2] at hk
  have HK19 : Hid (SgK w w19 A G sk5 sx0 _) := Lib.hid hk
  clear hk
  have kc1 := kca (w19.alloc (.cells #[.int .u32 0, .int .u32 0] 49))
  have kc2 := kcv ((w19.alloc (.cells #[.int .u32 0, .int .u32 0] 49)).alloc (.cells #[.int .u8 97] 5 (1, 2)))
  simp only [World.size_alloc] at kc1 kc2
  have HS1 := Lib.hid (show Bs (((w19.alloc (.cells #[.int .u32 0, .int .u32 0] 49)).alloc (.cells #[.int .u8 97] 5 (1, 2))).alloc (.cells #[.int .u8 118] 5 (1, 2))) (((w19.alloc (.cells #[.int .u32 0, .int .u32 0] 49)).alloc (.cells #[.int .u8 97] 5 (1, 2))).alloc (.cells #[.int .u8 118] 5 (1, 2))).heap.size (.slice (some ⟨w19.heap.size + 1, 0, none⟩) 1 1) [97] from by have h := bs_al (lit_new (w19.alloc (.cells #[.int .u32 0, .int .u32 0] 49)) [97] _ rfl 5 (1, 2) 1 rfl) (.cells #[.int .u8 118] 5 (1, 2)); rw [show (w19.alloc (.cells #[.int .u32 0, .int .u32 0] 49)).heap.size = w19.heap.size + 1 by rw [World.size_alloc]] at h; exact h)
  have HS2 := Lib.hid (show Bs (((w19.alloc (.cells #[.int .u32 0, .int .u32 0] 49)).alloc (.cells #[.int .u8 97] 5 (1, 2))).alloc (.cells #[.int .u8 118] 5 (1, 2))) (((w19.alloc (.cells #[.int .u32 0, .int .u32 0] 49)).alloc (.cells #[.int .u8 97] 5 (1, 2))).alloc (.cells #[.int .u8 118] 5 (1, 2))).heap.size (.slice (some ⟨w19.heap.size + 1 + 1, 0, none⟩) 1 1) [118] from by have h := lit_new ((w19.alloc (.cells #[.int .u32 0, .int .u32 0] 49)).alloc (.cells #[.int .u8 97] 5 (1, 2))) [118] _ rfl 5 (1, 2) 1 rfl; rw [show ((w19.alloc (.cells #[.int .u32 0, .int .u32 0] 49)).alloc (.cells #[.int .u8 97] 5 (1, 2))).heap.size = w19.heap.size + 1 + 1 by rw [World.size_alloc, World.size_alloc]] at h; exact h)
  unfold locV
  go_wp2_with fail
  refine Calls.mono (gapp (r := kr2) (HK19.out.on (bel0 (bel0 (al _ (.cells #[.int .u32 0, .int .u32 0] 49)) (al _ (.cells #[.int .u8 97] 5 (1, 2)))) (al _ (.cells #[.int .u8 118] 5 (1, 2))))) HX.out ⟨by decide, by decide, by decide, by decide, by decide, by decide⟩ (by decide) ⟨_, _, rfl, HS1.out, HS2.out⟩ (Nat.le_refl _) (Rc.fit_may km2) kf5.1 (by omega) (by have := kf5.2; omega)) ?_
  rintro e w21 ⟨rfl, hk⟩
  rw [ka2.1, ka2.2.1]
  rw [ka2.2.2] at hk
  have HK21 : Hid (SgK w w21 A G sk6 sx1 _) := Lib.hid hk
  clear hk
  unfold locV
  obtain ⟨W22, hW22⟩ : ∃ V, w21.alloc (.cells #[.int .u32 5, .int .u32 16] 49) = V := ⟨_, rfl⟩
  obtain ⟨W23, hW23⟩ : ∃ V, W22.alloc (.cells #[.int .u8 97] 5 (1, 2)) = V := ⟨_, rfl⟩
  have HBW22 := Lib.hid (show Below w21.heap.size w21 W22 from by rw [← hW22]; exact al _ _)
  have HBW23 := Lib.hid (show Below W22.heap.size W22 W23 from by rw [← hW23]; exact al _ _)
  have HSW23 := Lib.hid (show Bs W23 W23.heap.size (.slice (some ⟨W22.heap.size, 0, none⟩) 1 1) [97] from by rw [← hW23]; exact lit_new _ [97] _ rfl _ _ 1 rfl)
  go_wp2_with fail
  refine Calls.mono (gapp (r := kr3) (HK21.out.on (bel0 HBW22.out HBW23.out)) HX.out ⟨by decide, by decide, by decide, by decide, by decide, by decide⟩ (by decide) ⟨_, _, rfl, HSW23.out, nil_bs _ _⟩ (Nat.le_refl _) (Rc.fit_may km3) kf6.1 (by omega) (by have := kf6.2; omega)) ?_
  rintro e w23 ⟨rfl, hk⟩
  rw [(ka3p _).1, (ka3p _).2.1]
  rw [(ka3p _).2.2.1, (ka3p _).2.2.2] at hk
  have HK23 : Hid (SgK w w23 A G sk6 sx1 _) := Lib.hid hk
  clear hk
  unfold locV
  go_wp2_with fail
  refine Calls.mono (kseal (HK23.out.on (al _ _))) ?_
  rintro e w24 ⟨rfl, hk, _⟩
  have HK24 : Hid (SgK w w24 A G sk6 sx1 _) := Lib.hid hk
  clear hk
  rw [show sx1.seal = .agg #[.int .u32 5, .int .u32 43, .int .u32 1, .int .u64 4, .int .u64 4] from rfl]
  obtain ⟨g37, hg37⟩ : ∃ g, w24.heap.size = g := ⟨_, rfl⟩
  obtain ⟨W25, hW25⟩ : ∃ V, w24.alloc (.cells #[.int .u32 5, .int .u32 43, .int .u32 1, .int .u64 4, .int .u64 4] 39) = V := ⟨_, rfl⟩
  have hk37 : W25.heap[g37]? = some (.cells #[.int .u32 5, .int .u32 43, .int .u32 1, .int .u64 4, .int .u64 4] 39 (0, 0)) := by rw [← hW25, ← hg37]; exact heap_alloc_new w24 _
  have HK37 := Lib.hid hk37
  have HK25 := Lib.hid (HK24.out.on (show Below w24.heap.size w24 W25 from by rw [← hW25]; exact al _ _))
  clear hk37
  go_wp2_with fail
  clear hg37 hW25
  refine Calls.mono (kload (id := 5) HK25.out HX.out (by omega) kf6.1 (by omega) klone (by rw [klen6]; omega)) ?_
  rintro e w26 ⟨rv, rfl, hsv, hk, hb⟩
  rw [kof] at hsv
  have HSV := Lib.hid hsv
  obtain ⟨Af, cf, Ap, cp, q, rfl, _⟩ := hsv.lit 5 43 0 1 0 rfl rfl rfl rfl rfl
  have HK26 := Lib.hid hk
  have HK37b := Lib.hid ((hb.block g37 (Array.getElem?_eq_some_iff.1 HK37.out).1).trans HK37.out)
  clear hk hb hsv
  obtain ⟨g38, hg38⟩ : ∃ g, w26.heap.size = g := ⟨_, rfl⟩
  obtain ⟨W27, hW27⟩ : ∃ V, w26.alloc (.cells #[.int .u32 5, .slice Af 1 cf, .slice Ap 0 cp, .int .i64 43, .int .i64 0] 44) = V := ⟨_, rfl⟩
  have hbW : Below w26.heap.size w26 W27 := by rw [← hW27]; exact al _ _
  have HK38 := Lib.hid (show W27.heap[g38]? = some (.cells #[.int .u32 5, .slice Af 1 cf, .slice Ap 0 cp, .int .i64 43, .int .i64 0] 44 (0, 0)) from by rw [← hW27, ← hg38]; exact heap_alloc_new w26 _)
  have HK37c := Lib.hid ((hbW.block g37 (Array.getElem?_eq_some_iff.1 HK37b.out).1).trans HK37b.out)
  have HK27 := Lib.hid (HK26.out.on hbW)
  have HSV27 := Lib.hid (HSV.out.on hbW)
  have HW27 := Lib.hid hW27
  have HG38 := Lib.hid hg38
  clear hbW hW27 hg38
  go_upto_region 27 with fail
  rw [HW27.out]
  try rw [HG38.out]
  clear kca kcv
  go_cut [40, 41] from 188 to 192 (fun s40 s41 wx => ∃ Ar cr, s40 = .slice Ar 16 cr ∧ s41 = .int .i64 0 ∧ Hid (Bs wx wx.heap.size (.slice Ar 16 cr) (Hd.headL 1 5) ∧ SgK w wx A G sk6 sx1 (fun p => False ∨ p = (g28, o28)) ∧ Below W27.heap.size W27 wx))
  case first =>
    as_aux_lemma =>
      go_wp2_with fail
      have hrd := krd (off := 0) (cnt := 16) HK27.out kf6.1 (by omega) klone.on (by rw [kw5]; decide) knode6 (by rw [klen6]; omega)
      rw [kw5, khead] at hrd
      refine Calls.mono hrd ?_
      clear hrd
      rintro e w28 ⟨vr, rfl, hown, hk, hb⟩
      obtain ⟨Ar, cr, rfl, hcr, _, _⟩ := own_slice hown
      have HRL := Lib.hid (And.intro (show Bs w28 w28.heap.size (.slice Ar 16 cr) (Hd.headL 1 5) from ⟨_, _, by rw [Hd.headL_length], by rw [Hd.headL_length]; exact hcr, Rd.of_own hown⟩) (And.intro hk hb))
      clear hown hk hb
      go_wp2_with fail
      go_meet
      case rel => exact ⟨Ar, cr, rfl, rfl, HRL⟩
  case rest =>
      rename World => w28
      obtain ⟨Ar, cr, rfl, rfl, hcut⟩ := hcut
      have HOW := Lib.hid hcut.out.1
      have HK28 := Lib.hid hcut.out.2.1
      have hb := hcut.out.2.2
      clear hcut
      have hk37 := (hb.block g37 (Array.getElem?_eq_some_iff.1 HK37c.out).1).trans HK37c.out
      have hk38 := (hb.block g38 (Array.getElem?_eq_some_iff.1 HK38.out).1).trans HK38.out
      have H37 := Lib.hid hk37
      have H38 := Lib.hid hk38
      have HSV28 := Lib.hid (HSV27.out.on hb)
      have hcl := HC28.out w28 (HK28.out.kept (.inr rfl))
      have HKP := Lib.hid (show ∀ V : World, Below w28.heap.size w28 V → V.cell? ⟨g28, 0, none⟩ = some (.string ⟨#[115, 101, 103, 45, 48, 48, 48, 48, 48, 53]⟩) ∧ V.heap[g37]? = some (.cells #[.int .u32 5, .int .u32 43, .int .u32 1, .int .u64 4, .int .u64 4] 39 (0, 0)) ∧ V.heap[g38]? = some (.cells #[.int .u32 5, .slice Af 1 cf, .slice Ap 0 cp, .int .i64 43, .int .i64 0] 44 (0, 0)) from fun V hV => ⟨(hV.cell (fblock_of_cell hcl)).trans hcl, (hV.block g37 (Array.getElem?_eq_some_iff.1 hk37).1).trans hk37, (hV.block g38 (Array.getElem?_eq_some_iff.1 hk38).1).trans hk38⟩)
      have kch := fun V : World => Lib.run_convert_bytes_const (P := Tryz.prog) V 47 5 #[.int .u8 104, .int .u8 111, .int .u8 117, .int .u8 114, .int .u8 98, .int .u8 107, .int .u8 49] 7 7 Tryz.underlying47 Tryz.underlying5
      have KCH := Lib.hid kch
      have hfs : ∀ w : World, (Instr.field 44 (.agg #[.int .u32 5, .slice none 0 0, .slice none 0 0, .int .i64 0, .int .i64 22]) 0).run Tryz.prog w = .ok (.int .u32 5) w := fun _ => by kernel_rfl
      clear hb hk37 hk38 hcl kch
      go_wp2_with fail
      refine wp_region_noPanic ?_
      have hb0 : Below w28.heap.size w28 w28.drew := (Below.refl _ _).drew
      refine wp_region_held_drew (S := fun V : World => V.cell? ⟨g28, 0, none⟩ = some (.string ⟨#[115, 101, 103, 45, 48, 48, 48, 48, 48, 53]⟩) ∧ V.heap[g37]? = some (.cells #[.int .u32 5, .int .u32 43, .int .u32 1, .int .u64 4, .int .u64 4] 39 (0, 0)) ∧ V.heap[g38]? = some (.cells #[.int .u32 5, .slice Af 1 cf, .slice Ap 0 cp, .int .i64 43, .int .i64 0] 44 (0, 0))) (by as_aux_lemma => kernel_rfl) (HKP.out _ hb0) (fun hHeld => ?_)
      generalize World.drew w28 = V0 at *
      refine wpAnyH_take (i := 0) (v := ?_) opAt_0 (by as_aux_lemma => kernel_rfl) (by as_aux_lemma => kernel_rfl) (by as_aux_lemma => kernel_rfl) (fun _ _ _ h => h) (Or.inl ⟨by as_aux_lemma => rfl, ?_⟩) (by assumption) ?_
      rotate_left
      · (intro w hSw; have hcl := hSw.1; have c0 := cell_of_row w g37 0 _ _ _ hSw.2.1; have c1 := cell_of_row w g37 1 _ _ _ hSw.2.1; have c2 := cell_of_row w g37 2 _ _ _ hSw.2.1; have c3 := cell_of_row w g37 3 _ _ _ hSw.2.1; have c4 := cell_of_row w g37 4 _ _ _ hSw.2.1; have d0 := cell_of_row w g38 0 _ _ _ hSw.2.2; have d1 := cell_of_row w g38 1 _ _ _ hSw.2.2; have d2 := cell_of_row w g38 2 _ _ _ hSw.2.2; have d3 := cell_of_row w g38 3 _ _ _ hSw.2.2; have d4 := cell_of_row w g38 4 _ _ _ hSw.2.2; go_simp; try with_reducible rfl)
      (try simp only [Act.put, List.setIfInBounds_toArray]); (try dsimp only [List.set_cons_zero, List.set_cons_succ])
      refine wpAnyH_take (i := 1) (v := ?_) opAt_1 (by as_aux_lemma => kernel_rfl) (by as_aux_lemma => kernel_rfl) (by as_aux_lemma => kernel_rfl) (fun _ _ _ h => h) (Or.inl ⟨by as_aux_lemma => rfl, ?_⟩) (by assumption) ?_
      rotate_left
      · (intro w hSw; have hcl := hSw.1; have c0 := cell_of_row w g37 0 _ _ _ hSw.2.1; have c1 := cell_of_row w g37 1 _ _ _ hSw.2.1; have c2 := cell_of_row w g37 2 _ _ _ hSw.2.1; have c3 := cell_of_row w g37 3 _ _ _ hSw.2.1; have c4 := cell_of_row w g37 4 _ _ _ hSw.2.1; have d0 := cell_of_row w g38 0 _ _ _ hSw.2.2; have d1 := cell_of_row w g38 1 _ _ _ hSw.2.2; have d2 := cell_of_row w g38 2 _ _ _ hSw.2.2; have d3 := cell_of_row w g38 3 _ _ _ hSw.2.2; have d4 := cell_of_row w g38 4 _ _ _ hSw.2.2; go_simp; try with_reducible rfl)
      (try simp only [Act.put, List.setIfInBounds_toArray]); (try dsimp only [List.set_cons_zero, List.set_cons_succ])
      refine wpAnyH_take (i := 2) (v := ?_) opAt_2 (by as_aux_lemma => kernel_rfl) (by as_aux_lemma => kernel_rfl) (by as_aux_lemma => kernel_rfl) (fun _ _ _ h => h) (Or.inl ⟨by as_aux_lemma => rfl, ?_⟩) (by assumption) ?_
      rotate_left
      · (intro w hSw; have hcl := hSw.1; have c0 := cell_of_row w g37 0 _ _ _ hSw.2.1; have c1 := cell_of_row w g37 1 _ _ _ hSw.2.1; have c2 := cell_of_row w g37 2 _ _ _ hSw.2.1; have c3 := cell_of_row w g37 3 _ _ _ hSw.2.1; have c4 := cell_of_row w g37 4 _ _ _ hSw.2.1; have d0 := cell_of_row w g38 0 _ _ _ hSw.2.2; have d1 := cell_of_row w g38 1 _ _ _ hSw.2.2; have d2 := cell_of_row w g38 2 _ _ _ hSw.2.2; have d3 := cell_of_row w g38 3 _ _ _ hSw.2.2; have d4 := cell_of_row w g38 4 _ _ _ hSw.2.2; go_simp; try with_reducible rfl)
      (try simp only [Act.put, List.setIfInBounds_toArray]); (try dsimp only [List.set_cons_zero, List.set_cons_succ])
      refine wpAnyH_take (i := 3) (v := ?_) opAt_3 (by as_aux_lemma => kernel_rfl) (by as_aux_lemma => kernel_rfl) (by as_aux_lemma => kernel_rfl) (fun _ _ _ h => h) (Or.inl ⟨by as_aux_lemma => rfl, ?_⟩) (by assumption) ?_
      rotate_left
      · (intro w hSw; have hcl := hSw.1; have c0 := cell_of_row w g37 0 _ _ _ hSw.2.1; have c1 := cell_of_row w g37 1 _ _ _ hSw.2.1; have c2 := cell_of_row w g37 2 _ _ _ hSw.2.1; have c3 := cell_of_row w g37 3 _ _ _ hSw.2.1; have c4 := cell_of_row w g37 4 _ _ _ hSw.2.1; have d0 := cell_of_row w g38 0 _ _ _ hSw.2.2; have d1 := cell_of_row w g38 1 _ _ _ hSw.2.2; have d2 := cell_of_row w g38 2 _ _ _ hSw.2.2; have d3 := cell_of_row w g38 3 _ _ _ hSw.2.2; have d4 := cell_of_row w g38 4 _ _ _ hSw.2.2; go_simp; try with_reducible rfl)
      (try simp only [Act.put, List.setIfInBounds_toArray]); (try dsimp only [List.set_cons_zero, List.set_cons_succ])
      refine wpAnyH_take (i := 4) (v := ?_) opAt_4 (by as_aux_lemma => kernel_rfl) (by as_aux_lemma => kernel_rfl) (by as_aux_lemma => kernel_rfl) (fun _ _ _ h => h) (Or.inl ⟨by as_aux_lemma => rfl, ?_⟩) (by assumption) ?_
      rotate_left
      · (intro w hSw; have hcl := hSw.1; have c0 := cell_of_row w g37 0 _ _ _ hSw.2.1; have c1 := cell_of_row w g37 1 _ _ _ hSw.2.1; have c2 := cell_of_row w g37 2 _ _ _ hSw.2.1; have c3 := cell_of_row w g37 3 _ _ _ hSw.2.1; have c4 := cell_of_row w g37 4 _ _ _ hSw.2.1; have d0 := cell_of_row w g38 0 _ _ _ hSw.2.2; have d1 := cell_of_row w g38 1 _ _ _ hSw.2.2; have d2 := cell_of_row w g38 2 _ _ _ hSw.2.2; have d3 := cell_of_row w g38 3 _ _ _ hSw.2.2; have d4 := cell_of_row w g38 4 _ _ _ hSw.2.2; go_simp; try with_reducible rfl)
      (try simp only [Act.put, List.setIfInBounds_toArray]); (try dsimp only [List.set_cons_zero, List.set_cons_succ])
      refine wpAnyH_take (i := 5) (v := ?_) opAt_5 (by as_aux_lemma => kernel_rfl) (by as_aux_lemma => kernel_rfl) (by as_aux_lemma => kernel_rfl) (fun _ _ _ h => h) (Or.inl ⟨by as_aux_lemma => rfl, ?_⟩) (by assumption) ?_
      rotate_left
      · (intro w hSw; have hcl := hSw.1; have c0 := cell_of_row w g37 0 _ _ _ hSw.2.1; have c1 := cell_of_row w g37 1 _ _ _ hSw.2.1; have c2 := cell_of_row w g37 2 _ _ _ hSw.2.1; have c3 := cell_of_row w g37 3 _ _ _ hSw.2.1; have c4 := cell_of_row w g37 4 _ _ _ hSw.2.1; have d0 := cell_of_row w g38 0 _ _ _ hSw.2.2; have d1 := cell_of_row w g38 1 _ _ _ hSw.2.2; have d2 := cell_of_row w g38 2 _ _ _ hSw.2.2; have d3 := cell_of_row w g38 3 _ _ _ hSw.2.2; have d4 := cell_of_row w g38 4 _ _ _ hSw.2.2; go_simp; try with_reducible rfl)
      (try simp only [Act.put, List.setIfInBounds_toArray]); (try dsimp only [List.set_cons_zero, List.set_cons_succ])
      refine wpAnyH_take (i := 6) (v := ?_) opAt_6 (by as_aux_lemma => kernel_rfl) (by as_aux_lemma => kernel_rfl) (by as_aux_lemma => kernel_rfl) (fun _ _ _ h => h) (Or.inl ⟨by as_aux_lemma => rfl, ?_⟩) (by assumption) ?_
      rotate_left
      · (intro w hSw; have hcl := hSw.1; have c0 := cell_of_row w g37 0 _ _ _ hSw.2.1; have c1 := cell_of_row w g37 1 _ _ _ hSw.2.1; have c2 := cell_of_row w g37 2 _ _ _ hSw.2.1; have c3 := cell_of_row w g37 3 _ _ _ hSw.2.1; have c4 := cell_of_row w g37 4 _ _ _ hSw.2.1; have d0 := cell_of_row w g38 0 _ _ _ hSw.2.2; have d1 := cell_of_row w g38 1 _ _ _ hSw.2.2; have d2 := cell_of_row w g38 2 _ _ _ hSw.2.2; have d3 := cell_of_row w g38 3 _ _ _ hSw.2.2; have d4 := cell_of_row w g38 4 _ _ _ hSw.2.2; go_simp; try with_reducible rfl)
      (try simp only [Act.put, List.setIfInBounds_toArray]); (try dsimp only [List.set_cons_zero, List.set_cons_succ])
      refine wpAnyH_take (i := 7) (v := ?_) opAt_7 (by as_aux_lemma => kernel_rfl) (by as_aux_lemma => kernel_rfl) (by as_aux_lemma => kernel_rfl) (fun _ _ _ h => h) (Or.inl ⟨by as_aux_lemma => rfl, ?_⟩) (by assumption) ?_
      rotate_left
      · (intro w hSw; have hcl := hSw.1; have c0 := cell_of_row w g37 0 _ _ _ hSw.2.1; have c1 := cell_of_row w g37 1 _ _ _ hSw.2.1; have c2 := cell_of_row w g37 2 _ _ _ hSw.2.1; have c3 := cell_of_row w g37 3 _ _ _ hSw.2.1; have c4 := cell_of_row w g37 4 _ _ _ hSw.2.1; have d0 := cell_of_row w g38 0 _ _ _ hSw.2.2; have d1 := cell_of_row w g38 1 _ _ _ hSw.2.2; have d2 := cell_of_row w g38 2 _ _ _ hSw.2.2; have d3 := cell_of_row w g38 3 _ _ _ hSw.2.2; have d4 := cell_of_row w g38 4 _ _ _ hSw.2.2; go_simp; try with_reducible rfl)
      (try simp only [Act.put, List.setIfInBounds_toArray]); (try dsimp only [List.set_cons_zero, List.set_cons_succ])
      refine wpAnyH_take (i := 8) (v := ?_) opAt_8 (by as_aux_lemma => kernel_rfl) (by as_aux_lemma => kernel_rfl) (by as_aux_lemma => kernel_rfl) (fun _ _ _ h => h) (Or.inl ⟨by as_aux_lemma => rfl, ?_⟩) (by assumption) ?_
      rotate_left
      · (intro w hSw; have hcl := hSw.1; have c0 := cell_of_row w g37 0 _ _ _ hSw.2.1; have c1 := cell_of_row w g37 1 _ _ _ hSw.2.1; have c2 := cell_of_row w g37 2 _ _ _ hSw.2.1; have c3 := cell_of_row w g37 3 _ _ _ hSw.2.1; have c4 := cell_of_row w g37 4 _ _ _ hSw.2.1; have d0 := cell_of_row w g38 0 _ _ _ hSw.2.2; have d1 := cell_of_row w g38 1 _ _ _ hSw.2.2; have d2 := cell_of_row w g38 2 _ _ _ hSw.2.2; have d3 := cell_of_row w g38 3 _ _ _ hSw.2.2; have d4 := cell_of_row w g38 4 _ _ _ hSw.2.2; go_simp; try with_reducible rfl)
      (try simp only [Act.put, List.setIfInBounds_toArray]); (try dsimp only [List.set_cons_zero, List.set_cons_succ])
      refine wpAnyH_take (i := 9) (v := ?_) opAt_9 (by as_aux_lemma => kernel_rfl) (by as_aux_lemma => kernel_rfl) (by as_aux_lemma => kernel_rfl) (fun _ _ _ h => h) (Or.inl ⟨by as_aux_lemma => rfl, ?_⟩) (by assumption) ?_
      rotate_left
      · (intro w hSw; have hcl := hSw.1; have c0 := cell_of_row w g37 0 _ _ _ hSw.2.1; have c1 := cell_of_row w g37 1 _ _ _ hSw.2.1; have c2 := cell_of_row w g37 2 _ _ _ hSw.2.1; have c3 := cell_of_row w g37 3 _ _ _ hSw.2.1; have c4 := cell_of_row w g37 4 _ _ _ hSw.2.1; have d0 := cell_of_row w g38 0 _ _ _ hSw.2.2; have d1 := cell_of_row w g38 1 _ _ _ hSw.2.2; have d2 := cell_of_row w g38 2 _ _ _ hSw.2.2; have d3 := cell_of_row w g38 3 _ _ _ hSw.2.2; have d4 := cell_of_row w g38 4 _ _ _ hSw.2.2; go_simp; try with_reducible rfl)
      (try simp only [Act.put, List.setIfInBounds_toArray]); (try dsimp only [List.set_cons_zero, List.set_cons_succ])
      refine wpAnyH_take (i := 10) (v := ?_) opAt_10 (by as_aux_lemma => kernel_rfl) (by as_aux_lemma => kernel_rfl) (by as_aux_lemma => kernel_rfl) (fun _ _ _ h => h) (Or.inl ⟨by as_aux_lemma => rfl, ?_⟩) (by assumption) ?_
      rotate_left
      · (intro w hSw; have hcl := hSw.1; have c0 := cell_of_row w g37 0 _ _ _ hSw.2.1; have c1 := cell_of_row w g37 1 _ _ _ hSw.2.1; have c2 := cell_of_row w g37 2 _ _ _ hSw.2.1; have c3 := cell_of_row w g37 3 _ _ _ hSw.2.1; have c4 := cell_of_row w g37 4 _ _ _ hSw.2.1; have d0 := cell_of_row w g38 0 _ _ _ hSw.2.2; have d1 := cell_of_row w g38 1 _ _ _ hSw.2.2; have d2 := cell_of_row w g38 2 _ _ _ hSw.2.2; have d3 := cell_of_row w g38 3 _ _ _ hSw.2.2; have d4 := cell_of_row w g38 4 _ _ _ hSw.2.2; go_simp; try with_reducible rfl)
      (try simp only [Act.put, List.setIfInBounds_toArray]); (try dsimp only [List.set_cons_zero, List.set_cons_succ])
      refine wpAnyH_take (i := 11) (v := ?_) opAt_11 (by as_aux_lemma => kernel_rfl) (by as_aux_lemma => kernel_rfl) (by as_aux_lemma => kernel_rfl) (fun _ _ _ h => h) (Or.inl ⟨by as_aux_lemma => rfl, ?_⟩) (by assumption) ?_
      rotate_left
      · (intro w hSw; have hcl := hSw.1; have c0 := cell_of_row w g37 0 _ _ _ hSw.2.1; have c1 := cell_of_row w g37 1 _ _ _ hSw.2.1; have c2 := cell_of_row w g37 2 _ _ _ hSw.2.1; have c3 := cell_of_row w g37 3 _ _ _ hSw.2.1; have c4 := cell_of_row w g37 4 _ _ _ hSw.2.1; have d0 := cell_of_row w g38 0 _ _ _ hSw.2.2; have d1 := cell_of_row w g38 1 _ _ _ hSw.2.2; have d2 := cell_of_row w g38 2 _ _ _ hSw.2.2; have d3 := cell_of_row w g38 3 _ _ _ hSw.2.2; have d4 := cell_of_row w g38 4 _ _ _ hSw.2.2; go_simp; try with_reducible rfl)
      (try simp only [Act.put, List.setIfInBounds_toArray]); (try dsimp only [List.set_cons_zero, List.set_cons_succ])
      refine wpAnyH_take (i := 12) (v := ?_) opAt_12 (by as_aux_lemma => kernel_rfl) (by as_aux_lemma => kernel_rfl) (by as_aux_lemma => kernel_rfl) (fun _ _ _ h => h) (Or.inl ⟨by as_aux_lemma => rfl, ?_⟩) (by assumption) ?_
      rotate_left
      · (intro w hSw; have hcl := hSw.1; have c0 := cell_of_row w g37 0 _ _ _ hSw.2.1; have c1 := cell_of_row w g37 1 _ _ _ hSw.2.1; have c2 := cell_of_row w g37 2 _ _ _ hSw.2.1; have c3 := cell_of_row w g37 3 _ _ _ hSw.2.1; have c4 := cell_of_row w g37 4 _ _ _ hSw.2.1; have d0 := cell_of_row w g38 0 _ _ _ hSw.2.2; have d1 := cell_of_row w g38 1 _ _ _ hSw.2.2; have d2 := cell_of_row w g38 2 _ _ _ hSw.2.2; have d3 := cell_of_row w g38 3 _ _ _ hSw.2.2; have d4 := cell_of_row w g38 4 _ _ _ hSw.2.2; go_simp; try with_reducible rfl)
      (try simp only [Act.put, List.setIfInBounds_toArray]); (try dsimp only [List.set_cons_zero, List.set_cons_succ])
      refine wpAnyH_take (i := 13) (v := ?_) opAt_13 (by as_aux_lemma => kernel_rfl) (by as_aux_lemma => kernel_rfl) (by as_aux_lemma => kernel_rfl) (fun _ _ _ h => h) (Or.inl ⟨by as_aux_lemma => rfl, ?_⟩) (by assumption) ?_
      rotate_left
      · (intro w hSw; have hcl := hSw.1; have c0 := cell_of_row w g37 0 _ _ _ hSw.2.1; have c1 := cell_of_row w g37 1 _ _ _ hSw.2.1; have c2 := cell_of_row w g37 2 _ _ _ hSw.2.1; have c3 := cell_of_row w g37 3 _ _ _ hSw.2.1; have c4 := cell_of_row w g37 4 _ _ _ hSw.2.1; have d0 := cell_of_row w g38 0 _ _ _ hSw.2.2; have d1 := cell_of_row w g38 1 _ _ _ hSw.2.2; have d2 := cell_of_row w g38 2 _ _ _ hSw.2.2; have d3 := cell_of_row w g38 3 _ _ _ hSw.2.2; have d4 := cell_of_row w g38 4 _ _ _ hSw.2.2; go_simp; try with_reducible rfl)
      (try simp only [Act.put, List.setIfInBounds_toArray]); (try dsimp only [List.set_cons_zero, List.set_cons_succ])
      refine wpAnyH_take (i := 14) (v := ?_) opAt_14 (by as_aux_lemma => kernel_rfl) (by as_aux_lemma => kernel_rfl) (by as_aux_lemma => kernel_rfl) (fun _ _ _ h => h) (Or.inl ⟨by as_aux_lemma => rfl, ?_⟩) (by assumption) ?_
      rotate_left
      · (intro w hSw; have hcl := hSw.1; have c0 := cell_of_row w g37 0 _ _ _ hSw.2.1; have c1 := cell_of_row w g37 1 _ _ _ hSw.2.1; have c2 := cell_of_row w g37 2 _ _ _ hSw.2.1; have c3 := cell_of_row w g37 3 _ _ _ hSw.2.1; have c4 := cell_of_row w g37 4 _ _ _ hSw.2.1; have d0 := cell_of_row w g38 0 _ _ _ hSw.2.2; have d1 := cell_of_row w g38 1 _ _ _ hSw.2.2; have d2 := cell_of_row w g38 2 _ _ _ hSw.2.2; have d3 := cell_of_row w g38 3 _ _ _ hSw.2.2; have d4 := cell_of_row w g38 4 _ _ _ hSw.2.2; go_simp; try with_reducible rfl)
      (try simp only [Act.put, List.setIfInBounds_toArray]); (try dsimp only [List.set_cons_zero, List.set_cons_succ])
      refine wpAnyH_take (i := 15) (v := ?_) opAt_15 (by as_aux_lemma => kernel_rfl) (by as_aux_lemma => kernel_rfl) (by as_aux_lemma => kernel_rfl) (fun _ _ _ h => h) (Or.inl ⟨by as_aux_lemma => rfl, ?_⟩) (by assumption) ?_
      rotate_left
      · (intro w hSw; have hcl := hSw.1; have c0 := cell_of_row w g37 0 _ _ _ hSw.2.1; have c1 := cell_of_row w g37 1 _ _ _ hSw.2.1; have c2 := cell_of_row w g37 2 _ _ _ hSw.2.1; have c3 := cell_of_row w g37 3 _ _ _ hSw.2.1; have c4 := cell_of_row w g37 4 _ _ _ hSw.2.1; have d0 := cell_of_row w g38 0 _ _ _ hSw.2.2; have d1 := cell_of_row w g38 1 _ _ _ hSw.2.2; have d2 := cell_of_row w g38 2 _ _ _ hSw.2.2; have d3 := cell_of_row w g38 3 _ _ _ hSw.2.2; have d4 := cell_of_row w g38 4 _ _ _ hSw.2.2; go_simp; try with_reducible rfl)
      (try simp only [Act.put, List.setIfInBounds_toArray]); (try dsimp only [List.set_cons_zero, List.set_cons_succ])
      refine wpAnyH_take (i := 16) (v := ?_) opAt_16 (by as_aux_lemma => kernel_rfl) (by as_aux_lemma => kernel_rfl) (by as_aux_lemma => kernel_rfl) (fun _ _ _ h => h) (Or.inl ⟨by as_aux_lemma => rfl, ?_⟩) (by assumption) ?_
      rotate_left
      · (intro w hSw; have hcl := hSw.1; have c0 := cell_of_row w g37 0 _ _ _ hSw.2.1; have c1 := cell_of_row w g37 1 _ _ _ hSw.2.1; have c2 := cell_of_row w g37 2 _ _ _ hSw.2.1; have c3 := cell_of_row w g37 3 _ _ _ hSw.2.1; have c4 := cell_of_row w g37 4 _ _ _ hSw.2.1; have d0 := cell_of_row w g38 0 _ _ _ hSw.2.2; have d1 := cell_of_row w g38 1 _ _ _ hSw.2.2; have d2 := cell_of_row w g38 2 _ _ _ hSw.2.2; have d3 := cell_of_row w g38 3 _ _ _ hSw.2.2; have d4 := cell_of_row w g38 4 _ _ _ hSw.2.2; go_simp; try with_reducible rfl)
      (try simp only [Act.put, List.setIfInBounds_toArray]); (try dsimp only [List.set_cons_zero, List.set_cons_succ])
      refine wpAnyH_take (i := 17) (v := ?_) opAt_17 (by as_aux_lemma => kernel_rfl) (by as_aux_lemma => kernel_rfl) (by as_aux_lemma => kernel_rfl) (fun _ _ _ h => h) (Or.inl ⟨by as_aux_lemma => rfl, ?_⟩) (by assumption) ?_
      rotate_left
      · (intro w hSw; have hcl := hSw.1; have c0 := cell_of_row w g37 0 _ _ _ hSw.2.1; have c1 := cell_of_row w g37 1 _ _ _ hSw.2.1; have c2 := cell_of_row w g37 2 _ _ _ hSw.2.1; have c3 := cell_of_row w g37 3 _ _ _ hSw.2.1; have c4 := cell_of_row w g37 4 _ _ _ hSw.2.1; have d0 := cell_of_row w g38 0 _ _ _ hSw.2.2; have d1 := cell_of_row w g38 1 _ _ _ hSw.2.2; have d2 := cell_of_row w g38 2 _ _ _ hSw.2.2; have d3 := cell_of_row w g38 3 _ _ _ hSw.2.2; have d4 := cell_of_row w g38 4 _ _ _ hSw.2.2; go_simp; try with_reducible rfl)
      (try simp only [Act.put, List.setIfInBounds_toArray]); (try dsimp only [List.set_cons_zero, List.set_cons_succ])
      refine wpAnyH_take (i := 18) (v := ?_) opAt_18 (by as_aux_lemma => kernel_rfl) (by as_aux_lemma => kernel_rfl) (by as_aux_lemma => kernel_rfl) (fun _ _ _ h => h) (Or.inl ⟨by as_aux_lemma => rfl, ?_⟩) (by assumption) ?_
      rotate_left
      · (intro w hSw; have hcl := hSw.1; have c0 := cell_of_row w g37 0 _ _ _ hSw.2.1; have c1 := cell_of_row w g37 1 _ _ _ hSw.2.1; have c2 := cell_of_row w g37 2 _ _ _ hSw.2.1; have c3 := cell_of_row w g37 3 _ _ _ hSw.2.1; have c4 := cell_of_row w g37 4 _ _ _ hSw.2.1; have d0 := cell_of_row w g38 0 _ _ _ hSw.2.2; have d1 := cell_of_row w g38 1 _ _ _ hSw.2.2; have d2 := cell_of_row w g38 2 _ _ _ hSw.2.2; have d3 := cell_of_row w g38 3 _ _ _ hSw.2.2; have d4 := cell_of_row w g38 4 _ _ _ hSw.2.2; go_simp; try with_reducible rfl)
      (try simp only [Act.put, List.setIfInBounds_toArray]); (try dsimp only [List.set_cons_zero, List.set_cons_succ])
      refine wpAnyH_take (i := 19) (v := ?_) opAt_19 (by as_aux_lemma => kernel_rfl) (by as_aux_lemma => kernel_rfl) (by as_aux_lemma => kernel_rfl) (fun _ _ _ h => h) (Or.inl ⟨by as_aux_lemma => rfl, ?_⟩) (by assumption) ?_
      rotate_left
      · (intro w hSw; have hcl := hSw.1; have c0 := cell_of_row w g37 0 _ _ _ hSw.2.1; have c1 := cell_of_row w g37 1 _ _ _ hSw.2.1; have c2 := cell_of_row w g37 2 _ _ _ hSw.2.1; have c3 := cell_of_row w g37 3 _ _ _ hSw.2.1; have c4 := cell_of_row w g37 4 _ _ _ hSw.2.1; have d0 := cell_of_row w g38 0 _ _ _ hSw.2.2; have d1 := cell_of_row w g38 1 _ _ _ hSw.2.2; have d2 := cell_of_row w g38 2 _ _ _ hSw.2.2; have d3 := cell_of_row w g38 3 _ _ _ hSw.2.2; have d4 := cell_of_row w g38 4 _ _ _ hSw.2.2; go_simp; try with_reducible rfl)
      (try simp only [Act.put, List.setIfInBounds_toArray]); (try dsimp only [List.set_cons_zero, List.set_cons_succ])
      refine wpAnyH_take (i := 20) (v := ?_) opAt_20 (by as_aux_lemma => kernel_rfl) (by as_aux_lemma => kernel_rfl) (by as_aux_lemma => kernel_rfl) (fun _ _ _ h => h) (Or.inl ⟨by as_aux_lemma => rfl, ?_⟩) (by assumption) ?_
      rotate_left
      · (intro w hSw; have hcl := hSw.1; have c0 := cell_of_row w g37 0 _ _ _ hSw.2.1; have c1 := cell_of_row w g37 1 _ _ _ hSw.2.1; have c2 := cell_of_row w g37 2 _ _ _ hSw.2.1; have c3 := cell_of_row w g37 3 _ _ _ hSw.2.1; have c4 := cell_of_row w g37 4 _ _ _ hSw.2.1; have d0 := cell_of_row w g38 0 _ _ _ hSw.2.2; have d1 := cell_of_row w g38 1 _ _ _ hSw.2.2; have d2 := cell_of_row w g38 2 _ _ _ hSw.2.2; have d3 := cell_of_row w g38 3 _ _ _ hSw.2.2; have d4 := cell_of_row w g38 4 _ _ _ hSw.2.2; go_simp; try with_reducible rfl)
      (try simp only [Act.put, List.setIfInBounds_toArray]); (try dsimp only [List.set_cons_zero, List.set_cons_succ])
      refine wpAnyH_take (i := 21) (v := ?_) opAt_21 (by as_aux_lemma => kernel_rfl) (by as_aux_lemma => kernel_rfl) (by as_aux_lemma => kernel_rfl) (fun _ _ _ h => h) (Or.inl ⟨by as_aux_lemma => rfl, ?_⟩) (by assumption) ?_
      rotate_left
      · (intro w hSw; have hcl := hSw.1; have c0 := cell_of_row w g37 0 _ _ _ hSw.2.1; have c1 := cell_of_row w g37 1 _ _ _ hSw.2.1; have c2 := cell_of_row w g37 2 _ _ _ hSw.2.1; have c3 := cell_of_row w g37 3 _ _ _ hSw.2.1; have c4 := cell_of_row w g37 4 _ _ _ hSw.2.1; have d0 := cell_of_row w g38 0 _ _ _ hSw.2.2; have d1 := cell_of_row w g38 1 _ _ _ hSw.2.2; have d2 := cell_of_row w g38 2 _ _ _ hSw.2.2; have d3 := cell_of_row w g38 3 _ _ _ hSw.2.2; have d4 := cell_of_row w g38 4 _ _ _ hSw.2.2; go_simp; try with_reducible rfl)
      (try simp only [Act.put, List.setIfInBounds_toArray]); (try dsimp only [List.set_cons_zero, List.set_cons_succ])
      refine wpAnyH_take (i := 22) (v := ?_) opAt_22 (by as_aux_lemma => kernel_rfl) (by as_aux_lemma => kernel_rfl) (by as_aux_lemma => kernel_rfl) (fun _ _ _ h => h) (Or.inl ⟨by as_aux_lemma => rfl, ?_⟩) (by assumption) ?_
      rotate_left
      · (intro w hSw; have hcl := hSw.1; have c0 := cell_of_row w g37 0 _ _ _ hSw.2.1; have c1 := cell_of_row w g37 1 _ _ _ hSw.2.1; have c2 := cell_of_row w g37 2 _ _ _ hSw.2.1; have c3 := cell_of_row w g37 3 _ _ _ hSw.2.1; have c4 := cell_of_row w g37 4 _ _ _ hSw.2.1; have d0 := cell_of_row w g38 0 _ _ _ hSw.2.2; have d1 := cell_of_row w g38 1 _ _ _ hSw.2.2; have d2 := cell_of_row w g38 2 _ _ _ hSw.2.2; have d3 := cell_of_row w g38 3 _ _ _ hSw.2.2; have d4 := cell_of_row w g38 4 _ _ _ hSw.2.2; go_simp; try with_reducible rfl)
      (try simp only [Act.put, List.setIfInBounds_toArray]); (try dsimp only [List.set_cons_zero, List.set_cons_succ])
      refine wpAnyH_take (i := 23) (v := ?_) opAt_23 (by as_aux_lemma => kernel_rfl) (by as_aux_lemma => kernel_rfl) (by as_aux_lemma => kernel_rfl) (fun _ _ _ h => h) (Or.inl ⟨by as_aux_lemma => rfl, ?_⟩) (by assumption) ?_
      rotate_left
      · (intro w hSw; have hcl := hSw.1; have c0 := cell_of_row w g37 0 _ _ _ hSw.2.1; have c1 := cell_of_row w g37 1 _ _ _ hSw.2.1; have c2 := cell_of_row w g37 2 _ _ _ hSw.2.1; have c3 := cell_of_row w g37 3 _ _ _ hSw.2.1; have c4 := cell_of_row w g37 4 _ _ _ hSw.2.1; have d0 := cell_of_row w g38 0 _ _ _ hSw.2.2; have d1 := cell_of_row w g38 1 _ _ _ hSw.2.2; have d2 := cell_of_row w g38 2 _ _ _ hSw.2.2; have d3 := cell_of_row w g38 3 _ _ _ hSw.2.2; have d4 := cell_of_row w g38 4 _ _ _ hSw.2.2; go_simp; try with_reducible rfl)
      (try simp only [Act.put, List.setIfInBounds_toArray]); (try dsimp only [List.set_cons_zero, List.set_cons_succ])
      refine wpAnyH_take (i := 24) (v := ?_) opAt_24 (by as_aux_lemma => kernel_rfl) (by as_aux_lemma => kernel_rfl) (by as_aux_lemma => kernel_rfl) (fun _ _ _ h => h) (Or.inl ⟨by as_aux_lemma => rfl, ?_⟩) (by assumption) ?_
      rotate_left
      · (intro w hSw; have hcl := hSw.1; have c0 := cell_of_row w g37 0 _ _ _ hSw.2.1; have c1 := cell_of_row w g37 1 _ _ _ hSw.2.1; have c2 := cell_of_row w g37 2 _ _ _ hSw.2.1; have c3 := cell_of_row w g37 3 _ _ _ hSw.2.1; have c4 := cell_of_row w g37 4 _ _ _ hSw.2.1; have d0 := cell_of_row w g38 0 _ _ _ hSw.2.2; have d1 := cell_of_row w g38 1 _ _ _ hSw.2.2; have d2 := cell_of_row w g38 2 _ _ _ hSw.2.2; have d3 := cell_of_row w g38 3 _ _ _ hSw.2.2; have d4 := cell_of_row w g38 4 _ _ _ hSw.2.2; go_simp; try with_reducible rfl)
      (try simp only [Act.put, List.setIfInBounds_toArray]); (try dsimp only [List.set_cons_zero, List.set_cons_succ])
      refine wpAnyH_take (i := 25) (v := ?_) opAt_25 (by as_aux_lemma => kernel_rfl) (by as_aux_lemma => kernel_rfl) (by as_aux_lemma => kernel_rfl) (fun _ _ _ h => h) (Or.inl ⟨by as_aux_lemma => rfl, ?_⟩) (by assumption) ?_
      rotate_left
      · (intro w hSw; have hcl := hSw.1; have c0 := cell_of_row w g37 0 _ _ _ hSw.2.1; have c1 := cell_of_row w g37 1 _ _ _ hSw.2.1; have c2 := cell_of_row w g37 2 _ _ _ hSw.2.1; have c3 := cell_of_row w g37 3 _ _ _ hSw.2.1; have c4 := cell_of_row w g37 4 _ _ _ hSw.2.1; have d0 := cell_of_row w g38 0 _ _ _ hSw.2.2; have d1 := cell_of_row w g38 1 _ _ _ hSw.2.2; have d2 := cell_of_row w g38 2 _ _ _ hSw.2.2; have d3 := cell_of_row w g38 3 _ _ _ hSw.2.2; have d4 := cell_of_row w g38 4 _ _ _ hSw.2.2; go_simp; try with_reducible rfl)
      (try simp only [Act.put, List.setIfInBounds_toArray]); (try dsimp only [List.set_cons_zero, List.set_cons_succ])
      refine wpAnyH_take (i := 26) (v := ?_) opAt_26 (by as_aux_lemma => kernel_rfl) (by as_aux_lemma => kernel_rfl) (by as_aux_lemma => kernel_rfl) (fun _ _ _ h => h) (Or.inl ⟨by as_aux_lemma => rfl, ?_⟩) (by assumption) ?_
      rotate_left
      · (intro w hSw; have hcl := hSw.1; have c0 := cell_of_row w g37 0 _ _ _ hSw.2.1; have c1 := cell_of_row w g37 1 _ _ _ hSw.2.1; have c2 := cell_of_row w g37 2 _ _ _ hSw.2.1; have c3 := cell_of_row w g37 3 _ _ _ hSw.2.1; have c4 := cell_of_row w g37 4 _ _ _ hSw.2.1; have d0 := cell_of_row w g38 0 _ _ _ hSw.2.2; have d1 := cell_of_row w g38 1 _ _ _ hSw.2.2; have d2 := cell_of_row w g38 2 _ _ _ hSw.2.2; have d3 := cell_of_row w g38 3 _ _ _ hSw.2.2; have d4 := cell_of_row w g38 4 _ _ _ hSw.2.2; go_simp; try with_reducible rfl)
      (try simp only [Act.put, List.setIfInBounds_toArray]); (try dsimp only [List.set_cons_zero, List.set_cons_succ])
      refine wpAnyH_take (i := 27) (v := ?_) opAt_27 (by as_aux_lemma => kernel_rfl) (by as_aux_lemma => kernel_rfl) (by as_aux_lemma => kernel_rfl) (fun _ _ _ h => h) (Or.inl ⟨by as_aux_lemma => rfl, ?_⟩) (by assumption) ?_
      rotate_left
      · (intro w hSw; have hcl := hSw.1; have c0 := cell_of_row w g37 0 _ _ _ hSw.2.1; have c1 := cell_of_row w g37 1 _ _ _ hSw.2.1; have c2 := cell_of_row w g37 2 _ _ _ hSw.2.1; have c3 := cell_of_row w g37 3 _ _ _ hSw.2.1; have c4 := cell_of_row w g37 4 _ _ _ hSw.2.1; have d0 := cell_of_row w g38 0 _ _ _ hSw.2.2; have d1 := cell_of_row w g38 1 _ _ _ hSw.2.2; have d2 := cell_of_row w g38 2 _ _ _ hSw.2.2; have d3 := cell_of_row w g38 3 _ _ _ hSw.2.2; have d4 := cell_of_row w g38 4 _ _ _ hSw.2.2; go_simp; try with_reducible rfl)
      (try simp only [Act.put, List.setIfInBounds_toArray]); (try dsimp only [List.set_cons_zero, List.set_cons_succ])
      refine wpAnyH_take (i := 28) (v := ?_) opAt_28 (by as_aux_lemma => kernel_rfl) (by as_aux_lemma => kernel_rfl) (by as_aux_lemma => kernel_rfl) (fun _ _ _ h => h) (Or.inl ⟨by as_aux_lemma => rfl, ?_⟩) (by assumption) ?_
      rotate_left
      · (intro w hSw; have hcl := hSw.1; have c0 := cell_of_row w g37 0 _ _ _ hSw.2.1; have c1 := cell_of_row w g37 1 _ _ _ hSw.2.1; have c2 := cell_of_row w g37 2 _ _ _ hSw.2.1; have c3 := cell_of_row w g37 3 _ _ _ hSw.2.1; have c4 := cell_of_row w g37 4 _ _ _ hSw.2.1; have d0 := cell_of_row w g38 0 _ _ _ hSw.2.2; have d1 := cell_of_row w g38 1 _ _ _ hSw.2.2; have d2 := cell_of_row w g38 2 _ _ _ hSw.2.2; have d3 := cell_of_row w g38 3 _ _ _ hSw.2.2; have d4 := cell_of_row w g38 4 _ _ _ hSw.2.2; go_simp; try with_reducible rfl)
      (try simp only [Act.put, List.setIfInBounds_toArray]); (try dsimp only [List.set_cons_zero, List.set_cons_succ])
      refine wpAnyH_take (i := 29) (v := ?_) opAt_29 (by as_aux_lemma => kernel_rfl) (by as_aux_lemma => kernel_rfl) (by as_aux_lemma => kernel_rfl) (fun _ _ _ h => h) (Or.inl ⟨by as_aux_lemma => rfl, ?_⟩) (by assumption) ?_
      rotate_left
      · (intro w hSw; have hcl := hSw.1; have c0 := cell_of_row w g37 0 _ _ _ hSw.2.1; have c1 := cell_of_row w g37 1 _ _ _ hSw.2.1; have c2 := cell_of_row w g37 2 _ _ _ hSw.2.1; have c3 := cell_of_row w g37 3 _ _ _ hSw.2.1; have c4 := cell_of_row w g37 4 _ _ _ hSw.2.1; have d0 := cell_of_row w g38 0 _ _ _ hSw.2.2; have d1 := cell_of_row w g38 1 _ _ _ hSw.2.2; have d2 := cell_of_row w g38 2 _ _ _ hSw.2.2; have d3 := cell_of_row w g38 3 _ _ _ hSw.2.2; have d4 := cell_of_row w g38 4 _ _ _ hSw.2.2; go_simp; try with_reducible rfl)
      (try simp only [Act.put, List.setIfInBounds_toArray]); (try dsimp only [List.set_cons_zero, List.set_cons_succ])
      refine wpAnyH_take (i := 30) (v := ?_) opAt_30 (by as_aux_lemma => kernel_rfl) (by as_aux_lemma => kernel_rfl) (by as_aux_lemma => kernel_rfl) (fun _ _ _ h => h) (Or.inl ⟨by as_aux_lemma => rfl, ?_⟩) (by assumption) ?_
      rotate_left
      · (intro w hSw; have hcl := hSw.1; have c0 := cell_of_row w g37 0 _ _ _ hSw.2.1; have c1 := cell_of_row w g37 1 _ _ _ hSw.2.1; have c2 := cell_of_row w g37 2 _ _ _ hSw.2.1; have c3 := cell_of_row w g37 3 _ _ _ hSw.2.1; have c4 := cell_of_row w g37 4 _ _ _ hSw.2.1; have d0 := cell_of_row w g38 0 _ _ _ hSw.2.2; have d1 := cell_of_row w g38 1 _ _ _ hSw.2.2; have d2 := cell_of_row w g38 2 _ _ _ hSw.2.2; have d3 := cell_of_row w g38 3 _ _ _ hSw.2.2; have d4 := cell_of_row w g38 4 _ _ _ hSw.2.2; go_simp; try with_reducible rfl)
      (try simp only [Act.put, List.setIfInBounds_toArray]); (try dsimp only [List.set_cons_zero, List.set_cons_succ])
      refine wpAnyH_take (i := 31) (v := ?_) opAt_31 (by as_aux_lemma => kernel_rfl) (by as_aux_lemma => kernel_rfl) (by as_aux_lemma => kernel_rfl) (fun _ _ _ h => h) (Or.inl ⟨by as_aux_lemma => rfl, ?_⟩) (by assumption) ?_
      rotate_left
      · (intro w hSw; have hcl := hSw.1; have c0 := cell_of_row w g37 0 _ _ _ hSw.2.1; have c1 := cell_of_row w g37 1 _ _ _ hSw.2.1; have c2 := cell_of_row w g37 2 _ _ _ hSw.2.1; have c3 := cell_of_row w g37 3 _ _ _ hSw.2.1; have c4 := cell_of_row w g37 4 _ _ _ hSw.2.1; have d0 := cell_of_row w g38 0 _ _ _ hSw.2.2; have d1 := cell_of_row w g38 1 _ _ _ hSw.2.2; have d2 := cell_of_row w g38 2 _ _ _ hSw.2.2; have d3 := cell_of_row w g38 3 _ _ _ hSw.2.2; have d4 := cell_of_row w g38 4 _ _ _ hSw.2.2; go_simp; try with_reducible rfl)
      (try simp only [Act.put, List.setIfInBounds_toArray]); (try dsimp only [List.set_cons_zero, List.set_cons_succ])
      refine wpAnyH_take (i := 32) (v := ?_) opAt_32 (by as_aux_lemma => kernel_rfl) (by as_aux_lemma => kernel_rfl) (by as_aux_lemma => kernel_rfl) (fun _ _ _ h => h) (Or.inl ⟨by as_aux_lemma => rfl, ?_⟩) (by assumption) ?_
      rotate_left
      · (intro w hSw; have hcl := hSw.1; have c0 := cell_of_row w g37 0 _ _ _ hSw.2.1; have c1 := cell_of_row w g37 1 _ _ _ hSw.2.1; have c2 := cell_of_row w g37 2 _ _ _ hSw.2.1; have c3 := cell_of_row w g37 3 _ _ _ hSw.2.1; have c4 := cell_of_row w g37 4 _ _ _ hSw.2.1; have d0 := cell_of_row w g38 0 _ _ _ hSw.2.2; have d1 := cell_of_row w g38 1 _ _ _ hSw.2.2; have d2 := cell_of_row w g38 2 _ _ _ hSw.2.2; have d3 := cell_of_row w g38 3 _ _ _ hSw.2.2; have d4 := cell_of_row w g38 4 _ _ _ hSw.2.2; go_simp; try with_reducible rfl)
      (try simp only [Act.put, List.setIfInBounds_toArray]); (try dsimp only [List.set_cons_zero, List.set_cons_succ])
      refine wpAnyH_take (i := 33) (v := ?_) opAt_33 (by as_aux_lemma => kernel_rfl) (by as_aux_lemma => kernel_rfl) (by as_aux_lemma => kernel_rfl) (fun _ _ _ h => h) (Or.inl ⟨by as_aux_lemma => rfl, ?_⟩) (by assumption) ?_
      rotate_left
      · (intro w hSw; have hcl := hSw.1; have c0 := cell_of_row w g37 0 _ _ _ hSw.2.1; have c1 := cell_of_row w g37 1 _ _ _ hSw.2.1; have c2 := cell_of_row w g37 2 _ _ _ hSw.2.1; have c3 := cell_of_row w g37 3 _ _ _ hSw.2.1; have c4 := cell_of_row w g37 4 _ _ _ hSw.2.1; have d0 := cell_of_row w g38 0 _ _ _ hSw.2.2; have d1 := cell_of_row w g38 1 _ _ _ hSw.2.2; have d2 := cell_of_row w g38 2 _ _ _ hSw.2.2; have d3 := cell_of_row w g38 3 _ _ _ hSw.2.2; have d4 := cell_of_row w g38 4 _ _ _ hSw.2.2; go_simp; try with_reducible rfl)
      (try simp only [Act.put, List.setIfInBounds_toArray]); (try dsimp only [List.set_cons_zero, List.set_cons_succ])
      refine wpAnyH_take (i := 34) (v := ?_) opAt_34 (by as_aux_lemma => kernel_rfl) (by as_aux_lemma => kernel_rfl) (by as_aux_lemma => kernel_rfl) (fun _ _ _ h => h) (Or.inl ⟨by as_aux_lemma => rfl, ?_⟩) (by assumption) ?_
      rotate_left
      · (intro w hSw; have hcl := hSw.1; have c0 := cell_of_row w g37 0 _ _ _ hSw.2.1; have c1 := cell_of_row w g37 1 _ _ _ hSw.2.1; have c2 := cell_of_row w g37 2 _ _ _ hSw.2.1; have c3 := cell_of_row w g37 3 _ _ _ hSw.2.1; have c4 := cell_of_row w g37 4 _ _ _ hSw.2.1; have d0 := cell_of_row w g38 0 _ _ _ hSw.2.2; have d1 := cell_of_row w g38 1 _ _ _ hSw.2.2; have d2 := cell_of_row w g38 2 _ _ _ hSw.2.2; have d3 := cell_of_row w g38 3 _ _ _ hSw.2.2; have d4 := cell_of_row w g38 4 _ _ _ hSw.2.2; go_simp; try with_reducible rfl)
      (try simp only [Act.put, List.setIfInBounds_toArray]); (try dsimp only [List.set_cons_zero, List.set_cons_succ])
      refine wpAnyH_take (i := 35) (v := ?_) opAt_35 (by as_aux_lemma => kernel_rfl) (by as_aux_lemma => kernel_rfl) (by as_aux_lemma => kernel_rfl) (fun _ _ _ h => h) (Or.inl ⟨by as_aux_lemma => rfl, ?_⟩) (by assumption) ?_
      rotate_left
      · (intro w hSw; have hcl := hSw.1; have c0 := cell_of_row w g37 0 _ _ _ hSw.2.1; have c1 := cell_of_row w g37 1 _ _ _ hSw.2.1; have c2 := cell_of_row w g37 2 _ _ _ hSw.2.1; have c3 := cell_of_row w g37 3 _ _ _ hSw.2.1; have c4 := cell_of_row w g37 4 _ _ _ hSw.2.1; have d0 := cell_of_row w g38 0 _ _ _ hSw.2.2; have d1 := cell_of_row w g38 1 _ _ _ hSw.2.2; have d2 := cell_of_row w g38 2 _ _ _ hSw.2.2; have d3 := cell_of_row w g38 3 _ _ _ hSw.2.2; have d4 := cell_of_row w g38 4 _ _ _ hSw.2.2; go_simp; try with_reducible rfl)
      (try simp only [Act.put, List.setIfInBounds_toArray]); (try dsimp only [List.set_cons_zero, List.set_cons_succ])
      refine wpAnyH_take (i := 36) (v := ?_) opAt_36 (by as_aux_lemma => kernel_rfl) (by as_aux_lemma => kernel_rfl) (by as_aux_lemma => kernel_rfl) (fun _ _ _ h => h) (Or.inl ⟨by as_aux_lemma => rfl, ?_⟩) (by assumption) ?_
      rotate_left
      · (intro w hSw; have hcl := hSw.1; have c0 := cell_of_row w g37 0 _ _ _ hSw.2.1; have c1 := cell_of_row w g37 1 _ _ _ hSw.2.1; have c2 := cell_of_row w g37 2 _ _ _ hSw.2.1; have c3 := cell_of_row w g37 3 _ _ _ hSw.2.1; have c4 := cell_of_row w g37 4 _ _ _ hSw.2.1; have d0 := cell_of_row w g38 0 _ _ _ hSw.2.2; have d1 := cell_of_row w g38 1 _ _ _ hSw.2.2; have d2 := cell_of_row w g38 2 _ _ _ hSw.2.2; have d3 := cell_of_row w g38 3 _ _ _ hSw.2.2; have d4 := cell_of_row w g38 4 _ _ _ hSw.2.2; go_simp; try with_reducible rfl)
      (try simp only [Act.put, List.setIfInBounds_toArray]); (try dsimp only [List.set_cons_zero, List.set_cons_succ])
      refine wpAnyH_take (i := 37) (v := ?_) opAt_37 (by as_aux_lemma => kernel_rfl) (by as_aux_lemma => kernel_rfl) (by as_aux_lemma => kernel_rfl) (fun _ _ _ h => h) (Or.inl ⟨by as_aux_lemma => rfl, ?_⟩) (by assumption) ?_
      rotate_left
      · (intro w hSw; have hcl := hSw.1; have c0 := cell_of_row w g37 0 _ _ _ hSw.2.1; have c1 := cell_of_row w g37 1 _ _ _ hSw.2.1; have c2 := cell_of_row w g37 2 _ _ _ hSw.2.1; have c3 := cell_of_row w g37 3 _ _ _ hSw.2.1; have c4 := cell_of_row w g37 4 _ _ _ hSw.2.1; have d0 := cell_of_row w g38 0 _ _ _ hSw.2.2; have d1 := cell_of_row w g38 1 _ _ _ hSw.2.2; have d2 := cell_of_row w g38 2 _ _ _ hSw.2.2; have d3 := cell_of_row w g38 3 _ _ _ hSw.2.2; have d4 := cell_of_row w g38 4 _ _ _ hSw.2.2; go_simp; try with_reducible rfl)
      (try simp only [Act.put, List.setIfInBounds_toArray]); (try dsimp only [List.set_cons_zero, List.set_cons_succ])
      refine wpAnyH_take (i := 38) (v := ?_) opAt_38 (by as_aux_lemma => kernel_rfl) (by as_aux_lemma => kernel_rfl) (by as_aux_lemma => kernel_rfl) (fun _ _ _ h => h) (Or.inl ⟨by as_aux_lemma => rfl, ?_⟩) (by assumption) ?_
      rotate_left
      · (intro w hSw; have hcl := hSw.1; have c0 := cell_of_row w g37 0 _ _ _ hSw.2.1; have c1 := cell_of_row w g37 1 _ _ _ hSw.2.1; have c2 := cell_of_row w g37 2 _ _ _ hSw.2.1; have c3 := cell_of_row w g37 3 _ _ _ hSw.2.1; have c4 := cell_of_row w g37 4 _ _ _ hSw.2.1; have d0 := cell_of_row w g38 0 _ _ _ hSw.2.2; have d1 := cell_of_row w g38 1 _ _ _ hSw.2.2; have d2 := cell_of_row w g38 2 _ _ _ hSw.2.2; have d3 := cell_of_row w g38 3 _ _ _ hSw.2.2; have d4 := cell_of_row w g38 4 _ _ _ hSw.2.2; go_simp; try with_reducible rfl)
      (try simp only [Act.put, List.setIfInBounds_toArray]); (try dsimp only [List.set_cons_zero, List.set_cons_succ])
      refine wpAnyH_take (i := 39) (v := ?_) opAt_39 (by as_aux_lemma => kernel_rfl) (by as_aux_lemma => kernel_rfl) (by as_aux_lemma => kernel_rfl) (fun _ _ _ h => h) (Or.inl ⟨by as_aux_lemma => rfl, ?_⟩) (by assumption) ?_
      rotate_left
      · (intro w hSw; have hcl := hSw.1; have c0 := cell_of_row w g37 0 _ _ _ hSw.2.1; have c1 := cell_of_row w g37 1 _ _ _ hSw.2.1; have c2 := cell_of_row w g37 2 _ _ _ hSw.2.1; have c3 := cell_of_row w g37 3 _ _ _ hSw.2.1; have c4 := cell_of_row w g37 4 _ _ _ hSw.2.1; have d0 := cell_of_row w g38 0 _ _ _ hSw.2.2; have d1 := cell_of_row w g38 1 _ _ _ hSw.2.2; have d2 := cell_of_row w g38 2 _ _ _ hSw.2.2; have d3 := cell_of_row w g38 3 _ _ _ hSw.2.2; have d4 := cell_of_row w g38 4 _ _ _ hSw.2.2; go_simp; try with_reducible rfl)
      (try simp only [Act.put, List.setIfInBounds_toArray]); (try dsimp only [List.set_cons_zero, List.set_cons_succ])
      refine wpAnyH_take (i := 40) (v := ?_) opAt_40 (by as_aux_lemma => kernel_rfl) (by as_aux_lemma => kernel_rfl) (by as_aux_lemma => kernel_rfl) (fun _ _ _ h => h) (Or.inl ⟨by as_aux_lemma => rfl, ?_⟩) (by assumption) ?_
      rotate_left
      · (intro w hSw; have hcl := hSw.1; have c0 := cell_of_row w g37 0 _ _ _ hSw.2.1; have c1 := cell_of_row w g37 1 _ _ _ hSw.2.1; have c2 := cell_of_row w g37 2 _ _ _ hSw.2.1; have c3 := cell_of_row w g37 3 _ _ _ hSw.2.1; have c4 := cell_of_row w g37 4 _ _ _ hSw.2.1; have d0 := cell_of_row w g38 0 _ _ _ hSw.2.2; have d1 := cell_of_row w g38 1 _ _ _ hSw.2.2; have d2 := cell_of_row w g38 2 _ _ _ hSw.2.2; have d3 := cell_of_row w g38 3 _ _ _ hSw.2.2; have d4 := cell_of_row w g38 4 _ _ _ hSw.2.2; go_simp; try with_reducible rfl)
      (try simp only [Act.put, List.setIfInBounds_toArray]); (try dsimp only [List.set_cons_zero, List.set_cons_succ])
      refine wpAnyH_take (i := 41) (v := ?_) opAt_41 (by as_aux_lemma => kernel_rfl) (by as_aux_lemma => kernel_rfl) (by as_aux_lemma => kernel_rfl) (fun _ _ _ h => h) (Or.inl ⟨by as_aux_lemma => rfl, ?_⟩) (by assumption) ?_
      rotate_left
      · (intro w hSw; have hcl := hSw.1; have c0 := cell_of_row w g37 0 _ _ _ hSw.2.1; have c1 := cell_of_row w g37 1 _ _ _ hSw.2.1; have c2 := cell_of_row w g37 2 _ _ _ hSw.2.1; have c3 := cell_of_row w g37 3 _ _ _ hSw.2.1; have c4 := cell_of_row w g37 4 _ _ _ hSw.2.1; have d0 := cell_of_row w g38 0 _ _ _ hSw.2.2; have d1 := cell_of_row w g38 1 _ _ _ hSw.2.2; have d2 := cell_of_row w g38 2 _ _ _ hSw.2.2; have d3 := cell_of_row w g38 3 _ _ _ hSw.2.2; have d4 := cell_of_row w g38 4 _ _ _ hSw.2.2; go_simp; try with_reducible rfl)
      (try simp only [Act.put, List.setIfInBounds_toArray]); (try dsimp only [List.set_cons_zero, List.set_cons_succ])
      refine wpAnyH_take (i := 42) (v := ?_) opAt_42 (by as_aux_lemma => kernel_rfl) (by as_aux_lemma => kernel_rfl) (by as_aux_lemma => kernel_rfl) (fun _ _ _ h => h) (Or.inl ⟨by as_aux_lemma => rfl, ?_⟩) (by assumption) ?_
      rotate_left
      · (intro w hSw; have hcl := hSw.1; have c0 := cell_of_row w g37 0 _ _ _ hSw.2.1; have c1 := cell_of_row w g37 1 _ _ _ hSw.2.1; have c2 := cell_of_row w g37 2 _ _ _ hSw.2.1; have c3 := cell_of_row w g37 3 _ _ _ hSw.2.1; have c4 := cell_of_row w g37 4 _ _ _ hSw.2.1; have d0 := cell_of_row w g38 0 _ _ _ hSw.2.2; have d1 := cell_of_row w g38 1 _ _ _ hSw.2.2; have d2 := cell_of_row w g38 2 _ _ _ hSw.2.2; have d3 := cell_of_row w g38 3 _ _ _ hSw.2.2; have d4 := cell_of_row w g38 4 _ _ _ hSw.2.2; go_simp; try with_reducible rfl)
      (try simp only [Act.put, List.setIfInBounds_toArray]); (try dsimp only [List.set_cons_zero, List.set_cons_succ])
      refine wpAnyH_take (i := 43) (v := ?_) opAt_43 (by as_aux_lemma => kernel_rfl) (by as_aux_lemma => kernel_rfl) (by as_aux_lemma => kernel_rfl) (fun _ _ _ h => h) (Or.inl ⟨by as_aux_lemma => rfl, ?_⟩) (by assumption) ?_
      rotate_left
      · (intro w hSw; have hcl := hSw.1; have c0 := cell_of_row w g37 0 _ _ _ hSw.2.1; have c1 := cell_of_row w g37 1 _ _ _ hSw.2.1; have c2 := cell_of_row w g37 2 _ _ _ hSw.2.1; have c3 := cell_of_row w g37 3 _ _ _ hSw.2.1; have c4 := cell_of_row w g37 4 _ _ _ hSw.2.1; have d0 := cell_of_row w g38 0 _ _ _ hSw.2.2; have d1 := cell_of_row w g38 1 _ _ _ hSw.2.2; have d2 := cell_of_row w g38 2 _ _ _ hSw.2.2; have d3 := cell_of_row w g38 3 _ _ _ hSw.2.2; have d4 := cell_of_row w g38 4 _ _ _ hSw.2.2; go_simp; try with_reducible rfl)
      (try simp only [Act.put, List.setIfInBounds_toArray]); (try dsimp only [List.set_cons_zero, List.set_cons_succ])
      refine wpAnyH_take (i := 44) (v := ?_) opAt_44 (by as_aux_lemma => kernel_rfl) (by as_aux_lemma => kernel_rfl) (by as_aux_lemma => kernel_rfl) (fun _ _ _ h => h) (Or.inl ⟨by as_aux_lemma => rfl, ?_⟩) (by assumption) ?_
      rotate_left
      · (intro w hSw; have hcl := hSw.1; have c0 := cell_of_row w g37 0 _ _ _ hSw.2.1; have c1 := cell_of_row w g37 1 _ _ _ hSw.2.1; have c2 := cell_of_row w g37 2 _ _ _ hSw.2.1; have c3 := cell_of_row w g37 3 _ _ _ hSw.2.1; have c4 := cell_of_row w g37 4 _ _ _ hSw.2.1; have d0 := cell_of_row w g38 0 _ _ _ hSw.2.2; have d1 := cell_of_row w g38 1 _ _ _ hSw.2.2; have d2 := cell_of_row w g38 2 _ _ _ hSw.2.2; have d3 := cell_of_row w g38 3 _ _ _ hSw.2.2; have d4 := cell_of_row w g38 4 _ _ _ hSw.2.2; go_simp; try with_reducible rfl)
      (try simp only [Act.put, List.setIfInBounds_toArray]); (try dsimp only [List.set_cons_zero, List.set_cons_succ])
      refine wpAnyH_take (i := 45) (v := ?_) opAt_45 (by as_aux_lemma => kernel_rfl) (by as_aux_lemma => kernel_rfl) (by as_aux_lemma => kernel_rfl) (fun _ _ _ h => h) (Or.inl ⟨by as_aux_lemma => rfl, ?_⟩) (by assumption) ?_
      rotate_left
      · (intro w hSw; have hcl := hSw.1; have c0 := cell_of_row w g37 0 _ _ _ hSw.2.1; have c1 := cell_of_row w g37 1 _ _ _ hSw.2.1; have c2 := cell_of_row w g37 2 _ _ _ hSw.2.1; have c3 := cell_of_row w g37 3 _ _ _ hSw.2.1; have c4 := cell_of_row w g37 4 _ _ _ hSw.2.1; have d0 := cell_of_row w g38 0 _ _ _ hSw.2.2; have d1 := cell_of_row w g38 1 _ _ _ hSw.2.2; have d2 := cell_of_row w g38 2 _ _ _ hSw.2.2; have d3 := cell_of_row w g38 3 _ _ _ hSw.2.2; have d4 := cell_of_row w g38 4 _ _ _ hSw.2.2; go_simp; try with_reducible rfl)
      (try simp only [Act.put, List.setIfInBounds_toArray]); (try dsimp only [List.set_cons_zero, List.set_cons_succ])
      refine wpAnyH_take (i := 46) (v := ?_) opAt_46 (by as_aux_lemma => kernel_rfl) (by as_aux_lemma => kernel_rfl) (by as_aux_lemma => kernel_rfl) (fun _ _ _ h => h) (Or.inl ⟨by as_aux_lemma => rfl, ?_⟩) (by assumption) ?_
      rotate_left
      · (intro w hSw; have hcl := hSw.1; have c0 := cell_of_row w g37 0 _ _ _ hSw.2.1; have c1 := cell_of_row w g37 1 _ _ _ hSw.2.1; have c2 := cell_of_row w g37 2 _ _ _ hSw.2.1; have c3 := cell_of_row w g37 3 _ _ _ hSw.2.1; have c4 := cell_of_row w g37 4 _ _ _ hSw.2.1; have d0 := cell_of_row w g38 0 _ _ _ hSw.2.2; have d1 := cell_of_row w g38 1 _ _ _ hSw.2.2; have d2 := cell_of_row w g38 2 _ _ _ hSw.2.2; have d3 := cell_of_row w g38 3 _ _ _ hSw.2.2; have d4 := cell_of_row w g38 4 _ _ _ hSw.2.2; go_simp; try with_reducible rfl)
      (try simp only [Act.put, List.setIfInBounds_toArray]); (try dsimp only [List.set_cons_zero, List.set_cons_succ])
      refine wpAnyH_take (i := 47) (v := ?_) opAt_47 (by as_aux_lemma => kernel_rfl) (by as_aux_lemma => kernel_rfl) (by as_aux_lemma => kernel_rfl) (fun _ _ _ h => h) (Or.inl ⟨by as_aux_lemma => rfl, ?_⟩) (by assumption) ?_
      rotate_left
      · (intro w hSw; have hcl := hSw.1; have c0 := cell_of_row w g37 0 _ _ _ hSw.2.1; have c1 := cell_of_row w g37 1 _ _ _ hSw.2.1; have c2 := cell_of_row w g37 2 _ _ _ hSw.2.1; have c3 := cell_of_row w g37 3 _ _ _ hSw.2.1; have c4 := cell_of_row w g37 4 _ _ _ hSw.2.1; have d0 := cell_of_row w g38 0 _ _ _ hSw.2.2; have d1 := cell_of_row w g38 1 _ _ _ hSw.2.2; have d2 := cell_of_row w g38 2 _ _ _ hSw.2.2; have d3 := cell_of_row w g38 3 _ _ _ hSw.2.2; have d4 := cell_of_row w g38 4 _ _ _ hSw.2.2; go_simp; try with_reducible rfl)
      (try simp only [Act.put, List.setIfInBounds_toArray]); (try dsimp only [List.set_cons_zero, List.set_cons_succ])
      refine wpAnyH_take (i := 48) (v := ?_) opAt_48 (by as_aux_lemma => kernel_rfl) (by as_aux_lemma => kernel_rfl) (by as_aux_lemma => kernel_rfl) (fun _ _ _ h => h) (Or.inl ⟨by as_aux_lemma => rfl, ?_⟩) (by assumption) ?_
      rotate_left
      · (intro w hSw; have hcl := hSw.1; have c0 := cell_of_row w g37 0 _ _ _ hSw.2.1; have c1 := cell_of_row w g37 1 _ _ _ hSw.2.1; have c2 := cell_of_row w g37 2 _ _ _ hSw.2.1; have c3 := cell_of_row w g37 3 _ _ _ hSw.2.1; have c4 := cell_of_row w g37 4 _ _ _ hSw.2.1; have d0 := cell_of_row w g38 0 _ _ _ hSw.2.2; have d1 := cell_of_row w g38 1 _ _ _ hSw.2.2; have d2 := cell_of_row w g38 2 _ _ _ hSw.2.2; have d3 := cell_of_row w g38 3 _ _ _ hSw.2.2; have d4 := cell_of_row w g38 4 _ _ _ hSw.2.2; go_simp; try with_reducible rfl)
      (try simp only [Act.put, List.setIfInBounds_toArray]); (try dsimp only [List.set_cons_zero, List.set_cons_succ])
      refine wpAnyH_take (i := 49) (v := ?_) opAt_49 (by as_aux_lemma => kernel_rfl) (by as_aux_lemma => kernel_rfl) (by as_aux_lemma => kernel_rfl) (fun _ _ _ h => h) (Or.inl ⟨by as_aux_lemma => rfl, ?_⟩) (by assumption) ?_
      rotate_left
      · (intro w hSw; have hcl := hSw.1; have c0 := cell_of_row w g37 0 _ _ _ hSw.2.1; have c1 := cell_of_row w g37 1 _ _ _ hSw.2.1; have c2 := cell_of_row w g37 2 _ _ _ hSw.2.1; have c3 := cell_of_row w g37 3 _ _ _ hSw.2.1; have c4 := cell_of_row w g37 4 _ _ _ hSw.2.1; have d0 := cell_of_row w g38 0 _ _ _ hSw.2.2; have d1 := cell_of_row w g38 1 _ _ _ hSw.2.2; have d2 := cell_of_row w g38 2 _ _ _ hSw.2.2; have d3 := cell_of_row w g38 3 _ _ _ hSw.2.2; have d4 := cell_of_row w g38 4 _ _ _ hSw.2.2; go_simp; try with_reducible rfl)
      (try simp only [Act.put, List.setIfInBounds_toArray]); (try dsimp only [List.set_cons_zero, List.set_cons_succ])
      refine wpAnyH_take (i := 50) (v := ?_) opAt_50 (by as_aux_lemma => kernel_rfl) (by as_aux_lemma => kernel_rfl) (by as_aux_lemma => kernel_rfl) (fun _ _ _ h => h) (Or.inl ⟨by as_aux_lemma => rfl, ?_⟩) (by assumption) ?_
      rotate_left
      · (intro w hSw; have hcl := hSw.1; have c0 := cell_of_row w g37 0 _ _ _ hSw.2.1; have c1 := cell_of_row w g37 1 _ _ _ hSw.2.1; have c2 := cell_of_row w g37 2 _ _ _ hSw.2.1; have c3 := cell_of_row w g37 3 _ _ _ hSw.2.1; have c4 := cell_of_row w g37 4 _ _ _ hSw.2.1; have d0 := cell_of_row w g38 0 _ _ _ hSw.2.2; have d1 := cell_of_row w g38 1 _ _ _ hSw.2.2; have d2 := cell_of_row w g38 2 _ _ _ hSw.2.2; have d3 := cell_of_row w g38 3 _ _ _ hSw.2.2; have d4 := cell_of_row w g38 4 _ _ _ hSw.2.2; go_simp; try with_reducible rfl)
      (try simp only [Act.put, List.setIfInBounds_toArray]); (try dsimp only [List.set_cons_zero, List.set_cons_succ])
      refine wpAnyH_take (i := 51) (v := ?_) opAt_51 (by as_aux_lemma => kernel_rfl) (by as_aux_lemma => kernel_rfl) (by as_aux_lemma => kernel_rfl) (fun _ _ _ h => h) (Or.inl ⟨by as_aux_lemma => rfl, ?_⟩) (by assumption) ?_
      rotate_left
      · (intro w hSw; have hcl := hSw.1; have c0 := cell_of_row w g37 0 _ _ _ hSw.2.1; have c1 := cell_of_row w g37 1 _ _ _ hSw.2.1; have c2 := cell_of_row w g37 2 _ _ _ hSw.2.1; have c3 := cell_of_row w g37 3 _ _ _ hSw.2.1; have c4 := cell_of_row w g37 4 _ _ _ hSw.2.1; have d0 := cell_of_row w g38 0 _ _ _ hSw.2.2; have d1 := cell_of_row w g38 1 _ _ _ hSw.2.2; have d2 := cell_of_row w g38 2 _ _ _ hSw.2.2; have d3 := cell_of_row w g38 3 _ _ _ hSw.2.2; have d4 := cell_of_row w g38 4 _ _ _ hSw.2.2; go_simp; try with_reducible rfl)
      (try simp only [Act.put, List.setIfInBounds_toArray]); (try dsimp only [List.set_cons_zero, List.set_cons_succ])
      refine wpAnyH_take (i := 52) (v := ?_) opAt_52 (by as_aux_lemma => kernel_rfl) (by as_aux_lemma => kernel_rfl) (by as_aux_lemma => kernel_rfl) (fun _ _ _ h => h) (Or.inl ⟨by as_aux_lemma => rfl, ?_⟩) (by assumption) ?_
      rotate_left
      · (intro w hSw; have hcl := hSw.1; have c0 := cell_of_row w g37 0 _ _ _ hSw.2.1; have c1 := cell_of_row w g37 1 _ _ _ hSw.2.1; have c2 := cell_of_row w g37 2 _ _ _ hSw.2.1; have c3 := cell_of_row w g37 3 _ _ _ hSw.2.1; have c4 := cell_of_row w g37 4 _ _ _ hSw.2.1; have d0 := cell_of_row w g38 0 _ _ _ hSw.2.2; have d1 := cell_of_row w g38 1 _ _ _ hSw.2.2; have d2 := cell_of_row w g38 2 _ _ _ hSw.2.2; have d3 := cell_of_row w g38 3 _ _ _ hSw.2.2; have d4 := cell_of_row w g38 4 _ _ _ hSw.2.2; go_simp; try with_reducible rfl)
      (try simp only [Act.put, List.setIfInBounds_toArray]); (try dsimp only [List.set_cons_zero, List.set_cons_succ])
      refine wpAnyH_take (i := 53) (v := ?_) opAt_53 (by as_aux_lemma => kernel_rfl) (by as_aux_lemma => kernel_rfl) (by as_aux_lemma => kernel_rfl) (fun _ _ _ h => h) (Or.inl ⟨by as_aux_lemma => rfl, ?_⟩) (by assumption) ?_
      rotate_left
      · (intro w hSw; have hcl := hSw.1; have c0 := cell_of_row w g37 0 _ _ _ hSw.2.1; have c1 := cell_of_row w g37 1 _ _ _ hSw.2.1; have c2 := cell_of_row w g37 2 _ _ _ hSw.2.1; have c3 := cell_of_row w g37 3 _ _ _ hSw.2.1; have c4 := cell_of_row w g37 4 _ _ _ hSw.2.1; have d0 := cell_of_row w g38 0 _ _ _ hSw.2.2; have d1 := cell_of_row w g38 1 _ _ _ hSw.2.2; have d2 := cell_of_row w g38 2 _ _ _ hSw.2.2; have d3 := cell_of_row w g38 3 _ _ _ hSw.2.2; have d4 := cell_of_row w g38 4 _ _ _ hSw.2.2; go_simp; try with_reducible rfl)
      (try simp only [Act.put, List.setIfInBounds_toArray]); (try dsimp only [List.set_cons_zero, List.set_cons_succ])
      refine wpAnyH_take (i := 54) (v := ?_) opAt_54 (by as_aux_lemma => kernel_rfl) (by as_aux_lemma => kernel_rfl) (by as_aux_lemma => kernel_rfl) (fun _ _ _ h => h) (Or.inl ⟨by as_aux_lemma => rfl, ?_⟩) (by assumption) ?_
      rotate_left
      · (intro w hSw; have hcl := hSw.1; have c0 := cell_of_row w g37 0 _ _ _ hSw.2.1; have c1 := cell_of_row w g37 1 _ _ _ hSw.2.1; have c2 := cell_of_row w g37 2 _ _ _ hSw.2.1; have c3 := cell_of_row w g37 3 _ _ _ hSw.2.1; have c4 := cell_of_row w g37 4 _ _ _ hSw.2.1; have d0 := cell_of_row w g38 0 _ _ _ hSw.2.2; have d1 := cell_of_row w g38 1 _ _ _ hSw.2.2; have d2 := cell_of_row w g38 2 _ _ _ hSw.2.2; have d3 := cell_of_row w g38 3 _ _ _ hSw.2.2; have d4 := cell_of_row w g38 4 _ _ _ hSw.2.2; go_simp; try with_reducible rfl)
      (try simp only [Act.put, List.setIfInBounds_toArray]); (try dsimp only [List.set_cons_zero, List.set_cons_succ])
      refine wpAnyH_take (i := 55) (v := ?_) opAt_55 (by as_aux_lemma => kernel_rfl) (by as_aux_lemma => kernel_rfl) (by as_aux_lemma => kernel_rfl) (fun _ _ _ h => h) (Or.inl ⟨by as_aux_lemma => rfl, ?_⟩) (by assumption) ?_
      rotate_left
      · (intro w hSw; have hcl := hSw.1; have c0 := cell_of_row w g37 0 _ _ _ hSw.2.1; have c1 := cell_of_row w g37 1 _ _ _ hSw.2.1; have c2 := cell_of_row w g37 2 _ _ _ hSw.2.1; have c3 := cell_of_row w g37 3 _ _ _ hSw.2.1; have c4 := cell_of_row w g37 4 _ _ _ hSw.2.1; have d0 := cell_of_row w g38 0 _ _ _ hSw.2.2; have d1 := cell_of_row w g38 1 _ _ _ hSw.2.2; have d2 := cell_of_row w g38 2 _ _ _ hSw.2.2; have d3 := cell_of_row w g38 3 _ _ _ hSw.2.2; have d4 := cell_of_row w g38 4 _ _ _ hSw.2.2; go_simp; try with_reducible rfl)
      (try simp only [Act.put, List.setIfInBounds_toArray]); (try dsimp only [List.set_cons_zero, List.set_cons_succ])
      refine wpAnyH_take (i := 56) (v := ?_) opAt_56 (by as_aux_lemma => kernel_rfl) (by as_aux_lemma => kernel_rfl) (by as_aux_lemma => kernel_rfl) (fun _ _ _ h => h) (Or.inl ⟨by as_aux_lemma => rfl, ?_⟩) (by assumption) ?_
      rotate_left
      · (intro w hSw; have hcl := hSw.1; have c0 := cell_of_row w g37 0 _ _ _ hSw.2.1; have c1 := cell_of_row w g37 1 _ _ _ hSw.2.1; have c2 := cell_of_row w g37 2 _ _ _ hSw.2.1; have c3 := cell_of_row w g37 3 _ _ _ hSw.2.1; have c4 := cell_of_row w g37 4 _ _ _ hSw.2.1; have d0 := cell_of_row w g38 0 _ _ _ hSw.2.2; have d1 := cell_of_row w g38 1 _ _ _ hSw.2.2; have d2 := cell_of_row w g38 2 _ _ _ hSw.2.2; have d3 := cell_of_row w g38 3 _ _ _ hSw.2.2; have d4 := cell_of_row w g38 4 _ _ _ hSw.2.2; go_simp; try with_reducible rfl)
      (try simp only [Act.put, List.setIfInBounds_toArray]); (try dsimp only [List.set_cons_zero, List.set_cons_succ])
      refine wpAnyH_take (i := 57) (v := ?_) opAt_57 (by as_aux_lemma => kernel_rfl) (by as_aux_lemma => kernel_rfl) (by as_aux_lemma => kernel_rfl) (fun _ _ _ h => h) (Or.inl ⟨by as_aux_lemma => rfl, ?_⟩) (by assumption) ?_
      rotate_left
      · (intro w hSw; have hcl := hSw.1; have c0 := cell_of_row w g37 0 _ _ _ hSw.2.1; have c1 := cell_of_row w g37 1 _ _ _ hSw.2.1; have c2 := cell_of_row w g37 2 _ _ _ hSw.2.1; have c3 := cell_of_row w g37 3 _ _ _ hSw.2.1; have c4 := cell_of_row w g37 4 _ _ _ hSw.2.1; have d0 := cell_of_row w g38 0 _ _ _ hSw.2.2; have d1 := cell_of_row w g38 1 _ _ _ hSw.2.2; have d2 := cell_of_row w g38 2 _ _ _ hSw.2.2; have d3 := cell_of_row w g38 3 _ _ _ hSw.2.2; have d4 := cell_of_row w g38 4 _ _ _ hSw.2.2; go_simp; try with_reducible rfl)
      (try simp only [Act.put, List.setIfInBounds_toArray]); (try dsimp only [List.set_cons_zero, List.set_cons_succ])
      refine wpAnyH_take (i := 58) (v := ?_) opAt_58 (by as_aux_lemma => kernel_rfl) (by as_aux_lemma => kernel_rfl) (by as_aux_lemma => kernel_rfl) (fun _ _ _ h => h) (Or.inl ⟨by as_aux_lemma => rfl, ?_⟩) (by assumption) ?_
      rotate_left
      · (intro w hSw; have hcl := hSw.1; have c0 := cell_of_row w g37 0 _ _ _ hSw.2.1; have c1 := cell_of_row w g37 1 _ _ _ hSw.2.1; have c2 := cell_of_row w g37 2 _ _ _ hSw.2.1; have c3 := cell_of_row w g37 3 _ _ _ hSw.2.1; have c4 := cell_of_row w g37 4 _ _ _ hSw.2.1; have d0 := cell_of_row w g38 0 _ _ _ hSw.2.2; have d1 := cell_of_row w g38 1 _ _ _ hSw.2.2; have d2 := cell_of_row w g38 2 _ _ _ hSw.2.2; have d3 := cell_of_row w g38 3 _ _ _ hSw.2.2; have d4 := cell_of_row w g38 4 _ _ _ hSw.2.2; go_simp; try with_reducible rfl)
      (try simp only [Act.put, List.setIfInBounds_toArray]); (try dsimp only [List.set_cons_zero, List.set_cons_succ])
      refine wpAnyH_take (i := 59) (v := ?_) opAt_59 (by as_aux_lemma => kernel_rfl) (by as_aux_lemma => kernel_rfl) (by as_aux_lemma => kernel_rfl) (fun _ _ _ h => h) (Or.inl ⟨by as_aux_lemma => rfl, ?_⟩) (by assumption) ?_
      rotate_left
      · (intro w hSw; have hcl := hSw.1; have c0 := cell_of_row w g37 0 _ _ _ hSw.2.1; have c1 := cell_of_row w g37 1 _ _ _ hSw.2.1; have c2 := cell_of_row w g37 2 _ _ _ hSw.2.1; have c3 := cell_of_row w g37 3 _ _ _ hSw.2.1; have c4 := cell_of_row w g37 4 _ _ _ hSw.2.1; have d0 := cell_of_row w g38 0 _ _ _ hSw.2.2; have d1 := cell_of_row w g38 1 _ _ _ hSw.2.2; have d2 := cell_of_row w g38 2 _ _ _ hSw.2.2; have d3 := cell_of_row w g38 3 _ _ _ hSw.2.2; have d4 := cell_of_row w g38 4 _ _ _ hSw.2.2; go_simp; try with_reducible rfl)
      (try simp only [Act.put, List.setIfInBounds_toArray]); (try dsimp only [List.set_cons_zero, List.set_cons_succ])
      refine wpAnyH_take (i := 60) (v := ?_) opAt_60 (by as_aux_lemma => kernel_rfl) (by as_aux_lemma => kernel_rfl) (by as_aux_lemma => kernel_rfl) (fun _ _ _ h => h) (Or.inl ⟨by as_aux_lemma => rfl, ?_⟩) (by assumption) ?_
      rotate_left
      · (intro w hSw; have hcl := hSw.1; have c0 := cell_of_row w g37 0 _ _ _ hSw.2.1; have c1 := cell_of_row w g37 1 _ _ _ hSw.2.1; have c2 := cell_of_row w g37 2 _ _ _ hSw.2.1; have c3 := cell_of_row w g37 3 _ _ _ hSw.2.1; have c4 := cell_of_row w g37 4 _ _ _ hSw.2.1; have d0 := cell_of_row w g38 0 _ _ _ hSw.2.2; have d1 := cell_of_row w g38 1 _ _ _ hSw.2.2; have d2 := cell_of_row w g38 2 _ _ _ hSw.2.2; have d3 := cell_of_row w g38 3 _ _ _ hSw.2.2; have d4 := cell_of_row w g38 4 _ _ _ hSw.2.2; go_simp; try with_reducible rfl)
      (try simp only [Act.put, List.setIfInBounds_toArray]); (try dsimp only [List.set_cons_zero, List.set_cons_succ])
      refine wpAnyH_take (i := 61) (v := ?_) opAt_61 (by as_aux_lemma => kernel_rfl) (by as_aux_lemma => kernel_rfl) (by as_aux_lemma => kernel_rfl) (fun _ _ _ h => h) (Or.inl ⟨by as_aux_lemma => rfl, ?_⟩) (by assumption) ?_
      rotate_left
      · (intro w hSw; have hcl := hSw.1; have c0 := cell_of_row w g37 0 _ _ _ hSw.2.1; have c1 := cell_of_row w g37 1 _ _ _ hSw.2.1; have c2 := cell_of_row w g37 2 _ _ _ hSw.2.1; have c3 := cell_of_row w g37 3 _ _ _ hSw.2.1; have c4 := cell_of_row w g37 4 _ _ _ hSw.2.1; have d0 := cell_of_row w g38 0 _ _ _ hSw.2.2; have d1 := cell_of_row w g38 1 _ _ _ hSw.2.2; have d2 := cell_of_row w g38 2 _ _ _ hSw.2.2; have d3 := cell_of_row w g38 3 _ _ _ hSw.2.2; have d4 := cell_of_row w g38 4 _ _ _ hSw.2.2; go_simp; try with_reducible rfl)
      (try simp only [Act.put, List.setIfInBounds_toArray]); (try dsimp only [List.set_cons_zero, List.set_cons_succ])
      refine wpAnyH_take (i := 62) (v := ?_) opAt_62 (by as_aux_lemma => kernel_rfl) (by as_aux_lemma => kernel_rfl) (by as_aux_lemma => kernel_rfl) (fun _ _ _ h => h) (Or.inl ⟨by as_aux_lemma => rfl, ?_⟩) (by assumption) ?_
      rotate_left
      · (intro w hSw; have hcl := hSw.1; have c0 := cell_of_row w g37 0 _ _ _ hSw.2.1; have c1 := cell_of_row w g37 1 _ _ _ hSw.2.1; have c2 := cell_of_row w g37 2 _ _ _ hSw.2.1; have c3 := cell_of_row w g37 3 _ _ _ hSw.2.1; have c4 := cell_of_row w g37 4 _ _ _ hSw.2.1; have d0 := cell_of_row w g38 0 _ _ _ hSw.2.2; have d1 := cell_of_row w g38 1 _ _ _ hSw.2.2; have d2 := cell_of_row w g38 2 _ _ _ hSw.2.2; have d3 := cell_of_row w g38 3 _ _ _ hSw.2.2; have d4 := cell_of_row w g38 4 _ _ _ hSw.2.2; go_simp; try with_reducible rfl)
      (try simp only [Act.put, List.setIfInBounds_toArray]); (try dsimp only [List.set_cons_zero, List.set_cons_succ])
      refine wpAnyH_take (i := 63) (v := ?_) opAt_63 (by as_aux_lemma => kernel_rfl) (by as_aux_lemma => kernel_rfl) (by as_aux_lemma => kernel_rfl) (fun _ _ _ h => h) (Or.inl ⟨by as_aux_lemma => rfl, ?_⟩) (by assumption) ?_
      rotate_left
      · (intro w hSw; have hcl := hSw.1; have c0 := cell_of_row w g37 0 _ _ _ hSw.2.1; have c1 := cell_of_row w g37 1 _ _ _ hSw.2.1; have c2 := cell_of_row w g37 2 _ _ _ hSw.2.1; have c3 := cell_of_row w g37 3 _ _ _ hSw.2.1; have c4 := cell_of_row w g37 4 _ _ _ hSw.2.1; have d0 := cell_of_row w g38 0 _ _ _ hSw.2.2; have d1 := cell_of_row w g38 1 _ _ _ hSw.2.2; have d2 := cell_of_row w g38 2 _ _ _ hSw.2.2; have d3 := cell_of_row w g38 3 _ _ _ hSw.2.2; have d4 := cell_of_row w g38 4 _ _ _ hSw.2.2; go_simp; try with_reducible rfl)
      (try simp only [Act.put, List.setIfInBounds_toArray]); (try dsimp only [List.set_cons_zero, List.set_cons_succ])
      refine wpAnyH_take (i := 65) (v := ?_) opAt_65 (by as_aux_lemma => kernel_rfl) (by as_aux_lemma => kernel_rfl) (by as_aux_lemma => kernel_rfl) (fun _ _ _ h => h) (Or.inl ⟨by as_aux_lemma => rfl, ?_⟩) (by assumption) ?_
      rotate_left
      · (intro w hSw; have hcl := hSw.1; have c0 := cell_of_row w g37 0 _ _ _ hSw.2.1; have c1 := cell_of_row w g37 1 _ _ _ hSw.2.1; have c2 := cell_of_row w g37 2 _ _ _ hSw.2.1; have c3 := cell_of_row w g37 3 _ _ _ hSw.2.1; have c4 := cell_of_row w g37 4 _ _ _ hSw.2.1; have d0 := cell_of_row w g38 0 _ _ _ hSw.2.2; have d1 := cell_of_row w g38 1 _ _ _ hSw.2.2; have d2 := cell_of_row w g38 2 _ _ _ hSw.2.2; have d3 := cell_of_row w g38 3 _ _ _ hSw.2.2; have d4 := cell_of_row w g38 4 _ _ _ hSw.2.2; go_simp; try with_reducible rfl)
      (try simp only [Act.put, List.setIfInBounds_toArray]); (try dsimp only [List.set_cons_zero, List.set_cons_succ])
      refine wpAnyH_ready (rs := [64]) (by as_aux_lemma => kernel_rfl) (by simp) ?_
      refine AllReadyH.cons rfl (fun K hK => ?_) AllReadyH.nil
      go_simp
      have hse := Sc.sseal12 (HSV28.out.on hb0) (by decide) (by decide) (by decide) kseal_pos
      rw [kseal_val] at hse
      refine Calls.mono hse ?_
      clear hse
      rintro e V1 ⟨rfl, nb⟩
      try go_wp2_with fail
      have hb1 : Below w28.heap.size w28 V1 := hb0.trans (nb.mono hb0.size)
      clear nb
      refine hK.out _ _ (HKP.out _ hb1) (fun hHeld => ?_)
      clear hK K
      (try simp only [Act.put, List.setIfInBounds_toArray]); (try dsimp only [List.set_cons_zero, List.set_cons_succ])
      refine wpAnyH_take (i := 66) (v := ?_) opAt_66 (by as_aux_lemma => kernel_rfl) (by as_aux_lemma => kernel_rfl) (by as_aux_lemma => kernel_rfl) (fun _ _ _ h => h) (Or.inl ⟨by as_aux_lemma => rfl, ?_⟩) (by assumption) ?_
      rotate_left
      · (intro w hSw; have hcl := hSw.1; have c0 := cell_of_row w g37 0 _ _ _ hSw.2.1; have c1 := cell_of_row w g37 1 _ _ _ hSw.2.1; have c2 := cell_of_row w g37 2 _ _ _ hSw.2.1; have c3 := cell_of_row w g37 3 _ _ _ hSw.2.1; have c4 := cell_of_row w g37 4 _ _ _ hSw.2.1; have d0 := cell_of_row w g38 0 _ _ _ hSw.2.2; have d1 := cell_of_row w g38 1 _ _ _ hSw.2.2; have d2 := cell_of_row w g38 2 _ _ _ hSw.2.2; have d3 := cell_of_row w g38 3 _ _ _ hSw.2.2; have d4 := cell_of_row w g38 4 _ _ _ hSw.2.2; go_simp; try with_reducible rfl)
      (try simp only [Act.put, List.setIfInBounds_toArray]); (try dsimp only [List.set_cons_zero, List.set_cons_succ])
      refine wpAnyH_take (i := 67) (v := ?_) opAt_67 (by as_aux_lemma => kernel_rfl) (by as_aux_lemma => kernel_rfl) (by as_aux_lemma => kernel_rfl) (fun _ _ _ h => h) (Or.inl ⟨by as_aux_lemma => rfl, ?_⟩) (by assumption) ?_
      rotate_left
      · (intro w hSw; have hcl := hSw.1; have c0 := cell_of_row w g37 0 _ _ _ hSw.2.1; have c1 := cell_of_row w g37 1 _ _ _ hSw.2.1; have c2 := cell_of_row w g37 2 _ _ _ hSw.2.1; have c3 := cell_of_row w g37 3 _ _ _ hSw.2.1; have c4 := cell_of_row w g37 4 _ _ _ hSw.2.1; have d0 := cell_of_row w g38 0 _ _ _ hSw.2.2; have d1 := cell_of_row w g38 1 _ _ _ hSw.2.2; have d2 := cell_of_row w g38 2 _ _ _ hSw.2.2; have d3 := cell_of_row w g38 3 _ _ _ hSw.2.2; have d4 := cell_of_row w g38 4 _ _ _ hSw.2.2; go_simp; try with_reducible rfl)
      (try simp only [Act.put, List.setIfInBounds_toArray]); (try dsimp only [List.set_cons_zero, List.set_cons_succ])
      refine wpAnyH_take (i := 68) (v := ?_) opAt_68 (by as_aux_lemma => kernel_rfl) (by as_aux_lemma => kernel_rfl) (by as_aux_lemma => kernel_rfl) (fun _ _ _ h => h) (Or.inl ⟨by as_aux_lemma => rfl, ?_⟩) (by assumption) ?_
      rotate_left
      · (intro w hSw; have hcl := hSw.1; have c0 := cell_of_row w g37 0 _ _ _ hSw.2.1; have c1 := cell_of_row w g37 1 _ _ _ hSw.2.1; have c2 := cell_of_row w g37 2 _ _ _ hSw.2.1; have c3 := cell_of_row w g37 3 _ _ _ hSw.2.1; have c4 := cell_of_row w g37 4 _ _ _ hSw.2.1; have d0 := cell_of_row w g38 0 _ _ _ hSw.2.2; have d1 := cell_of_row w g38 1 _ _ _ hSw.2.2; have d2 := cell_of_row w g38 2 _ _ _ hSw.2.2; have d3 := cell_of_row w g38 3 _ _ _ hSw.2.2; have d4 := cell_of_row w g38 4 _ _ _ hSw.2.2; go_simp; try with_reducible rfl)
      (try simp only [Act.put, List.setIfInBounds_toArray]); (try dsimp only [List.set_cons_zero, List.set_cons_succ])
      refine wpAnyH_take (i := 69) (v := ?_) opAt_69 (by as_aux_lemma => kernel_rfl) (by as_aux_lemma => kernel_rfl) (by as_aux_lemma => kernel_rfl) (fun _ _ _ h => h) (Or.inl ⟨by as_aux_lemma => rfl, ?_⟩) (by assumption) ?_
      rotate_left
      · (intro w hSw; have hcl := hSw.1; have c0 := cell_of_row w g37 0 _ _ _ hSw.2.1; have c1 := cell_of_row w g37 1 _ _ _ hSw.2.1; have c2 := cell_of_row w g37 2 _ _ _ hSw.2.1; have c3 := cell_of_row w g37 3 _ _ _ hSw.2.1; have c4 := cell_of_row w g37 4 _ _ _ hSw.2.1; have d0 := cell_of_row w g38 0 _ _ _ hSw.2.2; have d1 := cell_of_row w g38 1 _ _ _ hSw.2.2; have d2 := cell_of_row w g38 2 _ _ _ hSw.2.2; have d3 := cell_of_row w g38 3 _ _ _ hSw.2.2; have d4 := cell_of_row w g38 4 _ _ _ hSw.2.2; go_simp; try with_reducible rfl)
      (try simp only [Act.put, List.setIfInBounds_toArray]); (try dsimp only [List.set_cons_zero, List.set_cons_succ])
      refine wpAnyH_take (i := 70) (v := ?_) opAt_70 (by as_aux_lemma => kernel_rfl) (by as_aux_lemma => kernel_rfl) (by as_aux_lemma => kernel_rfl) (fun _ _ _ h => h) (Or.inl ⟨by as_aux_lemma => rfl, ?_⟩) (by assumption) ?_
      rotate_left
      · (intro w hSw; have hcl := hSw.1; have c0 := cell_of_row w g37 0 _ _ _ hSw.2.1; have c1 := cell_of_row w g37 1 _ _ _ hSw.2.1; have c2 := cell_of_row w g37 2 _ _ _ hSw.2.1; have c3 := cell_of_row w g37 3 _ _ _ hSw.2.1; have c4 := cell_of_row w g37 4 _ _ _ hSw.2.1; have d0 := cell_of_row w g38 0 _ _ _ hSw.2.2; have d1 := cell_of_row w g38 1 _ _ _ hSw.2.2; have d2 := cell_of_row w g38 2 _ _ _ hSw.2.2; have d3 := cell_of_row w g38 3 _ _ _ hSw.2.2; have d4 := cell_of_row w g38 4 _ _ _ hSw.2.2; go_simp; try with_reducible rfl)
      (try simp only [Act.put, List.setIfInBounds_toArray]); (try dsimp only [List.set_cons_zero, List.set_cons_succ])
      refine wpAnyH_take (i := 71) (v := ?_) opAt_71 (by as_aux_lemma => kernel_rfl) (by as_aux_lemma => kernel_rfl) (by as_aux_lemma => kernel_rfl) (fun _ _ _ h => h) (Or.inl ⟨by as_aux_lemma => rfl, ?_⟩) (by assumption) ?_
      rotate_left
      · (intro w hSw; have hcl := hSw.1; have c0 := cell_of_row w g37 0 _ _ _ hSw.2.1; have c1 := cell_of_row w g37 1 _ _ _ hSw.2.1; have c2 := cell_of_row w g37 2 _ _ _ hSw.2.1; have c3 := cell_of_row w g37 3 _ _ _ hSw.2.1; have c4 := cell_of_row w g37 4 _ _ _ hSw.2.1; have d0 := cell_of_row w g38 0 _ _ _ hSw.2.2; have d1 := cell_of_row w g38 1 _ _ _ hSw.2.2; have d2 := cell_of_row w g38 2 _ _ _ hSw.2.2; have d3 := cell_of_row w g38 3 _ _ _ hSw.2.2; have d4 := cell_of_row w g38 4 _ _ _ hSw.2.2; go_simp; try with_reducible rfl)
      (try simp only [Act.put, List.setIfInBounds_toArray]); (try dsimp only [List.set_cons_zero, List.set_cons_succ])
      refine wpAnyH_take (i := 72) (v := ?_) opAt_72 (by as_aux_lemma => kernel_rfl) (by as_aux_lemma => kernel_rfl) (by as_aux_lemma => kernel_rfl) (fun _ _ _ h => h) (Or.inl ⟨by as_aux_lemma => rfl, ?_⟩) (by assumption) ?_
      rotate_left
      · (intro w hSw; have hcl := hSw.1; have c0 := cell_of_row w g37 0 _ _ _ hSw.2.1; have c1 := cell_of_row w g37 1 _ _ _ hSw.2.1; have c2 := cell_of_row w g37 2 _ _ _ hSw.2.1; have c3 := cell_of_row w g37 3 _ _ _ hSw.2.1; have c4 := cell_of_row w g37 4 _ _ _ hSw.2.1; have d0 := cell_of_row w g38 0 _ _ _ hSw.2.2; have d1 := cell_of_row w g38 1 _ _ _ hSw.2.2; have d2 := cell_of_row w g38 2 _ _ _ hSw.2.2; have d3 := cell_of_row w g38 3 _ _ _ hSw.2.2; have d4 := cell_of_row w g38 4 _ _ _ hSw.2.2; go_simp; try with_reducible rfl)
      (try simp only [Act.put, List.setIfInBounds_toArray]); (try dsimp only [List.set_cons_zero, List.set_cons_succ])
      refine wpAnyH_take (i := 73) (v := ?_) opAt_73 (by as_aux_lemma => kernel_rfl) (by as_aux_lemma => kernel_rfl) (by as_aux_lemma => kernel_rfl) (fun _ _ _ h => h) (Or.inl ⟨by as_aux_lemma => rfl, ?_⟩) (by assumption) ?_
      rotate_left
      · (intro w hSw; have hcl := hSw.1; have c0 := cell_of_row w g37 0 _ _ _ hSw.2.1; have c1 := cell_of_row w g37 1 _ _ _ hSw.2.1; have c2 := cell_of_row w g37 2 _ _ _ hSw.2.1; have c3 := cell_of_row w g37 3 _ _ _ hSw.2.1; have c4 := cell_of_row w g37 4 _ _ _ hSw.2.1; have d0 := cell_of_row w g38 0 _ _ _ hSw.2.2; have d1 := cell_of_row w g38 1 _ _ _ hSw.2.2; have d2 := cell_of_row w g38 2 _ _ _ hSw.2.2; have d3 := cell_of_row w g38 3 _ _ _ hSw.2.2; have d4 := cell_of_row w g38 4 _ _ _ hSw.2.2; go_simp; try with_reducible rfl)
      (try simp only [Act.put, List.setIfInBounds_toArray]); (try dsimp only [List.set_cons_zero, List.set_cons_succ])
      refine wpAnyH_ready (rs := [74]) (by as_aux_lemma => kernel_rfl) (by simp) ?_
      refine AllReadyH.cons rfl (fun K hK => ?_) AllReadyH.nil
      go_simp
      obtain ⟨gl, hgl⟩ : ∃ g, V1.heap.size = g := ⟨_, rfl⟩
      rw [hgl]
      obtain ⟨V2, hV2⟩ : ∃ V, V1.alloc (.cells #[.int .u8 104, .int .u8 111, .int .u8 117, .int .u8 114, .int .u8 98, .int .u8 107, .int .u8 49] 5) = V := ⟨_, rfl⟩
      rw [hV2]
      have kcx := KCH.out V1
      rw [hV2, hgl] at kcx
      have nb : Below V1.heap.size V1 V2 := by rw [← hV2]; exact al _ _
      have hb2 : Below w28.heap.size w28 V2 := hb1.trans (nb.mono hb1.size)
      clear nb
      refine hK.out _ _ (HKP.out _ hb2) (fun hHeld => ?_)
      clear hK K
      (try simp only [Act.put, List.setIfInBounds_toArray]); (try dsimp only [List.set_cons_zero, List.set_cons_succ])
      refine wpAnyH_ready (rs := [75]) (by as_aux_lemma => kernel_rfl) (by simp) ?_
      refine AllReadyH.cons rfl (fun K hK => ?_) AllReadyH.nil
      go_simp
      obtain ⟨V3, hW3⟩ : ∃ V, V1.alloc (.cells #[.int .u8 104, .int .u8 111, .int .u8 117, .int .u8 114, .int .u8 98, .int .u8 107, .int .u8 49] 5 (7, 8)) = V := ⟨_, rfl⟩
      try rw [hW3]
      have HL7 := Lib.hid (show Bs V3 V3.heap.size (.slice (some ⟨gl, 0, none⟩) 7 7) [104, 111, 117, 114, 98, 107, 49] from by rw [← hW3, ← hgl]; exact lit_new _ _ _ rfl _ _ 7 rfl)
      have hb3 : Below w28.heap.size w28 V3 := by rw [← hW3]; exact hb1.trans ((al _ _).mono hb1.size)
      clear hW3 hV2 kcx hgl
      refine hK.out _ _ (HKP.out _ hb3) (fun hHeld => ?_)
      clear hK K
      (try simp only [Act.put, List.setIfInBounds_toArray]); (try dsimp only [List.set_cons_zero, List.set_cons_succ])
      refine wpAnyH_ready (rs := [76]) (by as_aux_lemma => kernel_rfl) (by simp) ?_
      refine AllReadyH.cons rfl (fun K hK => ?_) AllReadyH.nil
      go_simp
      refine Calls.mono (fprefix (HOW.out.below hb3 (Nat.le_refl _)) HL7.out kpre (by rw [Hd.headL_length]; omega)) ?_
      rintro e V4 ⟨rfl, h4⟩
      have h5 := h4.symm
      subst h5
      try go_wp2_with fail
      have hb4 := hb3
      refine hK.out _ _ (HKP.out _ hb4) (fun hHeld => ?_)
      clear hK K
      (try simp only [Act.put, List.setIfInBounds_toArray]); (try dsimp only [List.set_cons_zero, List.set_cons_succ])
      refine wpAnyH_take (i := 77) (v := ?_) opAt_77 (by as_aux_lemma => kernel_rfl) (by as_aux_lemma => kernel_rfl) (by as_aux_lemma => kernel_rfl) (fun _ _ _ h => h) (Or.inl ⟨by as_aux_lemma => rfl, ?_⟩) (by assumption) ?_
      rotate_left
      · (intro w hSw; have hcl := hSw.1; have c0 := cell_of_row w g37 0 _ _ _ hSw.2.1; have c1 := cell_of_row w g37 1 _ _ _ hSw.2.1; have c2 := cell_of_row w g37 2 _ _ _ hSw.2.1; have c3 := cell_of_row w g37 3 _ _ _ hSw.2.1; have c4 := cell_of_row w g37 4 _ _ _ hSw.2.1; have d0 := cell_of_row w g38 0 _ _ _ hSw.2.2; have d1 := cell_of_row w g38 1 _ _ _ hSw.2.2; have d2 := cell_of_row w g38 2 _ _ _ hSw.2.2; have d3 := cell_of_row w g38 3 _ _ _ hSw.2.2; have d4 := cell_of_row w g38 4 _ _ _ hSw.2.2; go_simp; try with_reducible rfl)
      (try simp only [Act.put, List.setIfInBounds_toArray]); (try dsimp only [List.set_cons_zero, List.set_cons_succ])
      refine wpAnyH_take (i := 78) (v := ?_) opAt_78 (by as_aux_lemma => kernel_rfl) (by as_aux_lemma => kernel_rfl) (by as_aux_lemma => kernel_rfl) (fun _ _ _ h => h) (Or.inl ⟨by as_aux_lemma => rfl, ?_⟩) (by assumption) ?_
      rotate_left
      · (intro w hSw; have hcl := hSw.1; have c0 := cell_of_row w g37 0 _ _ _ hSw.2.1; have c1 := cell_of_row w g37 1 _ _ _ hSw.2.1; have c2 := cell_of_row w g37 2 _ _ _ hSw.2.1; have c3 := cell_of_row w g37 3 _ _ _ hSw.2.1; have c4 := cell_of_row w g37 4 _ _ _ hSw.2.1; have d0 := cell_of_row w g38 0 _ _ _ hSw.2.2; have d1 := cell_of_row w g38 1 _ _ _ hSw.2.2; have d2 := cell_of_row w g38 2 _ _ _ hSw.2.2; have d3 := cell_of_row w g38 3 _ _ _ hSw.2.2; have d4 := cell_of_row w g38 4 _ _ _ hSw.2.2; go_simp; try with_reducible rfl)
      (try simp only [Act.put, List.setIfInBounds_toArray]); (try dsimp only [List.set_cons_zero, List.set_cons_succ])
      refine wpAnyH_ready (rs := [79]) (by as_aux_lemma => kernel_rfl) (by simp) ?_
      refine AllReadyH.cons rfl (fun K hK => ?_) AllReadyH.nil
      go_simp
      have hnm := name_any 0 (by omega) V4 (HX.out.below (bel0 HK28.out.below hb4)).std
      rw [kw0] at hnm
      refine Calls.mono hnm ?_
      clear hnm
      rintro e V5 ⟨rfl, nb⟩
      try go_wp2_with fail
      have hb5 : Below w28.heap.size w28 V5 := hb4.trans (nb.mono hb4.size)
      clear nb
      refine hK.out _ _ (HKP.out _ hb5) (fun hHeld => ?_)
      clear hK K
      (try simp only [Act.put, List.setIfInBounds_toArray]); (try dsimp only [List.set_cons_zero, List.set_cons_succ])
      refine wpAnyH_take (i := 80) (v := ?_) opAt_80 (by as_aux_lemma => kernel_rfl) (by as_aux_lemma => kernel_rfl) (by as_aux_lemma => kernel_rfl) (fun _ _ _ h => h) (Or.inl ⟨by as_aux_lemma => rfl, ?_⟩) (by assumption) ?_
      rotate_left
      · (intro w hSw; have hcl := hSw.1; have c0 := cell_of_row w g37 0 _ _ _ hSw.2.1; have c1 := cell_of_row w g37 1 _ _ _ hSw.2.1; have c2 := cell_of_row w g37 2 _ _ _ hSw.2.1; have c3 := cell_of_row w g37 3 _ _ _ hSw.2.1; have c4 := cell_of_row w g37 4 _ _ _ hSw.2.1; have d0 := cell_of_row w g38 0 _ _ _ hSw.2.2; have d1 := cell_of_row w g38 1 _ _ _ hSw.2.2; have d2 := cell_of_row w g38 2 _ _ _ hSw.2.2; have d3 := cell_of_row w g38 3 _ _ _ hSw.2.2; have d4 := cell_of_row w g38 4 _ _ _ hSw.2.2; go_simp; try with_reducible rfl)
      (try simp only [Act.put, List.setIfInBounds_toArray]); (try dsimp only [List.set_cons_zero, List.set_cons_succ])
      refine wpAnyH_take (i := 81) (v := ?_) opAt_81 (by as_aux_lemma => kernel_rfl) (by as_aux_lemma => kernel_rfl) (by as_aux_lemma => kernel_rfl) (fun _ _ _ h => h) (Or.inl ⟨by as_aux_lemma => rfl, ?_⟩) (by assumption) ?_
      rotate_left
      · (intro w hSw; have hcl := hSw.1; have c0 := cell_of_row w g37 0 _ _ _ hSw.2.1; have c1 := cell_of_row w g37 1 _ _ _ hSw.2.1; have c2 := cell_of_row w g37 2 _ _ _ hSw.2.1; have c3 := cell_of_row w g37 3 _ _ _ hSw.2.1; have c4 := cell_of_row w g37 4 _ _ _ hSw.2.1; have d0 := cell_of_row w g38 0 _ _ _ hSw.2.2; have d1 := cell_of_row w g38 1 _ _ _ hSw.2.2; have d2 := cell_of_row w g38 2 _ _ _ hSw.2.2; have d3 := cell_of_row w g38 3 _ _ _ hSw.2.2; have d4 := cell_of_row w g38 4 _ _ _ hSw.2.2; go_simp; try with_reducible rfl)
      (try simp only [Act.put, List.setIfInBounds_toArray]); (try dsimp only [List.set_cons_zero, List.set_cons_succ])
      refine wpAnyH_take (i := 82) (v := ?_) opAt_82 (by as_aux_lemma => kernel_rfl) (by as_aux_lemma => kernel_rfl) (by as_aux_lemma => kernel_rfl) (fun _ _ _ h => h) (Or.inl ⟨by as_aux_lemma => rfl, ?_⟩) (by assumption) ?_
      rotate_left
      · (intro w hSw; have hcl := hSw.1; have c0 := cell_of_row w g37 0 _ _ _ hSw.2.1; have c1 := cell_of_row w g37 1 _ _ _ hSw.2.1; have c2 := cell_of_row w g37 2 _ _ _ hSw.2.1; have c3 := cell_of_row w g37 3 _ _ _ hSw.2.1; have c4 := cell_of_row w g37 4 _ _ _ hSw.2.1; have d0 := cell_of_row w g38 0 _ _ _ hSw.2.2; have d1 := cell_of_row w g38 1 _ _ _ hSw.2.2; have d2 := cell_of_row w g38 2 _ _ _ hSw.2.2; have d3 := cell_of_row w g38 3 _ _ _ hSw.2.2; have d4 := cell_of_row w g38 4 _ _ _ hSw.2.2; go_simp; try with_reducible rfl)
      (try simp only [Act.put, List.setIfInBounds_toArray]); (try dsimp only [List.set_cons_zero, List.set_cons_succ])
      refine wpAnyH_ready (rs := [83]) (by as_aux_lemma => kernel_rfl) (by simp) ?_
      refine AllReadyH.cons rfl (fun K hK => ?_) AllReadyH.nil
      go_simp
      have hnm := name_any 16777215 (by omega) V5 (HX.out.below (bel0 HK28.out.below hb5)).std
      rw [kwm] at hnm
      refine Calls.mono hnm ?_
      clear hnm
      rintro e V6 ⟨rfl, nb⟩
      try go_wp2_with fail
      have hb6 : Below w28.heap.size w28 V6 := hb5.trans (nb.mono hb5.size)
      clear nb
      refine hK.out _ _ (HKP.out _ hb6) (fun hHeld => ?_)
      clear hK K
      (try simp only [Act.put, List.setIfInBounds_toArray]); (try dsimp only [List.set_cons_zero, List.set_cons_succ])
      refine wpAnyH_take (i := 84) (v := ?_) opAt_84 (by as_aux_lemma => kernel_rfl) (by as_aux_lemma => kernel_rfl) (by as_aux_lemma => kernel_rfl) (fun _ _ _ h => h) (Or.inl ⟨by as_aux_lemma => rfl, ?_⟩) (by assumption) ?_
      rotate_left
      · (intro w hSw; have hcl := hSw.1; have c0 := cell_of_row w g37 0 _ _ _ hSw.2.1; have c1 := cell_of_row w g37 1 _ _ _ hSw.2.1; have c2 := cell_of_row w g37 2 _ _ _ hSw.2.1; have c3 := cell_of_row w g37 3 _ _ _ hSw.2.1; have c4 := cell_of_row w g37 4 _ _ _ hSw.2.1; have d0 := cell_of_row w g38 0 _ _ _ hSw.2.2; have d1 := cell_of_row w g38 1 _ _ _ hSw.2.2; have d2 := cell_of_row w g38 2 _ _ _ hSw.2.2; have d3 := cell_of_row w g38 3 _ _ _ hSw.2.2; have d4 := cell_of_row w g38 4 _ _ _ hSw.2.2; go_simp; try with_reducible rfl)
      (try simp only [Act.put, List.setIfInBounds_toArray]); (try dsimp only [List.set_cons_zero, List.set_cons_succ])
      refine wpAnyH_take (i := 85) (v := ?_) opAt_85 (by as_aux_lemma => kernel_rfl) (by as_aux_lemma => kernel_rfl) (by as_aux_lemma => kernel_rfl) (fun _ _ _ h => h) (Or.inl ⟨by as_aux_lemma => rfl, ?_⟩) (by assumption) ?_
      rotate_left
      · (intro w hSw; have hcl := hSw.1; have c0 := cell_of_row w g37 0 _ _ _ hSw.2.1; have c1 := cell_of_row w g37 1 _ _ _ hSw.2.1; have c2 := cell_of_row w g37 2 _ _ _ hSw.2.1; have c3 := cell_of_row w g37 3 _ _ _ hSw.2.1; have c4 := cell_of_row w g37 4 _ _ _ hSw.2.1; have d0 := cell_of_row w g38 0 _ _ _ hSw.2.2; have d1 := cell_of_row w g38 1 _ _ _ hSw.2.2; have d2 := cell_of_row w g38 2 _ _ _ hSw.2.2; have d3 := cell_of_row w g38 3 _ _ _ hSw.2.2; have d4 := cell_of_row w g38 4 _ _ _ hSw.2.2; go_simp; try with_reducible rfl)
      (try simp only [Act.put, List.setIfInBounds_toArray]); (try dsimp only [List.set_cons_zero, List.set_cons_succ])
      refine wpAnyH_take (i := 86) (v := ?_) opAt_86 (by as_aux_lemma => kernel_rfl) (by as_aux_lemma => kernel_rfl) (by as_aux_lemma => kernel_rfl) (fun _ _ _ h => h) (Or.inl ⟨by as_aux_lemma => rfl, ?_⟩) (by assumption) ?_
      rotate_left
      · (intro w hSw; have hcl := hSw.1; have c0 := cell_of_row w g37 0 _ _ _ hSw.2.1; have c1 := cell_of_row w g37 1 _ _ _ hSw.2.1; have c2 := cell_of_row w g37 2 _ _ _ hSw.2.1; have c3 := cell_of_row w g37 3 _ _ _ hSw.2.1; have c4 := cell_of_row w g37 4 _ _ _ hSw.2.1; have d0 := cell_of_row w g38 0 _ _ _ hSw.2.2; have d1 := cell_of_row w g38 1 _ _ _ hSw.2.2; have d2 := cell_of_row w g38 2 _ _ _ hSw.2.2; have d3 := cell_of_row w g38 3 _ _ _ hSw.2.2; have d4 := cell_of_row w g38 4 _ _ _ hSw.2.2; go_simp; try with_reducible rfl)
      (try simp only [Act.put, List.setIfInBounds_toArray]); (try dsimp only [List.set_cons_zero, List.set_cons_succ])
      refine wpAnyH_take (i := 87) (v := ?_) opAt_87 (by as_aux_lemma => kernel_rfl) (by as_aux_lemma => kernel_rfl) (by as_aux_lemma => kernel_rfl) (fun _ _ _ h => h) (Or.inl ⟨by as_aux_lemma => rfl, ?_⟩) (by assumption) ?_
      rotate_left
      · (intro w hSw; have hcl := hSw.1; have c0 := cell_of_row w g37 0 _ _ _ hSw.2.1; have c1 := cell_of_row w g37 1 _ _ _ hSw.2.1; have c2 := cell_of_row w g37 2 _ _ _ hSw.2.1; have c3 := cell_of_row w g37 3 _ _ _ hSw.2.1; have c4 := cell_of_row w g37 4 _ _ _ hSw.2.1; have d0 := cell_of_row w g38 0 _ _ _ hSw.2.2; have d1 := cell_of_row w g38 1 _ _ _ hSw.2.2; have d2 := cell_of_row w g38 2 _ _ _ hSw.2.2; have d3 := cell_of_row w g38 3 _ _ _ hSw.2.2; have d4 := cell_of_row w g38 4 _ _ _ hSw.2.2; go_simp; try with_reducible rfl)
      (try simp only [Act.put, List.setIfInBounds_toArray]); (try dsimp only [List.set_cons_zero, List.set_cons_succ])
      refine wpAnyH_take (i := 88) (v := ?_) opAt_88 (by as_aux_lemma => kernel_rfl) (by as_aux_lemma => kernel_rfl) (by as_aux_lemma => kernel_rfl) (fun _ _ _ h => h) (Or.inl ⟨by as_aux_lemma => rfl, ?_⟩) (by assumption) ?_
      rotate_left
      · (intro w hSw; have hcl := hSw.1; have c0 := cell_of_row w g37 0 _ _ _ hSw.2.1; have c1 := cell_of_row w g37 1 _ _ _ hSw.2.1; have c2 := cell_of_row w g37 2 _ _ _ hSw.2.1; have c3 := cell_of_row w g37 3 _ _ _ hSw.2.1; have c4 := cell_of_row w g37 4 _ _ _ hSw.2.1; have d0 := cell_of_row w g38 0 _ _ _ hSw.2.2; have d1 := cell_of_row w g38 1 _ _ _ hSw.2.2; have d2 := cell_of_row w g38 2 _ _ _ hSw.2.2; have d3 := cell_of_row w g38 3 _ _ _ hSw.2.2; have d4 := cell_of_row w g38 4 _ _ _ hSw.2.2; go_simp; try with_reducible rfl)
      (try simp only [Act.put, List.setIfInBounds_toArray]); (try dsimp only [List.set_cons_zero, List.set_cons_succ])
      refine wpAnyH_ready (rs := [89]) (by as_aux_lemma => kernel_rfl) (by simp) ?_
      refine AllReadyH.cons rfl (fun K hK => ?_) AllReadyH.nil
      go_simp
      have hof := Sc.sof (.slice none 0 0) [] 5 V6 (nil_bs _ _) (by decide) (by decide) (HX.out.below (bel0 HK28.out.below hb6)).tab
      rw [Sc.of_short 5 (by decide)] at hof
      refine Calls.mono hof ?_
      clear hof
      rintro e V7 ⟨rv, rfl, hs2, nb⟩
      obtain ⟨Af2, cf2, Ap2, cp2, _, rfl, _⟩ := hs2.lit 5 0 22 0 0 rfl rfl rfl rfl rfl
      clear hs2
      have hfs : ∀ w : World, (Instr.field 44 (.agg #[.int .u32 5, .slice Af2 0 cf2, .slice Ap2 0 cp2, .int .i64 0, .int .i64 22]) 0).run Tryz.prog w = .ok (.int .u32 5) w := fun _ => by kernel_rfl
      try go_wp2_with fail
      have hb7 : Below w28.heap.size w28 V7 := hb6.trans (nb.mono hb6.size)
      clear nb
      refine hK.out _ _ (HKP.out _ hb7) (fun hHeld => ?_)
      clear hK K
      (try simp only [Act.put, List.setIfInBounds_toArray]); (try dsimp only [List.set_cons_zero, List.set_cons_succ])
      refine wpAnyH_take (i := 90) (v := ?_) opAt_90 (by as_aux_lemma => kernel_rfl) (by as_aux_lemma => kernel_rfl) (by as_aux_lemma => kernel_rfl) (fun _ _ _ h => h) (Or.inl ⟨by as_aux_lemma => rfl, ?_⟩) (by assumption) ?_
      rotate_left
      · (intro w hSw; have hcl := hSw.1; have c0 := cell_of_row w g37 0 _ _ _ hSw.2.1; have c1 := cell_of_row w g37 1 _ _ _ hSw.2.1; have c2 := cell_of_row w g37 2 _ _ _ hSw.2.1; have c3 := cell_of_row w g37 3 _ _ _ hSw.2.1; have c4 := cell_of_row w g37 4 _ _ _ hSw.2.1; have d0 := cell_of_row w g38 0 _ _ _ hSw.2.2; have d1 := cell_of_row w g38 1 _ _ _ hSw.2.2; have d2 := cell_of_row w g38 2 _ _ _ hSw.2.2; have d3 := cell_of_row w g38 3 _ _ _ hSw.2.2; have d4 := cell_of_row w g38 4 _ _ _ hSw.2.2; go_simp; try with_reducible rfl)
      (try simp only [Act.put, List.setIfInBounds_toArray]); (try dsimp only [List.set_cons_zero, List.set_cons_succ])
      refine wpAnyH_take (i := 91) (v := ?_) opAt_91 (by as_aux_lemma => kernel_rfl) (by as_aux_lemma => kernel_rfl) (by as_aux_lemma => kernel_rfl) (fun _ _ _ h => h) (Or.inl ⟨by as_aux_lemma => rfl, ?_⟩) (by assumption) ?_
      rotate_left
      · (intro w hSw; have hcl := hSw.1; have c0 := cell_of_row w g37 0 _ _ _ hSw.2.1; have c1 := cell_of_row w g37 1 _ _ _ hSw.2.1; have c2 := cell_of_row w g37 2 _ _ _ hSw.2.1; have c3 := cell_of_row w g37 3 _ _ _ hSw.2.1; have c4 := cell_of_row w g37 4 _ _ _ hSw.2.1; have d0 := cell_of_row w g38 0 _ _ _ hSw.2.2; have d1 := cell_of_row w g38 1 _ _ _ hSw.2.2; have d2 := cell_of_row w g38 2 _ _ _ hSw.2.2; have d3 := cell_of_row w g38 3 _ _ _ hSw.2.2; have d4 := cell_of_row w g38 4 _ _ _ hSw.2.2; go_simp; try with_reducible rfl)
      (try simp only [Act.put, List.setIfInBounds_toArray]); (try dsimp only [List.set_cons_zero, List.set_cons_succ])
      refine wpAnyH_take (i := 92) (v := ?_) opAt_92 (by as_aux_lemma => kernel_rfl) (by as_aux_lemma => kernel_rfl) (by as_aux_lemma => kernel_rfl) (fun _ _ _ h => h) (Or.inl ⟨by as_aux_lemma => rfl, ?_⟩) (by assumption) ?_
      rotate_left
      · (intro w hSw; have hcl := hSw.1; have c0 := cell_of_row w g37 0 _ _ _ hSw.2.1; have c1 := cell_of_row w g37 1 _ _ _ hSw.2.1; have c2 := cell_of_row w g37 2 _ _ _ hSw.2.1; have c3 := cell_of_row w g37 3 _ _ _ hSw.2.1; have c4 := cell_of_row w g37 4 _ _ _ hSw.2.1; have d0 := cell_of_row w g38 0 _ _ _ hSw.2.2; have d1 := cell_of_row w g38 1 _ _ _ hSw.2.2; have d2 := cell_of_row w g38 2 _ _ _ hSw.2.2; have d3 := cell_of_row w g38 3 _ _ _ hSw.2.2; have d4 := cell_of_row w g38 4 _ _ _ hSw.2.2; go_simp; try with_reducible rfl)
      (try simp only [Act.put, List.setIfInBounds_toArray]); (try dsimp only [List.set_cons_zero, List.set_cons_succ])
      refine wpAnyH_take (i := 93) (v := ?_) opAt_93 (by as_aux_lemma => kernel_rfl) (by as_aux_lemma => kernel_rfl) (by as_aux_lemma => kernel_rfl) (fun _ _ _ h => h) (Or.inl ⟨by as_aux_lemma => rfl, ?_⟩) (by assumption) ?_
      rotate_left
      · (intro w hSw; have hcl := hSw.1; have c0 := cell_of_row w g37 0 _ _ _ hSw.2.1; have c1 := cell_of_row w g37 1 _ _ _ hSw.2.1; have c2 := cell_of_row w g37 2 _ _ _ hSw.2.1; have c3 := cell_of_row w g37 3 _ _ _ hSw.2.1; have c4 := cell_of_row w g37 4 _ _ _ hSw.2.1; have d0 := cell_of_row w g38 0 _ _ _ hSw.2.2; have d1 := cell_of_row w g38 1 _ _ _ hSw.2.2; have d2 := cell_of_row w g38 2 _ _ _ hSw.2.2; have d3 := cell_of_row w g38 3 _ _ _ hSw.2.2; have d4 := cell_of_row w g38 4 _ _ _ hSw.2.2; go_simp; try with_reducible rfl)
      (try simp only [Act.put, List.setIfInBounds_toArray]); (try dsimp only [List.set_cons_zero, List.set_cons_succ])
      refine wpAnyH_ready (rs := [94]) (by as_aux_lemma => kernel_rfl) (by simp) ?_
      refine AllReadyH.cons rfl (fun K hK => ?_) AllReadyH.nil
      go_simp
      refine Calls.mono (swakes V7 ((HX.out.below (bel0 HK28.out.below hb7)).mono (bel0 HK28.out.below hb7).size)) ?_
      rintro e V8 ⟨rfl, nb⟩
      try go_wp2_with fail
      have hb8 : Below w28.heap.size w28 V8 := hb7.trans (nb.mono hb7.size)
      clear nb
      refine hK.out _ _ (HKP.out _ hb8) (fun hHeld => ?_)
      clear hK K
      (try simp only [Act.put, List.setIfInBounds_toArray]); (try dsimp only [List.set_cons_zero, List.set_cons_succ])
      refine wpAnyH_take (i := 95) (v := ?_) opAt_95 (by as_aux_lemma => kernel_rfl) (by as_aux_lemma => kernel_rfl) (by as_aux_lemma => kernel_rfl) (fun _ _ _ h => h) (Or.inl ⟨by as_aux_lemma => rfl, ?_⟩) (by assumption) ?_
      rotate_left
      · (intro w hSw; have hcl := hSw.1; have c0 := cell_of_row w g37 0 _ _ _ hSw.2.1; have c1 := cell_of_row w g37 1 _ _ _ hSw.2.1; have c2 := cell_of_row w g37 2 _ _ _ hSw.2.1; have c3 := cell_of_row w g37 3 _ _ _ hSw.2.1; have c4 := cell_of_row w g37 4 _ _ _ hSw.2.1; have d0 := cell_of_row w g38 0 _ _ _ hSw.2.2; have d1 := cell_of_row w g38 1 _ _ _ hSw.2.2; have d2 := cell_of_row w g38 2 _ _ _ hSw.2.2; have d3 := cell_of_row w g38 3 _ _ _ hSw.2.2; have d4 := cell_of_row w g38 4 _ _ _ hSw.2.2; go_simp; try with_reducible rfl)
      (try simp only [Act.put, List.setIfInBounds_toArray]); (try dsimp only [List.set_cons_zero, List.set_cons_succ])
      refine wpAnyH_take (i := 96) (v := ?_) opAt_96 (by as_aux_lemma => kernel_rfl) (by as_aux_lemma => kernel_rfl) (by as_aux_lemma => kernel_rfl) (fun _ _ _ h => h) (Or.inl ⟨by as_aux_lemma => rfl, ?_⟩) (by assumption) ?_
      rotate_left
      · (intro w hSw; have hcl := hSw.1; have c0 := cell_of_row w g37 0 _ _ _ hSw.2.1; have c1 := cell_of_row w g37 1 _ _ _ hSw.2.1; have c2 := cell_of_row w g37 2 _ _ _ hSw.2.1; have c3 := cell_of_row w g37 3 _ _ _ hSw.2.1; have c4 := cell_of_row w g37 4 _ _ _ hSw.2.1; have d0 := cell_of_row w g38 0 _ _ _ hSw.2.2; have d1 := cell_of_row w g38 1 _ _ _ hSw.2.2; have d2 := cell_of_row w g38 2 _ _ _ hSw.2.2; have d3 := cell_of_row w g38 3 _ _ _ hSw.2.2; have d4 := cell_of_row w g38 4 _ _ _ hSw.2.2; go_simp; try with_reducible rfl)
      (try simp only [Act.put, List.setIfInBounds_toArray]); (try dsimp only [List.set_cons_zero, List.set_cons_succ])
      refine wpAnyH_done (by as_aux_lemma => kernel_rfl) ?_ _
      refine NoPanic.normal ?_
      go_wp2_with fail
      go_ret
      exact ⟨rfl, bel0 HK28.out.below hb8⟩
end Go.Proofs.YtaicibmaogiibaaGreatDoor.segKnown

