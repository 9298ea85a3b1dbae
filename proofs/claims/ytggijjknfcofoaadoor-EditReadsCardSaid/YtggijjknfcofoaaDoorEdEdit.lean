
/-
  Layer 9: the reader: edit; Get.
-/
import Derived.Test.YtggijjknfcofoaaDoorEdSeal
set_option linter.unusedVariables false
set_option linter.unusedSimpArgs false
namespace Go.Proofs.YtggijjknfcofoaaDoor
open Go.RowKit

theorem RdA.chg {M : Nat → Prop} {w w' : World} {g : Nat} {l : List UInt8} (h : RdA w g l) (hc : Chg M w w') (hM : ∀ b, b ≤ g → ¬ M b) : RdA w' g l := by
  have hlt := h.lt
  obtain ⟨A, c, h1, h2, h3, h4⟩ := h
  exact ⟨A, c, h1.chg hc (hM g (Nat.le_refl _)), h2, h3.keep fun p hp => hc.cell (by omega) (hM _ (Nat.le_of_lt hp)), h4⟩
theorem Rd_one (w : World) (s : Ed.Sl) (e : TypeId) : Rd (w.alloc (.cells #[.int .u32 s.id, .int .u32 s.size, .int .u32 s.many, .int .u64 s.first, .int .u64 s.last] e)) (w.heap.size + 1) (some ⟨w.heap.size, 0, none⟩) (slVs [s]) := fun _ => by
  refine ⟨w.heap.size, 0, rfl, by omega, fun j u hu => ?_⟩
  have := (Bx.new w #[.int .u32 s.id, .int .u32 s.size, .int .u32 s.many, .int .u64 s.first, .int .u64 s.last] e _ rfl).cell j u (by simpa [slVs] using hu)
  simpa using this
/-- the edit that is told, or what is given up with -/
def EditPost (g : Nat) (l : List UInt8) (w : World) (e : Ending) (w' : World) : Prop := match Ed.getE l with
  | .ok x => (∃ sv, e = .returned (edV x.kind x.name x.seq x.id sv) ∧ w'.ownsRow w.heap.size 28 5 sv x.seals.length (slVs x.seals)) ∧ Chg (fun i => i = g) w w'
  | .error c => e = gone c ∧ Chg (fun i => i = g) w w'
theorem EditPost.no {g c : Nat} {l : List UInt8} {w w' : World} (h : Ed.getE l = .error c) (hc : Chg (fun i => i = g) w w') : EditPost g l w (gone c) w' := by
  unfold EditPost
  rw [h]
  exact ⟨rfl, hc⟩
theorem EditPost.yes {g : Nat} {x : Ed.E} {sv : Value} {l : List UInt8} {w w' : World} (h : Ed.getE l = .ok x) (hv : w'.ownsRow w.heap.size 28 5 sv x.seals.length (slVs x.seals)) (hc : Chg (fun i => i = g) w w') : EditPost g l w (.returned (edV x.kind x.name x.seq x.id sv)) w' := by
  unfold EditPost
  rw [h]
  exact ⟨⟨sv, rfl, hv⟩, hc⟩
theorem seal_info : (Tryd.prog.info? 28).map (fun i => (i.zero, i.size, i.bytes)) = some (some (.agg #[.int .u32 0, .int .u32 0, .int .u32 0, .int .u64 0, .int .u64 0]), 5, 32) := by kernel_rfl
theorem seal_ok (g a : Nat) (l r : List UInt8) (s : Ed.Sl) (w : World) (h : RdA w g l) (ha : a < 4294967295) (hs : Ed.sealP a l = .ok (s, r)) :
    Calls Tryd.prog 57 #[.pointer (some ⟨g, 0, none⟩), .int .u32 a] w fun e w' => e = .returned (slV s) ∧ RdA w' g r ∧ Chg (fun i => i = g) w w' := by
  have := seal_any g a l w h ha
  refine this.mono fun e w' hp => ?_
  unfold SealPost at hp
  rw [hs] at hp
  exact hp
theorem seal_er (g a c : Nat) (l : List UInt8) (w : World) (h : RdA w g l) (ha : a < 4294967295) (hs : Ed.sealP a l = .error c) :
    Calls Tryd.prog 57 #[.pointer (some ⟨g, 0, none⟩), .int .u32 a] w fun e w' => e = gone c ∧ Chg (fun i => i = g) w w' := by
  have := seal_any g a l w h ha
  refine this.mono fun e w' hp => ?_
  unfold SealPost at hp
  rw [hs] at hp
  exact hp
namespace Ed
/-- seals behind others -/
def app (acc : List Sl) : Except Nat (List Sl × List UInt8) → Except Nat (List Sl × List UInt8)
  | .ok (r, l) => .ok (acc ++ r, l)
  | .error e => .error e
theorem app_nil (x : Except Nat (List Sl × List UInt8)) : app [] x = x := by
  rcases x with e | ⟨r, l⟩ <;> rfl
theorem seals_er {n a c : Nat} {acc : List Sl} {l : List UInt8} (h : sealP a l = .error c) : app acc (sealsP (n + 1) a l) = .error c := by
  simp only [sealsP, bnd, h]
  rfl
theorem seals_ok {n a : Nat} {acc : List Sl} {l r : List UInt8} {s : Sl} (h : sealP a l = .ok (s, r)) : app acc (sealsP (n + 1) a l) = app (acc ++ [s]) (sealsP n s.id r) := by
  simp only [sealsP, bnd, h]
  rcases sealsP n s.id r with e | ⟨q, l'⟩
  · rfl
  · simp [app, ret]
theorem idB_le (k : Int) (n : Nat) (h : inB (idB k) n = true) : n ≤ 16777215 := by
  simp only [inB, decide_eq_true_eq] at h
  unfold idB at h
  split at h <;> simp at h <;> omega
theorem seqB_le (k : Int) (n : Nat) (h : inB (seqB k) n = true) : n ≤ 1099511627776 := by
  simp only [inB, decide_eq_true_eq] at h
  unfold seqB at h
  split at h <;> simp at h <;> omega
end Ed

set_option maxRecDepth 100000 in
set_option maxHeartbeats 16000000 in
theorem edit_any (g : Nat) (l : List UInt8) (w : World) (h : RdA w g l) (ht : ETab w) (hg : 0 ≠ g) :
    Calls Tryd.prog 39 #[.pointer (some ⟨g, 0, none⟩)] w (EditPost g l w) := by
  have hgl := h.lt
  have b0 := bnew w (.cells #[.int .i64 0, .string ⟨#[]⟩, .int .u64 0, .int .u32 0, .slice none 0 0] 26)
  have HT := Lib.hid (Bx.new w #[.int .i64 0, .string ⟨#[]⟩, .int .u64 0, .int .u32 0, .slice none 0 0] 26 _ rfl)
  have HR := Lib.hid (h.on b0)
  have HTb := Lib.hid (ht.on b0)
  have HC : Hid (Chg (fun i => i = g) w (w.alloc (.cells #[.int .i64 0, .string ⟨#[]⟩, .int .u64 0, .int .u32 0, .slice none 0 0] 26))) := Lib.hid (Chg.of_below b0)
  clear b0 h ht
  rcases l with _ | ⟨x, l1⟩
  · go_enter Tryd.func39, Tryd.ntmps39
    go_wp2_with fail
    refine (kind_er g _ HR.out).mono ?_
    rintro e w1 ⟨rfl, hb⟩
    go_wp2_with fail
    exact ⟨rfl, EditPost.no rfl (HC.out.trans (M' := fun i => i = g) (Chg.of_below hb) fun i hi => .inl hi)⟩
  have hxl := UInt8.toNat_lt x
  obtain ⟨kn, hkn⟩ : ∃ kn, kn = x.toNat := ⟨_, rfl⟩
  have hget : Ed.getE (x :: l1) = match (if 1 ≤ (kn : Int) ∧ (kn : Int) ≤ 6 then Ed.bodyP kn else fun _ => .error 5) l1 with | .ok (e, []) => .ok e | .ok (_, _ :: _) => .error 5 | .error c => .error c := by rw [hkn]; rfl
  have Hget := Lib.hid hget
  have hkc := fun w h => kind_ok g x l1 w h
  rw [← hkn] at hkc
  rw [← hkn] at hxl
  have hk63 : kn < 256 := by omega
  clear hget hkn hxl
  go_enter Tryd.func39, Tryd.ntmps39
  go_wp2_with fail
  refine (hkc _ HR.out).mono ?_
  rintro e w1 ⟨rfl, hr1, hc1⟩
  have hs1 := hc1.size
  have hs1' : w.heap.size < w1.heap.size := by simp at hs1; omega
  have HE := Lib.hid (Bx.new w1 #[.int .i64 (kn : Int), .string ⟨#[]⟩, .int .u64 0, .int .u32 0, .slice none 0 0] 26 _ rfl)
  have HT := Lib.hid ((HT.out.chg hc1 (by omega)).alloc (.cells #[.int .i64 (kn : Int), .string ⟨#[]⟩, .int .u64 0, .int .u32 0, .slice none 0 0] 26))
  have HR := Lib.hid (hr1.on (bnew w1 (.cells #[.int .i64 (kn : Int), .string ⟨#[]⟩, .int .u64 0, .int .u32 0, .slice none 0 0] 26)))
  have HC := Lib.hid ((HC.out.trans hc1 fun i hi => .inl hi).alloc (.cells #[.int .i64 (kn : Int), .string ⟨#[]⟩, .int .u64 0, .int .u32 0, .slice none 0 0] 26))
  have HTb := Lib.hid ((HTb.out.chg fun p hp => hc1.cell (p := p) (by rw [hp]; exact HTb.out.lt) (by rw [hp]; exact hg)).alloc (.cells #[.int .i64 (kn : Int), .string ⟨#[]⟩, .int .u64 0, .int .u32 0, .slice none 0 0] 26))
  clear hkc hr1 hc1 hs1
  go_wp2_with fail
  by_cases hk : 1 ≤ kn ∧ kn ≤ 6
  rotate_left
  · refine (shapeOf_no kn _ (by omega)).mono ?_
    rintro e w2 ⟨rfl, h2⟩
    go_wp2_with fail
    exact ⟨rfl, EditPost.no (by rw [Hget.out, if_neg (by omega)]) (HC.out.trans (M' := fun i => i = g) (Chg.of_below h2) fun i hi => .inl hi)⟩
  refine (shapeOf_ok kn _ (by omega) (by omega) HTb.out).mono ?_
  rintro e w2 ⟨rfl, h2⟩
  unfold shV shCs
  have hs2 : w1.heap.size < w2.heap.size := Nat.lt_of_lt_of_le (by simp) h2.size
  have HS := Lib.hid (Bx.new w2 (shCs kn).toArray 65 _ rfl)
  unfold shCs at HS
  have HE := Lib.hid ((HE.out.on h2).alloc (.cells #[.int .u64 (Ed.seqB kn).1, .int .u64 (Ed.seqB kn).2, .bool (Ed.nameT kn), .int .u64 (Ed.idB kn).1, .int .u64 (Ed.idB kn).2, .int .u64 (Ed.manyB kn).1, .int .u64 (Ed.manyB kn).2] 65))
  have HT := Lib.hid ((HT.out.on h2).alloc (.cells #[.int .u64 (Ed.seqB kn).1, .int .u64 (Ed.seqB kn).2, .bool (Ed.nameT kn), .int .u64 (Ed.idB kn).1, .int .u64 (Ed.idB kn).2, .int .u64 (Ed.manyB kn).1, .int .u64 (Ed.manyB kn).2] 65))
  have HR := Lib.hid ((HR.out.on h2).on (bnew w2 (.cells #[.int .u64 (Ed.seqB kn).1, .int .u64 (Ed.seqB kn).2, .bool (Ed.nameT kn), .int .u64 (Ed.idB kn).1, .int .u64 (Ed.idB kn).2, .int .u64 (Ed.manyB kn).1, .int .u64 (Ed.manyB kn).2] 65)))
  have HC := Lib.hid ((HC.out.trans (M' := fun i => i = g) (Chg.of_below h2) fun i hi => .inl hi).alloc (.cells #[.int .u64 (Ed.seqB kn).1, .int .u64 (Ed.seqB kn).2, .bool (Ed.nameT kn), .int .u64 (Ed.idB kn).1, .int .u64 (Ed.idB kn).2, .int .u64 (Ed.manyB kn).1, .int .u64 (Ed.manyB kn).2] 65))
  have hget2 := Hget.out
  rw [if_pos (by omega)] at hget2
  have Hget := Lib.hid hget2
  clear h2 HTb hg hget2
  go_wp2_with fail
  have H1 := Lib.hid hs1'
  have H2 := Lib.hid hs2
  rcases hn : Ed.part (Ed.seqB kn) l1 with c | ⟨sq, l2⟩
  · refine (part_er g (Ed.seqB kn) l1 c _ HR.out hn).mono ?_
    rintro e w9 ⟨rfl, hb⟩
    go_wp2_with fail
    exact ⟨rfl, EditPost.no (by rw [Hget.out]; simp only [Ed.bodyP, Ed.bnd, hn]) (HC.out.trans (M' := fun i => i = g) (Chg.of_below hb) fun i hi => .inl hi)⟩
  refine (part_ok g (Ed.seqB kn) l1 l2 sq _ HR.out hn).mono ?_
  rintro e w3 ⟨rfl, hr, hc⟩
  have sE := HE.out.chg hc (by have := H1.out; have := H2.out; omega)
  obtain ⟨x0, x1, x2, x3, x4⟩ := sE.at5
  obtain ⟨f0, f1, f2, f3, f4⟩ := sE.free5
  have sS := HS.out.chg hc (by have := H1.out; have := H2.out; omega)
  obtain ⟨d0, d1, d2, d3, d4, d5, d6⟩ := sS.at7
  have HE := Lib.hid (sE.set 2 (.int .u64 (sq : Int)) (by simp))
  simp only [List.set_cons_zero, List.set_cons_succ] at HE
  have HS := Lib.hid (sS.other ⟨w1.heap.size, 2, none⟩ (.int .u64 (sq : Int)) (by have := H2.out; simp; omega))
  have HT := Lib.hid ((HT.out.chg hc (by omega)).other ⟨w1.heap.size, 2, none⟩ (.int .u64 (sq : Int)) (by have := H1.out; simp; omega))
  have HR := Lib.hid (hr.other ⟨w1.heap.size, 2, none⟩ (.int .u64 (sq : Int)) (by have := H1.out; simp; omega))
  have HC := Lib.hid ((HC.out.trans hc fun i hi => .inl hi).setNew ⟨w1.heap.size, 2, none⟩ (.int .u64 (sq : Int)) (by have := H1.out; simp; omega))
  clear hr hc sE sS
  have N1 := Lib.hid hn
  clear hn
  cases hnt : Ed.nameT kn
  · rw [hnt] at d2
    have Hnt := Lib.hid hnt
    clear hnt
    have N2 := Lib.hid (show Ed.nameP kn l2 = .ok ([], l2) by unfold Ed.nameP; rw [Hnt.out]; rfl)
    go_wp2_with fail
    clear x0 x1 x2 x3 x4 f0 f1 f2 f3 f4 d0 d1 d2 d3 d4 d5 d6
    rcases hn : Ed.part (Ed.idB kn) l2 with c | ⟨idn, l4⟩
    · refine (part_er g (Ed.idB kn) l2 c _ HR.out hn).mono ?_
      rintro e w9 ⟨rfl, hb⟩
      go_wp2_with fail
      exact ⟨rfl, EditPost.no (by rw [Hget.out]; simp only [Ed.bodyP, Ed.bnd, N1.out, N2.out, hn]) (HC.out.trans (M' := fun i => i = g) (Chg.of_below hb) fun i hi => .inl hi)⟩
    refine (part_ok g (Ed.idB kn) l2 l4 idn _ HR.out hn).mono ?_
    rintro e w5 ⟨rfl, hr, hc⟩
    have sE := HE.out.chg hc (by have := H1.out; have := H2.out; omega)
    obtain ⟨x0, x1, x2, x3, x4⟩ := sE.at5
    obtain ⟨f0, f1, f2, f3, f4⟩ := sE.free5
    have sS := HS.out.chg hc (by have := H1.out; have := H2.out; omega)
    obtain ⟨d0, d1, d2, d3, d4, d5, d6⟩ := sS.at7
    have hidl := Ed.idB_le _ _ (Ed.part_bwd hn).1
    have z1 : IntKind.u32.wrap (idn : Int) = (idn : Int) := IntWalk.u32_in _ (by omega)
    have HE := Lib.hid (sE.set 3 (.int .u32 (idn : Int)) (by simp))
    simp only [List.set_cons_zero, List.set_cons_succ] at HE
    have HS := Lib.hid (sS.other ⟨w1.heap.size, 3, none⟩ (.int .u32 (idn : Int)) (by have := H2.out; simp; omega))
    have HT := Lib.hid ((HT.out.chg hc (by omega)).other ⟨w1.heap.size, 3, none⟩ (.int .u32 (idn : Int)) (by have := H1.out; simp; omega))
    have HR := Lib.hid (hr.other ⟨w1.heap.size, 3, none⟩ (.int .u32 (idn : Int)) (by have := H1.out; simp; omega))
    have HC := Lib.hid ((HC.out.trans hc fun i hi => .inl hi).setNew ⟨w1.heap.size, 3, none⟩ (.int .u32 (idn : Int)) (by have := H1.out; simp; omega))
    clear hr hc sE sS
    have N3 := Lib.hid hn
    clear hn
    go_wp2_with fail
    clear x0 x1 x2 x3 x4 f0 f1 f2 f3 f4 d0 d1 d2 d3 d4 d5 d6
    rcases hn : Ed.part (Ed.manyB kn) l4 with c | ⟨many, l5⟩
    · refine (part_er g (Ed.manyB kn) l4 c _ HR.out hn).mono ?_
      rintro e w9 ⟨rfl, hb⟩
      go_wp2_with fail
      exact ⟨rfl, EditPost.no (by rw [Hget.out]; simp only [Ed.bodyP, Ed.bnd, N1.out, N2.out, N3.out, hn]) (HC.out.trans (M' := fun i => i = g) (Chg.of_below hb) fun i hi => .inl hi)⟩
    refine (part_ok g (Ed.manyB kn) l4 l5 many _ HR.out hn).mono ?_
    rintro e w6 ⟨rfl, hr, hc⟩
    have sE := HE.out.chg hc (by have := H1.out; have := H2.out; omega)
    obtain ⟨x0, x1, x2, x3, x4⟩ := sE.at5
    obtain ⟨f0, f1, f2, f3, f4⟩ := sE.free5
    have sS := HS.out.chg hc (by have := H1.out; have := H2.out; omega)
    obtain ⟨d0, d1, d2, d3, d4, d5, d6⟩ := sS.at7
    have hml := Ed.many_le _ _ (Ed.part_bwd hn).1
    have HE := Lib.hid sE
    have HS := Lib.hid sS
    have HT := Lib.hid (HT.out.chg hc (by omega))
    have HR := Lib.hid hr
    have HC := Lib.hid (HC.out.trans hc fun i hi => .inl hi)
    clear hr hc sE sS
    have N4 := Lib.hid hn
    clear hn
    clear x0 x1 x2 x3 x4 f0 f1 f2 f3 f4 d0 d1 d2 d3 d4 d5 d6
    go_wp2_with fail
    have H6 := Lib.hid (show w2.heap.size < w6.heap.size from HS.out.lt)
    have hgl2 : g < w6.heap.size := HR.out.lt
    go_loopg [5, 33] many (fun q av iv wr => ∃ (j a : Nat) (acc : List Ed.Sl) (rest : List UInt8) (v : Value), j + q = many ∧ a ≤ 16777215 ∧ av = .int .u32 a ∧ iv = .int .u64 j ∧ Ed.sealsP many 0 l5 = Ed.app acc (Ed.sealsP (many - j) a rest) ∧ Bx wr w1.heap.size [.int .i64 (kn : Int), .string ⟨#[]⟩, .int .u64 (sq : Int), .int .u32 (idn : Int), v] ∧ wr.ownsRow w6.heap.size 28 5 v acc.length (slVs acc) ∧ acc.length = j ∧ RdA wr g rest ∧ Bx wr w.heap.size [.int .i64 0, .string ⟨#[]⟩, .int .u64 0, .int .u32 0, .slice none 0 0] ∧ Chg (fun i => i = g) w wr ∧ w6.heap.size ≤ wr.heap.size)
    case atStart => exact ⟨0, 0, [], l5, .slice none 0 0, by omega, by omega, rfl, rfl, (Ed.app_nil _).symm, HE.out, World.ownsRow_nil _ _ _ _, rfl, HR.out, HT.out, HC.out, Nat.le_refl _⟩
    case round =>
      obtain ⟨j, a, acc, rest, v, hj, ha, rfl, rfl, hsp, hE, hown, hacc, hR, hT, hC, h6⟩ := hrel
      obtain ⟨Av, cv, rfl, _, _, _⟩ := own_slice hown
      by_cases hlt : j < many
      · have Hsp := Lib.hid hsp
        have HEr := Lib.hid hE
        have HO := Lib.hid hown
        have HRr := Lib.hid hR
        have HTr := Lib.hid hT
        have HCr := Lib.hid hC
        have H6r := Lib.hid h6
        have Hac := Lib.hid hacc
        clear hsp hE hown hR hT hC h6 hacc
        go_wp2_with fail
        rcases hn : Ed.sealP a rest with c | ⟨s, r⟩
        · refine (seal_er g a c rest wr HRr.out (by omega) hn).mono ?_
          rintro e w9 ⟨rfl, hb⟩
          go_wp2_with fail
          refine ⟨rfl, EditPost.no ?_ (HCr.out.trans hb fun i hi => .inl hi)⟩
          have hs9 : Ed.sealsP many 0 l5 = .error c := by
            rw [Hsp.out, show many - j = (many - j - 1) + 1 by omega]
            exact Ed.seals_er hn
          rw [Hget.out]
          simp only [Ed.bodyP, Ed.bnd, N1.out, N2.out, N3.out, N4.out, hs9]
        refine (seal_ok g a rest r s wr HRr.out (by omega) hn).mono ?_
        unfold slV
        rintro e w7 ⟨rfl, hr, hc⟩
        obtain ⟨hm1, hm2, _⟩ := Ed.sealP_bwd hn
        have hids : s.id ≤ 16777215 := by simp only [Ed.mayS, decide_eq_true_eq] at hm1; omega
        have Hn := Lib.hid hn
        have hs7 := hc.size
        have b7 := balloc (bnew w7 (.cells #[.int .u32 s.id, .int .u32 s.size, .int .u32 s.many, .int .u64 s.first, .int .u64 s.last] 28)) (.cells #[.int .u32 s.id, .int .u32 s.size, .int .u32 s.many, .int .u64 s.first, .int .u64 s.last] 28)
        have hEg : ¬ w1.heap.size = g := (by have := H1.out; have := H2.out; omega)
        have hTg : ¬ w.heap.size = g := by omega
        have sE := (HEr.out.chg hc hEg).on b7
        have hEc := (HEr.out.chg hc hEg).alloc (.cells #[.int .u32 s.id, .int .u32 s.size, .int .u32 s.many, .int .u64 s.first, .int .u64 s.last] 28)
        obtain ⟨x0, x1, x2, x3, x4⟩ := hEc.at5
        have hOb : ∀ i, Value.ownBlock (.slice Av acc.length cv) = some i → w6.heap.size ≤ i := fun i hi => (HO.out.lt i hi).1
        have HO7 := Lib.hid (own_below (hc.own HO.out fun i hi => by have := hOb i hi; show ¬ i = g; omega) b7 (Nat.le_refl _))
        have HE7 := Lib.hid sE
        have HR7 := Lib.hid (hr.on b7)
        have HT7 := Lib.hid ((HTr.out.chg hc hTg).on b7)
        have HC7 := Lib.hid ((HCr.out.trans hc fun i hi => .inl hi).trans (M' := fun i => i = g) (Chg.of_below b7) fun i hi => .inl hi)
        have H67 := Lib.hid (show w6.heap.size ≤ ((w7.alloc (.cells #[.int .u32 s.id, .int .u32 s.size, .int .u32 s.many, .int .u64 s.first, .int .u64 s.last] 28)).alloc (.cells #[.int .u32 s.id, .int .u32 s.size, .int .u32 s.many, .int .u64 s.first, .int .u64 s.last] 28)).heap.size by simp; have := H6r.out; omega)
        have hL7 := Rd_one (w7.alloc (.cells #[.int .u32 s.id, .int .u32 s.size, .int .u32 s.many, .int .u64 s.first, .int .u64 s.last] 28)) s 28
        rw [show (w7.alloc (.cells #[.int .u32 s.id, .int .u32 s.size, .int .u32 s.many, .int .u64 s.first, .int .u64 s.last] 28)).heap.size = w7.heap.size + 1 by simp] at hL7
        have HL7 := Lib.hid hL7
        have Hob := Lib.hid hOb
        obtain ⟨i0, hi0, hz0, hz1, hz2⟩ := info_parts seal_info
        clear hn hc hr hm1 hm2 b7 sE hEc hOb hs7 hEg hTg hL7
        go_wp2_with (at_builtin; (refine wpList_append_rd _ rfl _ _ 24 rfl w6.heap.size 28 i0 (.agg #[.int .u32 0, .int .u32 0, .int .u32 0, .int .u64 0, .int .u64 0]) 5 32 Tryd.underlying24 hi0 hz0 hz1 hz2 rfl (by omega) (.slice Av acc.length cv) acc.length (slVs acc) rfl HO7.out (w7.heap.size + 1 + 1) (some ⟨w7.heap.size + 1, 0, none⟩) 1 1 (slVs [s]) rfl (slVs_length [s]) HL7.out (slVs_one [s]) (by have := Hac.out; unfold maxLen; omega) (by have := Hac.out; omega) H67.out ?_); intro v8 w8 hown8 hbw8 hgr8 hblk8; clear x0 x1 x2 x3 x4; obtain ⟨A8, c8, rfl, _, _, _⟩ := own_slice hown8; have hc8 := (Chg.of_grown (M := fun i => Value.ownBlock (.slice Av acc.length cv) = some i) hgr8 fun g hg => hg); have hE8 := (HE7.out.chg hc8 (fun e => by have := Hob.out _ e; have := H2.out; have := H6.out; omega)); obtain ⟨x0, x1, x2, x3, x4⟩ := hE8.at5; obtain ⟨f0, f1, f2, f3, f4⟩ := hE8.free5; have HE8 := Lib.hid hE8; have HO8 := Lib.hid hown8; have Hc8 := Lib.hid hc8; clear hown8 hbw8 hgr8 hblk8 hc8 hE8)
        go_roundg (gk - 1)
        case measure => omega
        case rel =>
          have h2 := H2.out
          have h6 := H6.out
          have hs8 := Hc8.out.size
          have ho8 : w8.ownsRow w6.heap.size 28 5 (.slice A8 (acc.length + 1) c8) (acc ++ [s]).length (slVs (acc ++ [s])) := by
            rw [slVs_append, List.length_append]
            exact HO8.out
          have hset : Chg (fun i => i = w1.heap.size) w8 (w8.setCell ⟨w1.heap.size, 4, none⟩ (.slice A8 (acc.length + 1) c8)) := Chg.setCell (M := fun i => i = w1.heap.size) (p := ⟨w1.heap.size, 4, none⟩) Chg.refl rfl _
          have hR8 : RdA w8 g r := HR7.out.chg Hc8.out fun b hb e => by have := Hob.out b e; omega
          have hT8 := HT7.out.chg Hc8.out fun e => by have := Hob.out _ e; omega
          have hC8 : Chg (fun i => i = g) w w8 := HC7.out.trans Hc8.out fun i e => .inr (by have := Hob.out i e; omega)
          have h67 := H67.out
          have hE9 := HE8.out.set 4 (.slice A8 (acc.length + 1) c8) (by simp)
          simp only [List.set_cons_zero, List.set_cons_succ] at hE9
          refine ⟨j + 1, s.id, acc ++ [s], r, (.slice A8 (acc.length + 1) c8), by omega, hids, rfl, by go_num, ?_, hE9, hset.own ho8 (fun gb hgb => ?_), by rw [List.length_append, Hac.out]; rfl, hR8.other ⟨w1.heap.size, 4, none⟩ (.slice A8 (acc.length + 1) c8) (by show g < w1.heap.size; omega), hT8.other ⟨w1.heap.size, 4, none⟩ (.slice A8 (acc.length + 1) c8) (by show w1.heap.size ≠ w.heap.size; omega), hC8.setNew ⟨w1.heap.size, 4, none⟩ (.slice A8 (acc.length + 1) c8) (by show w.heap.size ≤ w1.heap.size; omega), by simp only [World.size_setCell]; omega⟩
          · rw [Hsp.out, show many - j = (many - (j + 1)) + 1 by omega]
            exact Ed.seals_ok Hn.out
          · have := (ho8.lt gb hgb).1
            show ¬ gb = w1.heap.size
            omega
      · have hjm : j = many := by omega
        rw [hjm, Nat.sub_self] at hsp
        have hbody : Ed.bodyP kn l1 = .ok (⟨kn, ⟨[].toArray⟩, sq, idn, acc⟩, rest) := by
          simp only [Ed.bodyP, Ed.bnd, N1.out, N2.out, N3.out, N4.out, hsp, Ed.sealsP, Ed.ret, Ed.app, List.append_nil]
        have hge := Hget.out
        rw [hbody] at hge
        obtain ⟨Ar, cr, hRb, hRc, hRr, hR63⟩ := id hR
        have rc0 := hRb.cell 0 _ rfl
        obtain ⟨x0, x1, x2, x3, x4⟩ := hE.at5
        obtain ⟨t0, t1, t2, t3, t4⟩ := hT.at5
        obtain ⟨v0, v1, v2, v3, v4⟩ := hT.free5
        have HEr := Lib.hid hE
        have HO := Lib.hid hown
        have HTr := Lib.hid hT
        have HCr := Lib.hid hC
        have H6r := Lib.hid h6
        have Hge := Lib.hid hge
        clear hsp hE hown hR hT hC h6 hacc hjm hbody hge hRb hRr hj
        rcases rest with _ | ⟨y, ys⟩
        rotate_left
        · have hpos : 0 < (y :: ys).length := by simp
          generalize hrl : (y :: ys).length = rl at *
          go_wp2_with fail
          exact ⟨rfl, EditPost.no Hge.out HCr.out⟩
        · simp only [List.length_nil] at rc0
          go_wp2_with fail
          have hob : ∀ gb, Value.ownBlock (.slice Av acc.length cv) = some gb → ¬ gb = w.heap.size := fun gb hgb => by have := (HO.out.lt gb hgb).1; have := H2.out; have := H6.out; omega
          have hT5 := (((((HTr.out.set 0 (.int .i64 (kn : Int)) (by simp)).set 1 (.string ⟨#[]⟩) (by simp)).set 2 (.int .u64 (sq : Int)) (by simp)).set 3 (.int .u32 (idn : Int)) (by simp)).set 4 (.slice Av acc.length cv) (by simp))
          have hC5 := (((((HCr.out.setNew ⟨w.heap.size, 0, none⟩ (.int .i64 (kn : Int)) (Nat.le_refl _)).setNew ⟨w.heap.size, 1, none⟩ (.string ⟨#[]⟩) (Nat.le_refl _)).setNew ⟨w.heap.size, 2, none⟩ (.int .u64 (sq : Int)) (Nat.le_refl _)).setNew ⟨w.heap.size, 3, none⟩ (.int .u32 (idn : Int)) (Nat.le_refl _)).setNew ⟨w.heap.size, 4, none⟩ (.slice Av acc.length cv) (Nat.le_refl _))
          have hO5 := ((Chg.setCell (M := fun i => i = w.heap.size) (p := ⟨w.heap.size, 4, none⟩) Chg.refl rfl (.slice Av acc.length cv)).own ((Chg.setCell (M := fun i => i = w.heap.size) (p := ⟨w.heap.size, 3, none⟩) Chg.refl rfl (.int .u32 (idn : Int))).own ((Chg.setCell (M := fun i => i = w.heap.size) (p := ⟨w.heap.size, 2, none⟩) Chg.refl rfl (.int .u64 (sq : Int))).own ((Chg.setCell (M := fun i => i = w.heap.size) (p := ⟨w.heap.size, 1, none⟩) Chg.refl rfl (.string ⟨#[]⟩)).own ((Chg.setCell (M := fun i => i = w.heap.size) (p := ⟨w.heap.size, 0, none⟩) Chg.refl rfl (.int .i64 (kn : Int))).own HO.out hob) hob) hob) hob) hob)
          simp only [List.set_cons_zero, List.set_cons_succ] at hT5
          obtain ⟨u0, u1, u2, u3, u4⟩ := hT5.at5
          exact bodyPost_ret (v := edV kn ⟨[].toArray⟩ sq idn (.slice Av acc.length cv)) (by simp [results, Tryd.results39, go_sem, u0, u1, u2, u3, u4, edV]) rfl (EditPost.yes Hge.out (own_base hO5 (by have := H1.out; have := H2.out; have := H6.out; omega)) hC5)
  · rw [hnt] at d2
    have Hnt := Lib.hid hnt
    clear hnt
    have hnp : Ed.nameP kn l2 = Ed.name l2 := by unfold Ed.nameP; rw [Hnt.out]; rfl
    have Hnp := Lib.hid hnp
    clear hnp
    go_wp2_with fail
    clear x0 x1 x2 x3 x4 f0 f1 f2 f3 f4 d0 d1 d2 d3 d4 d5 d6
    rcases hn : Ed.name l2 with c | ⟨nm, l3⟩
    · refine (name_er g l2 c _ HR.out hn).mono ?_
      rintro e w9 ⟨rfl, hb⟩
      go_wp2_with fail
      exact ⟨rfl, EditPost.no (by rw [Hget.out]; simp only [Ed.bodyP, Ed.bnd, N1.out, Hnp.out, hn]) (HC.out.trans (M' := fun i => i = g) (hb) fun i hi => .inl hi)⟩
    refine (name_ok g l2 l3 nm _ HR.out hn).mono ?_
    rintro e w4 ⟨rfl, hr, hc⟩
    have sE := HE.out.chg hc (by have := H1.out; have := H2.out; omega)
    obtain ⟨x0, x1, x2, x3, x4⟩ := sE.at5
    obtain ⟨f0, f1, f2, f3, f4⟩ := sE.free5
    have sS := HS.out.chg hc (by have := H1.out; have := H2.out; omega)
    obtain ⟨d0, d1, d2, d3, d4, d5, d6⟩ := sS.at7
    have HE := Lib.hid (sE.set 1 (.string ⟨nm.toArray⟩) (by simp))
    simp only [List.set_cons_zero, List.set_cons_succ] at HE
    have HS := Lib.hid (sS.other ⟨w1.heap.size, 1, none⟩ (.string ⟨nm.toArray⟩) (by have := H2.out; simp; omega))
    have HT := Lib.hid ((HT.out.chg hc (by omega)).other ⟨w1.heap.size, 1, none⟩ (.string ⟨nm.toArray⟩) (by have := H1.out; simp; omega))
    have HR := Lib.hid (hr.other ⟨w1.heap.size, 1, none⟩ (.string ⟨nm.toArray⟩) (by have := H1.out; simp; omega))
    have HC := Lib.hid ((HC.out.trans hc fun i hi => .inl hi).setNew ⟨w1.heap.size, 1, none⟩ (.string ⟨nm.toArray⟩) (by have := H1.out; simp; omega))
    clear hr hc sE sS
    have N2 := Lib.hid hn
    clear hn
    go_wp2_with fail
    clear x0 x1 x2 x3 x4 f0 f1 f2 f3 f4 d0 d1 d2 d3 d4 d5 d6
    rcases hn : Ed.part (Ed.idB kn) l3 with c | ⟨idn, l4⟩
    · refine (part_er g (Ed.idB kn) l3 c _ HR.out hn).mono ?_
      rintro e w9 ⟨rfl, hb⟩
      go_wp2_with fail
      exact ⟨rfl, EditPost.no (by rw [Hget.out]; simp only [Ed.bodyP, Ed.bnd, N1.out, Hnp.out, N2.out, hn]) (HC.out.trans (M' := fun i => i = g) (Chg.of_below hb) fun i hi => .inl hi)⟩
    refine (part_ok g (Ed.idB kn) l3 l4 idn _ HR.out hn).mono ?_
    rintro e w5 ⟨rfl, hr, hc⟩
    have sE := HE.out.chg hc (by have := H1.out; have := H2.out; omega)
    obtain ⟨x0, x1, x2, x3, x4⟩ := sE.at5
    obtain ⟨f0, f1, f2, f3, f4⟩ := sE.free5
    have sS := HS.out.chg hc (by have := H1.out; have := H2.out; omega)
    obtain ⟨d0, d1, d2, d3, d4, d5, d6⟩ := sS.at7
    have hidl := Ed.idB_le _ _ (Ed.part_bwd hn).1
    have z1 : IntKind.u32.wrap (idn : Int) = (idn : Int) := IntWalk.u32_in _ (by omega)
    have HE := Lib.hid (sE.set 3 (.int .u32 (idn : Int)) (by simp))
    simp only [List.set_cons_zero, List.set_cons_succ] at HE
    have HS := Lib.hid (sS.other ⟨w1.heap.size, 3, none⟩ (.int .u32 (idn : Int)) (by have := H2.out; simp; omega))
    have HT := Lib.hid ((HT.out.chg hc (by omega)).other ⟨w1.heap.size, 3, none⟩ (.int .u32 (idn : Int)) (by have := H1.out; simp; omega))
    have HR := Lib.hid (hr.other ⟨w1.heap.size, 3, none⟩ (.int .u32 (idn : Int)) (by have := H1.out; simp; omega))
    have HC := Lib.hid ((HC.out.trans hc fun i hi => .inl hi).setNew ⟨w1.heap.size, 3, none⟩ (.int .u32 (idn : Int)) (by have := H1.out; simp; omega))
    clear hr hc sE sS
    have N3 := Lib.hid hn
    clear hn
    go_wp2_with fail
    clear x0 x1 x2 x3 x4 f0 f1 f2 f3 f4 d0 d1 d2 d3 d4 d5 d6
    rcases hn : Ed.part (Ed.manyB kn) l4 with c | ⟨many, l5⟩
    · refine (part_er g (Ed.manyB kn) l4 c _ HR.out hn).mono ?_
      rintro e w9 ⟨rfl, hb⟩
      go_wp2_with fail
      exact ⟨rfl, EditPost.no (by rw [Hget.out]; simp only [Ed.bodyP, Ed.bnd, N1.out, Hnp.out, N2.out, N3.out, hn]) (HC.out.trans (M' := fun i => i = g) (Chg.of_below hb) fun i hi => .inl hi)⟩
    refine (part_ok g (Ed.manyB kn) l4 l5 many _ HR.out hn).mono ?_
    rintro e w6 ⟨rfl, hr, hc⟩
    have sE := HE.out.chg hc (by have := H1.out; have := H2.out; omega)
    obtain ⟨x0, x1, x2, x3, x4⟩ := sE.at5
    obtain ⟨f0, f1, f2, f3, f4⟩ := sE.free5
    have sS := HS.out.chg hc (by have := H1.out; have := H2.out; omega)
    obtain ⟨d0, d1, d2, d3, d4, d5, d6⟩ := sS.at7
    have hml := Ed.many_le _ _ (Ed.part_bwd hn).1
    have HE := Lib.hid sE
    have HS := Lib.hid sS
    have HT := Lib.hid (HT.out.chg hc (by omega))
    have HR := Lib.hid hr
    have HC := Lib.hid (HC.out.trans hc fun i hi => .inl hi)
    clear hr hc sE sS
    have N4 := Lib.hid hn
    clear hn
    clear x0 x1 x2 x3 x4 f0 f1 f2 f3 f4 d0 d1 d2 d3 d4 d5 d6
    go_wp2_with fail
    have H6 := Lib.hid (show w2.heap.size < w6.heap.size from HS.out.lt)
    have hgl2 : g < w6.heap.size := HR.out.lt
    go_loopg [5, 33] many (fun q av iv wr => ∃ (j a : Nat) (acc : List Ed.Sl) (rest : List UInt8) (v : Value), j + q = many ∧ a ≤ 16777215 ∧ av = .int .u32 a ∧ iv = .int .u64 j ∧ Ed.sealsP many 0 l5 = Ed.app acc (Ed.sealsP (many - j) a rest) ∧ Bx wr w1.heap.size [.int .i64 (kn : Int), .string ⟨nm.toArray⟩, .int .u64 (sq : Int), .int .u32 (idn : Int), v] ∧ wr.ownsRow w6.heap.size 28 5 v acc.length (slVs acc) ∧ acc.length = j ∧ RdA wr g rest ∧ Bx wr w.heap.size [.int .i64 0, .string ⟨#[]⟩, .int .u64 0, .int .u32 0, .slice none 0 0] ∧ Chg (fun i => i = g) w wr ∧ w6.heap.size ≤ wr.heap.size)
    case atStart => exact ⟨0, 0, [], l5, .slice none 0 0, by omega, by omega, rfl, rfl, (Ed.app_nil _).symm, HE.out, World.ownsRow_nil _ _ _ _, rfl, HR.out, HT.out, HC.out, Nat.le_refl _⟩
    case round =>
      obtain ⟨j, a, acc, rest, v, hj, ha, rfl, rfl, hsp, hE, hown, hacc, hR, hT, hC, h6⟩ := hrel
      obtain ⟨Av, cv, rfl, _, _, _⟩ := own_slice hown
      by_cases hlt : j < many
      · have Hsp := Lib.hid hsp
        have HEr := Lib.hid hE
        have HO := Lib.hid hown
        have HRr := Lib.hid hR
        have HTr := Lib.hid hT
        have HCr := Lib.hid hC
        have H6r := Lib.hid h6
        have Hac := Lib.hid hacc
        clear hsp hE hown hR hT hC h6 hacc
        go_wp2_with fail
        rcases hn : Ed.sealP a rest with c | ⟨s, r⟩
        · refine (seal_er g a c rest wr HRr.out (by omega) hn).mono ?_
          rintro e w9 ⟨rfl, hb⟩
          go_wp2_with fail
          refine ⟨rfl, EditPost.no ?_ (HCr.out.trans hb fun i hi => .inl hi)⟩
          have hs9 : Ed.sealsP many 0 l5 = .error c := by
            rw [Hsp.out, show many - j = (many - j - 1) + 1 by omega]
            exact Ed.seals_er hn
          rw [Hget.out]
          simp only [Ed.bodyP, Ed.bnd, N1.out, Hnp.out, N2.out, N3.out, N4.out, hs9]
        refine (seal_ok g a rest r s wr HRr.out (by omega) hn).mono ?_
        unfold slV
        rintro e w7 ⟨rfl, hr, hc⟩
        obtain ⟨hm1, hm2, _⟩ := Ed.sealP_bwd hn
        have hids : s.id ≤ 16777215 := by simp only [Ed.mayS, decide_eq_true_eq] at hm1; omega
        have Hn := Lib.hid hn
        have hs7 := hc.size
        have b7 := balloc (bnew w7 (.cells #[.int .u32 s.id, .int .u32 s.size, .int .u32 s.many, .int .u64 s.first, .int .u64 s.last] 28)) (.cells #[.int .u32 s.id, .int .u32 s.size, .int .u32 s.many, .int .u64 s.first, .int .u64 s.last] 28)
        have hEg : ¬ w1.heap.size = g := (by have := H1.out; have := H2.out; omega)
        have hTg : ¬ w.heap.size = g := by omega
        have sE := (HEr.out.chg hc hEg).on b7
        have hEc := (HEr.out.chg hc hEg).alloc (.cells #[.int .u32 s.id, .int .u32 s.size, .int .u32 s.many, .int .u64 s.first, .int .u64 s.last] 28)
        obtain ⟨x0, x1, x2, x3, x4⟩ := hEc.at5
        have hOb : ∀ i, Value.ownBlock (.slice Av acc.length cv) = some i → w6.heap.size ≤ i := fun i hi => (HO.out.lt i hi).1
        have HO7 := Lib.hid (own_below (hc.own HO.out fun i hi => by have := hOb i hi; show ¬ i = g; omega) b7 (Nat.le_refl _))
        have HE7 := Lib.hid sE
        have HR7 := Lib.hid (hr.on b7)
        have HT7 := Lib.hid ((HTr.out.chg hc hTg).on b7)
        have HC7 := Lib.hid ((HCr.out.trans hc fun i hi => .inl hi).trans (M' := fun i => i = g) (Chg.of_below b7) fun i hi => .inl hi)
        have H67 := Lib.hid (show w6.heap.size ≤ ((w7.alloc (.cells #[.int .u32 s.id, .int .u32 s.size, .int .u32 s.many, .int .u64 s.first, .int .u64 s.last] 28)).alloc (.cells #[.int .u32 s.id, .int .u32 s.size, .int .u32 s.many, .int .u64 s.first, .int .u64 s.last] 28)).heap.size by simp; have := H6r.out; omega)
        have hL7 := Rd_one (w7.alloc (.cells #[.int .u32 s.id, .int .u32 s.size, .int .u32 s.many, .int .u64 s.first, .int .u64 s.last] 28)) s 28
        rw [show (w7.alloc (.cells #[.int .u32 s.id, .int .u32 s.size, .int .u32 s.many, .int .u64 s.first, .int .u64 s.last] 28)).heap.size = w7.heap.size + 1 by simp] at hL7
        have HL7 := Lib.hid hL7
        have Hob := Lib.hid hOb
        obtain ⟨i0, hi0, hz0, hz1, hz2⟩ := info_parts seal_info
        clear hn hc hr hm1 hm2 b7 sE hEc hOb hs7 hEg hTg hL7
        go_wp2_with (at_builtin; (refine wpList_append_rd _ rfl _ _ 24 rfl w6.heap.size 28 i0 (.agg #[.int .u32 0, .int .u32 0, .int .u32 0, .int .u64 0, .int .u64 0]) 5 32 Tryd.underlying24 hi0 hz0 hz1 hz2 rfl (by omega) (.slice Av acc.length cv) acc.length (slVs acc) rfl HO7.out (w7.heap.size + 1 + 1) (some ⟨w7.heap.size + 1, 0, none⟩) 1 1 (slVs [s]) rfl (slVs_length [s]) HL7.out (slVs_one [s]) (by have := Hac.out; unfold maxLen; omega) (by have := Hac.out; omega) H67.out ?_); intro v8 w8 hown8 hbw8 hgr8 hblk8; clear x0 x1 x2 x3 x4; obtain ⟨A8, c8, rfl, _, _, _⟩ := own_slice hown8; have hc8 := (Chg.of_grown (M := fun i => Value.ownBlock (.slice Av acc.length cv) = some i) hgr8 fun g hg => hg); have hE8 := (HE7.out.chg hc8 (fun e => by have := Hob.out _ e; have := H2.out; have := H6.out; omega)); obtain ⟨x0, x1, x2, x3, x4⟩ := hE8.at5; obtain ⟨f0, f1, f2, f3, f4⟩ := hE8.free5; have HE8 := Lib.hid hE8; have HO8 := Lib.hid hown8; have Hc8 := Lib.hid hc8; clear hown8 hbw8 hgr8 hblk8 hc8 hE8)
        go_roundg (gk - 1)
        case measure => omega
        case rel =>
          have h2 := H2.out
          have h6 := H6.out
          have hs8 := Hc8.out.size
          have ho8 : w8.ownsRow w6.heap.size 28 5 (.slice A8 (acc.length + 1) c8) (acc ++ [s]).length (slVs (acc ++ [s])) := by
            rw [slVs_append, List.length_append]
            exact HO8.out
          have hset : Chg (fun i => i = w1.heap.size) w8 (w8.setCell ⟨w1.heap.size, 4, none⟩ (.slice A8 (acc.length + 1) c8)) := Chg.setCell (M := fun i => i = w1.heap.size) (p := ⟨w1.heap.size, 4, none⟩) Chg.refl rfl _
          have hR8 : RdA w8 g r := HR7.out.chg Hc8.out fun b hb e => by have := Hob.out b e; omega
          have hT8 := HT7.out.chg Hc8.out fun e => by have := Hob.out _ e; omega
          have hC8 : Chg (fun i => i = g) w w8 := HC7.out.trans Hc8.out fun i e => .inr (by have := Hob.out i e; omega)
          have h67 := H67.out
          have hE9 := HE8.out.set 4 (.slice A8 (acc.length + 1) c8) (by simp)
          simp only [List.set_cons_zero, List.set_cons_succ] at hE9
          refine ⟨j + 1, s.id, acc ++ [s], r, (.slice A8 (acc.length + 1) c8), by omega, hids, rfl, by go_num, ?_, hE9, hset.own ho8 (fun gb hgb => ?_), by rw [List.length_append, Hac.out]; rfl, hR8.other ⟨w1.heap.size, 4, none⟩ (.slice A8 (acc.length + 1) c8) (by show g < w1.heap.size; omega), hT8.other ⟨w1.heap.size, 4, none⟩ (.slice A8 (acc.length + 1) c8) (by show w1.heap.size ≠ w.heap.size; omega), hC8.setNew ⟨w1.heap.size, 4, none⟩ (.slice A8 (acc.length + 1) c8) (by show w.heap.size ≤ w1.heap.size; omega), by simp only [World.size_setCell]; omega⟩
          · rw [Hsp.out, show many - j = (many - (j + 1)) + 1 by omega]
            exact Ed.seals_ok Hn.out
          · have := (ho8.lt gb hgb).1
            show ¬ gb = w1.heap.size
            omega
      · have hjm : j = many := by omega
        rw [hjm, Nat.sub_self] at hsp
        have hbody : Ed.bodyP kn l1 = .ok (⟨kn, ⟨nm.toArray⟩, sq, idn, acc⟩, rest) := by
          simp only [Ed.bodyP, Ed.bnd, N1.out, Hnp.out, N2.out, N3.out, N4.out, hsp, Ed.sealsP, Ed.ret, Ed.app, List.append_nil]
        have hge := Hget.out
        rw [hbody] at hge
        obtain ⟨Ar, cr, hRb, hRc, hRr, hR63⟩ := id hR
        have rc0 := hRb.cell 0 _ rfl
        obtain ⟨x0, x1, x2, x3, x4⟩ := hE.at5
        obtain ⟨t0, t1, t2, t3, t4⟩ := hT.at5
        obtain ⟨v0, v1, v2, v3, v4⟩ := hT.free5
        have HEr := Lib.hid hE
        have HO := Lib.hid hown
        have HTr := Lib.hid hT
        have HCr := Lib.hid hC
        have H6r := Lib.hid h6
        have Hge := Lib.hid hge
        clear hsp hE hown hR hT hC h6 hacc hjm hbody hge hRb hRr hj
        rcases rest with _ | ⟨y, ys⟩
        rotate_left
        · have hpos : 0 < (y :: ys).length := by simp
          generalize hrl : (y :: ys).length = rl at *
          go_wp2_with fail
          exact ⟨rfl, EditPost.no Hge.out HCr.out⟩
        · simp only [List.length_nil] at rc0
          go_wp2_with fail
          have hob : ∀ gb, Value.ownBlock (.slice Av acc.length cv) = some gb → ¬ gb = w.heap.size := fun gb hgb => by have := (HO.out.lt gb hgb).1; have := H2.out; have := H6.out; omega
          have hT5 := (((((HTr.out.set 0 (.int .i64 (kn : Int)) (by simp)).set 1 (.string ⟨nm.toArray⟩) (by simp)).set 2 (.int .u64 (sq : Int)) (by simp)).set 3 (.int .u32 (idn : Int)) (by simp)).set 4 (.slice Av acc.length cv) (by simp))
          have hC5 := (((((HCr.out.setNew ⟨w.heap.size, 0, none⟩ (.int .i64 (kn : Int)) (Nat.le_refl _)).setNew ⟨w.heap.size, 1, none⟩ (.string ⟨nm.toArray⟩) (Nat.le_refl _)).setNew ⟨w.heap.size, 2, none⟩ (.int .u64 (sq : Int)) (Nat.le_refl _)).setNew ⟨w.heap.size, 3, none⟩ (.int .u32 (idn : Int)) (Nat.le_refl _)).setNew ⟨w.heap.size, 4, none⟩ (.slice Av acc.length cv) (Nat.le_refl _))
          have hO5 := ((Chg.setCell (M := fun i => i = w.heap.size) (p := ⟨w.heap.size, 4, none⟩) Chg.refl rfl (.slice Av acc.length cv)).own ((Chg.setCell (M := fun i => i = w.heap.size) (p := ⟨w.heap.size, 3, none⟩) Chg.refl rfl (.int .u32 (idn : Int))).own ((Chg.setCell (M := fun i => i = w.heap.size) (p := ⟨w.heap.size, 2, none⟩) Chg.refl rfl (.int .u64 (sq : Int))).own ((Chg.setCell (M := fun i => i = w.heap.size) (p := ⟨w.heap.size, 1, none⟩) Chg.refl rfl (.string ⟨nm.toArray⟩)).own ((Chg.setCell (M := fun i => i = w.heap.size) (p := ⟨w.heap.size, 0, none⟩) Chg.refl rfl (.int .i64 (kn : Int))).own HO.out hob) hob) hob) hob) hob)
          simp only [List.set_cons_zero, List.set_cons_succ] at hT5
          obtain ⟨u0, u1, u2, u3, u4⟩ := hT5.at5
          exact bodyPost_ret (v := edV kn ⟨nm.toArray⟩ sq idn (.slice Av acc.length cv)) (by simp [results, Tryd.results39, go_sem, u0, u1, u2, u3, u4, edV]) rfl (EditPost.yes Hge.out (own_base hO5 (by have := H1.out; have := H2.out; have := H6.out; omega)) hC5)
end Go.Proofs.YtggijjknfcofoaaDoor
