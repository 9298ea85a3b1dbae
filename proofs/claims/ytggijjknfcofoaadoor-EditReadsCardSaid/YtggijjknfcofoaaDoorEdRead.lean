
/-
  Layer 9: the reader: number, take, kind, part, name.
-/
import Derived.Test.YtggijjknfcofoaaDoorEdPut
import Derived.Test.YtggijjknfcofoaaDoorCut
set_option linter.unusedVariables false
set_option linter.unusedSimpArgs false
namespace Go.Proofs.YtggijjknfcofoaaDoor
open Go.RowKit

/-- the reader in block g has l left; its bytes lie below it -/
def RdA (w : World) (g : Nat) (l : List UInt8) : Prop := ∃ A c, Bx w g [.slice A l.length c] ∧ l.length ≤ c ∧ Rd w g A (bvs l) ∧ l.length ≤ 9223372036854775807
theorem RdA.lt {w : World} {g : Nat} {l : List UInt8} (h : RdA w g l) : g < w.heap.size := by
  obtain ⟨A, c, hb, _⟩ := h
  exact hb.lt
theorem RdA.on {w w' : World} {g : Nat} {l : List UInt8} (h : RdA w g l) (hb : Below w.heap.size w w') : RdA w' g l := by
  obtain ⟨A, c, h1, h2, h3, h4⟩ := h
  exact ⟨A, c, h1.on hb, h2, h3.below hb (Nat.le_of_lt h1.lt), h4⟩

theorem RdA.put {w : World} {g : Nat} {v : Value} {r : List UInt8} {A : Option Addr} {c : Nat} (h : Bx w g [v]) (hc : r.length ≤ c) (hr : Rd w g A (bvs r)) (hl : r.length ≤ 9223372036854775807) :
    RdA (w.setCell ⟨g, 0, none⟩ (.slice A r.length c)) g r := by
  refine ⟨A, c, ⟨by simpa using h.lt, fun j v hv => ?_, fun j v hv => ?_⟩, hc, hr.setCell (Nat.le_refl _) _, hl⟩
  · rcases j with _ | j
    · simp at hv
      subst hv
      exact World.cell?_setCell_same _ _ _ (h.cell 0 _ rfl)
    · simp at hv
  · rw [World.frozen?_setCell]
    rcases j with _ | j
    · exact h.free 0 _ rfl
    · simp at hv
namespace Ed
theorem num_ok {lo hi n : Nat} {l r : List UInt8} (h : num lo hi l = .ok (n, r)) : ∃ k, Px.getN l = (n, k, 0) ∧ k ≤ l.length ∧ lo ≤ n ∧ n ≤ hi ∧ r = l.drop k := by
  unfold num at h
  rcases Px.getN_cases l with (h1 | h1) | ⟨m, k, h1, h2, h3, h4, h5, h6⟩
  · rw [h1] at h; simp at h
  · rw [h1] at h; simp at h
  · rw [h1] at h
    simp only [if_true] at h
    split at h
    · rename_i hb
      injection h with h
      injection h with ha hb'
      subst ha hb'
      exact ⟨k, h1, h4, hb.1, hb.2, rfl⟩
    · cases h
theorem num_er {lo hi c : Nat} {l : List UInt8} (h : num lo hi l = .error c) : (Px.getN l = (0, 0, c) ∧ c ≠ 0) ∨ (∃ n k, Px.getN l = (n, k, 0) ∧ inB (lo, hi) n = false ∧ c = 5) := by
  unfold num at h
  rcases Px.getN_cases l with (h1 | h1) | ⟨m, k, h1, h2, h3, h4, h5, h6⟩
  · rw [h1] at h; simp at h; subst h; exact .inl ⟨h1, by omega⟩
  · rw [h1] at h; simp at h; subst h; exact .inl ⟨h1, by omega⟩
  · rw [h1] at h
    simp only [if_true] at h
    split at h
    · cases h
    · rename_i hb
      injection h with h
      exact .inr ⟨m, k, h1, by simpa [inB] using hb, h.symm⟩
end Ed
theorem getV_of {l : List UInt8} {n k e : Nat} (h : Px.getN l = (n, k, e)) : getV l = .tuple #[.int .u64 n, .int .i64 k, .int .i64 e] := by
  unfold getV
  rw [h]

set_option maxRecDepth 100000 in
set_option maxHeartbeats 4000000 in
theorem number_ok (g : Nat) (b : Nat × Nat) (l r : List UInt8) (n : Nat) (w : World) (h : RdA w g l) (hn : Ed.num b.1 b.2 l = .ok (n, r)) :
    Calls Tryd.prog 68 #[.pointer (some ⟨g, 0, none⟩), bdV b] w fun e w' => e = .returned (.int .u64 n) ∧ RdA w' g r ∧ Chg (fun i => i = g) w w' := by
  obtain ⟨k, hg, hkl, h1, h2, rfl⟩ := Ed.num_ok hn
  obtain ⟨A, c, hB, hc, hr, hl63⟩ := h
  have hgl := hB.lt
  have hib : Ed.inB b n = true := by simp [Ed.inB, h1, h2]
  obtain ⟨A', c', hcut, hc', hcr⟩ := cut_l A l.length c k (l.length - k) (by omega) hc
  unfold bdV
  have b0 := bnew w (.cells #[.int .u64 b.1, .int .u64 b.2] 63)
  have HX := Lib.hid (Bx.new w #[.int .u64 b.1, .int .u64 b.2] 63 _ rfl)
  have x0 := (hB.on b0).cell 0 _ rfl
  have HB := Lib.hid (hB.on b0)
  have HR := Lib.hid (hr.below b0 (Nat.le_of_lt hgl))
  have B0 := Lib.hid b0
  have Hib := Lib.hid hib
  have Hg := Lib.hid hg
  have Hl := Lib.hid hkl
  have Hlc := Lib.hid hc
  have Hcr := Lib.hid hcr
  clear b0 hB hr hn h1 h2 hg hib hkl hcr
  go_enter Tryd.func68, Tryd.ntmps68
  go_wp2_with fail
  refine (get_b _ l g _ ⟨A, c, rfl, Hlc.out, HR.out⟩ hl63).mono ?_
  rw [getV_of Hg.out]
  rintro e w1 ⟨rfl, h1⟩
  clear x0
  have HB := Lib.hid (HB.out.on h1)
  have HR := Lib.hid (HR.out.below h1 (by simp; omega))
  have B1 := Lib.hid (bstep B0.out h1)
  obtain ⟨y0, y1⟩ : w1.cell? ⟨w.heap.size, 0, none⟩ = some (.int .u64 b.1) ∧ w1.cell? ⟨w.heap.size, 1, none⟩ = some (.int .u64 b.2) := ⟨(HX.out.on h1).cell 0 _ rfl, (HX.out.on h1).cell 1 _ rfl⟩
  clear h1
  go_wp2_with fail
  refine (hold_yes b n _ Hib.out).mono ?_
  rintro e w2 ⟨rfl, h2⟩
  have x2 := (HB.out.on h2).cell 0 _ rfl
  have f2 := (HB.out.on h2).free 0 _ rfl
  have HB := Lib.hid (HB.out.on h2)
  have HR := Lib.hid (HR.out.below h2 (by have := B1.out.size; omega))
  have B2 := Lib.hid (bstep B1.out h2)
  clear h2 y0 y1
  go_wp2_with fail
  go_ret
  rw [show l.length - k = (l.drop k).length by rw [List.length_drop]]
  exact ⟨rfl, RdA.put HB.out (by rw [List.length_drop]; exact hc') (Hcr.out _ _ _ Hlc.out HR.out) (by rw [List.length_drop]; omega), Chg.setCell (M := fun i => i = g) (p := ⟨g, 0, none⟩) (Chg.of_below B2.out) rfl _⟩

set_option maxRecDepth 100000 in
set_option maxHeartbeats 4000000 in
theorem number_er (g : Nat) (b : Nat × Nat) (l : List UInt8) (ec : Nat) (w : World) (h : RdA w g l) (hn : Ed.num b.1 b.2 l = .error ec) :
    Calls Tryd.prog 68 #[.pointer (some ⟨g, 0, none⟩), bdV b] w fun e w' => e = gone ec ∧ Below w.heap.size w w' := by
  obtain ⟨A, c, hB, hc, hr, hl63⟩ := h
  have hgl := hB.lt
  unfold bdV
  have b0 := bnew w (.cells #[.int .u64 b.1, .int .u64 b.2] 63)
  have HX := Lib.hid (Bx.new w #[.int .u64 b.1, .int .u64 b.2] 63 _ rfl)
  have x0 := (hB.on b0).cell 0 _ rfl
  have HR := Lib.hid (hr.below b0 (Nat.le_of_lt hgl))
  have B0 := Lib.hid b0
  have Hlc := Lib.hid hc
  clear b0 hB hr
  rcases Ed.num_er hn with ⟨hg, hc0⟩ | ⟨n, k, hg, hib, rfl⟩
  · have Hg := Lib.hid hg
    have hne : ((ec : Int) == 0) = false := by simp; omega
    clear hg hn hc0
    go_enter Tryd.func68, Tryd.ntmps68
    go_wp2_with fail
    refine (get_b _ l g _ ⟨A, c, rfl, Hlc.out, HR.out⟩ hl63).mono ?_
    rw [getV_of Hg.out]
    rintro e w1 ⟨rfl, h1⟩
    go_wp2_with fail
    exact ⟨rfl, rfl, bstep B0.out h1⟩
  · have Hg := Lib.hid hg
    have Hib := Lib.hid hib
    clear hg hib hn
    go_enter Tryd.func68, Tryd.ntmps68
    go_wp2_with fail
    refine (get_b _ l g _ ⟨A, c, rfl, Hlc.out, HR.out⟩ hl63).mono ?_
    rw [getV_of Hg.out]
    rintro e w1 ⟨rfl, h1⟩
    obtain ⟨y0, y1⟩ : w1.cell? ⟨w.heap.size, 0, none⟩ = some (.int .u64 b.1) ∧ w1.cell? ⟨w.heap.size, 1, none⟩ = some (.int .u64 b.2) := ⟨(HX.out.on h1).cell 0 _ rfl, (HX.out.on h1).cell 1 _ rfl⟩
    have B1 := Lib.hid (bstep B0.out h1)
    clear h1 x0
    go_wp2_with fail
    refine (hold_no b n _ Hib.out).mono ?_
    rintro e w2 ⟨rfl, h2⟩
    go_wp2_with fail
    exact ⟨rfl, rfl, bstep B1.out h2⟩

set_option maxRecDepth 100000 in
set_option maxHeartbeats 4000000 in
theorem take_ok (g : Nat) (n : Nat) (l : List UInt8) (w : World) (h : RdA w g l) (hn : n ≤ l.length) :
    Calls Tryd.prog 67 #[.pointer (some ⟨g, 0, none⟩), .int .i64 n] w fun e w' => (∃ A' c', e = .returned (.slice A' n c') ∧ n ≤ c' ∧ Rd w' g A' (bvs (l.take n))) ∧ RdA w' g (l.drop n) ∧ Chg (fun i => i = g) w w' := by
  obtain ⟨A, c, hB, hc, hr, hl63⟩ := h
  have hgl := hB.lt
  obtain ⟨A', c', hcut, hc', hcr⟩ := cut_l A l.length c n (l.length - n) (by omega) hc
  obtain ⟨A2, c2, hcut2, hc2, hcr2⟩ := cut_h A l.length c n hn hc
  have x0 := hB.cell 0 _ rfl
  have z0 := hB.free 0 _ rfl
  have HB := Lib.hid hB
  have HR := Lib.hid hr
  have Hlc := Lib.hid hc
  have Hcr := Lib.hid hcr
  have Hcr2 := Lib.hid hcr2
  have hno : ¬ l.length < n := by omega
  clear hB hr hcr hcr2
  go_enter Tryd.func67, Tryd.ntmps67
  go_wp2_with fail
  go_ret
  rw [show l.length - n = (l.drop n).length by rw [List.length_drop]]
  refine ⟨⟨_, _, rfl, hc2, ?_⟩, RdA.put HB.out (by rw [List.length_drop]; exact hc') (Hcr.out _ _ _ Hlc.out HR.out) (by rw [List.length_drop]; omega), Chg.setCell (M := fun i => i = g) (p := ⟨g, 0, none⟩) Chg.refl rfl _⟩
  exact Rd.setCell (Hcr2.out _ _ _ rfl HR.out) (Nat.le_refl _) _
theorem take_er (g : Nat) (n : Nat) (l : List UInt8) (w : World) (h : RdA w g l) (hn : l.length < n) :
    Calls Tryd.prog 67 #[.pointer (some ⟨g, 0, none⟩), .int .i64 n] w fun e w' => e = gone 4 ∧ Below w.heap.size w w' := by
  obtain ⟨A, c, hB, hc, hr, hl63⟩ := h
  have x0 := hB.cell 0 _ rfl
  clear hB hr
  go_enter Tryd.func67, Tryd.ntmps67
  go_wp2_with fail
  exact ⟨rfl, rfl, Below.refl _ _⟩

theorem kind_ok (g : Nat) (x : UInt8) (r : List UInt8) (w : World) (h : RdA w g (x :: r)) :
    Calls Tryd.prog 54 #[.pointer (some ⟨g, 0, none⟩)] w fun e w' => e = .returned (.int .i64 ((x.toNat : Nat) : Int)) ∧ RdA w' g r ∧ Chg (fun i => i = g) w w' := by
  have hxl := UInt8.toNat_lt x
  have z1 : IntKind.i64.wrap (x.toNat : Int) = (x.toNat : Int) := IntWalk.i64_in _ (by omega)
  go_enter Tryd.func54, Tryd.ntmps54
  go_wp2_with fail
  refine (take_ok g 1 (x :: r) w h (by simp)).mono ?_
  rintro e w1 ⟨⟨A', c', rfl, hc', hr'⟩, hr1, h1⟩
  obtain ⟨b, o, rfl, hbb, hcc⟩ := hr' (by simp [bvs])
  have c0 : w1.cell? ⟨b, o, none⟩ = some (.int .u8 (x.toNat : Int)) := hcc 0 _ rfl
  have H1 := Lib.hid (And.intro hr1 h1)
  clear hcc hr' hr1 h1
  go_wp2_with fail
  go_ret
  exact ⟨rfl, by simpa using H1.out.1, H1.out.2⟩
theorem kind_er (g : Nat) (w : World) (h : RdA w g []) :
    Calls Tryd.prog 54 #[.pointer (some ⟨g, 0, none⟩)] w fun e w' => e = gone 4 ∧ Below w.heap.size w w' := by
  go_enter Tryd.func54, Tryd.ntmps54
  go_wp2_with fail
  refine (take_er g 1 [] w h (by simp)).mono ?_
  rintro e w1 ⟨rfl, h1⟩
  go_wp2_with fail
  exact ⟨rfl, rfl, h1⟩

theorem part_ok (g : Nat) (b : Nat × Nat) (l r : List UInt8) (n : Nat) (w : World) (h : RdA w g l) (hn : Ed.part b l = .ok (n, r)) :
    Calls Tryd.prog 55 #[.pointer (some ⟨g, 0, none⟩), bdV b] w fun e w' => e = .returned (.int .u64 n) ∧ RdA w' g r ∧ Chg (fun i => i = g) w w' := by
  have b0 := bnew w (.cells #[.int .u64 b.1, .int .u64 b.2] 63)
  have HX := Lib.hid (Bx.new w #[.int .u64 b.1, .int .u64 b.2] 63 _ rfl)
  have HR := Lib.hid (h.on b0)
  have B0 := Lib.hid b0
  have Hn := Lib.hid hn
  clear b0 h hn
  by_cases hb : b.1 = b.2
  · have Hb := Lib.hid hb
    clear hb
    have hc := fun w => btold_b b w false (by simp [Hb.out])
    unfold bdV at *
    go_enter Tryd.func55, Tryd.ntmps55
    go_wp2_with fail
    refine (hc _).mono ?_
    rintro e w1 ⟨rfl, h1⟩
    have y0 := (HX.out.on h1).cell 0 _ rfl
    have H1 := Lib.hid h1
    clear h1
    go_wp2_with fail
    go_ret
    have e0 := Hn.out
    unfold Ed.part at e0
    rw [if_pos Hb.out] at e0
    injection e0 with e0
    injection e0 with e1 e2
    subst e1 e2
    exact ⟨rfl, HR.out.on H1.out, Chg.of_below (bstep B0.out H1.out)⟩
  · have Hb := Lib.hid hb
    clear hb
    have hc := fun w => btold_b b w true (by simp [Hb.out])
    have hc2 := fun (w1 : World) (h1 : RdA w1 g l) => number_ok g b l r n w1 h1 (by have e0 := Hn.out; unfold Ed.part at e0; rw [if_neg Hb.out] at e0; exact e0)
    unfold bdV at *
    go_enter Tryd.func55, Tryd.ntmps55
    go_wp2_with fail
    refine (hc _).mono ?_
    rintro e w1 ⟨rfl, h1⟩
    have y0 := (HX.out.on h1).cell 0 _ rfl
    have y1 := (HX.out.on h1).cell 1 _ rfl
    have H1 := Lib.hid h1
    clear h1
    go_wp2_with fail
    refine (hc2 _ (HR.out.on H1.out)).mono ?_
    rintro e w2 ⟨rfl, h2, h3⟩
    have H2 := Lib.hid (And.intro h2 h3)
    clear h2 h3
    go_wp2_with fail
    go_ret
    exact ⟨rfl, H2.out.1, (Chg.of_below (bstep B0.out H1.out)).trans (M' := fun i => i = g) H2.out.2 fun i hi => .inl hi⟩
theorem part_er (g : Nat) (b : Nat × Nat) (l : List UInt8) (c : Nat) (w : World) (h : RdA w g l) (hn : Ed.part b l = .error c) :
    Calls Tryd.prog 55 #[.pointer (some ⟨g, 0, none⟩), bdV b] w fun e w' => e = gone c ∧ Below w.heap.size w w' := by
  have b0 := bnew w (.cells #[.int .u64 b.1, .int .u64 b.2] 63)
  have HX := Lib.hid (Bx.new w #[.int .u64 b.1, .int .u64 b.2] 63 _ rfl)
  have HR := Lib.hid (h.on b0)
  have B0 := Lib.hid b0
  have Hn := Lib.hid hn
  clear b0 h hn
  by_cases hb : b.1 = b.2
  · exfalso
    have e0 := Hn.out
    unfold Ed.part at e0
    rw [if_pos hb] at e0
    cases e0
  · have Hb := Lib.hid hb
    clear hb
    have hc := fun w => btold_b b w true (by simp [Hb.out])
    have hc2 := fun (w1 : World) (h1 : RdA w1 g l) => number_er g b l c w1 h1 (by have e0 := Hn.out; unfold Ed.part at e0; rw [if_neg Hb.out] at e0; exact e0)
    unfold bdV at *
    go_enter Tryd.func55, Tryd.ntmps55
    go_wp2_with fail
    refine (hc _).mono ?_
    rintro e w1 ⟨rfl, h1⟩
    have y0 := (HX.out.on h1).cell 0 _ rfl
    have y1 := (HX.out.on h1).cell 1 _ rfl
    have H1 := Lib.hid h1
    clear h1
    go_wp2_with fail
    refine (hc2 _ (HR.out.on H1.out)).mono ?_
    rintro e w2 ⟨rfl, h2⟩
    go_wp2_with fail
    exact ⟨rfl, rfl, bstep (bstep B0.out H1.out) h2⟩

theorem Ed.bnd_er {α β : Type} {p : Ed.P α} {q : α → Ed.P β} {l : List UInt8} {c : Nat} (h : Ed.bnd p q l = .error c) : p l = .error c ∨ ∃ x m, p l = .ok (x, m) ∧ q x m = .error c := by
  unfold Ed.bnd at h
  split at h
  · rename_i x m hp
    exact .inr ⟨x, m, hp, h⟩
  · rename_i e he
    injection h with h
    subst h
    exact .inl he
theorem name_ok (g : Nat) (l r nm : List UInt8) (w : World) (h : RdA w g l) (hn : Ed.name l = .ok (nm, r)) :
    Calls Tryd.prog 56 #[.pointer (some ⟨g, 0, none⟩)] w fun e w' => e = .returned (.string ⟨nm.toArray⟩) ∧ RdA w' g r ∧ Chg (fun i => i = g) w w' := by
  obtain ⟨n, m, h1, h2⟩ := Ed.bnd_ok hn
  obtain ⟨k, hk1, hk2, n1, n2, hk3⟩ := Ed.num_ok h1
  clear hk1 hk2 hk3
  have hc := number_ok g (1, 32) l m n w h h1
  unfold Ed.tk at h2
  split at h2
  · cases h2
  rename_i hnl
  injection h2 with h2
  injection h2 with e1 e2
  subst e1 e2
  have z1 : IntKind.i64.wrap (n : Int) = (n : Int) := IntWalk.i64_in _ (by omega)
  have hcv := fun (w' : World) (B : Nat) (A : Option Addr) (cc : Nat) (hr : Rd w' B A (bvs (m.take n))) => convert_rd (P := Tryd.prog) hr cc 30 5 9 Tryd.underlying30 Tryd.underlying5 Tryd.underlying9
  rw [show (m.take n).length = n by rw [List.length_take]; omega] at hcv
  have Hcv := Lib.hid hcv
  have Hnl := Lib.hid hnl
  unfold bdV at hc
  clear hcv hn h h1 hnl n1 n2
  go_enter Tryd.func56, Tryd.ntmps56
  go_wp2_with fail
  refine hc.mono ?_
  rintro e w1 ⟨rfl, h1, h3⟩
  have H3 := Lib.hid h3
  have H1 := Lib.hid h1
  clear h3 h1
  go_wp2_with fail
  refine (take_ok g n m w1 H1.out (by have := Hnl.out; omega)).mono ?_
  rintro e w2 ⟨⟨A', c', rfl, hc', hr'⟩, hr1, h1⟩
  have H4 := Lib.hid (And.intro hr1 h1)
  have hcv := Hcv.out w2 g A' c' hr'
  clear hr' hr1 h1
  go_wp2_with fail
  go_ret
  exact ⟨rfl, H4.out.1, H3.out.trans (M' := fun i => i = g) H4.out.2 fun i hi => .inl hi⟩
theorem name_er (g : Nat) (l : List UInt8) (c : Nat) (w : World) (h : RdA w g l) (hn : Ed.name l = .error c) :
    Calls Tryd.prog 56 #[.pointer (some ⟨g, 0, none⟩)] w fun e w' => e = gone c ∧ Chg (fun i => i = g) w w' := by
  rcases Ed.bnd_er hn with h1 | ⟨n, m, h1, h2⟩
  · have hc := number_er g (1, 32) l c w h h1
    unfold bdV at hc
    clear hn h1
    go_enter Tryd.func56, Tryd.ntmps56
    go_wp2_with fail
    refine hc.mono ?_
    rintro e w1 ⟨rfl, h1⟩
    go_wp2_with fail
    exact ⟨rfl, rfl, Chg.of_below h1⟩
  · obtain ⟨k, hk1, hk2, n1, n2, hk3⟩ := Ed.num_ok h1
    clear hk1 hk2 hk3
    have hc := number_ok g (1, 32) l m n w h h1
    unfold Ed.tk at h2
    split at h2
    · rename_i hnl
      injection h2 with h2
      subst h2
      have z1 : IntKind.i64.wrap (n : Int) = (n : Int) := IntWalk.i64_in _ (by omega)
      have Hnl := Lib.hid hnl
      unfold bdV at hc
      clear hn h h1 hnl n1 n2
      go_enter Tryd.func56, Tryd.ntmps56
      go_wp2_with fail
      refine hc.mono ?_
      rintro e w1 ⟨rfl, h1, h3⟩
      have H3 := Lib.hid h3
      have H1 := Lib.hid h1
      clear h3 h1
      go_wp2_with fail
      refine (take_er g n m w1 H1.out Hnl.out).mono ?_
      rintro e w2 ⟨rfl, h2⟩
      go_wp2_with fail
      exact ⟨rfl, rfl, H3.out.trans (M' := fun i => i = g) (Chg.of_below h2) fun i hi => .inl hi⟩
    · cases h2
end Go.Proofs.YtggijjknfcofoaaDoor
