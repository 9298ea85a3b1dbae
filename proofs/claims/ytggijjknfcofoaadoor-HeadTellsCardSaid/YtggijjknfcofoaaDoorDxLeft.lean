
/-
  Layer 2, the document's answer: the walk of 'left' (the division).
-/
import Derived.Test.YtggijjknfcofoaaDoorDxMem
set_option linter.unusedVariables false
set_option linter.unusedSimpArgs false
namespace Go.Proofs.YtggijjknfcofoaaDoor.Crc
open Go.RowKit

/-- a window of bools that may be written: block g from place o on -/
def OwnB (w : World) (base g o : Nat) (l : List Bool) : Prop := base ≤ g ∧ g < w.heap.size ∧ ∀ k c, l[k]? = some c → w.cell? ⟨g, o + k, none⟩ = some (.bool c) ∧ w.frozen? ⟨g, o + k, none⟩ = false
theorem OwnB.of_own {w : World} {base g n cap : Nat} {l : List Bool} (h : w.ownsRow base 4 1 (.slice (some ⟨g, 0, none⟩) n cap) n (blvs l)) : OwnB w base g 0 l := by
  have hlt := h.lt g rfl
  refine ⟨hlt.1, hlt.2, fun k c hk => ?_⟩
  have h1 := h.cells (g := g) rfl k _ (blvs_get? l k c hk)
  rw [add_none] at h1
  exact ⟨h1, by rw [Nat.zero_add]; exact h.frozenAt k⟩
theorem OwnB.drop {w : World} {base g o : Nat} {l : List Bool} (h : OwnB w base g o l) (m : Nat) : OwnB w base g (o + m) (l.drop m) :=
  ⟨h.1, h.2.1, fun k c hk => by
    rw [List.getElem?_drop] at hk
    have := h.2.2 (m + k) c hk
    rw [Nat.add_assoc]
    exact this⟩
theorem OwnB.rd {w : World} {base g o : Nat} {l : List Bool} (h : OwnB w base g o l) : Rd w w.heap.size (some ⟨g, o, none⟩) (blvs l) := fun _ =>
  ⟨g, o, rfl, h.2.1, fun j u hu => by
    simp only [blvs, List.getElem?_map] at hu
    rcases hj : l[j]? with _ | c
    · rw [hj] at hu; cases hu
    · rw [hj] at hu
      simp at hu
      rw [← hu]
      exact (h.2.2 j c hj).1⟩
theorem OwnB.set {w : World} {base g o : Nat} {l : List Bool} (h : OwnB w base g o l) (k : Nat) (b : Bool) (hk : k < l.length) : OwnB (w.setCell ⟨g, o + k, none⟩ (.bool b)) base g o (l.set k b) := by
  refine ⟨h.1, by simpa using h.2.1, fun j c hj => ?_⟩
  refine ⟨?_, ?_⟩
  · by_cases e : j = k
    · subst e
      rw [List.getElem?_set_self hk] at hj
      injection hj with hj
      subst hj
      obtain ⟨x, hx⟩ : ∃ x, l[j]? = some x := ⟨l[j], List.getElem?_eq_getElem hk⟩
      exact World.cell?_setCell_same _ _ _ (h.2.2 j x hx).1
    · rw [List.getElem?_set_ne (Ne.symm e)] at hj
      rw [World.cell?_setCell_other]
      · exact (h.2.2 j c hj).1
      · simp only [ne_eq, Addr.mk.injEq]; omega
  · rw [World.frozen?_setCell]
    by_cases e : j = k
    · subst e
      obtain ⟨x, hx⟩ : ∃ x, l[j]? = some x := ⟨l[j], List.getElem?_eq_getElem hk⟩
      exact (h.2.2 j x hx).2
    · rw [List.getElem?_set_ne (Ne.symm e)] at hj
      exact (h.2.2 j c hj).2
theorem OwnB.drew {w : World} {base g o : Nat} {l : List Bool} (h : OwnB w base g o l) : OwnB w.drew base g o l := h
theorem bne_xor (x y : Bool) : (!(x == y)) = (x ^^ y) := by cases x <;> cases y <;> rfl

set_option maxRecDepth 100000 in
set_option maxHeartbeats 2000000 in
theorem left_any (A : Option Addr) (row : List Bool) (c : Nat) (w : World) (h : Rd w w.heap.size A (blvs row)) (hl : 32 ≤ row.length) (hm : row.length ≤ 1000000) :
    Calls Tryd.prog 72 #[.slice A row.length c] w fun e w' => ∃ (g o cc : Nat) (r : List Bool), e = .returned (.slice (some ⟨g, o, none⟩) 32 cc) ∧ 32 ≤ cc ∧ OwnB w' w.heap.size g o r ∧ r.length = 32 ∧ Cx.val r = Cx.val row ∧ Below w.heap.size w w' := by
  obtain ⟨i0, hi0, hz0, hz1, hz2⟩ := info_parts bool_info
  have Hh := Lib.hid h
  clear h
  obtain ⟨n, hn⟩ : ∃ n, row.length = n := ⟨_, rfl⟩
  have Hn := Lib.hid hn
  rw [hn] at hl hm ⊢
  clear hn
  go_enter Tryd.func72, Tryd.ntmps72
  go_wp2_with fail
  refine (modulus_any _).mono ?_
  rintro e w1 ⟨vm, rfl, hmod, b1⟩
  obtain ⟨gm, capm, rfl, hgm1, hgm2⟩ := hmod.form (by omega)
  have Hmod := Lib.hid hmod
  clear hmod
  go_wp2_with (at_builtin; (refine wpList_append_rd _ rfl _ _ 114 rfl w1.heap.size 4 i0 (.bool false) 1 1 Tryd.underlying114 hi0 hz0 hz1 hz2 rfl (by omega) (.slice none 0 0) 0 [] rfl (World.ownsRow_nil _ _ _ _) w.heap.size A n c (blvs row) rfl (by rw [blvs_length, Hn.out]; omega) (Hh.out.below b1 (Nat.le_refl _)) (blvs_one row) (by unfold maxLen; omega) (by omega) (Nat.le_refl _) ?_); intro v2 w2 hown2 b2 _ _)
  rw [Nat.zero_add, List.nil_append] at hown2
  obtain ⟨g, cap, rfl, hg1, hg2⟩ := hown2.form (by omega)
  have Hown2 := Lib.hid hown2
  clear hown2
  go_loopg [4] 0 (fun k o wr => w2 = wr ∧ o = .slice (some ⟨g, 0, none⟩) n cap)
  case atStart => exact ⟨rfl, rfl⟩
  case round =>
    obtain ⟨rfl, rfl⟩ := hrel
    have hn32 : decide (n < 32) = false := by simp; omega
    go_wp2_with fail
    clear hn32
    go_loopg [5] (n - 32) (fun k i wr => ∃ (j : Nat) (lj : List Bool), j + k = n - 32 ∧ i = .int .i64 j ∧ wr.ownsRow w1.heap.size 4 1 (.slice (some ⟨g, 0, none⟩) n cap) n (blvs lj) ∧ lj.length = n ∧ Cx.val (lj.drop j) = Cx.val row ∧ Below w1.heap.size w1 wr)
    case atStart => exact ⟨0, row, by omega, rfl, Hown2.out, Hn.out, rfl, b2⟩
    case round =>
      obtain ⟨j, lj, hj, rfl, hown, hlj, hval, hb⟩ := hrel
      have Hlj := Lib.hid hlj
      have Hval := Lib.hid hval
      have Hown := Lib.hid hown
      clear hlj hval hown
      by_cases hlt : j + 32 < n
      · have t1 : (j : Int) + 32 < (n : Int) := by omega
        obtain ⟨x, hx⟩ : ∃ x, lj[j]? = some x := ⟨lj[j]'(by rw [Hlj.out]; omega), List.getElem?_eq_getElem _⟩
        have hcell := Hown.out.cellAt j (by omega)
        rw [blvs_get? lj j x hx] at hcell
        obtain ⟨G, rfl⟩ : ∃ G, G = gk := ⟨_, rfl⟩
        rcases x with _ | _
        · have Hx := Lib.hid hx
          clear hx
          go_wp2_with fail
          go_roundg (G - 1)
          case measure => omega
          case rel => exact ⟨j + 1, lj, by omega, by go_num, Hown.out, Hlj.out, by rw [Cx.div_same Hx.out, Hval.out], hb⟩
        · have Hx := Lib.hid hx
          clear hx
          go_wp2_with fail
          clear hcell
          go_loopg [6] 32 (fun k i wx => ∃ (m : Nat) (lm : List Bool), m + k = 32 ∧ i = .int .i64 m ∧ wx.ownsRow w1.heap.size 4 1 (.slice (some ⟨g, 0, none⟩) n cap) n (blvs lm) ∧ Cx.DivIn lj j m lm ∧ Below w1.heap.size w1 wx)
          case atStart => exact ⟨0, lj, by omega, rfl, Hown.out, Cx.DivIn.zero (by rw [Hlj.out]; exact hlt) Hx.out, hb⟩
          case round =>
            obtain ⟨m, lm, hm, rfl, hown, hdiv, hbx⟩ := hrel
            have Hdiv := Lib.hid hdiv
            have Hownm := Lib.hid hown
            clear hdiv hown
            have Hlm := Lib.hid (Hdiv.out.1.trans Hlj.out)
            by_cases hm32 : m < 32
            · obtain ⟨x, hx⟩ : ∃ x, lm[j + 1 + m]? = some x := ⟨lm[j + 1 + m]'(by rw [Hlm.out]; omega), List.getElem?_eq_getElem _⟩
              obtain ⟨y, hy⟩ : ∃ y, Cx.modL[m]? = some y := ⟨Cx.modL[m]'(by rw [Cx.modL_length]; omega), List.getElem?_eq_getElem _⟩
              have hc1 := Hownm.out.cellAt (j + 1 + m) (by omega)
              rw [blvs_get? lm _ x hx] at hc1
              have hf1 := Hownm.out.frozenAt (j + 1 + m)
              have hc2 := (hbx.cell (p := ⟨gm, m, none⟩) hgm2).trans (Hmod.out.cellAt m (by omega))
              rw [blvs_get? Cx.modL m y hy] at hc2
              have Hstep := Lib.hid (Cx.DivIn.step (by rw [Hlj.out]; exact hlt) hm32 Hdiv.out hx hy)
              have hxy := bne_xor x y
              generalize (x ^^ y) = z at hxy Hstep
              clear hx hy
              have t2 : (0 : Int) ≤ (j : Int) + 1 + (m : Int) := by omega
              have t3 : (j : Int) + 1 + (m : Int) < (n : Int) := by omega
              have t4 : ((j : Int) + 1 + (m : Int)).toNat = j + 1 + m := by omega
              have t5 : (m : Int) < 32 := by omega
              have hne : g ≠ gm := by omega
              go_wp2_with fail
              go_region
              go_wp2_with fail
              go_roundg (gk - 1)
              case measure => omega
              case rel =>
                obtain ⟨hst, _⟩ := Hownm.out.stored (j + 1 + m) (.bool z)
                rw [← blvs_set] at hst
                exact ⟨m + 1, _, by omega, by go_num, hst.drew, Hstep.out, (hbx.setCell hg1 _).drew⟩
            · obtain rfl : m = 32 := by omega
              go_wp2_with fail
              go_roundg (G - 1)
              case measure => omega
              case rel => exact ⟨j + 1, lm, by omega, by go_num, Hownm.out, Hlm.out, by rw [Hdiv.out.done, Hval.out], hbx⟩
      · obtain rfl : j = n - 32 := by omega
        obtain ⟨k, rfl⟩ : ∃ k, n = k + 32 := ⟨n - 32, by omega⟩
        rw [Nat.add_sub_cancel] at Hval
        obtain ⟨q, hq⟩ : ∃ q, k + 32 - 32 = q := ⟨_, rfl⟩
        have hq' : q = k := by omega
        rw [hq]
        subst hq'
        clear hq
        have hcap : q + 32 ≤ cap := by
          rcases Hown.out.2 with ⟨h0, _⟩ | ⟨g', cap', cur, hv, _, _, hc, _⟩
          · cases h0
          · injection hv with _ _ h3
            omega
        have t1 : ¬ cap = q := by omega
        go_wp2_with fail
        go_ret
        refine ⟨g, q, cap - q, lj.drop q, ?_, by omega, ?_, by rw [List.length_drop, Hlj.out]; omega, Hval.out, b1.trans (hb.mono b1.size)⟩
        · rfl
        · have := (OwnB.of_own Hown.out).drop q
          rw [Nat.zero_add] at this
          exact ⟨by have := b1.size; omega, this.2.1, this.2.2⟩
end Go.Proofs.YtggijjknfcofoaaDoor.Crc
