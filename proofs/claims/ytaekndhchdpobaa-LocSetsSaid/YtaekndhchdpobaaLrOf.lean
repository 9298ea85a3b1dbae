
/-
  Layer 3: the document's set: Of.
-/
import Derived.Test.YtaekndhchdpobaaLrAdd
set_option linter.unusedVariables false
set_option linter.unusedSimpArgs false
namespace Go.Proofs.Ytaekndhchdpobaa
open Go.RowKit Go.Maps Go.Lib

theorem encL_one (x : Int × Int) : ∀ u ∈ encL x, u.oneCell' = true := by
  intro u hu
  simp only [encL, List.mem_cons, List.not_mem_nil, or_false] at hu
  rcases hu with rfl | rfl <;> rfl
theorem rd_newL (w : World) (x : Int × Int) (t : TypeId) : Rd (w.alloc (.cells #[.int .u32 x.1, .int .u32 x.2] t)) (w.alloc (.cells #[.int .u32 x.1, .int .u32 x.2] t)).heap.size (some ⟨w.heap.size, 0, none⟩) (encL x) := fun _ => ⟨w.heap.size, 0, rfl, by simp, fun j u hu => by
  rw [Nat.zero_add, World.cell?_alloc_new]
  simpa [encL] using hu⟩
theorem cut_while {α : Type} {p : α → Bool} {l : List α} {k : Nat} (h : ∀ x ∈ l.take k, p x = true) (hn : ∀ x, l[k]? = some x → p x = false) : l.take k = l.takeWhile p ∧ l.drop k = l.dropWhile p := by
  induction l generalizing k with
  | nil => simp
  | cons a r ih =>
    rcases k with _ | k
    · have := hn a rfl
      simp [List.takeWhile_cons, List.dropWhile_cons, this]
    · have ha := h a (by simp)
      have := ih (k := k) (fun x hx => h x (by simp [hx])) (fun x hx => hn x (by simpa using hx))
      simp [List.takeWhile_cons, List.dropWhile_cons, ha, this]

set_option maxRecDepth 100000 in
set_option maxHeartbeats 8000000 in
theorem rof_any {w : World} {br B : Nat} {v : Value} {R : List One3} (h : RowAt w br B v R) (hR : R.length < 999990) (hnd : (R.map kOf).Nodup) {g : Int} (g0 : 0 ≤ g) (g1 : g < 4294967296) :
    Calls Try.prog 22 #[.pointer (some ⟨br, 0, none⟩), .int .u32 g] w fun e w' => ∃ u l, e = .returned u ∧ Ls w' w'.heap.size u l ∧ OfR R g R.length l ∧ Below w.heap.size w w' := by
  have H0 := Lib.hid h
  have HND := Lib.hid hnd
  obtain ⟨i0, hi0, hz0, hz1, hz2⟩ := info_parts loc_info
  have hbr : br < w.heap.size := block_of_cell h.cell
  obtain ⟨A, c, rfl, hlc, hcm, _⟩ := own_slice h.own
  have HR := Lib.hid (Rd.of_own h.own)
  have hcw := h.cell
  clear h hnd
  go_enter Try.func22, Try.ntmps22
  go_wp2_with fail
  clear hcw
  go_loopw [5, 6] (fun o i wr => ∃ (j : Nat) (acc : List (Int × Int)), j ≤ R.length ∧ i = .int .i64 j ∧ wr.ownsRow w.heap.size 31 2 o acc.length (lvs acc) ∧ OfR R g j acc ∧ Below w.heap.size w wr) (fun _ i _ => R.length - (intOf i).toNat)
  case atStart => exact ⟨0, [], by omega, rfl, World.ownsRow_nil _ _ _ _, OfR.start R g, Below.refl _ _⟩
  case round =>
    obtain ⟨j, acc, hj, rfl, hown, hof, hb⟩ := hrel
    have hc : wr.cell? ⟨br, 0, none⟩ = some (.slice A R.length c) := (hb.cell (p := ⟨br, 0, none⟩) hbr).trans H0.out.cell
    have hal := hof.len
    have HB := Lib.hid hb
    have HOf := Lib.hid hof
    have hrr := HR.out.below hb (Nat.le_refl _)
    have HRr := Lib.hid hrr
    clear hb hof hrr
    by_cases hlt : j < R.length
    · obtain ⟨⟨xs, xo, xn⟩, hx⟩ : ∃ x, R[j]? = some x := ⟨R[j], List.getElem?_eq_getElem hlt⟩
      obtain ⟨bb, oo, rfl, hbb, hcc⟩ := HRr.out (by intro e; have := congrArg List.length e; rw [ovs_length] at this; simp at this; omega)
      have hg3 := ovs_get R j _ hx
      have c0 : wr.cell? ⟨bb, oo + j * 3, none⟩ = some (.int .u32 xs) := hcc _ _ hg3.1
      have c1 : wr.cell? ⟨bb, oo + j * 3 + 1, none⟩ = some (.int .u32 xo) := hcc _ _ hg3.2.1
      obtain ⟨Ao, co, rfl, hoc, hom, _⟩ := own_slice hown
      have HJ := Lib.hid hx
      have HOwn := Lib.hid hown
      clear hcc hg3 hx hown
      by_cases hseg : xs = g
      · have hs : (xs != g) = false := by simp [hseg]
        have HSeg := Lib.hid (show (xs, xo, xn).1 = g from hseg)
        clear hseg
        go_wp2_with fail
        have bX := bnew wr (.cells #[.int .u32 xs, .int .u32 xo] 31)
        have HXb := Lib.hid (LBox.new wr xs xo 31)
        have HBb := Lib.hid (HB.out.trans (bX.mono HB.out.size))
        have HRb := Lib.hid (((Rd.of_own HOwn.out).below bX (Nat.le_refl _)).mono bX.size)
        clear bX c0 c1 hc HOwn HB
        generalize World.alloc wr _ = wb at *
        generalize wr.heap.size = X at *
        go_loopw [8] (fun i wi => ∃ k : Nat, k ≤ acc.length ∧ i = .int .i64 k ∧ (∀ y ∈ acc.take k, decide (y.2 < xo) = true) ∧ Below wb.heap.size wb wi) (fun i _ => acc.length - (intOf i).toNat)
        case atStart => exact ⟨0, by omega, rfl, by simp, Below.refl _ _⟩
        case round =>
          obtain ⟨k, hk, rfl, hall, hbi⟩ := hrel
          have HXi0 := Lib.hid (HXb.out.on hbi)
          have HBi0 := Lib.hid (HBb.out.trans (hbi.mono HBb.out.size))
          have HRo0 := Lib.hid ((HRb.out.below hbi (Nat.le_refl _)).mono hbi.size)
          have HAll := Lib.hid hall
          have HBw := Lib.hid hbi
          obtain ⟨y1, y2, y3, y4, y5⟩ := HXi0.out
          clear hall hbi HXb HBb HRb
          by_cases hkl : k < acc.length
          · obtain ⟨⟨ys, yo⟩, hy⟩ : ∃ y, acc[k]? = some y := ⟨acc[k], List.getElem?_eq_getElem hkl⟩
            obtain ⟨b2, o2, rfl, hb2, hc2⟩ := HRo0.out (by intro e; have := congrArg List.length e; rw [lvs_length] at this; simp at this; omega)
            have c5 : wr.cell? ⟨b2, o2 + k * 2 + 1, none⟩ = some (.int .u32 yo) := hc2 _ _ (lvs_get acc k _ hy).2
            have HY := Lib.hid hy
            clear hc2 hy
            have hd1 : decide (k < acc.length) = true := by simpa using hkl
            by_cases hlo : yo < xo
            · have hd2 : decide (yo < xo) = true := by simpa using hlo
              go_wp2_with fail
              go_quiet (fail)
              go_wp2_with fail
              go_roundw
              case rel => exact ⟨k + 1, by omega, by go_num, fun y hy => by
                rw [List.take_add_one, HY.out] at hy
                rcases List.mem_append.1 hy with hy | hy
                · exact HAll.out y hy
                · obtain rfl := List.mem_singleton.1 hy
                  exact hd2, bdrewN HBw.out _⟩
              case measure => simp [intOf]; omega
            · have hd2 : decide (yo < xo) = false := by simpa using hlo
              go_wp2_with fail
              go_quiet (fail)
              clear c5 y1 y2 y3 y4 y5
              generalize hWq : World.drewN wr _ = wq
              have HXi : Hid (LBox wq X xs xo) := Lib.hid (by rw [← hWq]; exact HXi0.out)
              have HBi : Hid (Below w.heap.size w wq) := Lib.hid (by rw [← hWq]; exact bdrewN HBi0.out _)
              have HRo : Hid (Rd wq wq.heap.size (some ⟨b2, o2, none⟩) (lvs acc)) := Lib.hid (by rw [← hWq]; exact HRo0.out)
              have HTk := Lib.hid (cut_while (p := fun y : Int × Int => decide (y.2 < xo)) HAll.out (fun y hy => by rw [HY.out] at hy; injection hy with hy; subst hy; exact hd2))
              clear hWq HXi0 HBi0 HRo0 HAll
              obtain ⟨A1, c1, hcut1, hA1⟩ := cutL_h (some ⟨b2, o2, none⟩) acc.length co k (by omega) hoc
              obtain ⟨A2, c2, hcut2, hA2⟩ := cutL_l (some ⟨b2, o2, none⟩) acc.length co k (by omega) hoc
              have HA1 := Lib.hid (hA1 wq wq.heap.size acc rfl HRo.out)
              have HA2 := Lib.hid (hA2 wq wq.heap.size acc rfl HRo.out)
              obtain ⟨y1, y2, y3, y4, y5⟩ := HXi.out
              clear hA1 hA2
              go_wp2_with (at_builtin; first | ((refine wpList_append_rd _ rfl (.tmp 47) (.tmp 50) 48 rfl wq.heap.size 31 i0 (.agg #[.int .u32 0, .int .u32 0]) 2 8 Try.underlying48 hi0 hz0 hz1 hz2 rfl (by omega) (.slice none 0 0) 0 [] rfl (World.ownsRow_nil _ _ _ _) wq.heap.size A1 k c1 (lvs (acc.take k)) rfl (by rw [lvs_length, List.length_take]; omega) HA1.out (lvs_one _) (by unfold maxLen; omega) (by omega) (Nat.le_refl _) ?_); intro v2 w2 hown2 hb2 _ _; clear y1 y2 y3 y4 y5; obtain ⟨y1, y2, y3, y4, y5⟩ := HXi.out.on hb2; have hs2 := hb2.size; have HO2 := Lib.hid hown2; have HB2 := Lib.hid (HBi.out.trans (hb2.mono HBi.out.size)); have HA22 := Lib.hid ((HA2.out.below hb2 (Nat.le_refl _)).alloc hs2 (.cells #[.int .u32 xs, .int .u32 xo] 31)); have HN2 := Lib.hid (rd_newL w2 (xs, xo) 31); clear hown2 hb2) | ((refine wpList_append_rd _ rfl (.tmp 52) (.tmp 54) 48 rfl wq.heap.size 31 i0 (.agg #[.int .u32 0, .int .u32 0]) 2 8 Try.underlying48 hi0 hz0 hz1 hz2 rfl (by omega) v2 (0 + k) ([] ++ lvs (acc.take k)) rfl (HO2.out.alloc _) (w2.alloc (.cells #[.int .u32 xs, .int .u32 xo] 31)).heap.size (some ⟨w2.heap.size, 0, none⟩) 1 1 (encL (xs, xo)) rfl rfl HN2.out (encL_one _) (by unfold maxLen; omega) (by omega) (by simp; omega) ?_); intro v3 w3 hown3 hb3 _ _; have HO3 := Lib.hid hown3; have HB3 := Lib.hid ((HB2.out.alloc HB2.out.size (.cells #[.int .u32 xs, .int .u32 xo] 31)).trans (hb3.mono HBi.out.size)); have HA3 := Lib.hid (HA22.out.below hb3 (Nat.le_refl _)); have hs3 := hb3.size; rw [World.size_alloc] at hs3; clear hown3 hb3 y1 y2 y3 y4 y5) | ((refine wpList_append_rd _ rfl (.tmp 56) (.tmp 59) 48 rfl wq.heap.size 31 i0 (.agg #[.int .u32 0, .int .u32 0]) 2 8 Try.underlying48 hi0 hz0 hz1 hz2 rfl (by omega) v3 (0 + k + 1) ([] ++ lvs (acc.take k) ++ encL (xs, xo)) rfl HO3.out wq.heap.size A2 (acc.length - k) c2 (lvs (acc.drop k)) rfl (by rw [lvs_length, List.length_drop]) HA3.out (lvs_one _) (by unfold maxLen; omega) (by omega) (by omega) ?_); intro v4 w4 hown4 hb4 _ _; have HO4 := Lib.hid hown4; have HB4 := Lib.hid (HB3.out.trans (hb4.mono HBi.out.size)); clear hown4 hb4))
              go_roundw
              case rel =>
                have e1 : acc.take k = acc.takeWhile (fun y => decide (y.2 < xo)) := HTk.out.1
                have e2 : acc.drop k = acc.dropWhile (fun y => decide (y.2 < xo)) := HTk.out.2
                have hins : insL (xs, xo) acc = acc.take k ++ (xs, xo) :: acc.drop k := by unfold insL; rw [e1, e2]
                refine ⟨j + 1, insL (xs, xo) acc, by omega, by go_num, ?_, HOf.out.take HND.out HJ.out HSeg.out, HB4.out⟩
                have hl : (insL (xs, xo) acc).length = 0 + k + 1 + (acc.length - k) := by rw [hins, List.length_append, List.length_cons, List.length_take, List.length_drop]; omega
                rw [hl, hins, lvs_append]
                have e3 : lvs ((xs, xo) :: acc.drop k) = encL (xs, xo) ++ lvs (acc.drop k) := by simp [lvs]
                rw [e3, ← List.append_assoc]
                exact own_base HO4.out HBi.out.size
              case measure => simp [intOf]; omega
          · have hd1 : decide (k < acc.length) = false := by simpa using hkl
            have HGe := Lib.hid (show acc.length ≤ k by omega)
            clear hkl
            go_wp2_with fail
            go_quiet (fail)
            clear y1 y2 y3 y4 y5
            generalize hWq : World.drewN wr _ = wq
            have HXi : Hid (LBox wq X xs xo) := Lib.hid (by rw [← hWq]; exact HXi0.out)
            have HBi : Hid (Below w.heap.size w wq) := Lib.hid (by rw [← hWq]; exact bdrewN HBi0.out _)
            have HRo : Hid (Rd wq wq.heap.size Ao (lvs acc)) := Lib.hid (by rw [← hWq]; exact HRo0.out)
            have HTk := Lib.hid (cut_while (p := fun y : Int × Int => decide (y.2 < xo)) HAll.out (fun y hy => by rw [List.getElem?_eq_none HGe.out] at hy; cases hy))
            clear hWq HXi0 HBi0 HRo0 HAll
            obtain ⟨A1, c1, hcut1, hA1⟩ := cutL_h Ao acc.length co k (by omega) hoc
            obtain ⟨A2, c2, hcut2, hA2⟩ := cutL_l Ao acc.length co k (by omega) hoc
            have HA1 := Lib.hid (hA1 wq wq.heap.size acc rfl HRo.out)
            have HA2 := Lib.hid (hA2 wq wq.heap.size acc rfl HRo.out)
            obtain ⟨y1, y2, y3, y4, y5⟩ := HXi.out
            clear hA1 hA2
            go_wp2_with (at_builtin; first | ((refine wpList_append_rd _ rfl (.tmp 47) (.tmp 50) 48 rfl wq.heap.size 31 i0 (.agg #[.int .u32 0, .int .u32 0]) 2 8 Try.underlying48 hi0 hz0 hz1 hz2 rfl (by omega) (.slice none 0 0) 0 [] rfl (World.ownsRow_nil _ _ _ _) wq.heap.size A1 k c1 (lvs (acc.take k)) rfl (by rw [lvs_length, List.length_take]; omega) HA1.out (lvs_one _) (by unfold maxLen; omega) (by omega) (Nat.le_refl _) ?_); intro v2 w2 hown2 hb2 _ _; clear y1 y2 y3 y4 y5; obtain ⟨y1, y2, y3, y4, y5⟩ := HXi.out.on hb2; have hs2 := hb2.size; have HO2 := Lib.hid hown2; have HB2 := Lib.hid (HBi.out.trans (hb2.mono HBi.out.size)); have HA22 := Lib.hid ((HA2.out.below hb2 (Nat.le_refl _)).alloc hs2 (.cells #[.int .u32 xs, .int .u32 xo] 31)); have HN2 := Lib.hid (rd_newL w2 (xs, xo) 31); clear hown2 hb2) | ((refine wpList_append_rd _ rfl (.tmp 52) (.tmp 54) 48 rfl wq.heap.size 31 i0 (.agg #[.int .u32 0, .int .u32 0]) 2 8 Try.underlying48 hi0 hz0 hz1 hz2 rfl (by omega) v2 (0 + k) ([] ++ lvs (acc.take k)) rfl (HO2.out.alloc _) (w2.alloc (.cells #[.int .u32 xs, .int .u32 xo] 31)).heap.size (some ⟨w2.heap.size, 0, none⟩) 1 1 (encL (xs, xo)) rfl rfl HN2.out (encL_one _) (by unfold maxLen; omega) (by omega) (by simp; omega) ?_); intro v3 w3 hown3 hb3 _ _; have HO3 := Lib.hid hown3; have HB3 := Lib.hid ((HB2.out.alloc HB2.out.size (.cells #[.int .u32 xs, .int .u32 xo] 31)).trans (hb3.mono HBi.out.size)); have HA3 := Lib.hid (HA22.out.below hb3 (Nat.le_refl _)); have hs3 := hb3.size; rw [World.size_alloc] at hs3; clear hown3 hb3 y1 y2 y3 y4 y5) | ((refine wpList_append_rd _ rfl (.tmp 56) (.tmp 59) 48 rfl wq.heap.size 31 i0 (.agg #[.int .u32 0, .int .u32 0]) 2 8 Try.underlying48 hi0 hz0 hz1 hz2 rfl (by omega) v3 (0 + k + 1) ([] ++ lvs (acc.take k) ++ encL (xs, xo)) rfl HO3.out wq.heap.size A2 (acc.length - k) c2 (lvs (acc.drop k)) rfl (by rw [lvs_length, List.length_drop]) HA3.out (lvs_one _) (by unfold maxLen; omega) (by omega) (by omega) ?_); intro v4 w4 hown4 hb4 _ _; have HO4 := Lib.hid hown4; have HB4 := Lib.hid (HB3.out.trans (hb4.mono HBi.out.size)); clear hown4 hb4))
            go_roundw
            case rel =>
              have e1 : acc.take k = acc.takeWhile (fun y => decide (y.2 < xo)) := HTk.out.1
              have e2 : acc.drop k = acc.dropWhile (fun y => decide (y.2 < xo)) := HTk.out.2
              have hins : insL (xs, xo) acc = acc.take k ++ (xs, xo) :: acc.drop k := by unfold insL; rw [e1, e2]
              refine ⟨j + 1, insL (xs, xo) acc, by omega, by go_num, ?_, HOf.out.take HND.out HJ.out HSeg.out, HB4.out⟩
              have hl : (insL (xs, xo) acc).length = 0 + k + 1 + (acc.length - k) := by rw [hins, List.length_append, List.length_cons, List.length_take, List.length_drop]; omega
              rw [hl, hins, lvs_append]
              have e3 : lvs ((xs, xo) :: acc.drop k) = encL (xs, xo) ++ lvs (acc.drop k) := by simp [lvs]
              rw [e3, ← List.append_assoc]
              exact own_base HO4.out HBi.out.size
            case measure => simp [intOf]; omega
      · have hs : (xs != g) = true := by simp [hseg]
        have HSeg := Lib.hid hseg
        clear hseg
        go_wp2_with fail
        go_roundw
        case rel => exact ⟨j + 1, acc, by omega, by go_num, HOwn.out.alloc _, HOf.out.pass HJ.out HSeg.out, HB.out.alloc HB.out.size _⟩
        case measure => simp [intOf]; omega
    · obtain rfl : j = R.length := by omega
      obtain ⟨Ao, co, rfl, hoc, hom, _⟩ := own_slice hown
      have hls : Ls wr wr.heap.size (.slice Ao acc.length co) acc := ⟨Ao, co, rfl, hoc, Rd.of_own hown⟩
      have HLs := Lib.hid hls
      clear hls hown
      go_wp2_with fail
      go_ret
      exact ⟨_, acc, rfl, HLs.out, HOf.out, HB.out⟩
end Go.Proofs.Ytaekndhchdpobaa
