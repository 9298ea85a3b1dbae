
/-
  Layer 6: the document's folder: with, May.
-/
import Derived.Test.YtpjmjcjikaekiaaGxBase
import Derived.Test.YtpjmjcjikaekiaaFxAt
set_option linter.unusedVariables false
set_option linter.unusedSimpArgs false
namespace Go.Proofs.Ytpjmjcjikaekiaa
open Go.RowKit

/-- one entry more goes through 'with' -/
def stepW (n : ByteArray) (i : Nat) (s : List Ent × Bool) (x : Ent) : List Ent × Bool := if s.2 = false ∧ Op.bytesLess n.toList x.1.toList = true then (s.1 ++ [(n, i)] ++ [x], true) else (s.1 ++ [x], s.2)
def prefW (n : ByteArray) (i : Nat) (l : List Ent) : List Ent × Bool := l.foldl (stepW n i) ([], false)
def withL (l : List Ent) (n : ByteArray) (i : Nat) : List Ent := let r := prefW n i (withoutL l n); if r.2 then r.1 else r.1 ++ [(n, i)]
theorem prefW_next {n : ByteArray} {i : Nat} {l : List Ent} {j : Nat} {x : Ent} (hx : l[j]? = some x) : prefW n i (l.take (j + 1)) = stepW n i (prefW n i (l.take j)) x := by
  rw [take_next6 hx, prefW, List.foldl_append]
  rfl
theorem prefW_length (n : ByteArray) (i : Nat) (l : List Ent) : (prefW n i l).1.length ≤ 2 * l.length := by
  have : ∀ (l : List Ent) (s : List Ent × Bool), (l.foldl (stepW n i) s).1.length ≤ s.1.length + 2 * l.length := by
    intro l
    induction l with
    | nil => intro s; simp
    | cons x r ih =>
      intro s
      have h := ih (stepW n i s x)
      have h2 : (stepW n i s x).1.length ≤ s.1.length + 2 := by unfold stepW; split <;> simp
      simp only [List.foldl_cons, List.length_cons]
      omega
  simpa [prefW] using this l ([], false)
theorem withoutL_length (l : List Ent) (n : ByteArray) : (withoutL l n).length ≤ l.length := List.length_filter_le _ _
theorem new_ent {w : World} (n : ByteArray) (i : Nat) (B : Nat) (hB : w.heap.size < B) : Rd (w.alloc (.cells #[.string n, .int .u64 (i : Int)] 53)) B (some ⟨w.heap.size, 0, none⟩) (evs [(n, i)]) := fun _ => ⟨w.heap.size, 0, rfl, hB, fun k u hu => by
  rw [Nat.zero_add, World.cell?_alloc_new]
  simpa [evs, encE] using hu⟩

set_option maxRecDepth 100000 in
set_option maxHeartbeats 4000000 in
theorem rwith {w : World} {v : Value} {l : List Ent} (h : Es w w.heap.size v l) (n : ByteArray) (i : Nat) (hi : i < 18446744073709551616) (hl : l.length ≤ 100000) :
    Calls Try.prog 47 #[v, .string n, .int .u64 (i : Int)] w fun e w' => ∃ r, e = .returned r ∧ w'.ownsRow w.heap.size 53 2 r (withL l n i).length (evs (withL l n i)) ∧ Below w.heap.size w w' := by
  obtain ⟨i0, hi0, hz0, hz1, hz2⟩ := info_parts ent_info
  have H := Lib.hid h
  obtain ⟨A, c, rfl, hc, hr⟩ := h
  clear hr
  go_enter Try.func47, Try.ntmps47
  go_wp2_with fail
  refine (rwithout H.out n (by omega)).mono ?_
  rintro e w1 ⟨r, rfl, ho1, hb1⟩
  obtain ⟨m, hm⟩ : ∃ m, m = withoutL l n := ⟨_, rfl⟩
  have Hm := Lib.hid hm
  rw [← hm] at ho1
  have hml : m.length ≤ 100000 := by rw [hm]; exact Nat.le_trans (withoutL_length l n) hl
  obtain ⟨Am, cm, hem, hcm, _, _⟩ := own_slice ho1
  obtain ⟨k, hk⟩ : ∃ k, k = m.length := ⟨_, rfl⟩
  rw [← hk] at hem hcm hml
  have HR : Hid (Rd w1 w1.heap.size Am (evs m)) := by have := Rd.of_own (A := Am) (n := m.length) (c := cm) (xs := evs m) (base := w.heap.size) (e := 53) (size := 2) (w := w1) (by rw [hem, hk] at ho1; exact ho1); exact this
  have Hk := Lib.hid hk
  have HB1 := Lib.hid hb1
  clear hm hk hb1 ho1 H
  subst hem
  go_wp2_with fail
  go_loopw [7, 8, 9] (fun o d ix wr => ∃ j : Nat, j ≤ k ∧ ix = .int .i64 j ∧ d = .bool (prefW n i (m.take j)).2 ∧ wr.ownsRow w1.heap.size 53 2 o (prefW n i (m.take j)).1.length (evs (prefW n i (m.take j)).1) ∧ Below w1.heap.size w1 wr) (fun _ _ ix _ => k - (intOf ix).toNat)
  case atStart => exact ⟨0, by omega, rfl, rfl, by simpa [prefW, evs] using World.ownsRow_nil _ _ _ _, Below.refl _ _⟩
  case round =>
    obtain ⟨j, hj, rfl, rfl, hown, hb⟩ := hrel
    obtain ⟨P, hP⟩ : ∃ P, P = prefW n i (m.take j) := ⟨_, rfl⟩
    rw [← hP] at hown ⊢
    have hPl : P.1.length ≤ 200000 := by rw [hP]; have h1 := prefW_length n i (m.take j); have h2 : (m.take j).length ≤ j := by rw [List.length_take]; omega
                                         omega
    have HP := Lib.hid hP
    have HB := Lib.hid hb
    obtain ⟨Ao, co, heo, _, _, _⟩ := own_slice hown
    obtain ⟨no, hno⟩ : ∃ no, no = P.1.length := ⟨_, rfl⟩
    rw [← hno] at heo hPl
    have HO2 : Hid (wr.ownsRow w1.heap.size 53 2 (.slice Ao no co) no (evs P.1)) := by rw [← hno, heo] at hown; exact hown
    have Hno := Lib.hid hno
    have hwb : w1.heap.size ≤ wr.heap.size := hb.size
    clear hP hno hown
    subst heo
    by_cases hjk : j < k
    · obtain ⟨x, hx⟩ : ∃ x, m[j]? = some x := ⟨m[j]'(by have := Hk.out; omega), List.getElem?_eq_getElem _⟩
      obtain ⟨bb, oo, rfl, hbb, hcc⟩ := HR.out (by intro e; have := congrArg List.length e; rw [evs_length] at this; have := Hk.out; simp at *; omega)
      have hg := evs_get m j x hx
      have HCC : Hid (∀ w', Below w1.heap.size w1 w' → w'.cell? ⟨bb, oo + j * 2, none⟩ = some (.string x.1) ∧ w'.cell? ⟨bb, oo + j * 2 + 1, none⟩ = some (.int .u64 (x.2 : Int))) := fun w' hb => ⟨(hb.cell (p := ⟨bb, oo + j * 2, none⟩) hbb).trans (hcc _ _ hg.1), (hb.cell (p := ⟨bb, oo + j * 2 + 1, none⟩) hbb).trans (hcc _ _ hg.2)⟩
      obtain ⟨c0, c1⟩ := HCC.out _ HB.out
      have HN := Lib.hid (prefW_next (n := n) (i := i) hx)
      rw [← HP.out] at HN
      clear hcc hg hx hb
      have HV : ∀ (w' : World) (v' : Value) (ls : List Ent) (d : Bool), prefW n i (m.take (j + 1)) = (ls, d) → w'.ownsRow w1.heap.size 53 2 v' ls.length (evs ls) → w'.ownsRow w1.heap.size 53 2 v' (prefW n i (m.take (j + 1))).1.length (evs (prefW n i (m.take (j + 1))).1) := fun w' v' ls d e h => by rw [e]; exact h
      have HVh := Lib.hid HV
      clear HV
      by_cases hd : P.2 = false ∧ Op.bytesLess n.toList x.1.toList = true
      · have h1 : P.2 = false := hd.1
        have h2 : Op.bytesLess n.toList x.1.toList = true := hd.2
        have HE : Hid (prefW n i (m.take (j + 1)) = (P.1 ++ [(n, i)] ++ [x], true)) := Lib.hid (by rw [HN.out]; unfold stepW; rw [if_pos hd])
        clear hd HN
        go_wp2_with (first
          | (at_builtin; (refine wpList_append_rd _ rfl _ _ 44 rfl w1.heap.size 53 i0 (.agg #[.string .empty, .int .u64 0]) 2 24 Try.underlying44 hi0 hz0 hz1 hz2 rfl (by omega) (.slice Ao no co) no (evs P.1) rfl (HO2.out.alloc _) (wr.heap.size + 1) (some ⟨wr.heap.size, 0, none⟩) 1 1 (evs [(n, i)]) rfl rfl (new_ent n i _ (by omega)) (evs_one _) (by unfold maxLen; omega) (by omega) (by simp; omega) ?_); (intro v3 w3 hown3 hb3 hg3 hv3); (have HB3 := Lib.hid ((HB.out.alloc HB.out.size _).trans hb3)); (have HO3 : Hid (w3.ownsRow w1.heap.size 53 2 v3 (no + 1) (evs (P.1 ++ [(n, i)]))) := Lib.hid (by rw [evs_append]; exact hown3)); (clear c0 c1 hown3 hb3 hg3 hv3); (obtain ⟨c0, c1⟩ := HCC.out _ HB3.out); (have hw3 : w1.heap.size ≤ w3.heap.size := HB3.out.size); (obtain ⟨A3, d3, rfl, _, _, _⟩ := own_slice HO3.out))
          | (at_builtin; (refine wpList_append_rd _ rfl _ _ 44 rfl w1.heap.size 53 i0 (.agg #[.string .empty, .int .u64 0]) 2 24 Try.underlying44 hi0 hz0 hz1 hz2 rfl (by omega) (.slice A3 (no + 1) d3) (no + 1) (evs (P.1 ++ [(n, i)])) rfl (HO3.out.alloc _) (w3.heap.size + 1) (some ⟨w3.heap.size, 0, none⟩) 1 1 (evs [x]) rfl rfl (new_ent x.1 x.2 _ (by omega)) (evs_one _) (by unfold maxLen; omega) (by omega) (by simp; omega) ?_); (intro v4 w4 hown4 hb4 hg4 hv4)))
        have hf : w4.ownsRow w1.heap.size 53 2 v4 (prefW n i (m.take (j + 1))).1.length (evs (prefW n i (m.take (j + 1))).1) := HVh.out _ _ _ _ HE.out (by rw [List.length_append, List.length_append, ← Hno.out, evs_append]; exact hown4)
        have hbw : Below w1.heap.size w1 w4 := (HB3.out.alloc HB3.out.size _).trans hb4
        have hd2 : (prefW n i (m.take (j + 1))).2 = true := by rw [HE.out]
        have Hf := Lib.hid hf
        have Hd2 := Lib.hid hd2
        clear hf hd2 hown4 hb4 hg4 hv4 h1 h2
        go_roundw
        case rel => exact ⟨j + 1, by omega, by go_num, by rw [Hd2.out], Hf.out, hbw⟩
        case measure => simp [intOf]; omega
      · have HE : Hid (prefW n i (m.take (j + 1)) = (P.1 ++ [x], P.2)) := Lib.hid (by rw [HN.out]; unfold stepW; rw [if_neg hd])
        clear HN
        have hd2 : (prefW n i (m.take (j + 1))).2 = P.2 := by rw [HE.out]
        have Hd2 := Lib.hid hd2
        clear hd2
        cases hp2 : P.2
        · have h2 : Op.bytesLess n.toList x.1.toList = false := by
            cases hh : Op.bytesLess n.toList x.1.toList
            · rfl
            · exact absurd ⟨hp2, hh⟩ hd
          have Hp2 := Lib.hid hp2
          clear hd
          go_wp2_with (at_builtin; (refine wpList_append_rd _ rfl _ _ 44 rfl w1.heap.size 53 i0 (.agg #[.string .empty, .int .u64 0]) 2 24 Try.underlying44 hi0 hz0 hz1 hz2 rfl (by omega) (.slice Ao no co) no (evs P.1) rfl (HO2.out.alloc _) (wr.heap.size + 1) (some ⟨wr.heap.size, 0, none⟩) 1 1 (evs [x]) rfl rfl (new_ent x.1 x.2 _ (by omega)) (evs_one _) (by unfold maxLen; omega) (by omega) (by simp; omega) ?_); (intro v4 w4 hown4 hb4 hg4 hv4))
          have hf : w4.ownsRow w1.heap.size 53 2 v4 (prefW n i (m.take (j + 1))).1.length (evs (prefW n i (m.take (j + 1))).1) := HVh.out _ _ _ _ HE.out (by rw [List.length_append, ← Hno.out, evs_append]; exact hown4)
          have hbw : Below w1.heap.size w1 w4 := (HB.out.alloc HB.out.size _).trans hb4
          have Hf := Lib.hid hf
          clear hf hown4 hb4 hg4 hv4 hp2 h2
          go_roundw
          case rel => exact ⟨j + 1, by omega, by go_num, by rw [Hd2.out, Hp2.out], Hf.out, hbw⟩
          case measure => simp [intOf]; omega
        · have Hp2 := Lib.hid hp2
          clear hd
          go_wp2_with (at_builtin; (refine wpList_append_rd _ rfl _ _ 44 rfl w1.heap.size 53 i0 (.agg #[.string .empty, .int .u64 0]) 2 24 Try.underlying44 hi0 hz0 hz1 hz2 rfl (by omega) (.slice Ao no co) no (evs P.1) rfl (HO2.out.alloc _) (wr.heap.size + 1) (some ⟨wr.heap.size, 0, none⟩) 1 1 (evs [x]) rfl rfl (new_ent x.1 x.2 _ (by omega)) (evs_one _) (by unfold maxLen; omega) (by omega) (by simp; omega) ?_); (intro v4 w4 hown4 hb4 hg4 hv4))
          have hf : w4.ownsRow w1.heap.size 53 2 v4 (prefW n i (m.take (j + 1))).1.length (evs (prefW n i (m.take (j + 1))).1) := HVh.out _ _ _ _ HE.out (by rw [List.length_append, ← Hno.out, evs_append]; exact hown4)
          have hbw : Below w1.heap.size w1 w4 := (HB.out.alloc HB.out.size _).trans hb4
          have Hf := Lib.hid hf
          clear hf hown4 hb4 hg4 hv4 hp2
          go_roundw
          case rel => exact ⟨j + 1, by omega, by go_num, by rw [Hd2.out, Hp2.out], Hf.out, hbw⟩
          case measure => simp [intOf]; omega
    · obtain rfl : j = k := by omega
      have he : m.take j = m := List.take_of_length_le (by have := Hk.out; omega)
      have HPe : Hid (P = prefW n i (withoutL l n)) := Lib.hid (by rw [HP.out, he, Hm.out])
      clear hb he
      cases hp2 : P.2
      · have HW : Hid (withL l n i = P.1 ++ [(n, i)]) := Lib.hid (by unfold withL; simp only []; rw [← HPe.out, hp2]; rfl)
        go_wp2_with (at_builtin; (refine wpList_append_rd _ rfl _ _ 44 rfl w1.heap.size 53 i0 (.agg #[.string .empty, .int .u64 0]) 2 24 Try.underlying44 hi0 hz0 hz1 hz2 rfl (by omega) (.slice Ao no co) no (evs P.1) rfl (HO2.out.alloc _) (wr.heap.size + 1) (some ⟨wr.heap.size, 0, none⟩) 1 1 (evs [(n, i)]) rfl rfl (new_ent n i _ (by omega)) (evs_one _) (by unfold maxLen; omega) (by omega) (by simp; omega) ?_); (intro v4 w4 hown4 hb4 hg4 hv4))
        go_ret
        have hb2 : Below w1.heap.size w1 w4 := (HB.out.alloc HB.out.size _).trans hb4
        exact ⟨v4, rfl, by rw [HW.out, List.length_append, ← Hno.out, evs_append]; exact own_base hown4 HB1.out.size, HB1.out.trans (hb2.mono HB1.out.size)⟩
      · have HW : Hid (withL l n i = P.1) := Lib.hid (by unfold withL; simp only []; rw [← HPe.out, hp2]; rfl)
        go_wp2_with fail
        go_ret
        exact ⟨_, rfl, by rw [HW.out, ← Hno.out]; exact own_base HO2.out HB1.out.size, HB1.out.trans (HB.out.mono HB1.out.size)⟩
end Go.Proofs.Ytpjmjcjikaekiaa
