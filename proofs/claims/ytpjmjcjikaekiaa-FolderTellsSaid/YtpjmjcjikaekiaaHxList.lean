
/-
  Layer 6: the program's folder: List.
-/
import Derived.Test.YtpjmjcjikaekiaaHxNames
set_option linter.unusedVariables false
set_option linter.unusedSimpArgs false
namespace Go.Proofs.Ytpjmjcjikaekiaa
open Go.RowKit Go.Maps

theorem evsP_one (l : List Ent) : ∀ u ∈ evs l, u.oneCell' = true := evs_one l
theorem fent_info : (Try.prog.info? 52).map (fun i => (i.zero, i.size, i.bytes)) = some (some (.agg #[.string .empty, .int .u64 0]), 2, 24) := by kernel_rfl
set_option maxRecDepth 100000 in
set_option maxHeartbeats 4000000 in
theorem hlist_c {w : World} {X bs bn : Nat} {vd : Value} {last settled : Nat} {es : List Ent} (hc : HCells w X bs bn vd last settled) (hm : MapAt w bn es) (hl : es.length ≤ 100000) :
    Calls Try.prog 17 #[.pointer (some ⟨X, 0, none⟩)] w fun e w' => ∃ v, e = .returned v ∧ w'.ownsRow w.heap.size 52 2 v es.length (evs es) ∧ Below w.heap.size w w' := by
  obtain ⟨i0, hi0, hz0, hz1, hz2⟩ := info_parts fent_info
  have HC := Lib.hid hc
  have HM := Lib.hid hm
  have c1 := hc.c1
  clear hc hm
  go_enter Try.func17, Try.ntmps17
  go_wp2_with fail
  refine (hmade HC.out).mono ?_
  rintro e w' ⟨rfl, rfl⟩
  go_wp2_with fail
  refine (hkeys _ _).mono ?_
  rintro e w' ⟨rfl, rfl⟩
  go_wp2_with fail
  refine (hnames HM.out (by omega)).mono ?_
  rintro e w1 ⟨v, rfl, ho1, hb1⟩
  have hbw1 : Below w.heap.size w w1 := ((Below.refl _ _).alloc (Nat.le_refl _) _).trans (hb1.mono (by omega))
  obtain ⟨As, cs, rfl, hcs, hcm, _⟩ := own_slice ho1
  have hrd := Rd.of_own ho1
  obtain ⟨k, hk⟩ : ∃ k, k = es.length := ⟨_, rfl⟩
  rw [← hk] at hl hcs
  rw [← hk]
  have HRd := Lib.hid hrd
  have HBW := Lib.hid hbw1
  have Hk := Lib.hid hk
  have HC1 := Lib.hid (HC.out.on hbw1)
  have HM1 := Lib.hid (HM.out.on hbw1)
  clear hb1 hbw1 ho1 hrd hk c1
  go_wp2_with fail
  go_loopw [3, 16] (fun o i wr => ∃ j : Nat, j ≤ k ∧ i = .int .i64 j ∧ wr.ownsRow w1.heap.size 52 2 o j (evs (es.take j)) ∧ Below w1.heap.size w1 wr) (fun _ i _ => k - (intOf i).toNat)
  case atStart => exact ⟨0, by omega, rfl, by simpa [evs] using World.ownsRow_nil _ _ _ _, Below.refl _ _⟩
  case round =>
    obtain ⟨j, hj, rfl, hown, hb⟩ := hrel
    have HB := Lib.hid hb
    by_cases hjl : j < k
    · obtain ⟨x, hx⟩ : ∃ x, es[j]? = some x := ⟨es[j]'(by have := Hk.out; omega), List.getElem?_eq_getElem _⟩
      obtain ⟨bb, oo, rfl, hbb, hcc⟩ := HRd.out (by intro e; rw [List.map_eq_nil_iff] at e; have h9 := Hk.out; rw [e] at h9; simp at h9; omega)
      have cj : wr.cell? ⟨bb, oo + j, none⟩ = some (.string x.1) := (hb.cell (p := ⟨bb, oo + j, none⟩) hbb).trans (hcc j _ (by rw [List.getElem?_map, hx]; rfl))
      have hxm : x ∈ es := List.mem_of_getElem? hx
      have c1 := (HC1.out.on hb).c1
      have hlk := ((HM1.out.on hb).look (n := x.1) (by have := (HM1.out.1.2 x hxm).1; unfold maxLen; omega)).2
      rw [(findL_iff HM1.out.1.1).2 hxm] at hlk
      simp only [Option.getD_some] at hlk
      have HX := Lib.hid hx
      obtain ⟨Ao, co, rfl, _, _, _⟩ := own_slice hown
      have HO := Lib.hid hown
      have hwb : w1.heap.size ≤ wr.heap.size := hb.size
      have HRn : Hid (Rd (wr.alloc (.cells #[.string x.1, .int .u64 (x.2 : Int)] 52)) (wr.heap.size + 1) (some ⟨wr.heap.size, 0, none⟩) (evs [x])) := fun _ => ⟨wr.heap.size, 0, rfl, by omega, fun i u hu => by
        rw [Nat.zero_add, World.cell?_alloc_new]
        simpa [evs, encE] using hu⟩
      clear hcc hx hxm hown hb
      go_wp2_with (at_builtin; (refine wpList_append_rd _ rfl _ _ 40 rfl w1.heap.size 52 i0 (.agg #[.string .empty, .int .u64 0]) 2 24 Try.underlying40 hi0 hz0 hz1 hz2 rfl (by omega) (.slice Ao j co) j (evs (es.take j)) rfl (HO.out.alloc _) (wr.heap.size + 1) (some ⟨wr.heap.size, 0, none⟩) 1 1 (evs [x]) rfl (by simp [evs, encE]) HRn.out (evs_one _) (by unfold maxLen; omega) (by omega) (by simp; omega) ?_); intro v3 w3 hown3 hb3 _ _; (have HO3 := Lib.hid hown3); (have HB3 := Lib.hid hb3); clear hown3 hb3)
      have hfin : w3.ownsRow w1.heap.size 52 2 v3 (j + 1) (evs (es.take (j + 1))) := by
        rw [take_next6 HX.out, evs_append]
        exact HO3.out
      have hbf : Below w1.heap.size w1 w3 := (HB.out.alloc HB.out.size _).trans HB3.out
      have HF := Lib.hid hfin
      have HBF := Lib.hid hbf
      clear hfin hbf
      go_roundw
      case rel => exact ⟨j + 1, by omega, by go_num, HF.out, HBF.out⟩
      case measure => simp [intOf]; omega
    · obtain rfl : j = k := by omega
      have HO := Lib.hid hown
      clear hown hb
      go_wp2_with fail
      go_ret
      have he : es.take j = es := List.take_of_length_le (by have := Hk.out; omega)
      have h1 := HO.out
      rw [he, Hk.out] at h1
      exact ⟨_, rfl, own_base h1 HBW.out.size, HBW.out.trans (HB.out.mono HBW.out.size)⟩
end Go.Proofs.Ytpjmjcjikaekiaa
