
/-
  Layer 14 (probe): Slots.
-/
import Derived.Test.YtffcbekogpgciaaPrSet
set_option linter.unusedVariables false
set_option linter.unusedSimpArgs false
namespace Go.Proofs.Ytffcbekogpgciaa.Pr
open Go Go.RowKit

theorem clone_none (w : World) :
    Calls Try.prog 29 #[.slice none 0 0] w fun e w' => e = .returned (.slice none 0 0) ∧ w = w' := by
  have hq := @Lib.run_eql_slice_nil Try.prog
  go_enter Try.func29, Try.ntmps29
  go_wp2
  go_ret
  exact ⟨rfl, rfl⟩
theorem SlotsAt.one {w : World} {S c : Nat} {R : Nat → Prop} {sl : List (Option E)} (h : SlotsAt w S c R sl) : ∃ arr, w.heap[S]? = some (.cells arr 49 (0, 0)) ∧ sl.length * 4 ≤ arr.size ∧ (∀ u ∈ arr.toList.take (sl.length * 4), u.oneCell' = true) ∧ ∀ i o, sl[i]? = some o → SlotIn w R arr i o := by
  obtain ⟨⟨arr, h0, h1, h2⟩, h3, h4, h5⟩ := h
  refine ⟨arr, h0, by rw [h1]; exact Nat.mul_le_mul_right 4 h3, fun u hu => ?_, h2⟩
  obtain ⟨j, hj, rfl⟩ := List.mem_iff_getElem.1 hu
  rw [List.length_take] at hj
  have hj4 : j < sl.length * 4 := by omega
  have hi : j / 4 < sl.length := by omega
  have hg := h2 (j / 4) _ (List.getElem?_eq_getElem hi)
  rw [List.getElem_take]
  have hja : j < arr.size := by have : j < arr.toList.length := by omega
                                simpa using this
  have hget : ∀ q v, arr[j / 4 * 4 + q]? = some v → j = j / 4 * 4 + q → arr.toList[j]'(by simpa using hja) = v := by
    intro q v hq e
    rw [← e] at hq
    rw [Array.getElem?_eq_getElem hja] at hq
    injection hq with hq
  have hc : j = j / 4 * 4 + 0 ∨ j = j / 4 * 4 + 1 ∨ j = j / 4 * 4 + 2 ∨ j = j / 4 * 4 + 3 := by omega
  cases ho : sl[j / 4] with
  | none =>
    rw [ho] at hg
    obtain ⟨k0, k1, k2, k3⟩ := hg
    rcases hc with e | e | e | e
    · rw [hget 0 _ k0 e]; rfl
    · rw [hget 1 _ k1 e]; rfl
    · rw [hget 2 _ k2 e]; rfl
    · rw [hget 3 _ k3 e]; rfl
  | some x =>
    rw [ho] at hg
    obtain ⟨A, ck, k0, k1, k2, k3, _⟩ := hg
    rcases hc with e | e | e | e
    · rw [hget 0 _ k0 e]; rfl
    · rw [hget 1 _ k1 e]; rfl
    · rw [hget 2 _ k2 e]; rfl
    · rw [hget 3 _ k3 e]; rfl
/-- slices.Clone of slots: the same cells, in new memory -/
theorem sclone_b (S c : Nat) (R : Nat → Prop) (sl : List (Option E)) (w : World) (h : SlotsAt w S c R sl) (hn : 0 < sl.length) (hn9 : sl.length < 100000000) :
    Calls Try.prog 34 #[.slice (some ⟨S, 0, none⟩) sl.length c] w fun e w' => ∃ g c' arr, e = .returned (.slice (some ⟨g, 0, none⟩) sl.length c') ∧ w.heap.size ≤ g ∧ w'.heap[g]? = some (.cells arr 49 (0, 0)) ∧
      arr.size = c' * 4 ∧ sl.length ≤ c' ∧ c' ≤ maxLen ∧ (∀ i o, sl[i]? = some o → SlotIn w R arr i o) ∧ Below w.heap.size w w' := by
  obtain ⟨i0, hi0, hz0, hz1, hz2⟩ := info_parts slot_info
  have hq := @Lib.run_eql_slice_nil Try.prog
  have hS := h.lt
  obtain ⟨arr, h0, h1, h2, h3⟩ := h.one
  have hown0 : (w.alloc (Obj.cells #[] 49)).ownsRow w.heap.size 49 4 (.slice (some ⟨w.heap.size, 0, none⟩) 0 0) 0 [] := World.ownsRow_lit w #[] 0 (Nat.le_refl _) (Nat.zero_le _) rfl
  have hrd : Rd w w.heap.size (some ⟨S, 0, none⟩) (arr.toList.take (sl.length * 4)) := fun _ => ⟨S, 0, rfl, hS, fun j u hu => by
    rw [List.getElem?_take] at hu
    split at hu
    · have : arr[j]? = some u := by simpa using hu
      simp [World.cell?, h0, this]
    · cases hu⟩
  have HRd := Lib.hid hrd
  have H2 := Lib.hid h2
  have H3 := Lib.hid h3
  have hlen : (arr.toList.take (sl.length * 4)).length = sl.length * 4 := by rw [List.length_take]; simp; omega
  have HLen := Lib.hid hlen
  clear hrd h2 h3 hlen h0 h
  go_enter Try.func34, Try.ntmps34
  go_wp2_with (at_builtin; (refine wpList_append_rd _ rfl _ _ 41 rfl w.heap.size 49 i0 _ 4 48 Try.underlying41 hi0 hz0 hz1 hz2 rfl (by omega) (.slice (some ⟨w.heap.size, 0, none⟩) 0 0) 0 [] rfl hown0 w.heap.size (some ⟨S, 0, none⟩) sl.length c (arr.toList.take (sl.length * 4)) rfl HLen.out (HRd.out.alloc (Nat.le_refl _) _) H2.out (by unfold maxLen; omega) (by omega) (by simp) ?_); intro v1 w1 hown1 hbw1 _ _)
  go_ret
  have hb : Below w.heap.size w w1 := ((Below.refl _ _).alloc (Nat.le_refl _) _).trans hbw1
  rw [Nat.zero_add, List.nil_append] at hown1
  rcases hown1.2 with ⟨_, h0⟩ | ⟨g, cap, cur, rfl, hg, hcur, hncap, hcm, hcs, hct⟩
  · omega
  · refine ⟨g, cap, cur, rfl, hg, hcur, hcs, hncap, hcm, fun i o ho => ?_, hb⟩
    obtain ⟨hil, _⟩ := List.getElem?_eq_some_iff.1 ho
    have hsame : ∀ j, j < sl.length * 4 → cur[j]? = arr[j]? := by
      intro j hj
      have h5 := congrArg (fun l : List Value => l[j]?) hct
      simp only [List.getElem?_take, if_pos hj] at h5
      simpa using h5
    have hi4 := hsame (i * 4) (by omega)
    have hi5 := hsame (i * 4 + 1) (by omega)
    have hi6 := hsame (i * 4 + 2) (by omega)
    have hi7 := hsame (i * 4 + 3) (by omega)
    have hs := H3.out i o ho
    cases o with
    | none => obtain ⟨k0, k1, k2, k3⟩ := hs; exact ⟨hi4.trans k0, hi5.trans k1, hi6.trans k2, hi7.trans k3⟩
    | some x => obtain ⟨A, ck, k0, k1, k2, k3, k4⟩ := hs; exact ⟨A, ck, hi4.trans k0, hi5.trans k1, hi6.trans k2, hi7.trans k3, k4⟩

/-- the slots' copy, the keys of the first i of which are copied too -/
structure SlotsI (w wr : World) (g c : Nat) (R : Nat → Prop) (sl : List (Option E)) (i : Nat) : Prop where
  blk : ∃ arr, wr.heap[g]? = some (.cells arr 49 (0, 0)) ∧ arr.size = c * 4 ∧ ∀ j o, sl[j]? = some o → SlotIn wr (fun b => if j < i then w.heap.size ≤ b ∧ b ≠ g else R b) arr j o
  below : Below w.heap.size w wr
theorem SlotsI.on {w wr w' : World} {g c : Nat} {R : Nat → Prop} {sl : List (Option E)} {i : Nat} (h : SlotsI w wr g c R sl i) (hb : Below wr.heap.size wr w') : SlotsI w w' g c R sl i := by
  obtain ⟨⟨arr, h0, h1, h2⟩, h3⟩ := h
  exact ⟨⟨arr, (hb.block g (Array.getElem?_eq_some_iff.1 h0).1).trans h0, h1, fun j o ho => (h2 j o ho).chg (Chg.of_below (M := fun _ => False) hb) (fun _ e => e.elim)⟩, h3.trans (hb.mono h3.size)⟩
theorem SlotsI.put {w wr : World} {g c : Nat} {R : Nat → Prop} {sl : List (Option E)} {i : Nat} (h : SlotsI w wr g c R sl i) (hg : w.heap.size ≤ g) (hR : ∀ i, R i → i < w.heap.size) (hle : sl.length ≤ c) {o : Option E} (ho : sl[i]? = some o) {v : Value}
    (hv : o = none → v = .slice none 0 0) (hs : ∀ x, o = some x → ∃ A q, v = .slice A x.key.length q ∧ x.key.length ≤ q ∧ KeyR wr (fun b => w.heap.size ≤ b ∧ b ≠ g) A x.key) : SlotsI w (wr.setCell ⟨g, i * 4 + 1, none⟩ v) g c R sl (i + 1) := by
  obtain ⟨⟨arr, h0, h1, h2⟩, h3⟩ := h
  obtain ⟨hil, _⟩ := List.getElem?_eq_some_iff.1 ho
  have hch : Chg (fun k => k = g) wr (wr.setCell ⟨g, i * 4 + 1, none⟩ v) := (Chg.refl (M := fun k => k = g)).setCell (p := ⟨g, i * 4 + 1, none⟩) rfl _
  have hother : ∀ j, j ≠ i * 4 + 1 → (arr.setIfInBounds (i * 4 + 1) v)[j]? = arr[j]? := fun j hj => Array.getElem?_setIfInBounds_ne (fun e => hj e.symm)
  have hself : (arr.setIfInBounds (i * 4 + 1) v)[i * 4 + 1]? = some v := by simp [Array.getElem?_setIfInBounds]; omega
  refine ⟨⟨_, set1p h0 _, by simpa using h1, fun j o' ho' => ?_⟩, h3.trans (hch.below h3.size (fun k e => by omega))⟩
  have hM : ∀ k, k = g → ¬ (if j < i then w.heap.size ≤ k ∧ k ≠ g else R k) := fun k e c => by
    subst e
    split at c
    · exact c.2 rfl
    · have := hR _ c; omega
  have hk := (h2 j o' ho').chg hch hM
  by_cases hji : j = i
  · subst hji
    have : some o = some o' := ho.symm.trans ho'
    injection this with this
    subst this
    simp only [show j < j + 1 from Nat.lt_succ_self j, if_true]
    cases o with
    | none =>
      obtain ⟨k0, k1, k2, k3⟩ := hk
      exact ⟨by rw [hother _ (by omega)]; exact k0, by rw [hself, hv rfl], by rw [hother _ (by omega)]; exact k2, by rw [hother _ (by omega)]; exact k3⟩
    | some x =>
      obtain ⟨A, ck, k0, k1, k2, k3, k4⟩ := hk
      obtain ⟨A', q, e1, e2, e3⟩ := hs x rfl
      exact ⟨A', q, by rw [hother _ (by omega)]; exact k0, by rw [hself, e1], by rw [hother _ (by omega)]; exact k2, by rw [hother _ (by omega)]; exact k3, e2, e3.chg hch (fun k e c => c.2 e)⟩
  · have hlt : (j < i + 1) = (j < i) := by rw [eq_iff_iff]; omega
    simp only [hlt]
    cases o' with
    | none =>
      obtain ⟨k0, k1, k2, k3⟩ := hk
      exact ⟨by rw [hother _ (by omega)]; exact k0, by rw [hother _ (by omega)]; exact k1, by rw [hother _ (by omega)]; exact k2, by rw [hother _ (by omega)]; exact k3⟩
    | some x =>
      obtain ⟨A, ck, k0, k1, k2, k3, k4⟩ := hk
      exact ⟨A, ck, by rw [hother _ (by omega)]; exact k0, by rw [hother _ (by omega)]; exact k1, by rw [hother _ (by omega)]; exact k2, by rw [hother _ (by omega)]; exact k3, k4⟩
set_option maxRecDepth 100000 in
set_option maxHeartbeats 8000000 in
theorem slots_b (T S c : Nat) (R : Nat → Prop) (seed keys : Nat) (sl : List (Option E)) (w : World) (h : TabAt w T S c R seed keys sl) (hR : ∀ i, R i → i < w.heap.size) (hn : 0 < sl.length) (hn9 : sl.length < 100000000) (hkl : ∀ (i : Nat) (e : E), sl[i]? = some (some e) → 0 < e.key.length ∧ e.key.length ≤ 64) :
    Calls Try.prog 16 #[.pointer (some ⟨T, 0, none⟩)] w fun e w' => ∃ g c', e = .returned (.slice (some ⟨g, 0, none⟩) sl.length c') ∧ w.heap.size ≤ g ∧ SlotsAt w' g c' (fun b => w.heap.size ≤ b ∧ b ≠ g ∧ b < w'.heap.size) sl ∧ Below w.heap.size w w' := by
  have HT := Lib.hid h
  have HKl := Lib.hid hkl
  have HR := Lib.hid hR
  have hc1 := h.cells.c1
  clear h hkl hR
  go_enter Try.func16, Try.ntmps16
  go_wp2_with fail
  refine (made_yes T S c _ _ _ _ HT.out.cells).mono ?_
  rintro e w1 ⟨rfl, rfl⟩
  go_wp2_with fail
  refine (sclone_b S c R sl _ HT.out.slots hn hn9).mono ?_
  rintro e w2 ⟨g, c', arr, rfl, hg, harr, hsz, hle, hmax, hin, hb2⟩
  have HI0 : Hid (SlotsI w w2 g c' R sl 0) := Lib.hid ⟨⟨arr, harr, hsz, fun j o ho => by
    have := (hin j o ho).chg (Chg.of_below (M := fun _ => False) hb2) (fun _ e => e.elim)
    simpa using this⟩, hb2⟩
  clear harr hsz hin hb2
  go_wp2_with fail
  go_loopw [15] (fun ix wr => ∃ i : Nat, ix = .int .i64 (i : Int) ∧ i ≤ sl.length ∧ Hid (SlotsI w wr g c' R sl i)) (fun ix _ => sl.length - (intOf ix).toNat)
  case atStart => exact ⟨0, rfl, Nat.zero_le _, HI0⟩
  case round =>
    obtain ⟨i, rfl, hi, HI⟩ := hrel
    rename World => wr
    by_cases hin : i < sl.length
    · have j0 : (i : Int) < (sl.length : Int) := by omega
      obtain ⟨⟨arr, harr, hsz, hsl⟩, hbl⟩ := HI.out
      have hs := hsl i sl[i] (List.getElem?_eq_getElem hin)
      have hfz : wr.frozen? ⟨g, i * 4 + 1, none⟩ = false := by simp [World.frozen?, harr]
      cases ho : sl[i] with
      | none =>
        rw [ho] at hs
        have hk1 : wr.cell? ⟨g, i * 4 + 1, none⟩ = some (.slice none 0 0) := by simp [World.cell?, harr, hs.2.1]
        have HO := Lib.hid (show sl[i]? = some none by rw [List.getElem?_eq_getElem hin, ho])
        clear ho hs harr hsl hbl
        go_wp2_with fail
        refine (clone_none _).mono ?_
        rintro e w3 ⟨rfl, rfl⟩
        go_wp2_with fail
        go_roundw
        case rel => exact ⟨i + 1, by go_num, by omega, Lib.hid (HI.out.put hg HR.out hle HO.out (fun _ => rfl) (fun x e => by cases e))⟩
        case measure => simp [intOf]; omega
      | some x =>
        rw [ho] at hs
        have HO := Lib.hid (show sl[i]? = some (some x) by rw [List.getElem?_eq_getElem hin, ho])
        obtain ⟨A, ck, k0, k1, k2, k3, k4, k5⟩ := hs
        have hk1 : wr.cell? ⟨g, i * 4 + 1, none⟩ = some (.slice A x.key.length ck) := by simp [World.cell?, harr, k1]
        have HK := Lib.hid (show Bs wr wr.heap.size (.slice A x.key.length ck) x.key from ⟨A, ck, rfl, k4, k5.rd⟩)
        have hgl := (Array.getElem?_eq_some_iff.1 harr).1
        have hwr := hbl.size
        have hxl := HKl.out i x HO.out
        clear ho k0 k1 k2 k3 k4 k5 harr hsl hbl
        go_wp2_with fail
        refine (clone_b _ x.key _ HK.out (by omega)).mono ?_
        rintro e w3 ⟨r, rfl, hown, hb3⟩
        obtain ⟨g3, cap, cur, rfl, hg3, hcur, hncap, hcm, hcs, hct⟩ : ∃ g cap cur, r = .slice (some ⟨g, 0, none⟩) x.key.length cap ∧ wr.heap.size ≤ g ∧ w3.heap[g]? = some (.cells cur 5 (0, 0)) ∧ x.key.length ≤ cap ∧ cap ≤ maxLen ∧ cur.size = cap * 1 ∧ cur.toList.take (x.key.length * 1) = bvs x.key := by
          rcases hown.2 with ⟨_, h0⟩ | h
          · omega
          · exact h
        have HKey : Hid (KeyR w3 (fun b => w.heap.size ≤ b ∧ b ≠ g) (some ⟨g3, 0, none⟩) x.key) := Lib.hid (fun _ => ⟨g3, 0, rfl, ⟨by omega, by omega⟩, fun j u hu => by
          have := hown.cells (g := g3) rfl j u hu
          rw [add_none] at this
          exact this⟩)
        have hk1' : w3.cell? ⟨g, i * 4 + 1, none⟩ = some (.slice A x.key.length ck) := (hb3.cell (p := ⟨g, i * 4 + 1, none⟩) hgl).trans hk1
        have hfz' : w3.frozen? ⟨g, i * 4 + 1, none⟩ = false := (hb3.frozen (p := ⟨g, i * 4 + 1, none⟩) hgl).trans hfz
        have HI3 := Lib.hid (HI.out.on hb3)
        clear hown hb3 hg3 hcur hcm hcs hct hk1 hfz
        go_wp2_with fail
        go_roundw
        case rel => exact ⟨i + 1, by go_num, by omega, Lib.hid (HI3.out.put hg HR.out hle HO.out (fun e => by cases e) (fun y e => by injection e with e; subst e; exact ⟨_, _, rfl, hncap, HKey.out⟩))⟩
        case measure => simp [intOf]; omega
    · have j0 : ¬ (i : Int) < (sl.length : Int) := by omega
      have j1 : decide ((i : Int) < (sl.length : Int)) = false := by simpa using j0
      obtain rfl : i = sl.length := by omega
      go_wp2
      go_ret
      obtain ⟨⟨arr, harr, hsz, hsl⟩, hbl⟩ := HI.out
      refine ⟨g, c', rfl, hg, ⟨⟨arr, harr, hsz, fun j o ho => ?_⟩, hle, hmax, fun c => c.2.1 rfl⟩, hbl⟩
      have hs := hsl j o ho
      obtain ⟨hjl, _⟩ := List.getElem?_eq_some_iff.1 ho
      simp only [hjl, if_true] at hs
      cases o with
      | none => exact hs
      | some x =>
        obtain ⟨A, ck, k0, k1, k2, k3, k4, k5⟩ := hs
        refine ⟨A, ck, k0, k1, k2, k3, k4, fun hx => ?_⟩
        obtain ⟨b, o, e, ⟨hb1, hb2⟩, hcell⟩ := k5 hx
        refine ⟨b, o, e, ⟨hb1, hb2, ?_⟩, hcell⟩
        rcases hkk : x.key with _ | ⟨y, r⟩
        · exact absurd hkk hx
        · exact fblock_of_cell (hcell 0 (bv y) (by rw [hkk]; rfl))
end Go.Proofs.Ytffcbekogpgciaa.Pr
