
/-
  Layer 3: the contracts of the set's Of and Copy.
-/
import Derived.Test.YtaekndhchdpobaaLxOf
set_option linter.unusedVariables false
set_option linter.unusedSimpArgs false
namespace Go.Proofs.Ytaekndhchdpobaa
open Go.RowKit Go.Maps Go.Shelf Go.Lib Go.Sort

theorem own_grown {w w' : World} {base n : Nat} {e : TypeId} {size : Nat} {v : Value} {xs : List Value} {row : Option Nat} (h : w.ownsRow base e size v n xs) (hg : w.grownBy w' row) (hr : ∀ k, v.ownBlock = some k → some k ≠ row) : w'.ownsRow base e size v n xs := by
  rcases h.2 with ⟨rfl, h0⟩ | ⟨g, cap, cur, rfl, hb, hc, r⟩
  · exact ⟨h.1, .inl ⟨rfl, h0⟩⟩
  · exact ⟨h.1, .inr ⟨g, cap, cur, rfl, hb, (hg.block g (Array.getElem?_eq_some_iff.1 hc).1 (hr g rfl)).trans hc, r⟩⟩
theorem rd_new2 (w : World) (o : Obj) (x y : Value) (t : TypeId) : Rd ((w.alloc o).alloc (.cells #[x, y] t)) (w.heap.size + 2) (some ⟨w.heap.size + 1, 0, none⟩) [x, y] := fun _ => ⟨w.heap.size + 1, 0, rfl, by omega, fun j u hu => by
  have e : (w.alloc o).heap.size = w.heap.size + 1 := by simp
  have h := World.cell?_alloc_new (w.alloc o) #[x, y] t j
  rw [e] at h
  rw [Nat.zero_add, h]
  simpa using hu⟩

theorem copy_any {w : World} {bs bm n : Nat} {D : DataW Unit} (h : SetAt w bs bm n D) :
    Calls Try.prog 16 #[.pointer (some ⟨bs, 0, none⟩)] w fun e w' => ∃ cs cm, e = .returned (.pointer (some ⟨cs, 0, none⟩)) ∧ SetAt w' cs cm n D ∧ w.heap.size ≤ cs ∧ w.heap.size ≤ cm ∧ Below w.heap.size w w' := by
  have hc := h.cell
  have H0 := Lib.hid h
  have hcon := AnyW.maps_Clone_owns Try.cloneM 31 (plainElem Try.prog 32) bm n D w h.own
  change Calls Try.prog 40 _ _ _ at hcon
  have HC := Lib.hid hcon
  clear h hcon
  go_enter Try.func16, Try.ntmps16
  go_wp2_with fail
  refine (made_yes H0.out).mono ?_
  rintro e w1 ⟨rfl, rfl⟩
  go_wp2_with fail
  refine HC.out.mono ?_
  rintro e w2 ⟨rfl, h1, _, hB⟩
  have H1 := Lib.hid h1
  clear h1
  go_wp2_with fail
  go_ret
  exact ⟨_, _, rfl, ⟨by simp, H1.out.alloc _⟩, hB.size, Nat.le_refl _, balloc hB _⟩

set_option maxRecDepth 100000 in
set_option maxHeartbeats 4000000 in
theorem of_any {w : World} {bs bm n : Nat} {D : DataW Unit} (h : SetAt w bs bm n D) (hn : n < 1000000) {g : Int} (g0 : 0 ≤ g) (g1 : g < 4294967296) :
    Calls Try.prog 21 #[.pointer (some ⟨bs, 0, none⟩), .int .u32 g] w fun e w' => ∃ v l, e = .returned v ∧ Ls w' w'.heap.size v l ∧ OfL D g l ∧ Below w.heap.size w w' := by
  have hc := h.cell
  have H0 := Lib.hid h
  have hbm := h.own.lt
  have hsz := h.own.size_le
  obtain ⟨i0, hi0, hz0, hz1, hz2⟩ := info_parts loc_info
  clear h
  go_enter Try.func21, Try.ntmps21
  go_wp2_with fail
  refine (made_yes H0.out).mono ?_
  rintro e w1 ⟨rfl, rfl⟩
  go_wp2_with (at_range; refine wpList_range_own _ rfl _ 74 rfl 31 32 keyedLoc Try.underlying74 _ bm n _ rfl H0.out.own ?_; intro w0 hrg0 hg0 hs0)
  go_frame
  go_loopw [5] (fun v wr => ∃ (left : Lit → Bool) (cnt : Nat) (acc : List (Int × Int)), wr.ranges Try.prog 31 (plainElem Try.prog 32) bm w.heap.size n D left cnt ∧ wr.ownsRow (w.heap.size + 1) 31 2 v acc.length (lvs acc) ∧ Coll D g left cnt acc ∧ Below w.heap.size w wr ∧ w.heap.size + 1 ≤ wr.heap.size) (fun _ wr => wr.rangeLeft bm w.heap.size)
  case atStart => exact ⟨_, _, [], hrg0, World.ownsRow_nil _ _ _ _, Coll.start D g, (Below.refl _ _).grown hg0 (Nat.le_refl _) (fun j hj => by cases hj), by omega⟩
  case round =>
    obtain ⟨left, cnt, acc, hrg, hown, hcoll, hb, hws⟩ := hrel
    have hal := hcoll.size
    go_wp2_with (at_next; refine wpList_next_ranges _ rfl _ rfl 31 keyedLoc _ (fun x : Int × Int => .agg #[.int .u32 x.1, .int .u32 x.2]) (Value.int .u64) (fun key kl hk => by obtain ⟨s, o, rfl, _⟩ := keyOf_loc_inv hk; exact ⟨(s, o), rfl⟩) (fun v y hv => by obtain ⟨c, rfl, _⟩ := plainElem_int_inv Try.underlying32 hv; exact ⟨c, rfl⟩) bm w.heap.size n _ _ _ rfl hrg ?_ ?_)
    · intro hc0 hl0
      have HO := Lib.hid hown
      have HL := Lib.hid (hcoll.done hl0)
      clear hown hcoll hrg
      go_wp2_with fail
      refine (sort_own _ _ _ acc HO.out (by omega)).mono ?_
      rintro e w3 ⟨rfl, hL, hB⟩
      have HS := Lib.hid hL
      clear hL
      go_wp2_with fail
      go_ret
      exact ⟨_, _, rfl, HS.out, HL.out, hb.trans (hB.mono (Nat.le_succ _))⟩
    · intro x1 x2 c kx yd yp w2 cnt2 hkx hlx hRv hat hrg2 hlt hg2 hs2 hen
      obtain ⟨s, o, ek, rfl, s0, s1, o0, o1⟩ := keyOf_loc_inv hkx
      simp only [Value.agg.injEq] at ek
      have ek1 := congrArg (fun a : Array Value => a.toList) ek
      simp at ek1
      obtain ⟨rfl, rfl⟩ := ek1
      have ho2 : w2.ownsRow (w.heap.size + 1) 31 2 u5 acc.length (lvs acc) := own_grown hown hg2 (fun k hk e => by have := (hown.lt k hk).1; injection e with e; omega)
      have hb2 : Below w.heap.size w w2 := hb.grown hg2 (by omega) (fun k hk => by injection hk with hk; omega)
      have HR := Lib.hid hrg2
      have HO := Lib.hid ho2
      have HR0 := Lib.hid hrg
      have HCo := Lib.hid hcoll
      have Hlx := Lib.hid hlx
      have hlo := Lib.hid hown.lt
      have hs2' : w.heap.size + 1 ≤ w2.heap.size := by omega
      clear hs2
      clear hrg2 ho2 hrg hcoll hlx hkx hRv hat hown ek hg2
      by_cases hsg : x1 = g
      · have heq : (x1 == g) = true := by simp [hsg]
        have Hsg := Lib.hid hsg
        clear hsg
        go_wp2_with (at_builtin; (refine wpList_append_rd _ rfl _ _ 48 rfl (w.heap.size + 1) 31 i0 (.agg #[.int .u32 0, .int .u32 0]) 2 8 Try.underlying48 hi0 hz0 hz1 hz2 rfl (by omega) u5 acc.length (lvs acc) rfl ((HO.out.alloc _).alloc _) (w2.heap.size + 2) _ 1 1 [.int .u32 x1, .int .u32 x2] rfl rfl (rd_new2 _ _ _ _ _) (by intro u hu; simp at hu; rcases hu with rfl | rfl <;> rfl) (by unfold maxLen; omega) (by omega) (by simp; omega) ?_); intro v3 w3 hown3 hb3 hgr3 _)
        have hr3 := ((HR.out.alloc (.cells #[.int .u32 x1, .int .u32 x2] 31)).alloc (.cells #[.int .u32 x1, .int .u32 x2] 31)).kept hgr3 (fun e => by have := (hlo.out bm e.symm).1; omega) (fun e => by have := (hlo.out _ e.symm).1; omega)
        have hw3 := hgr3.size
        simp only [World.size_alloc] at hw3
        go_roundw
        case rel => exact ⟨_, cnt2, acc ++ [(x1, x2)], hr3, by rw [lvs_append, List.length_append]; exact hown3, HCo.out.take s0 s1 o0 o1 Hlx.out Hsg.out hlt, (((hb2.alloc (by omega) _).alloc (by simp; omega) _).trans (hb3.mono (Nat.le_succ _))), by omega⟩
        case measure => rw [hr3.left_eq, HR0.out.left_eq]; exact hlt
      · have heq : (x1 == g) = false := by simpa using hsg
        have Hsg := Lib.hid hsg
        clear hsg
        go_wp2_with fail
        have hr3 := HR.out.alloc (.cells #[.int .u32 x1, .int .u32 x2] 31)
        go_roundw
        case rel => exact ⟨_, cnt2, acc, hr3, HO.out.alloc _, HCo.out.pass s0 s1 o0 o1 Hsg.out hlt, hb2.alloc (by omega) _, by simp; omega⟩
        case measure => rw [hr3.left_eq, HR0.out.left_eq]; exact hlt
end Go.Proofs.Ytaekndhchdpobaa
