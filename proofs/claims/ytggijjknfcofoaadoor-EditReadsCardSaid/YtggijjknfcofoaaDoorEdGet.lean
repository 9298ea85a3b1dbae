
/-
  Layer 9: the walk of Get.
-/
import Derived.Test.YtggijjknfcofoaaDoorEdEdit
set_option linter.unusedVariables false
set_option linter.unusedSimpArgs false
namespace Go.Proofs.YtggijjknfcofoaaDoor
open Go.RowKit

/-- what Get tells -/
def Ed.getR (l : List UInt8) : Ed.E × Nat := match Ed.getE l with
  | .ok x => (x, 0)
  | .error c => (Ed.none, c)
theorem Ed.getR_ok {l : List UInt8} {x : Ed.E} (h : Ed.getE l = .ok x) : Ed.getR l = (x, 0) := by unfold Ed.getR; rw [h]
theorem Ed.getR_er {l : List UInt8} {c : Nat} (h : Ed.getE l = .error c) : Ed.getR l = (Ed.none, c) := by unfold Ed.getR; rw [h]
theorem tab_ne {w : World} (h : ETab w) : 0 ≠ w.heap.size + 2 := by have := h.lt; omega

set_option maxRecDepth 100000 in
set_option maxHeartbeats 8000000 in
theorem eget_b (v : Value) (l : List UInt8) (w : World) (h : Bs w w.heap.size v l) (hl : l.length ≤ 9223372036854775807) (ht : ETab w) :
    Calls Tryd.prog 20 #[v] w fun e w' => (∃ ev, e = .returned (.tuple #[ev, .int .i64 ((Ed.getR l).2 : Nat)]) ∧ EdV w' w'.heap.size ev (Ed.getR l).1) ∧ Below w.heap.size w w' := by
  obtain ⟨A, c, rfl, hc, hr⟩ := h
  have hmf : ∀ (fn : Fn) (first cap : Array Value) (w : World), (Instr.makeFunc fn first cap).run Tryd.prog w = .ok (.func fn first cap) w := fun _ _ _ _ => rfl
  have hE := Bx.new w #[.int .i64 0, .string ⟨#[]⟩, .int .u64 0, .int .u32 0, .slice none 0 0] 26 _ rfl
  have hT := Bx.new (w.alloc (.cells #[.int .i64 0, .string ⟨#[]⟩, .int .u64 0, .int .u32 0, .slice none 0 0] 26)) #[.int .i64 0] 31 _ rfl
  rw [show (w.alloc (.cells #[.int .i64 0, .string ⟨#[]⟩, .int .u64 0, .int .u32 0, .slice none 0 0] 26)).heap.size = w.heap.size + 1 by simp] at hT
  have hG := Bx.new ((w.alloc (.cells #[.int .i64 0, .string ⟨#[]⟩, .int .u64 0, .int .u32 0, .slice none 0 0] 26)).alloc (.cells #[.int .i64 0] 31)) #[.slice A l.length c] 76 _ rfl
  rw [show ((w.alloc (.cells #[.int .i64 0, .string ⟨#[]⟩, .int .u64 0, .int .u32 0, .slice none 0 0] 26)).alloc (.cells #[.int .i64 0] 31)).heap.size = w.heap.size + 2 by simp] at hG
  have b3 := balloc (balloc (bnew w (.cells #[.int .i64 0, .string ⟨#[]⟩, .int .u64 0, .int .u32 0, .slice none 0 0] 26)) (.cells #[.int .i64 0] 31)) (.cells #[.slice A l.length c] 76)
  have hE3 := (hE.alloc (.cells #[.int .i64 0] 31)).alloc (.cells #[.slice A l.length c] 76)
  have hT3 := hT.alloc (.cells #[.slice A l.length c] 76)
  have hR3 : RdA (((w.alloc (.cells #[.int .i64 0, .string ⟨#[]⟩, .int .u64 0, .int .u32 0, .slice none 0 0] 26)).alloc (.cells #[.int .i64 0] 31)).alloc (.cells #[.slice A l.length c] 76)) (w.heap.size + 2) l := ⟨A, c, hG, hc, (hr.below b3 (Nat.le_refl _)).mono (by omega), hl⟩
  have hed := edit_any (w.heap.size + 2) l _ hR3 (ht.on b3) (tab_ne ht)
  have HE := Lib.hid hE3
  have HT := Lib.hid hT3
  have Hb := Lib.hid b3
  clear hE hT hG b3 hE3 hT3 hR3 ht hr
  rcases hg : Ed.getE l with ec | x
  · rw [Ed.getR_er hg]
    have hed' := hed.mono (R' := fun e w' => e = gone ec ∧ Chg (fun i => i = w.heap.size + 2) _ w') (fun e w' hp => by
      unfold EditPost at hp
      rw [hg] at hp
      exact hp)
    have hec := Ed.get_err hg
    clear hed hg
    go_enter_defers Tryd.func20, Tryd.ntmps20
    go_wp2_with fail
    refine hed'.mono ?_
    rintro en w2 ⟨rfl, h2⟩
    have C2 := HT.out.chg h2 (by omega)
    have E2 := HE.out.chg h2 (by omega)
    have Hb2 := Lib.hid (Hb.out.trans (h2.below (B := w.heap.size) (by have := Hb.out.size; omega) (fun i hi => by omega)))
    clear h2 hed'
    go_wp2_with fail
    refine leaves_cons (f := 38) (args := #[.pointer (some ⟨w.heap.size + 1, 0, none⟩)]) (by simp) (by simp [go_sem]) ?_
    refine (catchG_gone ⟨w.heap.size + 1, 0, none⟩ 0 ec [] _ (C2.cell 0 _ rfl) (C2.free 0 _ rfl)).mono ?_
    rintro e u' w'' ⟨rfl, rfl, rfl⟩
    have c0 := World.cell?_setCell_same w2 ⟨w.heap.size + 1, 0, none⟩ (.int .i64 ec) (C2.cell 0 _ rfl)
    obtain ⟨y0, y1, y2, y3, y4⟩ := (E2.other ⟨w.heap.size + 1, 0, none⟩ (.int .i64 ec) (by simp)).at5
    simp [Leaves, settle, results, Tryd.results20, go_sem, c0, y0, y1, y2, y3, y4]
    exact ⟨EdV.none_, Hb2.out.setCell (by simp) _⟩
  · rw [Ed.getR_ok hg]
    have hed' := hed.mono (R' := fun e w' => (∃ sv, e = .returned (edV x.kind x.name x.seq x.id sv) ∧ w'.ownsRow (w.heap.size + 3) 28 5 sv x.seals.length (slVs x.seals)) ∧ Chg (fun i => i = w.heap.size + 2) _ w') (fun e w' hp => by
      unfold EditPost at hp
      rw [hg] at hp
      obtain ⟨⟨sv, h1, h2⟩, h3⟩ := hp
      exact ⟨⟨sv, h1, own_base h2 (by simp)⟩, h3⟩)
    clear hed hg
    go_enter_defers Tryd.func20, Tryd.ntmps20
    go_wp2_with fail
    refine hed'.mono ?_
    rintro en w2 ⟨⟨sv, rfl, hs⟩, h2⟩
    obtain ⟨A2, c2, rfl, hc2, _, _⟩ := own_slice hs
    unfold edV
    have C2 := HT.out.chg h2 (by omega)
    have E2 := HE.out.chg h2 (by omega)
    have Hb2 := Lib.hid (Hb.out.trans (h2.below (B := w.heap.size) (by have := Hb.out.size; omega) (fun i hi => by omega)))
    obtain ⟨t0, t1, t2, t3, t4⟩ := E2.at5
    obtain ⟨v0, v1, v2, v3, v4⟩ := E2.free5
    have c0 := C2.cell 0 _ rfl
    have z0 := C2.free 0 _ rfl
    have HC := Lib.hid C2
    have HE2 := Lib.hid E2
    have HS := Lib.hid hs
    clear h2 hed' hc2 C2 E2 hs
    go_wp2_with fail
    have hob : ∀ gb, Value.ownBlock (.slice A2 x.seals.length c2) = some gb → ¬ gb = w.heap.size := fun gb hgb => by have := (HS.out.lt gb hgb).1; omega
    have hob2 : ∀ gb, Value.ownBlock (.slice A2 x.seals.length c2) = some gb → ¬ gb = w.heap.size + 1 := fun gb hgb => by have := (HS.out.lt gb hgb).1; omega
    have e5 := (((((HE2.out.set 0 (.int .i64 x.kind) (by simp)).set 1 (.string x.name) (by simp)).set 2 (.int .u64 x.seq) (by simp)).set 3 (.int .u32 x.id) (by simp)).set 4 (.slice A2 x.seals.length c2) (by simp))
    have t5 := (((((HC.out.other ⟨w.heap.size, 0, none⟩ (.int .i64 x.kind) (by simp)).other ⟨w.heap.size, 1, none⟩ (.string x.name) (by simp)).other ⟨w.heap.size, 2, none⟩ (.int .u64 x.seq) (by simp)).other ⟨w.heap.size, 3, none⟩ (.int .u32 x.id) (by simp)).other ⟨w.heap.size, 4, none⟩ (.slice A2 x.seals.length c2) (by simp))
    have b5 := (((((Hb2.out.setCell (p := ⟨w.heap.size, 0, none⟩) (Nat.le_refl _) (.int .i64 x.kind)).setCell (p := ⟨w.heap.size, 1, none⟩) (Nat.le_refl _) (.string x.name)).setCell (p := ⟨w.heap.size, 2, none⟩) (Nat.le_refl _) (.int .u64 x.seq)).setCell (p := ⟨w.heap.size, 3, none⟩) (Nat.le_refl _) (.int .u32 x.id)).setCell (p := ⟨w.heap.size, 4, none⟩) (Nat.le_refl _) (.slice A2 x.seals.length c2))
    have o5 := ((Chg.setCell (M := fun i => i = w.heap.size) (p := ⟨w.heap.size, 4, none⟩) Chg.refl rfl (.slice A2 x.seals.length c2)).own ((Chg.setCell (M := fun i => i = w.heap.size) (p := ⟨w.heap.size, 3, none⟩) Chg.refl rfl (.int .u32 x.id)).own ((Chg.setCell (M := fun i => i = w.heap.size) (p := ⟨w.heap.size, 2, none⟩) Chg.refl rfl (.int .u64 x.seq)).own ((Chg.setCell (M := fun i => i = w.heap.size) (p := ⟨w.heap.size, 1, none⟩) Chg.refl rfl (.string x.name)).own ((Chg.setCell (M := fun i => i = w.heap.size) (p := ⟨w.heap.size, 0, none⟩) Chg.refl rfl (.int .i64 x.kind)).own HS.out hob) hob) hob) hob) hob)
    simp only [List.set_cons_zero, List.set_cons_succ] at e5
    generalize World.setCell (World.setCell (World.setCell (World.setCell (World.setCell w2 _ _) _ _) _ _) _ _) _ _ = W at *
    have t6 := t5.set 0 (.int .i64 0) (by simp)
    have e6 := e5.other ⟨w.heap.size + 1, 0, none⟩ (.int .i64 0) (by simp)
    have b6 := b5.setCell (p := ⟨w.heap.size + 1, 0, none⟩) (by simp) (.int .i64 0)
    have o6 := (Chg.setCell (M := fun i => i = w.heap.size + 1) (p := ⟨w.heap.size + 1, 0, none⟩) Chg.refl rfl (.int .i64 0)).own o5 hob2
    generalize World.setCell W _ _ = W2 at *
    simp only [List.set_cons_zero] at t6
    refine leaves_cons (f := 38) (args := #[.pointer (some ⟨w.heap.size + 1, 0, none⟩)]) (by simp) (by simp [go_sem]) ?_
    refine (catchG_idle ⟨w.heap.size + 1, 0, none⟩ 0 W2 (t6.cell 0 _ rfl) (t6.free 0 _ rfl)).mono ?_
    rintro e u' w'' ⟨rfl, rfl, rfl⟩
    have t7 := t6.set 0 (.int .i64 0) (by simp)
    have e7 := e6.other ⟨w.heap.size + 1, 0, none⟩ (.int .i64 0) (by simp)
    have b7 := b6.setCell (p := ⟨w.heap.size + 1, 0, none⟩) (by simp) (.int .i64 0)
    have o7 := (Chg.setCell (M := fun i => i = w.heap.size + 1) (p := ⟨w.heap.size + 1, 0, none⟩) Chg.refl rfl (.int .i64 0)).own o6 hob2
    generalize World.setCell W2 _ _ = W3 at *
    simp only [List.set_cons_zero] at t7
    have c0 := t7.cell 0 _ rfl
    obtain ⟨y0, y1, y2, y3, y4⟩ := e7.at5
    simp [Leaves, settle, results, Tryd.results20, go_sem, c0, y0, y1, y2, y3, y4]
    exact ⟨⟨_, rfl, Sls.of_own o7⟩, b7⟩
end Go.Proofs.YtggijjknfcofoaaDoor
