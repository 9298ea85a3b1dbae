
/-
  Layer 6: the program's folder: its deeds, called.
-/
import Derived.Test.YtpjmjcjikaekiaaHxMay
set_option linter.unusedVariables false
set_option linter.unusedSimpArgs false
namespace Go.Proofs.Ytpjmjcjikaekiaa
open Go.RowKit Go.Maps

set_option maxRecDepth 100000 in
theorem hdeed_mk {w : World} {b p q : Nat} {es : List Ent} (h : MapAt w b es) (hl : es.length ≤ 1000000) {n : ByteArray} {i : Nat} (hn : n.size ≤ 1000) (hi : i < 1000000000) (cp : w.cell? ⟨p, 0, none⟩ = some (.int .u64 (i : Int))) (cq : w.cell? ⟨q, 0, none⟩ = some (.string n)) :
    Calls Try.prog 32 #[.map (some b), .pointer (some ⟨p, 0, none⟩), .pointer (some ⟨q, 0, none⟩)] w fun e w' => (∃ v, e = .returned v) ∧ MapAt w' b (withL es n i) ∧ w.mapTurned w' b := by
  obtain ⟨w1, hrun, hm, ht⟩ := h.store hl hn hi
  have HM := Lib.hid hm
  have HT := Lib.hid ht
  clear hm ht h
  go_enter Try.func32, Try.ntmps32
  go_wp2
  go_end0
  exact ⟨⟨_, rfl⟩, HM.out, HT.out⟩
set_option maxRecDepth 100000 in
theorem hdeed_rm {w : World} {b q : Nat} {es : List Ent} (h : MapAt w b es) {n : ByteArray} (hn : n.size ≤ 1000) (cq : w.cell? ⟨q, 0, none⟩ = some (.string n)) :
    Calls Try.prog 33 #[.map (some b), .pointer (some ⟨q, 0, none⟩)] w fun e w' => (∃ v, e = .returned v) ∧ MapAt w' b (withoutL es n) ∧ w.mapTurned w' b := by
  obtain ⟨w1, hrun, hm, ht⟩ := h.drop hn 0
  have HM := Lib.hid hm
  have HT := Lib.hid ht
  clear hm ht h
  go_enter Try.func33, Try.ntmps33
  go_wp2
  go_end0
  exact ⟨⟨_, rfl⟩, HM.out, HT.out⟩
theorem turned_cell {w w' : World} {b : Nat} {es : List Ent} (h : MapAt w b es) (ht : w.mapTurned w' b) {p : Nat} {u : Value} (hc : w.cell? ⟨p, 0, none⟩ = some u) : w'.cell? ⟨p, 0, none⟩ = some u := by
  have hne : ¬ (p = b) := fun e => by rw [e, h.no_cell] at hc; cases hc
  exact ((Chg.of_turned ht).cell (p := ⟨p, 0, none⟩) (fblock_of_cell hc) hne).trans hc
set_option maxRecDepth 100000 in
theorem hdeed_mv {w : World} {b p q : Nat} {es : List Ent} (h : MapAt w b es) (hl : es.length ≤ 1000000) {n to : ByteArray} (hn : n.size ≤ 1000) (ht : to.size ≤ 1000) (cp : w.cell? ⟨p, 0, none⟩ = some (.string n)) (cq : w.cell? ⟨q, 0, none⟩ = some (.string to)) :
    Calls Try.prog 46 #[.map (some b), .pointer (some ⟨p, 0, none⟩), .pointer (some ⟨q, 0, none⟩)] w fun e w' => (∃ v, e = .returned v) ∧ MapAt w' b (withoutL (withL es to ((findL es n).getD 0)) n) ∧ w.mapTurned w' b := by
  have hlk := (h.look (n := n) (by unfold maxLen; omega)).2
  have hi : (findL es n).getD 0 < 1000000000 := by
    cases hf : findL es n with
    | none => simp
    | some i => exact (h.1.2 _ (findL_mem hf)).2
  obtain ⟨w1, hrun, hm, htu⟩ := h.store hl ht hi
  have cp1 := turned_cell h htu cp
  obtain ⟨w2, hrun2, hm2, htu2⟩ := hm.drop hn 0
  have HM := Lib.hid hm2
  have HT := Lib.hid (htu.trans htu2)
  clear hm htu hm2 htu2 h hi
  generalize ((findL es n).getD 0 : Nat) = c at *
  go_enter Try.func46, Try.ntmps46
  go_wp2
  go_end0
  exact ⟨⟨_, rfl⟩, HM.out, HT.out⟩
/-- a deed's call, whatever deed: letters for its function and what it captured -/
theorem hdeed {w : World} {R : Nat → Prop} {v : Value} {d : Dd} (hd : DdAt w R v d) (hok : d.Ok) : ∃ g cap, v = .func (.func g) #[] cap ∧ (∀ args w', (callFunc g args).run Try.prog w' = .ok (.enter g args) w') ∧
    ∀ (w' : World) (b : Nat) (es : List Ent), MapAt w' b es → es.length ≤ 1000000 → DdAt w' R v d → Calls Try.prog g (#[.map (some b)] ++ cap) w' fun e w'' => (∃ v, e = .returned v) ∧ MapAt w'' b (d.app es) ∧ w'.mapTurned w'' b := by
  cases d with
  | mk n i =>
    obtain ⟨p, q, rfl, h1, h2, h3, h4⟩ := hd
    refine ⟨_, _, rfl, fun args w' => enters_of Try.func32 (by kernel_rfl) rfl args w', fun w' b es hm hl hd' => ?_⟩
    obtain ⟨p', q', e, k1, k2, k3, k4⟩ := hd'
    simp only [Value.func.injEq, Array.mk.injEq, List.cons.injEq, Value.pointer.injEq, Option.some.injEq, Addr.mk.injEq, and_true, true_and] at e
    obtain ⟨rfl, rfl⟩ := e
    exact hdeed_mk hm hl hok.1 hok.2 k3 k4
  | mv a b =>
    obtain ⟨p, q, rfl, h1, h2, h3, h4⟩ := hd
    refine ⟨_, _, rfl, fun args w' => enters_of Try.func46 (by kernel_rfl) rfl args w', fun w' b es hm hl hd' => ?_⟩
    obtain ⟨p', q', e, k1, k2, k3, k4⟩ := hd'
    simp only [Value.func.injEq, Array.mk.injEq, List.cons.injEq, Value.pointer.injEq, Option.some.injEq, Addr.mk.injEq, and_true, true_and] at e
    obtain ⟨rfl, rfl⟩ := e
    exact hdeed_mv hm hl hok.1 hok.2 k3 k4
  | rm n =>
    obtain ⟨q, rfl, h2, h4⟩ := hd
    refine ⟨_, _, rfl, fun args w' => enters_of Try.func33 (by kernel_rfl) rfl args w', fun w' b es hm hl hd' => ?_⟩
    obtain ⟨q', e, k2, k4⟩ := hd'
    simp only [Value.func.injEq, Array.mk.injEq, List.cons.injEq, Value.pointer.injEq, Option.some.injEq, Addr.mk.injEq, and_true, true_and] at e
    obtain rfl := e
    exact hdeed_rm hm hok k4
end Go.Proofs.Ytpjmjcjikaekiaa
