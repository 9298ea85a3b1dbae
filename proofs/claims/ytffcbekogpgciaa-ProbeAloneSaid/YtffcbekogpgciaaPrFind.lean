
/-
  Layer 14 (probe): find.
-/
import Derived.Test.YtffcbekogpgciaaPrLow
import Derived.Test.YtffcbekogpgciaaFxBase
import Derived.Deep.LoopGhost
import Derived.OwnWalk
set_option linter.unusedVariables false
set_option linter.unusedSimpArgs false
namespace Go.Proofs.Ytffcbekogpgciaa.Pr
open Go Go.RowKit

/-- what find tells -/
def Found (sl : List (Option E)) (k : List UInt8) (at' : Nat) (there : Bool) : Prop :=
  (there = true ∧ at' < sl.length ∧ ∃ e, at_ sl at' = some e ∧ e.key = k) ∨ (there = false ∧ at' = 0 ∧ ∀ i e, at_ sl i = some e → e.key ≠ k)
/-- a block of its own that holds four cells -/
def Box4 (w : World) (G : Nat) (y0 y1 y2 y3 : Value) : Prop := w.heap[G]? = some (.cells #[y0, y1, y2, y3] 49 (0, 0))
theorem Box4.lt {w : World} {G : Nat} {y0 y1 y2 y3 : Value} (h : Box4 w G y0 y1 y2 y3) : G < w.heap.size := (Array.getElem?_eq_some_iff.1 h).1
theorem Box4.chg {w w' : World} {M : Nat → Prop} {G : Nat} {y0 y1 y2 y3 : Value} (h : Box4 w G y0 y1 y2 y3) (hc : Chg M w w') (hM : ¬ M G) : Box4 w' G y0 y1 y2 y3 := (hc.block G h.lt hM).trans h
theorem Box4.on {w w' : World} {G : Nat} {y0 y1 y2 y3 : Value} (h : Box4 w G y0 y1 y2 y3) (hb : Below w.heap.size w w') : Box4 w' G y0 y1 y2 y3 := (hb.block G h.lt).trans h
theorem Box4.free {w : World} {G : Nat} {y0 y1 y2 y3 : Value} (h : Box4 w G y0 y1 y2 y3) (k : Nat) : w.frozen? ⟨G, k, none⟩ = false := by
  unfold Box4 at h
  simp [World.frozen?, h]
theorem Box4.set3 {w : World} {G : Nat} {y0 y1 y2 y3 : Value} (h : Box4 w G y0 y1 y2 y3) (y : Value) : Box4 (w.setCell ⟨G, 3, none⟩ y) G y0 y1 y2 y := by
  have := set1p (i := 3) h y
  simpa [Box4] using this
theorem Box4.set_drew {w : World} {G : Nat} {y0 y1 y2 y3 : Value} (h : Box4 w G y0 y1 y2 y3) (z0 z1 z2 z3 : Value) : Box4 (set4 w G 0 z0 z1 z2 z3).drew G z0 z1 z2 z3 := by
  show (set4 w G 0 z0 z1 z2 z3).heap[G]? = _
  have := set4_at (o := 0) h z0 z1 z2 z3
  simpa using this
theorem CloAt.ne4 {w : World} {N Tb T next G : Nat} {y0 y1 y2 y3 : Value} (h : CloAt w N Tb T next) (k : Box4 w G y0 y1 y2 y3) : G ≠ N ∧ G ≠ Tb := by
  unfold Box4 at k
  refine ⟨fun e => ?_, fun e => ?_⟩
  · have h1 := h.n
    rw [← e, k] at h1
    simp at h1
  · have h1 := h.t
    rw [← e, k] at h1
    simp at h1

set_option maxRecDepth 100000 in
set_option maxHeartbeats 8000000 in
theorem find_b (T S c : Nat) (R : Nat → Prop) (seed keys : Nat) (sl : List (Option E)) (w : World) (h : TabAt w T S c R seed keys sl) (hs : seed < 18446744073709551616) (hn9 : sl.length < 500000000) (hn : 0 < sl.length) (hE : Emp sl)
    (L : Lay (fun k => Ky.hash seed k % sl.length) sl) (v : Value) (k : List UInt8) (hv : Bs w w.heap.size v k) (hk : k.length < 1000000) :
    Calls Try.prog 26 #[.pointer (some ⟨T, 0, none⟩), v] w fun e w' => (∃ at' there, e = .returned (.tuple #[.int .i64 ((at' : Nat) : Int), .bool there]) ∧ Found sl k at' there) ∧ Below w.heap.size w w' := by
  have HT := Lib.hid h
  have HL := Lib.hid L
  have HE := Lib.hid hE
  obtain ⟨A, ck, rfl, hck, hrd⟩ := id hv
  have HV := Lib.hid hv
  clear h L hE hv hrd
  obtain ⟨a0, ha0⟩ : ∃ a0, Ky.hash seed k % sl.length = a0 := ⟨_, rfl⟩
  have ha0n : a0 < sl.length := by rw [← ha0]; exact Nat.mod_lt _ hn
  have HA0 := Lib.hid ha0
  clear ha0
  go_enter Try.func26, Try.ntmps26
  go_wp2_with fail
  refine (home_b T S c seed sl.length keys _ HT.out.cells hn (by omega) hs _ k _ HV.out hk a0 HA0.out).mono ?_
  rintro e w1 ⟨rfl, hc1⟩
  have HB1 := Lib.hid (hc1.below (Nat.le_refl _) (fun i e => e.elim))
  clear hc1
  go_wp2_with fail
  refine (round_b T _ _).mono ?_
  rintro e w2 ⟨N, Tb, rfl, hclo, hN, hTb, hb2⟩
  have HB2 := Lib.hid (HB1.out.trans (hb2.mono HB1.out.size))
  have HC2 := Lib.hid hclo
  clear hb2 hclo
  go_wp2_with fail
  go_loopg [7] sl.length (fun m g wr => ∃ j G nx, g = .pointer (some ⟨G, 0, none⟩) ∧ j + m = sl.length ∧ nx ≤ sl.length + 1 ∧ Hid (Box4 wr G (.bool false) (.slice A k.length ck) (.int .u64 0) (.int .i64 (j : Nat)) ∧ CloAt wr N Tb T nx ∧ nx % sl.length = (a0 + j) % sl.length ∧ Way sl a0 k j ∧ Below w.heap.size w wr ∧ w.heap.size ≤ G))
  case atStart =>
    refine ⟨0, _, a0, rfl, by omega, by omega, Lib.hid ⟨heap_alloc_new _ _, HC2.out.on ((Below.refl _ _).alloc (Nat.le_refl _) _), by simp, Way.start, HB2.out.trans ((Below.refl _ _).alloc (HB2.out.size) _), HB2.out.size⟩⟩
  case round =>
    obtain ⟨j, G, nx, rfl, hjm, hnx, HR⟩ := hrel
    rename World => wr
    obtain ⟨hbox, hcl, hnj, hway, hbl, hG⟩ := HR.out
    have hT := HT.out.on hbl
    have hjn : j < sl.length := hway.lt hn HE.out
    have HBL := Lib.hid hbl
    have HT' := Lib.hid hT
    have HBox := Lib.hid hbox
    have HW := Lib.hid hway
    have HNJ := Lib.hid hnj
    clear HR hT hbox hway hbl hnj
    go_wp2_with fail
    obtain ⟨p, hp⟩ : ∃ p, nx % sl.length = p := ⟨_, rfl⟩
    have hpn : p < sl.length := by rw [← hp]; exact Nat.mod_lt _ hn
    have HP := Lib.hid hp
    have hget : sl[p]? = some (at_ sl (a0 + j)) := by
      rw [List.getElem?_eq_getElem hpn, ← at_lt hpn, at_mod (i := p) (j := a0 + j) (by rw [← HNJ.out, ← hp, Nat.mod_mod])]
    have HGet := Lib.hid hget
    clear hp hget
    refine (round1_b N Tb T S c nx seed sl.length keys wr hcl HT'.out.cells hn (by omega) (by omega) p HP.out).mono ?_
    rintro e w3 ⟨rfl, hcl3, hch3⟩
    have hNw : w.heap.size ≤ N := Nat.le_trans HB1.out.size hN
    have HB3 := Lib.hid (HBL.out.trans (hch3.below HBL.out.size (fun i e => by rw [e]; exact hNw)))
    have HT3 := Lib.hid (HT.out.on HB3.out)
    have HBox3 := Lib.hid (HBox.out.chg hch3 (hcl.ne4 HBox.out).1)
    have HC3 := Lib.hid hcl3
    have HV3 := Lib.hid (HV.out.on HB3.out)
    clear HT' HBox HBL hcl hch3 hcl3
    have hcS := HT3.out.cells.c1
    obtain ⟨b0, b1, b2, b3⟩ := box4 HBox3.out
    have hbf := HBox3.out.free 3
    have jp : (p : Int) < (sl.length : Int) := by omega
    cases ho : at_ sl (a0 + j) with
    | none =>
      rw [ho] at HGet
      obtain ⟨k0, k1, k2, k3⟩ := HT3.out.slots.empty HGet.out
      have HO := Lib.hid ho
      clear ho
      go_wp2
      go_ret2
      refine ⟨⟨0, false, rfl, .inr ⟨rfl, rfl, Way.out HL.out (j := j) (by rw [HA0.out]; exact HW.out) (.inl (by rw [HA0.out]; exact HO.out))⟩⟩, HB3.out.trans ((Below.refl _ _).alloc HB3.out.size _)⟩
    | some y =>
      rw [ho] at HGet
      obtain ⟨Ay, cy, k0, k1, k2, k3, kc, kr⟩ := HT3.out.slots.used HGet.out
      have HO := Lib.hid ho
      have HKr := Lib.hid kr
      have hyf : y.far < sl.length := HL.out.far_lt HE.out HO.out
      clear ho kr
      obtain ⟨V3, hV3⟩ : ∃ V3, w3.alloc (.cells #[.bool true, .slice Ay y.key.length cy, .int .u64 (y.n : Int), .int .i64 (y.far : Int)] 49) = V3 := ⟨_, rfl⟩
      obtain ⟨Y, hY⟩ : ∃ Y, w3.heap.size = Y := ⟨_, rfl⟩
      have hbV : Below w3.heap.size w3 V3 := by rw [← hV3]; exact (Below.refl _ _).alloc (Nat.le_refl _) _
      have HBV := Lib.hid (HB3.out.trans (hbV.mono HB3.out.size))
      have HBoxG := Lib.hid (HBox3.out.on hbV)
      have HBoxY : Hid (Box4 V3 Y (.bool true) (.slice Ay y.key.length cy) (.int .u64 (y.n : Int)) (.int .i64 (y.far : Int))) := Lib.hid (by rw [← hV3, ← hY]; exact heap_alloc_new _ _)
      have HVy := Lib.hid (show Bs V3 V3.heap.size (.slice Ay y.key.length cy) y.key from ⟨Ay, cy, rfl, kc, ((HKr.out.rd).below hbV (Nat.le_refl _)).mono hbV.size⟩)
      have HVk := Lib.hid (HV3.out.on hbV)
      have HCV := Lib.hid (HC3.out.on hbV)
      obtain ⟨g0, g1, g2, g3⟩ := box4 HBoxG.out
      obtain ⟨y0, y1, y2, y3⟩ := box4 HBoxY.out
      have hgf := HBoxG.out.free 3
      clear hbV HBox3 HV3 HC3 b0 b1 b2 b3 hbf
      go_wp2_with fail
      obtain ⟨d, hd⟩ : ∃ d, decide (Ahead ⟨k, 0, j⟩ ⟨y.key, y.n, y.far⟩) = d := ⟨_, rfl⟩
      refine (ahead_b false true _ _ 0 y.n j y.far k y.key _ V3 HVk.out HVy.out (Nat.le_refl _) d hd (by omega) (by omega)).mono ?_
      rintro e w5 ⟨rfl, hb5⟩
      have HB5 := Lib.hid (HBV.out.trans (hb5.mono HBV.out.size))
      have HBoxG5 := Lib.hid (HBoxG.out.on hb5)
      have HBoxY5 := Lib.hid (HBoxY.out.on hb5)
      have HVy5 := Lib.hid (HVy.out.on hb5)
      have HVk5 := Lib.hid (HVk.out.on hb5)
      have HC5 := Lib.hid (HCV.out.on hb5)
      clear g0 g1 g2 g3 y0 y1 y2 y3 hgf hb5 HBV HBoxG HBoxY HVy HVk HCV k0 k1 k2 k3 hcS
      obtain ⟨g0, g1, g2, g3⟩ := box4 HBoxG5.out
      obtain ⟨y0, y1, y2, y3⟩ := box4 HBoxY5.out
      have hgf := HBoxG5.out.free 3
      have HD := Lib.hid hd
      clear hd
      cases d with
      | true =>
        go_wp2
        go_ret2
        refine ⟨⟨0, false, rfl, .inr ⟨rfl, rfl, Way.out HL.out (j := j) (by rw [HA0.out]; exact HW.out) (.inr ⟨y, by rw [HA0.out]; exact HO.out, of_decide_eq_true HD.out⟩)⟩⟩, HB5.out⟩
      | false =>
        go_wp2_with fail
        refine (fequal _ _ y.key k _ _ w5 HVy5.out HVk5.out).mono ?_
        rintro e w6 ⟨rfl, rfl⟩
        obtain ⟨q, hq⟩ : ∃ q, (y.key == k) = q := ⟨_, rfl⟩
        simp only [hq]
        have HQ := Lib.hid hq
        clear hq
        cases q with
        | true =>
          go_wp2
          go_ret2
          exact ⟨⟨p, true, rfl, .inl ⟨rfl, hpn, y, by rw [at_lt hpn]; have := HGet.out; rw [List.getElem?_eq_getElem hpn] at this; injection this, by simpa using HQ.out⟩⟩, HB5.out⟩
        | false =>
          obtain ⟨V6, hV6⟩ : ∃ V6, w5.alloc (.cells #[.bool false, .slice A k.length ck, .int .u64 0, .int .i64 (j : Int)] 49) = V6 := ⟨_, rfl⟩
          obtain ⟨Z, hZ⟩ : ∃ Z, w5.heap.size = Z := ⟨_, rfl⟩
          have hbV : Below w5.heap.size w5 V6 := by rw [← hV6]; exact (Below.refl _ _).alloc (Nat.le_refl _) _
          have HB6 := Lib.hid (HB5.out.trans (hbV.mono HB5.out.size))
          have HZw : Hid (w.heap.size ≤ Z) := Lib.hid (by rw [← hZ]; exact HB5.out.size)
          have HBoxZ : Hid (Box4 V6 Z (.bool false) (.slice A k.length ck) (.int .u64 0) (.int .i64 (j : Int))) := Lib.hid (by rw [← hV6, ← hZ]; exact heap_alloc_new _ _)
          have HC6 := Lib.hid (HC5.out.on hbV)
          clear hbV
          obtain ⟨z0, z1, z2, z3⟩ := box4 HBoxZ.out
          have hzf := HBoxZ.out.free 3
          clear y0 y1 y2 y3
          go_wp2_with fail
          have hnah : ¬ Ahead ⟨k, 0, j⟩ y := of_decide_eq_false HD.out
          have HNah := Lib.hid hnah
          have HNk : Hid (y.key ≠ k) := Lib.hid (by simpa using HQ.out)
          clear hnah
          go_roundg (gk - 1)
          case measure => omega
          case rel =>
            refine ⟨j + 1, Z, p + 1, rfl, by omega, by omega, Lib.hid ⟨?_, HC6.out.chg ((Chg.refl (M := fun i => i = Z)).setCell (p := ⟨Z, 3, none⟩) rfl _) (fun e => (HC6.out.ne4 HBoxZ.out).1 e.symm) (fun e => (HC6.out.ne4 HBoxZ.out).2 e.symm), ?_, HW.out.step HO.out HNah.out HNk.out, ?_, HZw.out⟩⟩
            · have := HBoxZ.out.set3 (.int .i64 ((j : Int) + 1))
              simpa using this
            · have h1 := HNJ.out
              have h2 : p % sl.length = (a0 + j) % sl.length := by rw [← HP.out, Nat.mod_mod]; exact h1
              exact mod_add (k := 1) h2
            · exact HB6.out.trans (((Chg.refl (M := fun i => i = Z)).setCell (p := ⟨Z, 3, none⟩) rfl _).below HB6.out.size (fun i e => by rw [e]; exact HZw.out))
end Go.Proofs.Ytffcbekogpgciaa.Pr
