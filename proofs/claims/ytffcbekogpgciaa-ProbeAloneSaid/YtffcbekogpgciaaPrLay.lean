
/-
  Layer 14 (probe): lay.
-/
import Derived.Test.YtffcbekogpgciaaPrFind
import Derived.Test.YtffcbekogpgciaaPrLayP
set_option linter.unusedVariables false
set_option linter.unusedSimpArgs false
namespace Go.Proofs.Ytffcbekogpgciaa.Pr
open Go Go.RowKit

/-- the slots that lay leaves -/
def LayTo (h : List UInt8 → Nat) (sl0 : List (Option E)) (l : List UInt8) (v : Nat) (sl : List (Option E)) : Prop := Lay h sl ∧ sl.length = sl0.length ∧ List.Perm (kn sl) ((l, v) :: kn sl0)
/-- lay's loop: who is carried lies in box G -/
structure LayI (w wr : World) (T S c seed keys : Nat) (R : Nat → Prop) (sl0 : List (Option E)) (l : List UInt8) (v a0 d : Nat) (N Tb G i : Nat) (s : E) (A : Option Addr) (ck nx : Nat) (sl : List (Option E)) : Prop where
  carry : Carry (fun k => Ky.hash seed k % sl0.length) sl0 l v sl s (a0 + (sl0.length - 1) + i)
  emp : at_ sl (a0 + (sl0.length - 1) + 1 + d) = none
  id : i ≤ d
  far : s.far ≤ sl0.length + i
  box : Box4 wr G (.bool true) (.slice A s.key.length ck) (.int .u64 (s.n : Int)) (.int .i64 (s.far : Int))
  room : s.key.length ≤ ck
  key : KeyR wr R A s.key
  clo : CloAt wr N Tb T nx
  nx1 : nx % sl0.length = (a0 + (sl0.length - 1) + i + 1) % sl0.length
  nx2 : nx ≤ sl0.length + 1
  slots : SlotsAt wr S c R sl
  chg : Chg (fun k => k = S) w wr
  newG : w.heap.size ≤ G
structure LayD (w wr : World) (S c seed : Nat) (R : Nat → Prop) (sl0 : List (Option E)) (l : List UInt8) (v : Nat) (G : Nat) (x : Value) (sl : List (Option E)) : Prop where
  to : LayTo (fun k => Ky.hash seed k % sl0.length) sl0 l v sl
  box : Box4 wr G (.bool false) (.slice none 0 0) (.int .u64 0) x
  slots : SlotsAt wr S c R sl
  chg : Chg (fun k => k = S) w wr

set_option maxRecDepth 100000 in
set_option maxHeartbeats 8000000 in
theorem lay_b (T S c : Nat) (R : Nat → Prop) (seed keys : Nat) (sl : List (Option E)) (w : World) (h : TabAt w T S c R seed keys sl) (hR : ∀ i, R i → i < w.heap.size) (hs : seed < 18446744073709551616) (hn9 : sl.length < 200000000) (hn : 3 ≤ sl.length) (hE : Emp sl)
    (L : Lay (fun k => Ky.hash seed k % sl.length) sl) (A : Option Addr) (ck : Nat) (l : List UInt8) (v f0 : Nat) (hck : l.length ≤ ck) (hk : KeyR w R A l) (hl : l.length < 1000000) :
    Calls Try.prog 28 #[.pointer (some ⟨T, 0, none⟩), .agg #[.bool true, .slice A l.length ck, .int .u64 (v : Int), .int .i64 (f0 : Int)]] w fun e w' => e = .returned (.tuple #[]) ∧
      ∃ sl', LayTo (fun k => Ky.hash seed k % sl.length) sl l v sl' ∧ TabAt w' T S c R seed keys sl' ∧ Chg (fun k => k = S) w w' := by
  have HT := Lib.hid h
  have HL := Lib.hid L
  have HE := Lib.hid hE
  have HK := Lib.hid hk
  have HRl := Lib.hid hR
  have hTS := h.ne
  have hTlt := h.cells.lt
  have hSlt := h.slots.lt
  clear h L hE hk hR
  obtain ⟨a0, ha0⟩ : ∃ a0, Ky.hash seed l % sl.length = a0 := ⟨_, rfl⟩
  have ha0n : a0 < sl.length := by rw [← ha0]; exact Nat.mod_lt _ (by omega)
  have HA0 := Lib.hid ha0
  clear ha0
  obtain ⟨d, hdn, hdE⟩ : ∃ d, d < sl.length ∧ at_ sl (a0 + (sl.length - 1) + 1 + d) = none := by
    obtain ⟨p, hp⟩ := HE.out
    obtain ⟨j, hj, hjp⟩ := reach (a0 + (sl.length - 1) + 1) p sl.length (by omega)
    exact ⟨j, hj, (at_mod hjp).trans hp⟩
  have HDE := Lib.hid hdE
  clear hdE
  obtain ⟨W0, hW0⟩ : ∃ W0, w.alloc (.cells #[.bool true, .slice A l.length ck, .int .u64 (v : Int), .int .i64 (f0 : Int)] 49) = W0 := ⟨_, rfl⟩
  obtain ⟨G, hG⟩ : ∃ G, w.heap.size = G := ⟨_, rfl⟩
  have HB0 : Hid (Below w.heap.size w W0) := Lib.hid (by rw [← hW0]; exact (Below.refl _ _).alloc (Nat.le_refl _) _)
  have HGw : Hid (w.heap.size ≤ G) := Lib.hid (by omega)
  have HBox0 : Hid (Box4 W0 G (.bool true) (.slice A l.length ck) (.int .u64 (v : Int)) (.int .i64 (f0 : Int))) := Lib.hid (by rw [← hW0, ← hG]; exact heap_alloc_new _ _)
  have HV0 := Lib.hid (show Bs W0 W0.heap.size (.slice A l.length ck) l from ⟨A, ck, rfl, hck, (HK.out.rd.below HB0.out (Nat.le_refl _)).mono HB0.out.size⟩)
  obtain ⟨g0, g1, g2, g3⟩ := box4 HBox0.out
  go_enter Try.func28, Try.ntmps28
  go_wp2_with fail
  refine (home_b T S c seed sl.length keys _ (HT.out.on HB0.out).cells (by omega) (by omega) hs _ l _ HV0.out hl a0 HA0.out).mono ?_
  rintro e w1 ⟨rfl, hc1⟩
  have hb1 := hc1.below (Nat.le_refl _) (fun i e => e.elim)
  have HB1 := Lib.hid (HB0.out.trans (hb1.mono HB0.out.size))
  have HBox1 := Lib.hid (HBox0.out.on hb1)
  clear hc1 hb1 g0 g1 g2 g3
  go_wp2_with fail
  refine (round_b T _ _).mono ?_
  rintro e w2 ⟨N, Tb, rfl, hclo, hN, hTb, hb2⟩
  have HB2 := Lib.hid (HB1.out.trans (hb2.mono HB1.out.size))
  have HC2 := Lib.hid hclo
  have HBox2 := Lib.hid (HBox1.out.on hb2)
  clear hb2 hclo
  obtain ⟨g0, g1, g2, g3⟩ := box4 HBox2.out
  have hgf := HBox2.out.free 3
  go_wp2_with fail
  go_loopg [5] (d + 2) (fun m u wr => (∃ (i : Nat) (s : E) (A : Option Addr) (ck nx : Nat) (sl' : List (Option E)), i + m = d + 2 ∧ Hid (LayI w wr T S c seed keys R sl l v a0 d N Tb G i s A ck nx sl')) ∨ ∃ (x : Value) (sl' : List (Option E)), Hid (LayD w wr S c seed R sl l v G x sl'))
  case atStart =>
    have hbs : Below w.heap.size w (w2.setCell ⟨G, 3, none⟩ (.int .i64 0)) := HB2.out.trans (((Chg.refl (M := fun i => i = G)).setCell (p := ⟨G, 3, none⟩) rfl _).below HB2.out.size (fun i e => by rw [e]; exact HGw.out))
    have hcg : Chg (fun i => i = G) w2 (w2.setCell ⟨G, 3, none⟩ (.int .i64 0)) := (Chg.refl (M := fun i => i = G)).setCell (p := ⟨G, 3, none⟩) rfl _
    refine .inl ⟨0, ⟨l, v, 0⟩, A, ck, a0, sl, by omega, Lib.hid ⟨?_, HDE.out, Nat.zero_le _, Nat.zero_le _, HBox2.out.set3 _, hck, HK.out.chg (Chg.of_below (M := fun _ => False) hbs) (fun _ e => e.elim), HC2.out.chg hcg (fun e => (HC2.out.ne4 HBox2.out).1 e.symm) (fun e => (HC2.out.ne4 HBox2.out).2 e.symm), ?_, by omega, (HT.out.on hbs).slots, Chg.of_below hbs, HGw.out⟩⟩
    · have := Carry.start (l := l) (v := v) HL.out (by omega)
      rw [HA0.out] at this
      exact this
    · rw [show a0 + (sl.length - 1) + 0 + 1 = a0 + sl.length by omega, Nat.add_mod_right]
  case round =>
    rename World => wr
    clear g0 g1 g2 g3 hgf
    rcases hrel with ⟨i, s, A2, c2, nx, sl', him, HI⟩ | ⟨x, sl', HI⟩
    · have hI := HI.out
      obtain ⟨g0, g1, g2, g3⟩ := box4 hI.box
      have hgf := hI.box.free 3
      have hnx := hI.nx2
      have hlen : sl'.length = sl.length := hI.carry.len
      have hcT := HT.out.cells.chg hI.chg (by intro e; exact hTS e)
      have hcl := hI.clo
      have hid := hI.id
      obtain ⟨p, hp⟩ : ∃ p, nx % sl.length = p := ⟨_, rfl⟩
      have hpn : p < sl.length := by rw [← hp]; exact Nat.mod_lt _ (by omega)
      have HP := Lib.hid hp
      have hsf : s.far < 400000000 := by have := hI.far; omega
      clear hI hp
      go_wp2_with fail
      refine (round1_b N Tb T S c nx seed sl.length keys wr hcl hcT (by omega) (by omega) (by omega) p HP.out).mono ?_
      rintro e w3 ⟨rfl, hcl3, hch3⟩
      have hNw : w.heap.size ≤ N := Nat.le_trans HB1.out.size hN
      have hNR : ∀ k, k = N → ¬ R k := fun k e c => by have := HRl.out k c; omega
      have hI := HI.out
      have HS3 := Lib.hid (hI.slots.chg hch3 hNR (fun e => by omega))
      have HK3 := Lib.hid (hI.key.chg hch3 hNR)
      have HBox3 := Lib.hid (hI.box.chg hch3 (hI.clo.ne4 hI.box).1)
      have HG3 := Lib.hid (hI.chg.trans hch3 (fun k e => .inr (by omega)))
      have HC3 := Lib.hid hcl3
      have hget : sl'[p]? = some (at_ sl' (a0 + (sl.length - 1) + i + 1)) := by
        rw [List.getElem?_eq_getElem (by omega), ← at_lt (show p < sl'.length by omega), at_mod (i := p) (j := a0 + (sl.length - 1) + i + 1) (by rw [hlen, ← HP.out, Nat.mod_mod, hI.nx1])]
      have HGet := Lib.hid hget
      have hpq : (a0 + (sl.length - 1) + i + 1) % sl'.length = p := by rw [hlen, ← hI.nx1, HP.out]
      have HPQ := Lib.hid hpq
      have hA3 : s.key.length ≤ c2 := hI.room
      have HCa := Lib.hid hI.carry
      have HEm := Lib.hid hI.emp
      have HFar := Lib.hid hI.far
      have HNewG := Lib.hid hI.newG
      clear hI hget hpq hcl hcT g0 g1 g2 g3 hgf hch3 hcl3 HI
      have jp : (p : Int) < (sl.length : Int) := by omega
      cases ho : at_ sl' (a0 + (sl.length - 1) + i + 1) with
      | none =>
        rw [ho] at HGet
        have HO := Lib.hid ho
        clear ho
        obtain ⟨k0, k1, k2, k3⟩ := HS3.out.empty HGet.out
        have hcS0 := (HT.out.cells.chg HG3.out (by intro e; exact hTS e)).c1
        go_wp2_with fail
        obtain ⟨V3, hV3⟩ : ∃ V3, w3.alloc (.cells #[.bool false, .slice none 0 0, .int .u64 0, .int .i64 0] 49) = V3 := ⟨_, rfl⟩
        obtain ⟨Y, hY⟩ : ∃ Y, w3.heap.size = Y := ⟨_, rfl⟩
        simp only [hV3, hY]
        have hbV : Below w3.heap.size w3 V3 := by rw [← hV3]; exact (Below.refl _ _).alloc (Nat.le_refl _) _
        have HBoxY : Hid (Box4 V3 Y (.bool false) (.slice none 0 0) (.int .u64 0) (.int .i64 0)) := Lib.hid (by rw [← hV3, ← hY]; exact heap_alloc_new _ _)
        have HYw : Hid (w.heap.size ≤ Y) := Lib.hid (by rw [← hY]; exact HG3.out.size)
        have HBoxV := Lib.hid (HBox3.out.on hbV)
        have HSV := Lib.hid (HS3.out.on hbV)
        have HGV := Lib.hid (HG3.out.trans (Chg.of_below (M := fun k => k = S) hbV) (fun k e => .inl e))
        have HKV := Lib.hid (HK3.out.chg (Chg.of_below (M := fun _ => False) hbV) (fun _ e => e.elim))
        have HCV := Lib.hid (HC3.out.on hbV)
        have hcS := (HT.out.cells.chg HGV.out (by intro e; exact hTS e)).c1
        clear hbV
        obtain ⟨g0, g1, g2, g3⟩ := box4 HBoxV.out
        obtain ⟨y0, y1, y2, y3⟩ := box4 HBoxY.out
        have hf0 := HSV.out.free (p * 4)
        have hf1 := HSV.out.free (p * 4 + 1)
        have hf2 := HSV.out.free (p * 4 + 2)
        have hf3 := HSV.out.free (p * 4 + 3)
        have e0 := HBoxV.out.free 0
        have e1 := HBoxV.out.free 1
        have e2 := HBoxV.out.free 2
        have e3 := HBoxV.out.free 3
        clear k0 k1 k2 k3
        obtain ⟨k0, k1, k2, k3⟩ := HSV.out.empty HGet.out
        have n1 : Y ≠ S := by have := HYw.out; omega
        have n2 : S ≠ Y := fun e => n1 e.symm
        have n3 : G ≠ S := by have := HNewG.out; omega
        have n4 : S ≠ G := fun e => n3 e.symm
        have n5 : G ≠ Y := by have := HBox3.out.lt; omega
        have n6 : Y ≠ G := fun e => n5 e.symm
        go_region
        obtain ⟨W4, hW4⟩ : ∃ W4, set4 V3 S (p * 4) (.bool true) (.slice A2 s.key.length c2) (.int .u64 (s.n : Int)) (.int .i64 (s.far : Int)) = W4 := ⟨_, rfl⟩
        obtain ⟨W5, hW5⟩ : ∃ W5, (set4 W4 G 0 (.bool false) (.slice none 0 0) (.int .u64 0) (.int .i64 0)).drew = W5 := ⟨_, rfl⟩
        have hsv : SlotsAt W4 S c R (sl'.set p (some s)) := by rw [← hW4]; exact HSV.out.put (by omega) hA3 HKV.out
        have hc4 : Chg (fun k => k = S) V3 W4 := by rw [← hW4]; exact set4_chg _ _ _ _
        have hc5 : Chg (fun k => k = G) W4 W5 := by rw [← hW5]; exact (set4_chg _ _ _ _).drew
        have hGR : ∀ k, k = G → ¬ R k := fun k e c => by have := HRl.out k c; have := HNewG.out; omega
        have hSR : ∀ k, k = S → ¬ R k := fun k e c => HT.out.slots.out (e ▸ c)
        have HS5 := Lib.hid (hsv.chg hc5 hGR n4)
        have HG5 := Lib.hid ((HGV.out.trans hc4 (fun k e => .inl e)).trans hc5 (fun k e => .inr (by have := HNewG.out; omega)))
        have HC5 := Lib.hid ((HCV.out.chg hc4 (fun e => by omega) (fun e => by have := HB1.out.size; omega)).chg hc5 (fun e => (HCV.out.ne4 HBoxV.out).1 e.symm) (fun e => (HCV.out.ne4 HBoxV.out).2 e.symm))
        have hb4 : Box4 W4 G (.bool true) (.slice A2 s.key.length c2) (.int .u64 (s.n : Int)) (.int .i64 (s.far : Int)) := HBoxV.out.chg hc4 n3
        have HBox5 : Hid (Box4 W5 G (.bool false) (.slice none 0 0) (.int .u64 0) (.int .i64 0)) := Lib.hid (by rw [← hW5]; exact hb4.set_drew _ _ _ _)
        unfold set4 at hW4 hW5
        simp only [Nat.zero_add] at hW5
        rw [hW4, hW5]
        clear hsv hc4 hc5 hGR hSR hb4 g0 g1 g2 g3 y0 y1 y2 y3 hf0 hf1 hf2 hf3 e0 e1 e2 e3 k0 k1 k2 k3 hcS0 hcS hW4 hW5 hV3
        obtain ⟨g0, g1, g2, g3⟩ := box4 HBox5.out
        have hgf := HBox5.out.free 3
        have hc6 : Chg (fun k => k = G) W5 (W5.setCell ⟨G, 3, none⟩ (.int .i64 1)) := (Chg.refl (M := fun k => k = G)).setCell (p := ⟨G, 3, none⟩) rfl _
        have HC6 := Lib.hid hc6
        clear hc6
        go_wp2_with fail
        go_roundg 0
        case measure => omega
        case rel =>
          have hPl := HCa.out.place (by omega) HO.out
          rw [HPQ.out] at hPl
          refine .inr ⟨.int .i64 1, sl'.set p (some s), Lib.hid ⟨⟨hPl.1, by rw [List.length_set]; exact hlen, hPl.2⟩, HBox5.out.set3 _, HS5.out.chg HC6.out (fun k e c => by have := HRl.out k c; have := HNewG.out; omega) n4, HG5.out.trans HC6.out (fun k e => .inr (by have := HNewG.out; omega))⟩⟩
      | some y =>
        rw [ho] at HGet
        have HO := Lib.hid ho
        clear ho
        obtain ⟨Ay, cy, k0, k1, k2, k3, kc, kr⟩ := HS3.out.used HGet.out
        have hyf : y.far < sl.length := by rw [← hlen]; exact HCa.out.lay.far_lt ⟨_, HEm.out⟩ HO.out
        obtain ⟨V3, hV3⟩ : ∃ V3, w3.alloc (.cells #[.bool true, .slice Ay y.key.length cy, .int .u64 (y.n : Int), .int .i64 (y.far : Int)] 49) = V3 := ⟨_, rfl⟩
        obtain ⟨Y, hY⟩ : ∃ Y, w3.heap.size = Y := ⟨_, rfl⟩
        have hbV : Below w3.heap.size w3 V3 := by rw [← hV3]; exact (Below.refl _ _).alloc (Nat.le_refl _) _
        have HBoxY0 : Hid (Box4 V3 Y (.bool true) (.slice Ay y.key.length cy) (.int .u64 (y.n : Int)) (.int .i64 (y.far : Int))) := Lib.hid (by rw [← hV3, ← hY]; exact heap_alloc_new _ _)
        have HYw : Hid (w.heap.size ≤ Y) := Lib.hid (by rw [← hY]; exact HG3.out.size)
        have HBoxV0 := Lib.hid (HBox3.out.on hbV)
        have HSV0 := Lib.hid (HS3.out.on hbV)
        have HGV0 := Lib.hid (HG3.out.trans (Chg.of_below (M := fun k => k = S) hbV) (fun k e => .inl e))
        have HKV0 := Lib.hid (HK3.out.chg (Chg.of_below (M := fun _ => False) hbV) (fun _ e => e.elim))
        have HKY0 := Lib.hid (KeyR.chg kr (Chg.of_below (M := fun _ => False) hbV) (fun _ e => e.elim))
        have HCV0 := Lib.hid (HC3.out.on hbV)
        have hcS0 := (HT.out.cells.chg HG3.out (by intro e; exact hTS e)).c1
        have HYlt := Lib.hid (show G ≠ Y by have := HBox3.out.lt; omega)
        clear hbV kr
        obtain ⟨g0, g1, g2, g3⟩ := box4 HBoxV0.out
        obtain ⟨y0, y1, y2, y3⟩ := box4 HBoxY0.out
        go_wp2_with fail
        obtain ⟨dd, hdd⟩ : ∃ dd, decide (Ahead s y) = dd := ⟨_, rfl⟩
        refine (ahead_b true true _ _ s.n y.n s.far y.far s.key y.key _ V3 ⟨A2, c2, rfl, hA3, HKV0.out.rd⟩ ⟨Ay, cy, rfl, kc, HKY0.out.rd⟩ (Nat.le_refl _) dd hdd (by omega) (by omega)).mono ?_
        rintro e W3 ⟨rfl, hbW⟩
        clear g0 g1 g2 g3 y0 y1 y2 y3 k0 k1 k2 k3 hcS0 hV3
        have HBoxY := Lib.hid (HBoxY0.out.on hbW)
        have HBoxV := Lib.hid (HBoxV0.out.on hbW)
        have HSV := Lib.hid (HSV0.out.on hbW)
        have HGV := Lib.hid (HGV0.out.trans (Chg.of_below (M := fun k => k = S) hbW) (fun k e => .inl e))
        have HKV := Lib.hid (HKV0.out.chg (Chg.of_below (M := fun _ => False) hbW) (fun _ e => e.elim))
        have HKY := Lib.hid (HKY0.out.chg (Chg.of_below (M := fun _ => False) hbW) (fun _ e => e.elim))
        have HCV := Lib.hid (HCV0.out.on hbW)
        clear hbW HBoxY0 HBoxV0 HSV0 HGV0 HKV0 HKY0 HCV0
        have HDD := Lib.hid hdd
        clear hdd
        cases dd with
        | true =>
          have hcS := (HT.out.cells.chg HGV.out (by intro e; exact hTS e)).c1
          obtain ⟨g0, g1, g2, g3⟩ := box4 HBoxV.out
          obtain ⟨y0, y1, y2, y3⟩ := box4 HBoxY.out
          have hf0 := HSV.out.free (p * 4)
          have hf1 := HSV.out.free (p * 4 + 1)
          have hf2 := HSV.out.free (p * 4 + 2)
          have hf3 := HSV.out.free (p * 4 + 3)
          have e0 := HBoxV.out.free 0
          have e1 := HBoxV.out.free 1
          have e2 := HBoxV.out.free 2
          have e3 := HBoxV.out.free 3
          obtain ⟨Ay', cy', k0, k1, k2, k3, _, _⟩ := HSV.out.used HGet.out
          have n1 : Y ≠ S := by have := HYw.out; omega
          have n2 : S ≠ Y := fun e => n1 e.symm
          have n3 : G ≠ S := by have := HNewG.out; omega
          have n4 : S ≠ G := fun e => n3 e.symm
          have n5 : G ≠ Y := HYlt.out
          have n6 : Y ≠ G := fun e => n5 e.symm
          go_wp2_with fail
          go_region
          obtain ⟨W4, hW4⟩ : ∃ W4, set4 W3 S (p * 4) (.bool true) (.slice A2 s.key.length c2) (.int .u64 (s.n : Int)) (.int .i64 (s.far : Int)) = W4 := ⟨_, rfl⟩
          obtain ⟨W5, hW5⟩ : ∃ W5, (set4 W4 G 0 (.bool true) (.slice Ay y.key.length cy) (.int .u64 (y.n : Int)) (.int .i64 (y.far : Int))).drew = W5 := ⟨_, rfl⟩
          have hsv : SlotsAt W4 S c R (sl'.set p (some s)) := by rw [← hW4]; exact HSV.out.put (by omega) hA3 HKV.out
          have hc4 : Chg (fun k => k = S) W3 W4 := by rw [← hW4]; exact set4_chg _ _ _ _
          have hc5 : Chg (fun k => k = G) W4 W5 := by rw [← hW5]; exact (set4_chg _ _ _ _).drew
          have hGR : ∀ k, k = G → ¬ R k := fun k e c => by have := HRl.out k c; have := HNewG.out; omega
          have hSR : ∀ k, k = S → ¬ R k := fun k e c => HT.out.slots.out (e ▸ c)
          have HS5 := Lib.hid (hsv.chg hc5 hGR n4)
          have HG5 := Lib.hid ((HGV.out.trans hc4 (fun k e => .inl e)).trans hc5 (fun k e => .inr (by have := HNewG.out; omega)))
          have HC5 := Lib.hid ((HCV.out.chg hc4 (fun e => by omega) (fun e => by have := HB1.out.size; omega)).chg hc5 (fun e => (HCV.out.ne4 HBoxV.out).1 e.symm) (fun e => (HCV.out.ne4 HBoxV.out).2 e.symm))
          have HKY5 := Lib.hid ((HKY.out.chg hc4 hSR).chg hc5 hGR)
          have hb4 : Box4 W4 G (.bool true) (.slice A2 s.key.length c2) (.int .u64 (s.n : Int)) (.int .i64 (s.far : Int)) := HBoxV.out.chg hc4 n3
          have HBox5 : Hid (Box4 W5 G (.bool true) (.slice Ay y.key.length cy) (.int .u64 (y.n : Int)) (.int .i64 (y.far : Int))) := Lib.hid (by rw [← hW5]; exact hb4.set_drew _ _ _ _)
          unfold set4 at hW4 hW5
          simp only [Nat.zero_add] at hW5
          rw [hW4, hW5]
          clear hsv hc4 hc5 hGR hSR hb4 g0 g1 g2 g3 y0 y1 y2 y3 hf0 hf1 hf2 hf3 e0 e1 e2 e3 k0 k1 k2 k3 hcS hW4 hW5
          obtain ⟨g0, g1, g2, g3⟩ := box4 HBox5.out
          have hgf := HBox5.out.free 3
          have hc6 : Chg (fun k => k = G) W5 (W5.setCell ⟨G, 3, none⟩ (.int .i64 ((y.far : Int) + 1))) := (Chg.refl (M := fun k => k = G)).setCell (p := ⟨G, 3, none⟩) rfl _
          have HC6 := Lib.hid hc6
          clear hc6
          go_wp2_with fail
          have hid2 : i < d := by
            rcases Nat.lt_or_ge i d with c | c
            · exact c
            · have e : i = d := by omega
              have h1 := HEm.out
              rw [← e, show a0 + (sl.length - 1) + 1 + i = a0 + (sl.length - 1) + i + 1 by omega, HO.out] at h1
              cases h1
          go_roundg (gk - 1)
          case measure => omega
          case rel =>
            have hSw := HCa.out.swap (by omega) HO.out (of_decide_eq_true HDD.out)
            rw [HPQ.out] at hSw
            refine .inl ⟨i + 1, { y with far := y.far + 1 }, Ay, cy, p + 1, sl'.set p (some s), by omega, Lib.hid ⟨hSw, ?_, by omega, by show y.far + 1 ≤ sl.length + (i + 1); omega, HBox5.out.set3 _, kc, HKY5.out.chg HC6.out (fun k e c => by have := HRl.out k c; have := HNewG.out; omega), HC5.out.chg HC6.out (fun e => (HC5.out.ne4 HBox5.out).1 e.symm) (fun e => (HC5.out.ne4 HBox5.out).2 e.symm), ?_, by omega, HS5.out.chg HC6.out (fun k e c => by have := HRl.out k c; have := HNewG.out; omega) n4, HG5.out.trans HC6.out (fun k e => .inr (by have := HNewG.out; omega)), HNewG.out⟩⟩
            · rw [← HPQ.out, at_set_other (by omega) ?_]
              · exact HEm.out
              · intro c
                have := mod_inj (a := a0 + (sl.length - 1) + 1) (i := d) (j := i) (n := sl'.length) (by omega) (by omega) (by rw [show a0 + (sl.length - 1) + 1 + i = a0 + (sl.length - 1) + i + 1 by omega]; exact c)
                omega
            · have h1 : p % sl.length = (a0 + (sl.length - 1) + i + 1) % sl.length := by have := HPQ.out; rw [hlen] at this; rw [← this, Nat.mod_mod]
              exact mod_add (k := 1) h1
        | false =>
          have hid2 : i < d := by
            rcases Nat.lt_or_ge i d with c | c
            · exact c
            · have e : i = d := by omega
              have h1 := HEm.out
              rw [← e, show a0 + (sl.length - 1) + 1 + i = a0 + (sl.length - 1) + i + 1 by omega, HO.out] at h1
              cases h1
          obtain ⟨g0, g1, g2, g3⟩ := box4 HBoxV.out
          have hgf := HBoxV.out.free 3
          have hc6 : Chg (fun k => k = G) W3 (W3.setCell ⟨G, 3, none⟩ (.int .i64 ((s.far : Int) + 1))) := (Chg.refl (M := fun k => k = G)).setCell (p := ⟨G, 3, none⟩) rfl _
          have HC6 := Lib.hid hc6
          clear hc6
          go_wp2_with fail
          go_roundg (gk - 1)
          case measure => omega
          case rel =>
            refine .inl ⟨i + 1, { s with far := s.far + 1 }, A2, c2, p + 1, sl', by omega, Lib.hid ⟨HCa.out.next HO.out (of_decide_eq_false HDD.out), HEm.out, by omega, by show s.far + 1 ≤ sl.length + (i + 1); have := HFar.out; omega, HBoxV.out.set3 _, hA3, HKV.out.chg HC6.out (fun k e c => by have := HRl.out k c; have := HNewG.out; omega), HCV.out.chg HC6.out (fun e => (HCV.out.ne4 HBoxV.out).1 e.symm) (fun e => (HCV.out.ne4 HBoxV.out).2 e.symm), ?_, by omega, HSV.out.chg HC6.out (fun k e c => by have := HRl.out k c; have := HNewG.out; omega) (by have := HNewG.out; omega), HGV.out.trans HC6.out (fun k e => .inr (by have := HNewG.out; omega)), HNewG.out⟩⟩
            have h1 : p % sl.length = (a0 + (sl.length - 1) + i + 1) % sl.length := by have := HPQ.out; rw [hlen] at this; rw [← this, Nat.mod_mod]
            exact mod_add (k := 1) h1
    · have hI := HI.out
      obtain ⟨g0, g1, g2, g3⟩ := box4 hI.box
      clear hI
      go_wp2
      go_end0
      have hI := HI.out
      refine ⟨rfl, sl', hI.to, ⟨?_, hI.slots, hTS, HT.out.outT⟩, hI.chg⟩
      rw [hI.to.2.1]
      exact HT.out.cells.chg hI.chg (fun e => hTS e)
end Go.Proofs.Ytffcbekogpgciaa.Pr
