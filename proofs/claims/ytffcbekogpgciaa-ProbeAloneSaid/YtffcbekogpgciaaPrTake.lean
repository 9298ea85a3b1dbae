
/-
  Layer 14 (probe): take.
-/
import Derived.Test.YtffcbekogpgciaaPrFind
import Derived.Test.YtffcbekogpgciaaPrLayP
set_option linter.unusedVariables false
set_option linter.unusedSimpArgs false
namespace Go.Proofs.Ytffcbekogpgciaa.Pr
open Go Go.RowKit

/-- the slots that take leaves -/
def TakeTo (h : List UInt8 → Nat) (sl0 : List (Option E)) (z : E) (sl : List (Option E)) : Prop := Lay h sl ∧ sl.length = sl0.length ∧ List.Perm ((z.key, z.n) :: kn sl) (kn sl0)
/-- take's loop: what lies (sl) but for the hole at b + 1 is S -/
structure TakeI (w wr : World) (T S c seed : Nat) (R : Nat → Prop) (sl0 : List (Option E)) (z : E) (b0 d : Nat) (N Tb i : Nat) (nx : Nat) (sl : List (Option E)) : Prop where
  gone : Gone (fun k => Ky.hash seed k % sl0.length) sl0 z (sl.set ((b0 + i + 1) % sl0.length) none) (b0 + i)
  len : sl.length = sl0.length
  emp : at_ sl (b0 + 1 + d) = none
  id : i < d
  fars : ∀ j e, at_ sl j = some e → e.far < sl0.length
  clo : CloAt wr N Tb T nx
  nx1 : nx % sl0.length = (b0 + i + 2) % sl0.length
  nx2 : nx ≤ sl0.length + 1
  slots : SlotsAt wr S c R sl
  chg : Chg (fun k => k = S) w wr

set_option maxRecDepth 100000 in
set_option maxHeartbeats 8000000 in
theorem take_b (T S c : Nat) (R : Nat → Prop) (seed keys : Nat) (sl : List (Option E)) (w : World) (h : TabAt w T S c R seed keys sl) (hR : ∀ i, R i → i < w.heap.size) (hs : seed < 18446744073709551616) (hn9 : sl.length < 200000000) (hn : 3 ≤ sl.length) (hE : Emp sl)
    (L : Lay (fun k => Ky.hash seed k % sl.length) sl) (at' : Nat) (z : E) (ha : at' < sl.length) (hz : at_ sl at' = some z) :
    Calls Try.prog 32 #[.pointer (some ⟨T, 0, none⟩), .int .i64 (at' : Int)] w fun e w' => e = .returned (.tuple #[]) ∧
      ∃ sl', TakeTo (fun k => Ky.hash seed k % sl.length) sl z sl' ∧ TabAt w' T S c R seed keys sl' ∧ Chg (fun k => k = S) w w' := by
  have HT := Lib.hid h
  have HL := Lib.hid L
  have HE := Lib.hid hE
  have HRl := Lib.hid hR
  have HZ := Lib.hid hz
  have hTS := h.ne
  have hTlt := h.cells.lt
  have hSlt := h.slots.lt
  clear h L hE hR hz
  -- the hole lies behind b0
  obtain ⟨b0, hb0⟩ : ∃ b0, b0 + 1 = at' + sl.length := ⟨at' + sl.length - 1, by omega⟩
  have HB0 := Lib.hid hb0
  have hbm : (b0 + 1) % sl.length = at' := by rw [hb0, Nat.add_mod_right, Nat.mod_eq_of_lt ha]
  have hbz : at_ sl (b0 + 1) = some z := by rw [at_mod (i := b0 + 1) (j := at') (by rw [hbm, Nat.mod_eq_of_lt ha])]; exact HZ.out
  have HBZ := Lib.hid hbz
  have HBM := Lib.hid hbm
  obtain ⟨d, hd0, hdn, hdE⟩ : ∃ d, 0 < d ∧ d < sl.length ∧ at_ sl (b0 + 1 + d) = none := by
    obtain ⟨p, hp⟩ := HE.out
    obtain ⟨j, hj, hjp⟩ := reach (b0 + 1) p sl.length (by omega)
    refine ⟨j, ?_, hj, (at_mod hjp).trans hp⟩
    rcases Nat.eq_zero_or_pos j with e | e
    · subst e
      rw [Nat.add_zero] at hjp
      rw [at_mod hjp, hp] at hbz
      cases hbz
    · exact e
  have HDE := Lib.hid hdE
  clear hdE hbz hbm hb0
  go_enter Try.func32, Try.ntmps32
  go_wp2_with fail
  refine (round_b T (at' + 1) _).mono ?_
  rintro e w2 ⟨N, Tb, rfl, hclo, hN, hTb, hb2⟩
  have HB2 := Lib.hid hb2
  have HC2 := Lib.hid hclo
  clear hb2 hclo
  go_wp2_with fail
  go_loopg [1, 5] (d + 2) (fun m u x wr => ∃ (i nx a : Nat) (sl' : List (Option E)), i + m = d + 2 ∧ u = .int .i64 (a : Int) ∧ a < sl.length ∧ Hid ((b0 + i + 1) % sl.length = a) ∧ Hid (TakeI w wr T S c seed R sl z b0 d N Tb i nx sl'))
  case atStart =>
    refine ⟨0, at' + 1, at', sl, by omega, rfl, ha, HBM, Lib.hid ⟨Gone.start HL.out hn HBZ.out, rfl, HDE.out, hd0, fun j e he => HL.out.far_lt HE.out he, HC2.out, ?_, by omega, (HT.out.on HB2.out).slots, Chg.of_below HB2.out⟩⟩
    have := HB0.out
    rw [show b0 + 0 + 2 = at' + 1 + sl.length by omega, Nat.add_mod_right]
  case round =>
    rename World => wr
    obtain ⟨i, nx, a, sl', him, rfl, han, HAB, HI⟩ := hrel
    have hI := HI.out
    have hnx := hI.nx2
    have hlen : sl'.length = sl.length := hI.len
    have hcT := HT.out.cells.chg hI.chg (by intro e; exact hTS e)
    have hcl := hI.clo
    have hid := hI.id
    obtain ⟨p, hp⟩ : ∃ p, nx % sl.length = p := ⟨_, rfl⟩
    have hpn : p < sl.length := by rw [← hp]; exact Nat.mod_lt _ (by omega)
    have HP := Lib.hid hp
    clear hI hp
    go_wp2_with fail
    refine (round1_b N Tb T S c nx seed sl.length keys wr hcl hcT (by omega) (by omega) (by omega) p HP.out).mono ?_
    rintro e w3 ⟨rfl, hcl3, hch3⟩
    have hNw : w.heap.size ≤ N := hN
    have hNR : ∀ k, k = N → ¬ R k := fun k e c => by have := HRl.out k c; omega
    have hI := HI.out
    have HS3 := Lib.hid (hI.slots.chg hch3 hNR (fun e => by omega))
    have HG3 := Lib.hid (hI.chg.trans hch3 (fun k e => .inr (by omega)))
    have HC3 := Lib.hid hcl3
    have hpq : (b0 + i + 2) % sl'.length = p := by rw [hlen, ← hI.nx1, HP.out]
    have HPQ := Lib.hid hpq
    have hget : sl'[p]? = some (at_ sl' (b0 + i + 2)) := by
      rw [List.getElem?_eq_getElem (by omega), ← at_lt (show p < sl'.length by omega), at_mod (i := p) (j := b0 + i + 2) (by rw [← hpq, Nat.mod_mod])]
    have HGet := Lib.hid hget
    have HGo := Lib.hid hI.gone
    have HFs := Lib.hid hI.fars
    have HEm := Lib.hid hI.emp
    have hne : (b0 + i + 2) % sl'.length ≠ (b0 + i + 1) % sl'.length := fun c => succ_ne (q := b0 + i + 1) (n := sl'.length) (by omega) c.symm
    have HNe := Lib.hid hne
    -- what stands behind the hole stands in S as well
    have hsame : at_ (sl'.set ((b0 + i + 1) % sl.length) none) (b0 + i + 2) = at_ sl' (b0 + i + 2) := by rw [← hlen, at_set_other (by omega) hne]
    have HSame := Lib.hid hsame
    clear hI hget hpq hcl hcT hch3 hcl3 HI hne hsame
    have jp : (p : Int) < (sl.length : Int) := by omega
    have ja : (a : Int) < (sl.length : Int) := by omega
    have hcS0 := (HT.out.cells.chg HG3.out (by intro e; exact hTS e)).c1
    obtain ⟨v0, v1, v2, v3, q0, q1, q2, q3⟩ := HS3.out.any (i := a) (by omega)
    have hTl : T < w3.heap.size := by have := HG3.out.size; omega
    have hSl : S < w3.heap.size := HS3.out.lt
    have hSR : ∀ k, k = S → ¬ R k := fun k e c => HT.out.slots.out (e ▸ c)
    cases ho : at_ sl' (b0 + i + 2) with
    | none =>
      rw [ho] at HGet
      have HO := Lib.hid ho
      clear ho
      obtain ⟨k0, k1, k2, k3⟩ := HS3.out.empty HGet.out
      have hcA : ∀ o, (w3.alloc o).cell? ⟨T, 1, none⟩ = some (.slice (some ⟨S, 0, none⟩) sl.length c) := fun o => (World.cell?_alloc_lt w3 o _ hTl).trans hcS0
      have hf0 := HS3.out.free (a * 4)
      have hf1 := HS3.out.free (a * 4 + 1)
      have hf2 := HS3.out.free (a * 4 + 2)
      have hf3 := HS3.out.free (a * 4 + 3)
      go_wp2
      go_end0
      have hgo := HGo.out
      rw [HAB.out] at hgo
      have hsm := HSame.out
      rw [HAB.out, HO.out] at hsm
      have hcl := HS3.out.clear (p := a) (by omega)
      have hch : Chg (fun k => k = S) w (set4 w3 S (a * 4) (.bool false) (.slice none 0 0) (.int .u64 0) (.int .i64 0)) := HG3.out.trans (set4_chg _ _ _ _) (fun k e => .inl e)
      obtain ⟨W4, hW4⟩ : ∃ W4, set4 w3 S (a * 4) (.bool false) (.slice none 0 0) (.int .u64 0) (.int .i64 0) = W4 := ⟨_, rfl⟩
      rw [hW4] at hcl hch
      unfold set4 at hW4
      rw [hW4]
      have hta : TabAt W4 T S c R seed keys (sl'.set a none) := ⟨by have := HT.out.cells.chg hch (fun e => hTS e); rw [← hlen] at this; simpa using this, hcl, hTS, HT.out.outT⟩
      refine ⟨rfl, sl'.set a none, ⟨hgo.done (fun e he => by rw [hsm] at he; cases he), hgo.len, hgo.perm⟩, hta.on ((Below.refl _ _).alloc (Nat.le_refl _) _), hch.alloc _⟩
    | some y =>
      rw [ho] at HGet
      have HO := Lib.hid ho
      clear ho
      obtain ⟨Ay, cy, k0, k1, k2, k3, kc, kr⟩ := HS3.out.used HGet.out
      obtain ⟨V3, hV3⟩ : ∃ V3, w3.alloc (.cells #[.bool true, .slice Ay y.key.length cy, .int .u64 (y.n : Int), .int .i64 (y.far : Int)] 49) = V3 := ⟨_, rfl⟩
      obtain ⟨Y, hY⟩ : ∃ Y, w3.heap.size = Y := ⟨_, rfl⟩
      have hbV : Below w3.heap.size w3 V3 := by rw [← hV3]; exact (Below.refl _ _).alloc (Nat.le_refl _) _
      have HBoxY : Hid (Box4 V3 Y (.bool true) (.slice Ay y.key.length cy) (.int .u64 (y.n : Int)) (.int .i64 (y.far : Int))) := Lib.hid (by rw [← hV3, ← hY]; exact heap_alloc_new _ _)
      have HYw : Hid (w.heap.size ≤ Y) := Lib.hid (by rw [← hY]; exact HG3.out.size)
      have HYt : Hid (N ≠ Y ∧ Tb ≠ Y) := Lib.hid (by have := HC3.out.lt; omega)
      have HSV := Lib.hid (HS3.out.on hbV)
      have HGV := Lib.hid (HG3.out.trans (Chg.of_below (M := fun k => k = S) hbV) (fun k e => .inl e))
      have HKY := Lib.hid (KeyR.chg kr (Chg.of_below (M := fun _ => False) hbV) (fun _ e => e.elim))
      have HCV := Lib.hid (HC3.out.on hbV)
      have hcS := (HT.out.cells.chg HGV.out (by intro e; exact hTS e)).c1
      have hyf : y.far < sl.length := HFs.out _ _ HO.out
      clear hbV kr q0 q1 q2 q3
      obtain ⟨v0', v1', v2', v3', q0, q1, q2, q3⟩ := HSV.out.any (i := a) (by omega)
      obtain ⟨y0, y1, y2, y3⟩ := box4 HBoxY.out
      have hyfz := HBoxY.out.free 3
      have hf0 := HSV.out.free (a * 4)
      have hf1 := HSV.out.free (a * 4 + 1)
      have hf2 := HSV.out.free (a * 4 + 2)
      have hf3 := HSV.out.free (a * 4 + 3)
      by_cases hz0 : y.far = 0
      · have jz : ((y.far : Int) == 0) = true := by simp [hz0]
        have HZ0 := Lib.hid hz0
        clear hz0
        go_wp2
        go_end0
        have hgo := HGo.out
        rw [HAB.out] at hgo
        have hsm := HSame.out
        rw [HAB.out, HO.out] at hsm
        have hcl := HSV.out.clear (p := a) (by omega)
        have hch : Chg (fun k => k = S) w (set4 V3 S (a * 4) (.bool false) (.slice none 0 0) (.int .u64 0) (.int .i64 0)) := HGV.out.trans (set4_chg _ _ _ _) (fun k e => .inl e)
        refine ⟨rfl, sl'.set a none, ⟨hgo.done (fun e he => by rw [hsm] at he; injection he with he; rw [← he]; exact HZ0.out), hgo.len, hgo.perm⟩, ⟨?_, hcl, hTS, HT.out.outT⟩, hch⟩
        have := HT.out.cells.chg hch (fun e => hTS e)
        rw [← hlen] at this
        rw [List.length_set]
        exact this
      · have jz : ((y.far : Int) == 0) = false := by simp; omega
        go_wp2_with fail
        have n1 : Y ≠ S := by have := HYw.out; omega
        have n2 : S ≠ Y := fun e => n1 e.symm
        obtain ⟨U3, hU3⟩ : ∃ U3, V3.setCell ⟨Y, 3, none⟩ (.int .i64 ((y.far : Int) - 1)) = U3 := ⟨_, rfl⟩
        have hcY : Chg (fun k => k = Y) V3 U3 := by rw [← hU3]; exact (Chg.refl (M := fun k => k = Y)).setCell (p := ⟨Y, 3, none⟩) rfl _
        have hYR : ∀ k, k = Y → ¬ R k := fun k e c => by have := HRl.out k c; have := HYw.out; omega
        have HBoxU : Hid (Box4 U3 Y (.bool true) (.slice Ay y.key.length cy) (.int .u64 (y.n : Int)) (.int .i64 ((y.far : Int) - 1))) := Lib.hid (by rw [← hU3]; exact HBoxY.out.set3 _)
        have HSU := Lib.hid (HSV.out.chg hcY hYR n2)
        have HGU := Lib.hid (HGV.out.trans hcY (fun k e => .inr (by have := HYw.out; omega)))
        have HKU := Lib.hid (HKY.out.chg hcY hYR)
        have HCU := Lib.hid (HCV.out.chg hcY HYt.out.1 HYt.out.2)
        clear hcY
        rw [hU3]
        clear hcS q0 q1 q2 q3 y0 y1 y2 y3 hyfz hf0 hf1 hf2 hf3 k0 k1 k2 k3 hcS0 hU3 hV3
        have hcS := (HT.out.cells.chg HGU.out (by intro e; exact hTS e)).c1
        obtain ⟨v0, v1, v2, v3, q0, q1, q2, q3⟩ := HSU.out.any (i := a) (by omega)
        obtain ⟨y0, y1, y2, y3⟩ := box4 HBoxU.out
        have hf0 := HSU.out.free (a * 4)
        have hf1 := HSU.out.free (a * 4 + 1)
        have hf2 := HSU.out.free (a * 4 + 2)
        have hf3 := HSU.out.free (a * 4 + 3)
        go_region
        obtain ⟨W5, hW5⟩ : ∃ W5, (set4 U3 S (a * 4) (.bool true) (.slice Ay y.key.length cy) (.int .u64 (y.n : Int)) (.int .i64 ((y.far : Int) - 1))).drew = W5 := ⟨_, rfl⟩
        have HFe := Lib.hid (show (((y.far - 1 : Nat)) : Int) = (y.far : Int) - 1 by omega)
        have hput := HSU.out.put (p := a) (by omega) (e := { y with far := y.far - 1 }) (ck := cy) kc HKU.out
        have hc5 : Chg (fun k => k = S) U3 W5 := by rw [← hW5]; exact (set4_chg _ _ _ _).drew
        have HS5 : Hid (SlotsAt W5 S c R (sl'.set a (some { y with far := y.far - 1 }))) := Lib.hid (by
          rw [← hW5]
          simp only [HFe.out] at hput
          exact hput.on (Below.refl _ _).drew)
        have HG5 := Lib.hid (HGU.out.trans hc5 (fun k e => .inl e))
        have HC5 := Lib.hid (HCU.out.chg hc5 (fun e => by have := HB2.out; omega) (fun e => by omega))
        unfold set4 at hW5
        rw [hW5]
        clear hput hc5 hW5 q0 q1 q2 q3 y0 y1 y2 y3 hcS hf0 hf1 hf2 hf3
        have hid2 : i + 1 < d := by
          rcases Nat.lt_or_ge (i + 1) d with c | c
          · exact c
          · have e : i + 1 = d := by omega
            have h1 := HEm.out
            rw [← e, show b0 + 1 + (i + 1) = b0 + i + 2 by omega, HO.out] at h1
            cases h1
        go_wp2_with fail
        go_roundg (gk - 1)
        case measure => omega
        case rel =>
          have hst := HGo.out.step (by simpa [hlen] using hn) (e := y) (HSame.out.trans HO.out) (by omega)
          have hab : (b0 + i + 1) % sl'.length = a := by rw [hlen]; exact HAB.out
          simp only [List.length_set] at hst
          rw [HAB.out, hab, HPQ.out, List.set_set] at hst
          refine ⟨i + 1, p + 1, p, sl'.set a (some { y with far := y.far - 1 }), by omega, rfl, hpn, Lib.hid (by rw [show b0 + (i + 1) + 1 = b0 + i + 2 by omega, ← hlen]; exact HPQ.out), Lib.hid ⟨?_, by simpa using hlen, ?_, hid2, ?_, HC5.out, ?_, by omega, HS5.out, HG5.out⟩⟩
          · rw [show b0 + (i + 1) + 1 = b0 + i + 2 by omega, ← hlen, HPQ.out, hlen]
            exact hst
          · rw [← hab, at_set_other (by omega) ?_]
            · exact HEm.out
            · intro c
              have := mod_inj (a := b0 + 1) (i := d) (j := i) (n := sl'.length) (by omega) (by omega) (by rw [show b0 + 1 + i = b0 + i + 1 by omega]; exact c)
              omega
          · intro j e he
            rw [← hab, at_set (by omega)] at he
            split at he
            · injection he with he
              rw [← he]
              show y.far - 1 < sl.length
              omega
            · exact HFs.out j e he
          · have h1 : p % sl.length = (b0 + i + 2) % sl.length := by have := HPQ.out; rw [hlen] at this; rw [← this, Nat.mod_mod]
            exact mod_add (k := 1) h1
end Go.Proofs.Ytffcbekogpgciaa.Pr
