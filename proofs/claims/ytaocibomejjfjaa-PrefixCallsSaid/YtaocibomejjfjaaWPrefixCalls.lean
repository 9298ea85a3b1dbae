/-
  The walk of the law PrefixCalls: it returns true, and writes nothing that was there.
-/
import Derived.Test.YtaocibomejjfjaaRxGet
import Derived.Test.YtaocibomejjfjaaRxTot
import Derived.OpenShut
set_option linter.unusedVariables false
set_option linter.unusedSimpArgs false
namespace Go.Proofs.Ytaocibomejjfjaa.prefixCalls
open Go.RowKit

/-- what holds while the bytes of z are turned -/
def Inv (wr w : World) (B gz M cz : Nat) (own : Value) (A0 : Option Addr) (l : List UInt8) (c0 : Nat) : Prop :=
  (∃ bs : List UInt8, bs.length = M ∧ wr.ownsRow B 5 1 (.slice (some ⟨gz, 0, none⟩) M cz) M (bvs bs)) ∧ Below w.heap.size w wr ∧ Bs wr B own l ∧ Bs wr B (.slice A0 l.length c0) l

set_option maxRecDepth 100000 in
set_option maxHeartbeats 8000000 in
theorem walk (v0 : Value) (z0 : List Int) (a1 : Int) (a2 : Int) (w : World) (w0 : Ints w w.heap.size .u8 v0 z0) (g0 : ∀ n ∈ z0, (Lit.int .u8 n).wf = true) (s0 : z0.length * 1 ≤ 140737488351232) (w1 : (Lit.int .u64 a1).wf = true) (w2 : (Lit.int .i64 a2).wf = true) :
    Calls Try.prog 3 #[v0, .int .u64 a1, .int .i64 a2] w fun e w' => e = .returned (.bool true) ∧ Below w.heap.size w w' := by
  obtain ⟨p1, q1⟩ := bounds_u64 w1
  obtain ⟨p2, q2⟩ := bounds_i64 w2
  have hbs := bs_of_ints w0 (fun z hz => bounds_u8 (g0 z hz))
  have hll : (z0.map fun z => UInt8.ofNat z.toNat).length ≤ 140737488351232 := by rw [List.length_map]; omega
  generalize z0.map (fun z => UInt8.ofNat z.toNat) = l0 at hbs hll
  clear w0 w1 w2 g0 s0
  obtain ⟨A0, c0, rfl, hc0, hr0⟩ := hbs
  have hb40 : Bs w w.heap.size (.slice A0 (l0.take 40).length c0) (l0.take 40) := ⟨A0, c0, rfl, by rw [List.length_take]; omega, by rw [bvs_take]; exact hr0.take 40⟩
  have hlen40 : (l0.take 40).length = min l0.length 40 := by rw [List.length_take]; omega
  generalize hN : l0.length = N at *
  generalize l0.take 40 = l at hb40 hlen40
  have hl40 : l.length ≤ 40 := by omega
  have hl41 : l.length ≤ N := by omega
  have Hlen := Lib.hid hlen40
  have Hb := Lib.hid hb40
  clear hN hr0 hlen40 hb40
  go_enter Try.func3, Try.ntmps3
  go_wp2_with fail
  have e1 : (min (N : Int) 40).toNat = l.length := by have := Hlen.out; omega
  rw [e1]
  clear e1 Hlen
  have hl1 : l.length ≤ 1000 := by omega
  have hl2 : l.length ≤ 9223372036854775807 := by omega
  have hl3 : l.length + 9 ≤ 140737488355328 := by omega
  have hl4 : l.length + 8 ≤ 140737488355328 := by omega
  refine (own_b _ l _ Hb.out (by omega)).mono ?_
  rintro e w1 ⟨own, rfl, hown, b1⟩
  have Ho := Lib.hid (Bs.of_own hown)
  have Hb1 := Lib.hid (Hb.out.on b1)
  clear hown Hb
  go_wp2_with fail
  refine (get_b _ l _ _ Ho.out hl2).mono ?_
  rintro e w2 ⟨rfl, hb⟩
  have b2 := b1.trans (hb.mono b1.size)
  have Ho2 := Lib.hid (Ho.out.on hb)
  have Hb2 := Lib.hid (Hb1.out.on hb)
  clear hb b1 Ho Hb1
  have hgv : ∃ G1 G2 G3 : Int, getV l = .tuple #[.int .u64 G1, .int .i64 G2, .int .i64 G3] := ⟨_, _, _, rfl⟩
  obtain ⟨G1, G2, G3, hgv⟩ := hgv
  have Hgv := Lib.hid hgv
  rw [hgv]
  clear hgv
  go_wp2_with fail
  refine (rget_any _ l _ Hb2.out hl1).mono ?_
  rintro e w3 ⟨rfl, hb⟩
  rw [Hgv.out]
  have b3 := b2.trans (hb.mono b2.size)
  have Ho3 := Lib.hid (Ho2.out.on hb)
  have Hb3 := Lib.hid (Hb2.out.on hb)
  clear hb b2 Ho2 Hb2 Hgv
  go_wp2_with fail
  refine (fixed_tot _ l _ _ _ Ho3.out p1 (by omega) hl4).mono ?_
  rintro e w4 ⟨x, rfl, hx, hb⟩
  have b4 := b3.trans (hb.mono b3.size)
  have Ho4 := Lib.hid (Ho3.out.on hb)
  have Hb4 := Lib.hid (Hb3.out.on hb)
  have Hx := Lib.hid hx
  clear hb b3 Ho3 Hb3 hx
  go_wp2_with fail
  refine (rfixed_tot _ l _ _ _ Hb4.out p1 (by omega) hl4).mono ?_
  rintro e w5 ⟨y, rfl, hy, hb⟩
  have b5 := b4.trans (hb.mono b4.size)
  have Ho5 := Lib.hid (Ho4.out.on hb)
  have Hb5 := Lib.hid (Hb4.out.on hb)
  have Hx5 := Lib.hid (Hx.out.on hb)
  have Hy5 := Lib.hid hy
  clear hb b4 Ho4 Hb4 Hx hy
  generalize fixE a1 a2 = FE at *
  generalize fixL l a1 a2 = FL at *
  go_wp2_with fail
  refine (read_tot _ l _ _ _ Ho5.out hl2).mono ?_
  rintro e w6 ⟨rfl, rfl⟩
  go_wp2_with fail
  refine (rread_tot _ l _ _ _ Hb5.out hl2).mono ?_
  rintro e w6 ⟨rfl, rfl⟩
  generalize rdV l a2 = RV at *
  generalize rdE l a2 = RE at *
  go_wp2_with fail
  refine (narrow_tot _ _ _ p1 (by omega)).mono ?_
  rintro e w6 ⟨rfl, rfl⟩
  go_wp2_with fail
  refine (rnarrow_tot _ _ _ p1 (by omega)).mono ?_
  rintro e w6 ⟨rfl, hb⟩
  generalize narV a1 a2 = NV at *
  generalize narE a1 a2 = NE at *
  have b6 := b5.trans (hb.mono b5.size)
  have Ho6 := Lib.hid (Ho5.out.on hb)
  have Hb6 := Lib.hid (Hb5.out.on hb)
  have Hx6 := Lib.hid (Hx5.out.on hb)
  have Hy6 := Lib.hid (Hy5.out.on hb)
  clear hb b5 Ho5 Hb5 Hx5 Hy5
  go_wp2_with fail
  refine (equal_b _ _ _ _ _ _ _ Hx6.out Hy6.out).mono ?_
  rintro e w7 ⟨rfl, rfl⟩
  rw [show (FL == FL) = true from by simp]
  clear Hx6 Hy6
  go_wp2_with fail
  refine (put_b _ l _ _ Ho6.out p1 (by omega) hl3).mono ?_
  rintro e w7 ⟨z, rfl, hownz, hb⟩
  have b7 := b6.trans (hb.mono b6.size)
  have hB := b6.size
  have Ho7 := Lib.hid (Ho6.out.below hb (Nat.le_refl _))
  have Hb7 := Lib.hid (Hb6.out.below hb (Nat.le_refl _))
  have hh7 := hb.size
  have Hz := Lib.hid hownz
  clear hb b6 Ho6 Hb6 hownz
  generalize w6.heap.size = B at *
  go_wp2_with fail
  refine (rput_any _ l _ _ (Hb7.out.mono hh7) p1 (by omega) hl3).mono ?_
  rintro e w8 ⟨z', rfl, hownz', hb⟩
  have b8 := b7.trans (hb.mono b7.size)
  have Ho8 := Lib.hid (Ho7.out.below hb hh7)
  have Hb8 := Lib.hid (Hb7.out.below hb hh7)
  have hh8 : B ≤ w8.heap.size := Nat.le_trans hh7 hb.size
  have Hz8 := Lib.hid (own_below Hz.out hb (Nat.le_refl _))
  have Hz' := Lib.hid (Bs.of_own hownz')
  clear hb b7 Ho7 Hb7 Hz hownz'
  go_wp2_with fail
  refine (equal_b _ _ _ _ _ _ _ (Bs.of_own Hz8.out) Hz'.out).mono ?_
  rintro e w9 ⟨rfl, rfl⟩
  rw [show ((l ++ Px.formL a1.toNat) == (l ++ Px.formL a1.toNat)) = true from by simp]
  clear Hz'
  go_wp2_with fail
  refine (size_any _ _ p1 (by omega)).mono ?_
  rintro e w9 ⟨rfl, rfl⟩
  go_wp2_with fail
  refine (shortest_any _ _ p1 (by omega)).mono ?_
  rintro e w9 ⟨sh, rfl, hownsh, hb⟩
  obtain ⟨As, cs, rfl, _, _⟩ := own_slice hownsh
  have b9 := b8.trans (hb.mono b8.size)
  have Ho9 := Lib.hid (Ho8.out.below hb hh8)
  have Hb9 := Lib.hid (Hb8.out.below hb hh8)
  have hh9 : B ≤ w9.heap.size := Nat.le_trans hh8 hb.size
  have Hz9 := Lib.hid (own_below Hz8.out hb (Nat.le_refl _))
  clear hb b8 Ho8 Hb8 Hz8 hownsh
  have hk := Px.sizeN_pos a1.toNat
  generalize Px.sizeN a1.toNat = k at *
  go_wp2_with fail
  have hs : -9223372036854775808 ≤ wrap64 a1 ∧ wrap64 a1 < 9223372036854775808 := by unfold wrap64; omega
  have Hs := Lib.hid hs
  clear hs
  refine (fold_any _ _ Hs.out.1 Hs.out.2).mono ?_
  rintro e w10 ⟨rfl, rfl⟩
  go_wp2_with fail
  refine (rfold_any _ _ Hs.out.1 Hs.out.2).mono ?_
  rintro e w10 ⟨rfl, rfl⟩
  generalize foldI (wrap64 a1) = fo at *
  go_wp2_with fail
  refine (unfold_any _ _ p1 (by omega)).mono ?_
  rintro e w10 ⟨rfl, rfl⟩
  go_wp2_with fail
  refine (runfold_any _ _ p1 (by omega)).mono ?_
  rintro e w10 ⟨rfl, rfl⟩
  generalize unfoldI a1 = un at *
  obtain ⟨gz, cz, rfl, hgz, hgz2⟩ := Hz9.out.form (by omega)
  go_wp2_with fail
  have hzl : (l ++ Px.formL a1.toNat).length = l.length + k := by have := Hz9.out.1; simpa [bvs] using this
  generalize hM : l.length + k = M at *
  go_loopw [166] (fun i wr => ∃ j : Nat, j ≤ M ∧ i = .int .i64 j ∧ Inv wr w B gz M cz own A0 l c0) (fun i _ => M - (intOf i).toNat)
  case atStart => exact ⟨0, by omega, rfl, ⟨_, hzl, Hz9.out⟩, b9, Ho9.out, Hb9.out⟩
  case round =>
    obtain ⟨j, hj, rfl, ⟨bs, hbl, hrow⟩, hbw, hbo, hbb⟩ := hrel
    by_cases hlt : j < M
    · have hjl : j < bs.length := by omega
      have hcell := hrow.cellAt j (by omega)
      rw [bvs_get bs j hjl] at hcell
      unfold bv at hcell
      have hfr := hrow.frozenAt j
      obtain ⟨hst, _⟩ := hrow.stored j (bv (bs[j] ^^^ 255))
      rw [← bvs_set] at hst
      unfold bv at hst
      have hxor : bits .xor .u8 (bs[j].toNat : Int) 255 = ((bs[j] ^^^ 255).toNat : Int) := by
        rw [show (255 : Int) = ((255 : Nat) : Int) from rfl, u8_xor_nat _ _ (UInt8.toNat_lt _) (by omega), UInt8.toNat_xor]
        rfl
      have Hxor := Lib.hid hxor
      have Hst := Lib.hid hst
      have Hsl : Hid ((bs.set j (bs[j] ^^^ 255)).length = M) := Lib.hid (by rw [List.length_set]; exact hbl)
      have Hrest : Hid (∀ u, Below w.heap.size w (wr.setCell ⟨gz, j, none⟩ u) ∧ Bs (wr.setCell ⟨gz, j, none⟩ u) B own l ∧ Bs (wr.setCell ⟨gz, j, none⟩ u) B (.slice A0 l.length c0) l) := Lib.hid fun u =>
        ⟨hbw.setCell (by show w.heap.size ≤ gz; omega) u, hbo.keep fun q hq => World.cell?_setCell_other wr _ q u (fun e => by rw [← e] at hq; exact absurd hq (by show ¬ gz < B; omega)),
          hbb.keep fun q hq => World.cell?_setCell_other wr _ q u (fun e => by rw [← e] at hq; exact absurd hq (by show ¬ gz < B; omega))⟩
      clear hxor hst hrow hbw hbo hbb
      generalize bs[j] = y at *
      go_wp2_with fail
      go_roundw
      case rel =>
        refine ⟨j + 1, by omega, by go_num, ⟨bs.set j (y ^^^ 255), Hsl.out, ?_⟩, (Hrest.out _).1, (Hrest.out _).2.1, (Hrest.out _).2.2⟩
        rw [Hxor.out]
        exact Hst.out
      case measure => simp [intOf]; omega
    · have Hbo := Lib.hid hbo
      have Hbb := Lib.hid hbb
      clear hrow hbo hbb
      go_wp2_with fail
      refine (equal_b _ _ _ _ _ _ _ Hbo.out Hbb.out).mono ?_
      rintro e w11 ⟨rfl, rfl⟩
      rw [show (l == l) = true from by simp]
      go_wp2_with fail
      refine (wakes_any _).mono ?_
      rintro e w12 ⟨rfl, hb⟩
      go_wp2_with fail
      go_ret
      exact ⟨rfl, hbw.trans (hb.mono hbw.size)⟩
end Go.Proofs.Ytaocibomejjfjaa.prefixCalls
