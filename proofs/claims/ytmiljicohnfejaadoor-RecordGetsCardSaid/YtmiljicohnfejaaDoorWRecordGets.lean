
/-
  The walk of the law RecordGets: it returns true, and writes nothing that was there.
-/
import Derived.Test.YtmiljicohnfejaaDoorRcRefGet
import Derived.OpenShut
set_option linter.unusedVariables false
set_option linter.unusedSimpArgs false
namespace Go.Proofs.YtmiljicohnfejaaDoor.recordGets
open Go.RowKit

theorem get_lens (l : List UInt8) : (Rc.getQ l).1.key.length ≤ l.length ∧ (Rc.getQ l).1.val.length ≤ l.length := by
  have h0 : Rc.none.key.length ≤ l.length ∧ Rc.none.val.length ≤ l.length := ⟨Nat.zero_le _, Nat.zero_le _⟩
  unfold Rc.getQ
  split
  · exact h0
  split
  · exact h0
  split
  · exact h0
  split
  · exact h0
  split
  · exact h0
  · constructor
    · show ((l.drop 21).take (Px.rdN (l.drop 1) 1)).length ≤ _
      rw [List.length_take, List.length_drop]; omega
    · show ((l.drop (21 + Px.rdN (l.drop 1) 1)).take (Px.rdN (l.drop 2) 2)).length ≤ _
      rw [List.length_take, List.length_drop]; omega
/-- the told record's own memory: two rows in new blocks, or none -/
def Rows (a b : Nat) (P1 P2 : Option Addr) (n1 n2 : Nat) (w : World) : Prop := (n1 = 0 ∧ n2 = 0) ∨
  ∃ g1 g2 l1 l2, P1 = some ⟨g1, 0, none⟩ ∧ P2 = some ⟨g2, 0, none⟩ ∧ g1 ≠ g2 ∧ a ≤ g1 ∧ a ≤ g2 ∧ g1 < b ∧ g2 < b ∧ l1.length = n1 ∧ l2.length = n2 ∧ RowAt w g1 l1 ∧ RowAt w g2 l2
theorem Rows.on {a b : Nat} {P1 P2 : Option Addr} {n1 n2 : Nat} {w w' : World} (h : Rows a b P1 P2 n1 n2 w) (hb : Below w.heap.size w w') : Rows a b P1 P2 n1 n2 w' := by
  rcases h with h | ⟨g1, g2, l1, l2, h1, h2, h3, h4, h5, h6, h7, h8, h9, h10, h11⟩
  · exact .inl h
  · exact .inr ⟨g1, g2, l1, l2, h1, h2, h3, h4, h5, h6, h7, h8, h9, h10.on hb, h11.on hb⟩
theorem rows_of {w w' : World} {rv : Value} {r : Rc.Rec} (h : NewRec w w' rv r) : ∃ P1 c1 P2 c2, rv = .agg #[.int .u64 r.seq, .int .i64 r.kind, .slice P1 r.key.length c1, .slice P2 r.val.length c2, .int .u32 r.seg, .int .u32 r.off] ∧ r.key.length ≤ c1 ∧ r.val.length ≤ c2 ∧ Rows w.heap.size w'.heap.size P1 P2 r.key.length r.val.length w' := by
  rcases h with ⟨rfl, rfl⟩ | ⟨g1, g2, rfl, h1, h2, h3, h4, h5⟩
  · exact ⟨none, 0, none, 0, rfl, Nat.le_refl _, Nat.le_refl _, .inl ⟨rfl, rfl⟩⟩
  · exact ⟨_, _, _, _, rfl, Nat.le_refl _, Nat.le_refl _, .inr ⟨g1, g2, _, _, rfl, rfl, h1, h2, h3, h4.lt, h5.lt, rfl, rfl, h4, h5⟩⟩
set_option maxRecDepth 100000 in
set_option maxHeartbeats 8000000 in
theorem walk (v0 : Value) (z0 : List Int) (w : World) (w0 : Ints w w.heap.size .u8 v0 z0) (g0 : ∀ n ∈ z0, (Lit.int .u8 n).wf = true) (s0 : z0.length * 1 ≤ 140737488351232) (ht : RTab w) :
    Calls Tryd.prog 4 #[v0] w fun e w' => e = .returned (.bool true) ∧ Below w.heap.size w w' := by
  obtain ⟨i0, hi0, hz0, hz1, hz2⟩ := info_parts byte_info
  have hbs := bs_of_ints w0 (fun z hz => bounds_u8 (g0 z hz))
  have hll : (z0.map fun z => UInt8.ofNat z.toNat).length ≤ 140737488351232 := by rw [List.length_map]; omega
  generalize z0.map (fun z => UInt8.ofNat z.toNat) = l at hbs hll
  clear w0 g0 s0
  obtain ⟨A1, c1, k1, A1', c1', rfl, m1, hk1, cut1, s1⟩ := cut_min v0 l w.heap.size 1300 w hbs
  have hS := s1 w w.heap.size hbs
  have e13 : ((1300 : Nat) : Int) = 1300 := rfl
  rw [e13] at m1
  have hkL : k1 ≤ 1300 := by omega
  have HK1 := Lib.hid (bs_rd hS).2
  have HSB := Lib.hid hS
  have HT := Lib.hid ht
  generalize l.take 1300 = L at *
  generalize hn : l.length = n at *
  clear hn e13 hbs s1 hS ht
  go_enter Tryd.func4, Tryd.ntmps4
  have RD := Lib.hid (bs_rd HSB.out).1
  go_wp2_with (at_builtin; (refine wpList_append_rd _ rfl _ _ 23 rfl w.heap.size 5 i0 (.int .u8 0) 1 1 Tryd.underlying23 hi0 hz0 hz1 hz2 rfl (by omega) (.slice none 0 0) 0 [] rfl (World.ownsRow_nil _ _ _ _) w.heap.size A1' k1 c1' (bvs L) rfl (by rw [bvs_length, Nat.mul_one]; exact HK1.out.symm) RD.out (bvs_one _) (by unfold maxLen; omega) (by omega) (Nat.le_refl _) ?_); intro v3 w3 hown3 b3 hg3 ow3; rw [Nat.zero_add, List.nil_append] at hown3; obtain ⟨A3, c3, rfl, _, _, _⟩ := own_slice hown3)
  have SO := Lib.hid (Bs.of_own hown3)
  have HW3 := Lib.hid b3
  obtain ⟨q, N, ee, hgq⟩ : ∃ q N ee, Rc.getQ L = (q, N, ee) := ⟨_, _, _, rfl⟩
  have HGQ := Lib.hid hgq
  have hlens := get_lens L
  rw [hgq] at hlens
  have hln1 : q.key.length ≤ 1300 := by have := HK1.out; have := hlens.1; dsimp only at this; omega
  have hln2 : q.val.length ≤ 1300 := by have := HK1.out; have := hlens.2; dsimp only at this; omega
  clear hlens hgq hown3 b3 hg3 ow3
  refine (rget_q _ L w3.heap.size w3 SO.out (Nat.le_refl _) (by have := HK1.out; omega) (HT.out.on HW3.out) _ _ _ HGQ.out).mono ?_
  rintro e w4 ⟨rv, rfl, nr, b4⟩
  have hrec := nr.rec
  obtain ⟨P1, d1, P2, d2, rfl, hd1, hd2, hrows⟩ := rows_of nr
  have b5 := bnew w4 (.cells #[.int .u64 q.seq, .int .i64 q.kind, .slice P1 q.key.length d1, .slice P2 q.val.length d2, .int .u32 q.seg, .int .u32 q.off] 28)
  have hx5 := heap_alloc_new w4 (.cells #[.int .u64 q.seq, .int .i64 q.kind, .slice P1 q.key.length d1, .slice P2 q.val.length d2, .int .u32 q.seg, .int .u32 q.off] 28)
  have RQ5 := Lib.hid (hrec.on b5)
  have RW5 := Lib.hid (hrows.on b5)
  have HB5 := Lib.hid (bstep b4 b5)
  have HX5 := Lib.hid hx5
  have hsz4 := b4.size
  have hsz5 := b5.size
  clear nr hrec hrows b4 b5 hx5
  go_wp2_with fail
  generalize w4.alloc (.cells #[.int .u64 q.seq, .int .i64 q.kind, .slice P1 q.key.length d1, .slice P2 q.val.length d2, .int .u32 q.seg, .int .u32 q.off] 28) = w5 at *
  refine (rget8_b _ L w.heap.size w5 (HSB.out.below (HW3.out.trans (HB5.out.mono HW3.out.size)) (Nat.le_refl _)) (HW3.out.trans (HB5.out.mono HW3.out.size)).size (by have := HK1.out; omega) _ _ _ HGQ.out).mono ?_
  rintro e w6 ⟨rv6, rfl, hr6, b6⟩
  obtain ⟨C3, d3, C4, d4, rfl, _, _⟩ := hr6.form
  have b7 := bnew w6 (.cells #[.int .u64 q.seq, .int .i64 q.kind, .slice C3 q.key.length d3, .slice C4 q.val.length d4, .int .u32 q.seg, .int .u32 q.off] 28)
  have hr7 := hr6.on b7
  have b67 := bstep b6 b7
  have hx7 := (b67.block w4.heap.size (Array.getElem?_eq_some_iff.1 HX5.out).1).trans HX5.out
  obtain ⟨x0, x1, x2, x3, x4, x5⟩ := box6h hx7
  have hc := rsame8 _ _ q q _ _ (RQ5.out.on b67) hr7 (Nat.le_refl _)
  rw [Rc.sameB_self] at hc
  have HC := Lib.hid hc
  have HX7 := Lib.hid hx7
  have HB7 := Lib.hid (HB5.out.trans (b67.mono HB5.out.size))
  have RW7 := Lib.hid (RW5.out.on b67)
  clear hc hx7 b6 b7 b67 hr6 hr7 RQ5 RW5 HX5 HB5
  go_wp2_with fail
  clear x0 x1 x2 x3 x4 x5
  refine HC.out.mono ?_
  rintro e w8 ⟨rfl, b8⟩
  have HBOX8 := Lib.hid ((b8.block w4.heap.size (Array.getElem?_eq_some_iff.1 HX7.out).1).trans HX7.out)
  have HBX8 := Lib.hid (HB7.out.trans (b8.mono HB7.out.size))
  have HRX8 := Lib.hid (RW7.out.on b8)
  clear b8 HC HX7 HB7 RW7
  generalize hn1 : q.key.length = n1 at *
  generalize hn2 : q.val.length = n2 at *
  clear hn1 hn2
  obtain ⟨WX, hWX⟩ : ∃ WX, WX = w8 := ⟨_, rfl⟩
  subst hWX
  have HBX := HBX8
  have HRX := HRX8
  have HBOX := HBOX8
  go_wp2_with fail
  go_loopg [10] n1 (fun k i wr => ∃ j : Nat, j + k = n1 ∧ i = .int .i64 j ∧ Below w3.heap.size w3 wr ∧ (∀ kk, w4.heap.size ≤ kk → kk < WX.heap.size → wr.heap[kk]? = WX.heap[kk]?) ∧ Rows w3.heap.size w4.heap.size P1 P2 n1 n2 wr)
  case atStart => exact ⟨0, by omega, rfl, HBX.out, fun _ _ _ => rfl, HRX.out⟩
  case round =>
    obtain ⟨j, hj, rfl, hb, hoth, hrows⟩ := hrel
    have HBr := Lib.hid hb
    have HOth := Lib.hid hoth
    obtain ⟨e0, e1, e2, e3, e4, e5⟩ := box6h ((hoth w4.heap.size (Nat.le_refl _) (Array.getElem?_eq_some_iff.1 HBOX.out).1).trans HBOX.out)
    clear hb hoth
    by_cases hlt : j < n1
    · rcases hrows with ⟨z1, z2⟩ | ⟨g1, g2, l1, l2, hp1, hp2, hg, hga, hgb, hgc, hgd, hl1, hl2, hr1, hr2⟩
      · exfalso; omega
      · obtain ⟨y, hy, hfr⟩ := hr1.cell j (by omega)
        have hxo : bits .xor .u8 (y.toNat : Int) 255 = ((y ^^^ 255).toNat : Int) := by
          rw [show (255 : Int) = (((255 : UInt8).toNat : Nat) : Int) by rfl, u8_xor_nat _ _ (UInt8.toNat_lt y) (UInt8.toNat_lt _), UInt8.toNat_xor]
        have HRW := Lib.hid (show Rows w3.heap.size w4.heap.size P1 P2 n1 n2 (wr.setCell ⟨g1, j, none⟩ (.int .u8 ((y ^^^ 255).toNat : Int))) from .inr ⟨g1, g2, l1.set j (y ^^^ 255), l2, hp1, hp2, hg, hga, hgb, hgc, hgd, by rw [List.length_set]; exact hl1, hl2, hr1.put j (y ^^^ 255), (Below.heap_setCell _ ⟨g1, j, none⟩ _ g2 (Ne.symm hg)).trans hr2⟩)
        have HBS := Lib.hid (HBr.out.setCell (p := ⟨g1, j, none⟩) (by show w3.heap.size ≤ g1; omega) (.int .u8 ((y ^^^ 255).toNat : Int)))
        have HOS := Lib.hid (show ∀ kk, w4.heap.size ≤ kk → kk < WX.heap.size → (wr.setCell ⟨g1, j, none⟩ (.int .u8 ((y ^^^ 255).toNat : Int))).heap[kk]? = WX.heap[kk]? from fun kk h1 h2 => (Below.heap_setCell wr ⟨g1, j, none⟩ _ kk (by show kk ≠ g1; omega)).trans (HOth.out kk h1 h2))
        clear hr1 hr2 hl1 hl2
        rw [hp1] at e2
        go_wp2_with fail
        go_roundg (gk - 1)
        case measure => omega
        case rel => exact ⟨j + 1, by omega, by go_num, HBS.out, HOS.out, HRW.out⟩
    · obtain rfl : n1 = j := by omega
      obtain ⟨wB, hwB⟩ : ∃ wB, wB = wr := ⟨_, rfl⟩
      subst hwB
      have HBOX2 := Lib.hid ((HOth.out w4.heap.size (Nat.le_refl _) (Array.getElem?_eq_some_iff.1 HBOX.out).1).trans HBOX.out)
      have HRX2 := Lib.hid hrows
      go_wp2_with fail
      clear e0 e1 e2 e3 e4 e5
      go_loopg [11] n2 (fun k i wr => ∃ j : Nat, j + k = n2 ∧ i = .int .i64 j ∧ Below w3.heap.size w3 wr ∧ (∀ kk, w4.heap.size ≤ kk → kk < wB.heap.size → wr.heap[kk]? = wB.heap[kk]?) ∧ Rows w3.heap.size w4.heap.size P1 P2 n1 n2 wr)
      case atStart => exact ⟨0, by omega, rfl, HBr.out, fun _ _ _ => rfl, HRX2.out⟩
      case round =>
        obtain ⟨j, hj, rfl, hb, hoth, hrows⟩ := hrel
        have HBs := Lib.hid hb
        have HOs := Lib.hid hoth
        obtain ⟨e0, e1, e2, e3, e4, e5⟩ := box6h ((hoth w4.heap.size (Nat.le_refl _) (Array.getElem?_eq_some_iff.1 HBOX2.out).1).trans HBOX2.out)
        clear hb hoth
        by_cases hlt : j < n2
        · rcases hrows with ⟨z1, z2⟩ | ⟨g1, g2, l1, l2, hp1, hp2, hg, hga, hgb, hgc, hgd, hl1, hl2, hr1, hr2⟩
          · exfalso; omega
          · obtain ⟨y, hy, hfr⟩ := hr2.cell j (by omega)
            have hxo : bits .xor .u8 (y.toNat : Int) 255 = ((y ^^^ 255).toNat : Int) := by
              rw [show (255 : Int) = (((255 : UInt8).toNat : Nat) : Int) by rfl, u8_xor_nat _ _ (UInt8.toNat_lt y) (UInt8.toNat_lt _), UInt8.toNat_xor]
            have HRW := Lib.hid (show Rows w3.heap.size w4.heap.size P1 P2 n1 n2 (wr.setCell ⟨g2, j, none⟩ (.int .u8 ((y ^^^ 255).toNat : Int))) from .inr ⟨g1, g2, l1, l2.set j (y ^^^ 255), hp1, hp2, hg, hga, hgb, hgc, hgd, hl1, by rw [List.length_set]; exact hl2, (Below.heap_setCell _ ⟨g2, j, none⟩ _ g1 hg).trans hr1, hr2.put j (y ^^^ 255)⟩)
            have HBS := Lib.hid (HBs.out.setCell (p := ⟨g2, j, none⟩) (by show w3.heap.size ≤ g2; omega) (.int .u8 ((y ^^^ 255).toNat : Int)))
            have HOS := Lib.hid (show ∀ kk, w4.heap.size ≤ kk → kk < wB.heap.size → (wr.setCell ⟨g2, j, none⟩ (.int .u8 ((y ^^^ 255).toNat : Int))).heap[kk]? = wB.heap[kk]? from fun kk h1 h2 => (Below.heap_setCell wr ⟨g2, j, none⟩ _ kk (by show kk ≠ g2; omega)).trans (HOs.out kk h1 h2))
            clear hr1 hr2 hl1 hl2
            rw [hp2] at e3
            go_wp2_with fail
            go_roundg (gk - 1)
            case measure => omega
            case rel => exact ⟨j + 1, by omega, by go_num, HBS.out, HOS.out, HRW.out⟩
        · obtain rfl : n2 = j := by omega
          have hc1 := conv_bs SO.out HBs.out (Nat.le_refl _)
          have hc2 := conv_bs HSB.out (HW3.out.trans (HBs.out.mono HW3.out.size)) (Nat.le_refl _)
          have HZ := Lib.hid (HW3.out.trans (HBs.out.mono HW3.out.size))
          go_wp2_with fail
          refine (knows_r _ (HT.out.on HZ.out)).mono ?_
          rintro e w12 ⟨rfl, b12⟩
          go_wp2_with fail
          go_ret
          exact ⟨rfl, bstep HZ.out b12⟩
end Go.Proofs.YtmiljicohnfejaaDoor.recordGets
