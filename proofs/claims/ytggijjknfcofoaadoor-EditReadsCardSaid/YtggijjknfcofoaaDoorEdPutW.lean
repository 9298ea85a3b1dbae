
/-
  Layer 9: the walk of Put.
-/
import Derived.Test.YtggijjknfcofoaaDoorEdPut
set_option linter.unusedVariables false
set_option linter.unusedSimpArgs false
namespace Go.Proofs.YtggijjknfcofoaaDoor
open Go.RowKit

theorem Ed.partL_len (b : Nat × Nat) (n : Nat) : (Ed.partL b n).length ≤ 9 := by
  unfold Ed.partL
  split
  · simp
  · rw [Px.formL_length]
    exact (Px.sizeN_pos n).2
def namePartOf (k : Nat) (nm : ByteArray) : List UInt8 := if Ed.nameT k then Px.formL nm.size ++ nm.data.toList else []
theorem namePart_len (k : Nat) (nm : ByteArray) (h : Ed.nameOk k nm.size = true) : (namePartOf k nm).length ≤ 41 := by
  unfold namePartOf
  unfold Ed.nameOk at h
  split
  · rename_i hk
    rw [if_pos hk] at h
    simp at h
    have := (Px.sizeN_pos nm.size).2
    rw [List.length_append, Px.formL_length]
    have : nm.data.toList.length = nm.size := by rw [Array.length_toList]; rfl
    omega
  · simp
theorem own_str {w : World} {base : Nat} {v : Value} {l : List UInt8} {nm : ByteArray} (h : w.ownsRow base 5 1 v (l.length + nm.size) (bvs l ++ Lib.strCells nm)) : w.ownsRow base 5 1 v (l ++ nm.data.toList).length (bvs (l ++ nm.data.toList)) := by
  have e1 : nm.data.toList.length = nm.size := by rw [Array.length_toList]; rfl
  rw [List.length_append, e1, bvs_append]
  exact h
set_option maxRecDepth 100000 in
set_option maxHeartbeats 8000000 in
theorem eput_no (v : Value) (e : Ed.E) (w : World) (h : EdV w w.heap.size v e) (f : Ed.Fit e) (ht : ETab w) (hm : Ed.mayE e = false) :
    Calls Tryd.prog 9 #[v] w fun en w' => en = .returned (.tuple #[.slice none 0 0, .int .i64 1]) ∧ Below w.heap.size w w' := by
  have h0 := h
  obtain ⟨sv, rfl, hs⟩ := h
  have b1 := bnew w (.cells #[.int .i64 e.kind, .string e.name, .int .u64 e.seq, .int .u32 e.id, sv] 26)
  have hc := may_edit (edV e.kind e.name e.seq e.id sv) e (w.alloc (.cells #[.int .i64 e.kind, .string e.name, .int .u64 e.seq, .int .u32 e.id, sv] 26)) ((h0.below b1 (Nat.le_refl _)).mono b1.size) f (ht.on b1)
  rw [hm] at hc
  have Hb := Lib.hid b1
  clear b1 h0 ht hm
  unfold edV at hc ⊢
  go_enter Tryd.func9, Tryd.ntmps9
  go_wp2_with fail
  refine hc.mono ?_
  rintro en w2 ⟨rfl, h2⟩
  go_wp2_with fail
  go_ret2
  exact ⟨rfl, bstep Hb.out h2⟩

set_option maxRecDepth 100000 in
set_option maxHeartbeats 8000000 in
theorem eput_yes (v : Value) (e : Ed.E) (w : World) (h : EdV w w.heap.size v e) (f : Ed.Fit e) (ht : ETab w) (hm : Ed.mayE e = true) :
    Calls Tryd.prog 9 #[v] w fun en w' => (∃ r, en = .returned (.tuple #[r, .int .i64 0]) ∧ Bs w' w'.heap.size r (Ed.bytesE e)) ∧ Below w.heap.size w w' := by
  have hmay := Ed.may_iff.1 hm
  obtain ⟨kn, hkn⟩ : ∃ kn : Nat, e.kind = (kn : Int) := ⟨e.kind.toNat, by have := hmay.k1; omega⟩
  obtain ⟨k, nm, sq, idn, ss⟩ := e
  simp only at hkn
  subst hkn
  have h0 := h
  obtain ⟨sv, rfl, hs⟩ := h
  obtain ⟨A, cp, rfl, hcp, hrd⟩ := id hs
  simp only at hs h0 hcp hrd ⊢
  have z1 : IntKind.u64.wrap (idn : Int) = (idn : Int) := IntWalk.u64_in _ (by have : idn < 4294967296 := f.id; omega)
  have z2 : IntKind.u64.wrap (ss.length : Int) = (ss.length : Int) := IntWalk.u64_in _ (by have : ss.length ≤ 9223372036854775807 := f.many; omega)
  have z3 : IntKind.u64.wrap (nm.size : Int) = (nm.size : Int) := IntWalk.u64_in _ (by have : nm.size ≤ 9223372036854775807 := f.name; omega)
  have b1 := bnew w (.cells #[.int .i64 (kn : Int), .string nm, .int .u64 sq, .int .u32 idn, .slice A ss.length cp] 26)
  have hc := may_edit (edV (kn : Int) nm sq idn (.slice A ss.length cp)) ⟨kn, nm, sq, idn, ss⟩ (w.alloc (.cells #[.int .i64 (kn : Int), .string nm, .int .u64 sq, .int .u32 idn, .slice A ss.length cp] 26)) ((h0.below b1 (Nat.le_refl _)).mono b1.size) f (ht.on b1)
  rw [hm] at hc
  have Hb := Lib.hid b1
  have Ht := Lib.hid (ht.on b1)
  have HX := Lib.hid (hs.below b1 (Nat.le_refl _))
  have HB := Lib.hid (Bx.new w #[.int .i64 (kn : Int), .string nm, .int .u64 sq, .int .u32 idn, .slice A ss.length cp] 26 _ rfl)
  have Hm := Lib.hid hmay
  have k1 : 1 ≤ kn := by have : (1 : Int) ≤ (kn : Int) := hmay.k1; omega
  have k6 : kn ≤ 6 := by have : (kn : Int) ≤ 6 := hmay.k6; omega
  unfold edV at hc ⊢
  clear b1 h0 ht hm hs hcp hrd hmay
  go_enter Tryd.func9, Tryd.ntmps9
  go_wp2_with fail
  refine hc.mono ?_
  rintro en w2 ⟨rfl, h2⟩
  have z4 : IntKind.u8.wrap (kn : Int) = (kn : Int) := IntWalk.u8_in _ (by omega)
  have hl2 : w.heap.size < w2.heap.size := Nat.lt_of_lt_of_le HB.out.lt h2.size
  have z4 : IntKind.u8.wrap (kn : Int) = (kn : Int) := IntWalk.u8_in _ (by omega)
  have hl2 : w.heap.size < w2.heap.size := Nat.lt_of_lt_of_le HB.out.lt h2.size
  have z4 : IntKind.u8.wrap (kn : Int) = (kn : Int) := IntWalk.u8_in _ (by omega)
  have hl2 : w.heap.size < w2.heap.size := Nat.lt_of_lt_of_le HB.out.lt h2.size
  have z4 : IntKind.u8.wrap (kn : Int) = (kn : Int) := IntWalk.u8_in _ (by omega)
  have hl2 : w.heap.size < w2.heap.size := Nat.lt_of_lt_of_le HB.out.lt h2.size
  have z4 : IntKind.u8.wrap (kn : Int) = (kn : Int) := IntWalk.u8_in _ (by omega)
  have hl2 : w.heap.size < w2.heap.size := Nat.lt_of_lt_of_le HB.out.lt h2.size
  have z4 : IntKind.u8.wrap (kn : Int) = (kn : Int) := IntWalk.u8_in _ (by omega)
  have hl2 : w.heap.size < w2.heap.size := Nat.lt_of_lt_of_le HB.out.lt h2.size
  obtain ⟨c0, c1, c2, c3, c4⟩ := (HB.out.on h2).at5
  obtain ⟨d0, d1, d2, d3, d4, d5, d6⟩ := (Ht.out.on h2).row kn k1 k6
  have b3 := balloc (bnew w2 (.cells #[.int .u64 (Ed.seqB kn).1, .int .u64 (Ed.seqB kn).2, .bool (Ed.nameT kn), .int .u64 (Ed.idB kn).1, .int .u64 (Ed.idB kn).2, .int .u64 (Ed.manyB kn).1, .int .u64 (Ed.manyB kn).2] 65)) (.cells #[.int .u8 kn] 5)
  have HS := Lib.hid ((Bx.new w2 (shCs kn).toArray 65 _ rfl).alloc (.cells #[.int .u8 kn] 5))
  have HB := Lib.hid ((HB.out.on h2).on b3)
  have HX := Lib.hid ((HX.out.below h2 (by simp)).below b3 (Nat.le_of_lt hl2))
  have Hb := Lib.hid (bstep (bstep Hb.out h2) b3)
  have HO := World.ownsRow_lit (base := w2.heap.size + 1) (e := 5) (size := 1) (w2.alloc (.cells #[.int .u64 (Ed.seqB kn).1, .int .u64 (Ed.seqB kn).2, .bool (Ed.nameT kn), .int .u64 (Ed.idB kn).1, .int .u64 (Ed.idB kn).2, .int .u64 (Ed.manyB kn).1, .int .u64 (Ed.manyB kn).2] 65)) #[.int .u8 kn] 1 (by simp) (by decide) rfl
  rw [show (w2.alloc (.cells #[.int .u64 (Ed.seqB kn).1, .int .u64 (Ed.seqB kn).2, .bool (Ed.nameT kn), .int .u64 (Ed.idB kn).1, .int .u64 (Ed.idB kn).2, .int .u64 (Ed.manyB kn).1, .int .u64 (Ed.manyB kn).2] 65)).heap.size = w2.heap.size + 1 by simp, show (#[Value.int .u8 (kn : Int)] : Array Value).toList = bvs [UInt8.ofNat kn] by rw [bvs_cons, ← bv_lit kn (by omega)]; rfl] at HO
  have HO := Lib.hid HO
  have HBs := Lib.hid (show w2.heap.size + 1 ≤ ((w2.alloc (.cells #[.int .u64 (Ed.seqB kn).1, .int .u64 (Ed.seqB kn).2, .bool (Ed.nameT kn), .int .u64 (Ed.idB kn).1, .int .u64 (Ed.idB kn).2, .int .u64 (Ed.manyB kn).1, .int .u64 (Ed.manyB kn).2] 65)).alloc (.cells #[.int .u8 kn] 5)).heap.size by simp)
  have Hl2 := Lib.hid hl2
  have HP := Lib.hid Ed.partL_len
  have HSL := Lib.hid (Ed.sealsL_len)
  clear h2 hc Ht b3 hl2
  go_wp2_with fail
  unfold shCs at HS
  have fsq : sq < 18446744073709551616 := f.seq
  have fid : idn < 18446744073709551616 := Nat.lt_trans (show idn < 4294967296 from f.id) (by omega)
  have fss : ss.length < 18446744073709551616 := Nat.lt_of_le_of_lt (show ss.length ≤ 9223372036854775807 from f.many) (by omega)
  have fidH := Lib.hid fid
  have fssH := Lib.hid fss
  clear fid fss
  refine (putPart_o (w2.heap.size + 1) _ ([UInt8.ofNat kn]) (Ed.seqB kn) sq _ HO.out HBs.out fsq (by have := HP.out (Ed.seqB kn) sq; have := HP.out (Ed.idB kn) idn; have := HP.out (Ed.manyB kn) ss.length; simp only [List.length_append, List.length_cons, List.length_nil]; omega)).mono ?_
  clear c0 c1 c2 c3 c4 d0 d1 d2 d3 d4 d5 d6
  rintro en w3 ⟨r3, rfl, hG⟩
  have hb := hG.below HO.out HBs.out
  have HB := Lib.hid (HB.out.below hb (Nat.lt_succ_of_lt Hl2.out))
  have HS := Lib.hid (HS.out.below hb (Nat.lt_succ_self _))
  have HX := Lib.hid (HX.out.below hb (Nat.le_succ_of_le (Nat.le_of_lt Hl2.out)))
  have Hb := Lib.hid (Hb.out.trans (hb.mono (Nat.le_succ_of_le (Nat.le_of_lt Hl2.out))))
  have HO := Lib.hid (hG.own)
  have HBs := Lib.hid (Nat.le_trans HBs.out hb.size)
  clear hb hG
  obtain ⟨nL, hnL⟩ : ∃ l, namePartOf kn nm = l := ⟨_, rfl⟩
  have hnlen : nL.length ≤ 41 := by
    rw [← hnL]
    exact namePart_len kn nm (by simpa [Ed.nameOk] using Hm.out.name)
  have HNL := Lib.hid hnlen
  have HnL := Lib.hid hnL
  clear hnL hnlen
  cases hnt : Ed.nameT kn
  · obtain ⟨c0, c1, c2, c3, c4⟩ := HB.out.at5
    obtain ⟨d0, d1, d2, d3, d4, d5, d6⟩ := HS.out.at7
    rw [hnt] at d2
    have e0 : nL = [] := by rw [← HnL.out]; unfold namePartOf; rw [hnt]; rfl
    have HO := Lib.hid (show w3.ownsRow (w2.heap.size + 1) 5 1 r3 ([UInt8.ofNat kn] ++ Ed.partL (Ed.seqB kn) sq ++ nL).length (bvs ([UInt8.ofNat kn] ++ Ed.partL (Ed.seqB kn) sq ++ nL)) by rw [e0, List.append_nil]; exact HO.out)
    clear e0
    have Hnt := Lib.hid hnt
    clear hnt
    go_wp2_with fail
    have fid := fidH.out
    have fss := fssH.out
    refine (putPart_o (w2.heap.size + 1) _ ([UInt8.ofNat kn] ++ Ed.partL (Ed.seqB kn) sq ++ nL) (Ed.idB kn) idn _ HO.out HBs.out fid (by have := HNL.out; have := HP.out (Ed.seqB kn) sq; have := HP.out (Ed.idB kn) idn; have := HP.out (Ed.manyB kn) ss.length; simp only [List.length_append, List.length_cons, List.length_nil]; omega)).mono ?_
    clear c0 c1 c2 c3 c4 d0 d1 d2 d3 d4 d5 d6
    rintro en w10 ⟨r10, rfl, hG⟩
    have hb := hG.below HO.out HBs.out
    have HB := Lib.hid (HB.out.below hb (Nat.lt_succ_of_lt Hl2.out))
    have HS := Lib.hid (HS.out.below hb (Nat.lt_succ_self _))
    have HX := Lib.hid (HX.out.below hb (Nat.le_succ_of_le (Nat.le_of_lt Hl2.out)))
    have Hb := Lib.hid (Hb.out.trans (hb.mono (Nat.le_succ_of_le (Nat.le_of_lt Hl2.out))))
    have HO := Lib.hid (hG.own)
    have HBs := Lib.hid (Nat.le_trans HBs.out hb.size)
    obtain ⟨c0, c1, c2, c3, c4⟩ := HB.out.at5
    obtain ⟨d0, d1, d2, d3, d4, d5, d6⟩ := HS.out.at7
    clear hb hG
    go_wp2_with fail
    refine (putPart_o (w2.heap.size + 1) _ ([UInt8.ofNat kn] ++ Ed.partL (Ed.seqB kn) sq ++ nL ++ Ed.partL (Ed.idB kn) idn) (Ed.manyB kn) ss.length _ HO.out HBs.out fss (by have := HNL.out; have := HP.out (Ed.seqB kn) sq; have := HP.out (Ed.idB kn) idn; have := HP.out (Ed.manyB kn) ss.length; simp only [List.length_append, List.length_cons, List.length_nil]; omega)).mono ?_
    clear c0 c1 c2 c3 c4 d0 d1 d2 d3 d4 d5 d6
    rintro en w11 ⟨r11, rfl, hG⟩
    have hb := hG.below HO.out HBs.out
    have HB := Lib.hid (HB.out.below hb (Nat.lt_succ_of_lt Hl2.out))
    have HS := Lib.hid (HS.out.below hb (Nat.lt_succ_self _))
    have HX := Lib.hid (HX.out.below hb (Nat.le_succ_of_le (Nat.le_of_lt Hl2.out)))
    have Hb := Lib.hid (Hb.out.trans (hb.mono (Nat.le_succ_of_le (Nat.le_of_lt Hl2.out))))
    have HO := Lib.hid (hG.own)
    have HBs := Lib.hid (Nat.le_trans HBs.out hb.size)
    obtain ⟨c0, c1, c2, c3, c4⟩ := HB.out.at5
    obtain ⟨d0, d1, d2, d3, d4, d5, d6⟩ := HS.out.at7
    clear hb hG
    go_wp2_with fail
    obtain ⟨l5, hl5⟩ : ∃ l, [UInt8.ofNat kn] ++ Ed.partL (Ed.seqB kn) sq ++ nL ++ Ed.partL (Ed.idB kn) idn ++ Ed.partL (Ed.manyB kn) ss.length = l := ⟨_, rfl⟩
    rw [hl5] at HO
    have hl69 : l5.length ≤ 69 := by
      have := HP.out (Ed.seqB kn) sq; have := HP.out (Ed.idB kn) idn; have := HP.out (Ed.manyB kn) ss.length; have := HNL.out
      rw [← hl5]
      simp only [List.length_append, List.length_cons, List.length_nil]
      omega
    have HL5 := Lib.hid hl5
    have HL69 := Lib.hid hl69
    have hn200 : ss.length ≤ 200 := Ed.many_le _ _ Hm.out.many
    have Hf := Lib.hid f.seals
    have Hms := Lib.hid (Ed.upS_mem ss 0 Hm.out.seals)
    clear hl5 hl69 c0 c1 c2 c3 c4 d0 d1 d2 d3 d4 d5 d6 z1 z2 z3 z4 fid fss fsq
    have HbF := Hb
    generalize hn : ss.length = n at *
    have Hn := Lib.hid hn
    clear hn
    go_loopg [5, 55] n (fun q bv i wr => ∃ j : Nat, j + q = n ∧ i = .int .i64 j ∧ wr.ownsRow (w2.heap.size + 1) 5 1 bv (l5 ++ Ed.sealsL (ss.take j)).length (bvs (l5 ++ Ed.sealsL (ss.take j))) ∧ Below (w2.heap.size + 1) w11 wr)
    case atStart => exact ⟨0, by omega, rfl, by simpa [Ed.sealsL] using HO.out, Below.refl _ _⟩
    case round =>
      obtain ⟨j, hj, rfl, ho, hbr⟩ := hrel
      have Ho := Lib.hid ho
      have Hbr := Lib.hid hbr
      clear ho hbr
      by_cases hlt2 : j < n
      · obtain ⟨s, hs⟩ : ∃ s, ss[j]? = some s := ⟨_, List.getElem?_eq_getElem (by rw [Hn.out]; exact hlt2)⟩
        have hfs := Hf.out s (List.mem_of_getElem? hs)
        have Hord := Lib.hid (Ed.mayS_order (Hms.out s (List.mem_of_getElem? hs)))
        obtain ⟨gb, go, cc, hA, hgb, a0, a1, a2, a3, a4⟩ := (HX.out.below Hbr.out (Nat.le_succ_of_le (Nat.le_of_lt Hl2.out))).at hs
        injection hA with hA1 hA2 hA3
        subst hA1
        clear hA2 hA3
        have Hs := Lib.hid hs
        have HT := Lib.hid (Nat.le_trans HBs.out Hbr.out.size)
        have hbx := (Below.refl (w2.heap.size + 1) wr).alloc HT.out (.cells #[.int .u32 s.id, .int .u32 s.size, .int .u32 s.many, .int .u64 s.first, .int .u64 s.last] 28)
        have HO6 := Lib.hid (own_below Ho.out (bnew wr (.cells #[.int .u32 s.id, .int .u32 s.size, .int .u32 s.many, .int .u64 s.first, .int .u64 s.last] 28)) (Nat.le_refl _))
        have Hbx := Lib.hid hbx
        clear hs hbx
        go_wp2_with fail
        refine (putSeal_o (w2.heap.size + 1) _ (l5 ++ Ed.sealsL (ss.take j)) s _ HO6.out (Nat.le_trans HT.out Hbx.out.size) hfs Hord.out (by have := HL69.out; have := Ed.sealsL_len (ss.take j); have h7 : (ss.take j).length ≤ j := (by rw [List.length_take]; omega); rw [List.length_append]; omega)).mono ?_
        rintro en w12 ⟨r12, rfl, hG⟩
        have HbG := Lib.hid (Hbr.out.trans ((Hbx.out.trans (hG.below HO6.out (Nat.le_trans HT.out Hbx.out.size)))))
        have HO7 := Lib.hid hG.own
        have htk : l5 ++ Ed.sealsL (ss.take j) ++ Ed.sealL s = l5 ++ Ed.sealsL (ss.take (j + 1)) := by
          rw [List.take_add_one, Hs.out, Ed.sealsL_append]; simp [Ed.sealsL]
        rw [htk] at HO7
        clear hG htk a0 a1 a2 a3 a4
        go_wp2_with fail
        go_roundg (gk - 1)
        case measure => omega
        case rel => exact ⟨j + 1, by omega, by go_num, HO7.out, HbG.out⟩
      · go_wp2_with fail
        go_ret2
        refine ⟨⟨_, rfl, ?_⟩, HbF.out.trans (Hbr.out.mono (Nat.le_succ_of_le (Nat.le_of_lt Hl2.out)))⟩
        have h9 := Bs.of_own Ho.out
        rw [List.take_of_length_le (by rw [Hn.out]; omega)] at h9
        have e9 : l5 ++ Ed.sealsL ss = Ed.bytesE ⟨kn, nm, sq, idn, ss⟩ := by
          rw [← HL5.out, ← HnL.out, ← Hn.out]
          unfold Ed.bytesE Ed.bodyL Ed.namePart namePartOf Ed.nameL
          simp
        rw [e9] at h9
        exact h9
  · obtain ⟨c0, c1, c2, c3, c4⟩ := HB.out.at5
    obtain ⟨d0, d1, d2, d3, d4, d5, d6⟩ := HS.out.at7
    rw [hnt] at d2
    have e0 : Px.formL nm.size ++ nm.data.toList = nL := by rw [← HnL.out]; unfold namePartOf; rw [hnt]; rfl
    have E0 := Lib.hid e0
    have hn32 : nm.size ≤ 32 := by
      have := Hm.out.name
      unfold Ed.nameOk at this
      rw [if_pos hnt] at this
      simp at this
      exact this.2
    have Hn32 := Lib.hid hn32
    clear e0 hn32
    have Hnt := Lib.hid hnt
    clear hnt
    go_wp2_with fail
    refine (eput_o (w2.heap.size + 1) _ _ nm.size _ HO.out HBs.out (by have := Hn32.out; omega) (by have := HP.out (Ed.seqB kn) sq; simp only [List.length_append, List.length_cons, List.length_nil]; omega)).mono ?_
    clear c0 c1 c2 c3 c4 d0 d1 d2 d3 d4 d5 d6
    rintro en w4 ⟨r4, rfl, hG⟩
    have hb := hG.below HO.out HBs.out
    have HB := Lib.hid (HB.out.below hb (Nat.lt_succ_of_lt Hl2.out))
    have HS := Lib.hid (HS.out.below hb (Nat.lt_succ_self _))
    have HX := Lib.hid (HX.out.below hb (Nat.le_succ_of_le (Nat.le_of_lt Hl2.out)))
    have Hb := Lib.hid (Hb.out.trans (hb.mono (Nat.le_succ_of_le (Nat.le_of_lt Hl2.out))))
    have HO := Lib.hid (hG.own)
    have HBs := Lib.hid (Nat.le_trans HBs.out hb.size)
    obtain ⟨c0, c1, c2, c3, c4⟩ := HB.out.at5
    obtain ⟨d0, d1, d2, d3, d4, d5, d6⟩ := HS.out.at7
    clear hb hG
    obtain ⟨i0, hi0, hz0, hz1, hz2⟩ := info_parts byte_info
    go_wp2_with (at_builtin; (refine Lib.wpList_append_own_string _ rfl _ _ 30 9 rfl (w2.heap.size + 1) 5 i0 Tryd.underlying30 Tryd.underlying9 hi0 hz0 hz1 hz2 r4 _ _ rfl HO.out nm rfl (by have := HP.out (Ed.seqB kn) sq; have := Hn32.out; have := (Px.sizeN_pos nm.size).2; unfold maxLen; simp only [List.length_append, List.length_cons, List.length_nil, Px.formL_length]; omega) (by have := HP.out (Ed.seqB kn) sq; have := Hn32.out; have := (Px.sizeN_pos nm.size).2; simp only [List.length_append, List.length_cons, List.length_nil, Px.formL_length]; omega) HBs.out ?_); intro v5 w5 hown5 hgr5 _; clear c0 c1 c2 c3 c4 d0 d1 d2 d3 d4 d5 d6; have hb := (Below.refl _ _).grown hgr5 HBs.out fun k hk => (HO.out.lt k hk).1; have HO5 := own_str hown5; rw [List.append_assoc, E0.out] at HO5; clear hown5 hgr5; have HB := Lib.hid (HB.out.below hb (Nat.lt_succ_of_lt Hl2.out)); have HS := Lib.hid (HS.out.below hb (Nat.lt_succ_self _)); have HX := Lib.hid (HX.out.below hb (Nat.le_succ_of_le (Nat.le_of_lt Hl2.out))); have Hb := Lib.hid (Hb.out.trans (hb.mono (Nat.le_succ_of_le (Nat.le_of_lt Hl2.out)))); have HBs := Lib.hid (Nat.le_trans HBs.out hb.size); have HO := Lib.hid HO5; clear HO5 hb; obtain ⟨c0, c1, c2, c3, c4⟩ := HB.out.at5; obtain ⟨d0, d1, d2, d3, d4, d5, d6⟩ := HS.out.at7)
    have fid := fidH.out
    have fss := fssH.out
    refine (putPart_o (w2.heap.size + 1) _ ([UInt8.ofNat kn] ++ Ed.partL (Ed.seqB kn) sq ++ nL) (Ed.idB kn) idn _ HO.out HBs.out fid (by have := HNL.out; have := HP.out (Ed.seqB kn) sq; have := HP.out (Ed.idB kn) idn; have := HP.out (Ed.manyB kn) ss.length; simp only [List.length_append, List.length_cons, List.length_nil]; omega)).mono ?_
    clear c0 c1 c2 c3 c4 d0 d1 d2 d3 d4 d5 d6
    rintro en w10 ⟨r10, rfl, hG⟩
    have hb := hG.below HO.out HBs.out
    have HB := Lib.hid (HB.out.below hb (Nat.lt_succ_of_lt Hl2.out))
    have HS := Lib.hid (HS.out.below hb (Nat.lt_succ_self _))
    have HX := Lib.hid (HX.out.below hb (Nat.le_succ_of_le (Nat.le_of_lt Hl2.out)))
    have Hb := Lib.hid (Hb.out.trans (hb.mono (Nat.le_succ_of_le (Nat.le_of_lt Hl2.out))))
    have HO := Lib.hid (hG.own)
    have HBs := Lib.hid (Nat.le_trans HBs.out hb.size)
    obtain ⟨c0, c1, c2, c3, c4⟩ := HB.out.at5
    obtain ⟨d0, d1, d2, d3, d4, d5, d6⟩ := HS.out.at7
    clear hb hG
    go_wp2_with fail
    refine (putPart_o (w2.heap.size + 1) _ ([UInt8.ofNat kn] ++ Ed.partL (Ed.seqB kn) sq ++ nL ++ Ed.partL (Ed.idB kn) idn) (Ed.manyB kn) ss.length _ HO.out HBs.out fss (by have := HNL.out; have := HP.out (Ed.seqB kn) sq; have := HP.out (Ed.idB kn) idn; have := HP.out (Ed.manyB kn) ss.length; simp only [List.length_append, List.length_cons, List.length_nil]; omega)).mono ?_
    clear c0 c1 c2 c3 c4 d0 d1 d2 d3 d4 d5 d6
    rintro en w11 ⟨r11, rfl, hG⟩
    have hb := hG.below HO.out HBs.out
    have HB := Lib.hid (HB.out.below hb (Nat.lt_succ_of_lt Hl2.out))
    have HS := Lib.hid (HS.out.below hb (Nat.lt_succ_self _))
    have HX := Lib.hid (HX.out.below hb (Nat.le_succ_of_le (Nat.le_of_lt Hl2.out)))
    have Hb := Lib.hid (Hb.out.trans (hb.mono (Nat.le_succ_of_le (Nat.le_of_lt Hl2.out))))
    have HO := Lib.hid (hG.own)
    have HBs := Lib.hid (Nat.le_trans HBs.out hb.size)
    obtain ⟨c0, c1, c2, c3, c4⟩ := HB.out.at5
    obtain ⟨d0, d1, d2, d3, d4, d5, d6⟩ := HS.out.at7
    clear hb hG
    go_wp2_with fail
    obtain ⟨l5, hl5⟩ : ∃ l, [UInt8.ofNat kn] ++ Ed.partL (Ed.seqB kn) sq ++ nL ++ Ed.partL (Ed.idB kn) idn ++ Ed.partL (Ed.manyB kn) ss.length = l := ⟨_, rfl⟩
    rw [hl5] at HO
    have hl69 : l5.length ≤ 69 := by
      have := HP.out (Ed.seqB kn) sq; have := HP.out (Ed.idB kn) idn; have := HP.out (Ed.manyB kn) ss.length; have := HNL.out
      rw [← hl5]
      simp only [List.length_append, List.length_cons, List.length_nil]
      omega
    have HL5 := Lib.hid hl5
    have HL69 := Lib.hid hl69
    have hn200 : ss.length ≤ 200 := Ed.many_le _ _ Hm.out.many
    have Hf := Lib.hid f.seals
    have Hms := Lib.hid (Ed.upS_mem ss 0 Hm.out.seals)
    clear hl5 hl69 c0 c1 c2 c3 c4 d0 d1 d2 d3 d4 d5 d6 z1 z2 z3 z4 fid fss fsq
    have HbF := Hb
    generalize hn : ss.length = n at *
    have Hn := Lib.hid hn
    clear hn
    go_loopg [5, 55] n (fun q bv i wr => ∃ j : Nat, j + q = n ∧ i = .int .i64 j ∧ wr.ownsRow (w2.heap.size + 1) 5 1 bv (l5 ++ Ed.sealsL (ss.take j)).length (bvs (l5 ++ Ed.sealsL (ss.take j))) ∧ Below (w2.heap.size + 1) w11 wr)
    case atStart => exact ⟨0, by omega, rfl, by simpa [Ed.sealsL] using HO.out, Below.refl _ _⟩
    case round =>
      obtain ⟨j, hj, rfl, ho, hbr⟩ := hrel
      have Ho := Lib.hid ho
      have Hbr := Lib.hid hbr
      clear ho hbr
      by_cases hlt2 : j < n
      · obtain ⟨s, hs⟩ : ∃ s, ss[j]? = some s := ⟨_, List.getElem?_eq_getElem (by rw [Hn.out]; exact hlt2)⟩
        have hfs := Hf.out s (List.mem_of_getElem? hs)
        have Hord := Lib.hid (Ed.mayS_order (Hms.out s (List.mem_of_getElem? hs)))
        obtain ⟨gb, go, cc, hA, hgb, a0, a1, a2, a3, a4⟩ := (HX.out.below Hbr.out (Nat.le_succ_of_le (Nat.le_of_lt Hl2.out))).at hs
        injection hA with hA1 hA2 hA3
        subst hA1
        clear hA2 hA3
        have Hs := Lib.hid hs
        have HT := Lib.hid (Nat.le_trans HBs.out Hbr.out.size)
        have hbx := (Below.refl (w2.heap.size + 1) wr).alloc HT.out (.cells #[.int .u32 s.id, .int .u32 s.size, .int .u32 s.many, .int .u64 s.first, .int .u64 s.last] 28)
        have HO6 := Lib.hid (own_below Ho.out (bnew wr (.cells #[.int .u32 s.id, .int .u32 s.size, .int .u32 s.many, .int .u64 s.first, .int .u64 s.last] 28)) (Nat.le_refl _))
        have Hbx := Lib.hid hbx
        clear hs hbx
        go_wp2_with fail
        refine (putSeal_o (w2.heap.size + 1) _ (l5 ++ Ed.sealsL (ss.take j)) s _ HO6.out (Nat.le_trans HT.out Hbx.out.size) hfs Hord.out (by have := HL69.out; have := Ed.sealsL_len (ss.take j); have h7 : (ss.take j).length ≤ j := (by rw [List.length_take]; omega); rw [List.length_append]; omega)).mono ?_
        rintro en w12 ⟨r12, rfl, hG⟩
        have HbG := Lib.hid (Hbr.out.trans ((Hbx.out.trans (hG.below HO6.out (Nat.le_trans HT.out Hbx.out.size)))))
        have HO7 := Lib.hid hG.own
        have htk : l5 ++ Ed.sealsL (ss.take j) ++ Ed.sealL s = l5 ++ Ed.sealsL (ss.take (j + 1)) := by
          rw [List.take_add_one, Hs.out, Ed.sealsL_append]; simp [Ed.sealsL]
        rw [htk] at HO7
        clear hG htk a0 a1 a2 a3 a4
        go_wp2_with fail
        go_roundg (gk - 1)
        case measure => omega
        case rel => exact ⟨j + 1, by omega, by go_num, HO7.out, HbG.out⟩
      · go_wp2_with fail
        go_ret2
        refine ⟨⟨_, rfl, ?_⟩, HbF.out.trans (Hbr.out.mono (Nat.le_succ_of_le (Nat.le_of_lt Hl2.out)))⟩
        have h9 := Bs.of_own Ho.out
        rw [List.take_of_length_le (by rw [Hn.out]; omega)] at h9
        have e9 : l5 ++ Ed.sealsL ss = Ed.bytesE ⟨kn, nm, sq, idn, ss⟩ := by
          rw [← HL5.out, ← HnL.out, ← Hn.out]
          unfold Ed.bytesE Ed.bodyL Ed.namePart namePartOf Ed.nameL
          simp
        rw [e9] at h9
        exact h9
end Go.Proofs.YtggijjknfcofoaaDoor
