
/-
  Layer 3: the document's set: Drop.
-/
import Derived.Test.YtaekndhchdpobaaCut3
import Derived.RangeFuncBox
set_option linter.unusedVariables false
set_option linter.unusedSimpArgs false
namespace Go.Proofs.Ytaekndhchdpobaa
open Go.RowKit Go.Maps Go.Lib

set_option maxRecDepth 100000 in
set_option maxHeartbeats 4000000 in
theorem rdrop_any {w : World} {br B : Nat} {v : Value} {R : List One3} (h : RowAt w br B v R) (hBw : B ≤ w.heap.size) {s o : Int} :
    Calls Try.prog 15 #[.pointer (some ⟨br, 0, none⟩), lv s o] w fun e w' =>
      (e = .returned (.int .i64 6) ∧ (s, o) ∉ R.map kOf ∧ Below w.heap.size w w') ∨
      (e = .returned (.int .i64 0) ∧ ∃ (j : Nat) (n : Int) (v' : Value), R[j]? = some (s, o, n) ∧ RowAt w' br B v' (R.take j ++ R.drop (j + 1)) ∧ Fr w w' br none ∧ ∀ g, v'.ownBlock = some g → w.heap.size ≤ g) := by
  have H0 := Lib.hid h
  have hlt := h.lt
  have hbig := h.big
  obtain ⟨i0, hi0, hz0, hz1, hz2⟩ := info_parts one_info
  obtain ⟨A, c, rfl, hlc, hcm, hAb⟩ := own_slice h.own
  have hbr : br < w.heap.size := block_of_cell h.cell
  unfold lv
  clear h hAb
  go_enter Try.func15, Try.ntmps15
  go_wp2_with fail
  have b0 := bnew w (.cells #[.int .u32 s, .int .u32 o] 31)
  replace H0 := Lib.hid (H0.out.on b0)
  refine (place_any H0.out).mono ?_
  rintro e w1 ⟨k, rfl, hp, hb⟩
  replace H0 := Lib.hid (H0.out.on hb)
  have b1 := Lib.hid (bstep b0 hb)
  clear b0 hb
  rcases hp with ⟨rfl, hni⟩ | ⟨j, n, rfl, hj⟩
  · have HN := Lib.hid hni
    clear hni
    go_wp2_with fail
    go_ret
    exact Or.inl ⟨rfl, HN.out, b1.out⟩
  · have hjl : j < R.length := (List.getElem?_eq_some_iff.1 hj).1
    have HJ := Lib.hid hj
    have hw1 := b1.out.size
    have hc := H0.out.cell
    have hf := H0.out.free
    obtain ⟨A1, c1, hcut1, hA1⟩ := cutO_h A R.length c j (by omega) hlc
    obtain ⟨A2, c2, hcut2, hA2⟩ := cutO_l A R.length c (j + 1) (by omega) hlc
    have ecast : ((j + 1 : Nat) : Int) = (j : Int) + 1 := by omega
    simp only [ecast] at hcut2
    have HR := Lib.hid (Rd.of_own H0.out.own)
    have HA1 := Lib.hid (hA1 w1 w1.heap.size R rfl HR.out)
    have HA2 := Lib.hid (hA2 w1 w1.heap.size R rfl HR.out)
    have hneg : decide ((j : Int) < 0) = false := by simp
    have hj1 : IntKind.i64.wrap ((j : Int) + 1) = (j : Int) + 1 := by rw [IntWalk.i64_in _ (by omega)]
    clear ecast
    clear hj hA1 hA2
    have hlen2 : (R.drop (j + 1)).length = R.length - (j + 1) := List.length_drop
    go_wp2_with (at_builtin; first | ((refine wpList_append_rd _ rfl _ _ 26 rfl w1.heap.size 45 i0 (.agg #[.int .u32 0, .int .u32 0, .int .u64 0]) 3 16 Try.underlying26 hi0 hz0 hz1 hz2 rfl (by omega) (.slice none 0 0) 0 [] rfl (World.ownsRow_nil _ _ _ _) w1.heap.size A1 j c1 (ovs (R.take j)) rfl (by rw [ovs_length, List.length_take]; omega) HA1.out (ovs_one _) (by unfold maxLen; omega) (by omega) (Nat.le_refl _) ?_); intro v2 w2 hown2 hb2 hgr2 hob2; have hc2 := hgr2.cell hc (by simp [Value.ownBlock]); have hf2 : w2.frozen? ⟨br, 0, none⟩ = false := (World.frozen?_of_block (a := ⟨br, 0, none⟩) (hb2.block br (by omega))).trans hf; clear hc hf; have hs2 := hb2.size; have HA3 := Lib.hid (HA2.out.below hb2 (Nat.le_refl _)); have HB2 := Lib.hid hb2; have HG2 := Lib.hid hgr2; have HO2 := Lib.hid hown2; have HV2 := Lib.hid hob2; clear hb2 hgr2 hown2 hob2) | ((refine wpList_append_rd _ rfl _ _ 26 rfl w1.heap.size 45 i0 (.agg #[.int .u32 0, .int .u32 0, .int .u64 0]) 3 16 Try.underlying26 hi0 hz0 hz1 hz2 rfl (by omega) v2 (0 + j) ([] ++ ovs (R.take j)) rfl HO2.out w1.heap.size A2 (R.length - (j + 1)) c2 (ovs (R.drop (j + 1))) rfl (by rw [ovs_length, hlen2]) HA3.out (ovs_one _) (by unfold maxLen; omega) (by omega) (by omega) ?_); intro v3 w3 hown3 hb3 hgr3 hob3; obtain ⟨A3, c3, rfl, _, _, _⟩ := own_slice hown3; have hc3 : w3.cell? ⟨br, 0, none⟩ = some (.slice A R.length c) := (hb3.cell (p := ⟨br, 0, none⟩) (by show br < _; omega)).trans hc2; have hf3 : w3.frozen? ⟨br, 0, none⟩ = false := (World.frozen?_of_block (a := ⟨br, 0, none⟩) (hb3.block br (by omega))).trans hf2; clear hc2 hf2))
    go_ret
    have hb13 := HB2.out.trans hb3
    have hs13 := hb13.size
    have hlen : (R.take j ++ R.drop (j + 1)).length = 0 + j + (R.length - (j + 1)) := by rw [List.length_append, hlen2, List.length_take]; omega
    have hown4 : w3.ownsRow w1.heap.size 45 3 (.slice A3 (j + (R.length - (j + 1))) c3) (R.take j ++ R.drop (j + 1)).length (ovs (R.take j ++ R.drop (j + 1))) := by rw [hlen, ovs_append]; simpa using hown3
    refine Or.inr ⟨rfl, j, n, .slice A3 (j + (R.length - (j + 1))) c3, HJ.out, ⟨?_, ?_, ?_, hlt, ?_⟩, ?_, ?_⟩
    · first | exact World.cell?_setCell_same _ _ _ hc3 | exact World.cell?_setCell_same _ _ hc3 | (simp [World.cell?_setCell_same, hc3]; done) | (rw [World.cell?_setCell_same]; simp [hc3])
    · exact own_grown (own_base hown4 (by omega)) (grownBy_setCell' w3 br _) (fun k hk e => by have := (hown4.lt k hk).1; injection e with e; omega)
    · first | (rw [World.frozen?_setCell]; exact hf3) | (simp [hf3]; done)
    · rw [hlen]; omega
    · have hg := grownBy_setCell' w3 br (.slice A3 (j + (R.length - (j + 1))) c3)
      refine ⟨?_, ?_, ?_, ?_, ?_⟩
      · exact hg.os.trans (hb13.os.trans b1.out.os)
      · exact hg.tape.trans (hb13.tape.trans b1.out.tape)
      · exact hg.output.trans (hb13.output.trans b1.out.output)
      · have := hg.size; omega
      · intro i hi hne _
        exact ((hg.block i (by omega) (fun e => hne (by injection e))).trans (hb13.block i (by omega))).trans (b1.out.block i hi)
    · intro g hg
      have := (hown4.lt g hg).1
      omega
end Go.Proofs.Ytaekndhchdpobaa
