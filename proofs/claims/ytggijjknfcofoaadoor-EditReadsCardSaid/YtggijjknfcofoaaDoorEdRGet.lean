
/-
  Layer 9: the document's answer: Get. (printed by tools/gen/ed_rget.py)
-/
import Derived.Test.YtggijjknfcofoaaDoorEdRGet1
import Derived.Test.YtggijjknfcofoaaDoorEdRGet2
import Derived.Test.YtggijjknfcofoaaDoorEdRGet3
import Derived.Test.YtggijjknfcofoaaDoorEdRGet4
import Derived.Test.YtggijjknfcofoaaDoorEdRGet5
import Derived.Test.YtggijjknfcofoaaDoorEdRGet6
set_option linter.unusedVariables false
set_option linter.unusedSimpArgs false
namespace Go.Proofs.YtggijjknfcofoaaDoor
open Go.RowKit

set_option maxRecDepth 100000 in
set_option maxHeartbeats 4000000 in
theorem rget9_nil (A : Option Addr) (c : Nat) (w : World) :
    Calls Tryd.prog 21 #[.slice A 0 c] w (GetP w Ed.none 4) := by
  have HT := Lib.hid (Bx.new w #[.int .i64 0, .string ⟨#[]⟩, .int .u64 0, .int .u32 0, .slice none 0 0] 36 _ rfl)
  have HB := Lib.hid (bnew w (.cells #[.int .i64 0, .string ⟨#[]⟩, .int .u64 0, .int .u32 0, .slice none 0 0] 36))
  have hT5 := HT.out
  have hB5 := HB.out
  obtain ⟨t0, t1, t2, t3, t4⟩ := HT.out.at5
  obtain ⟨v0, v1, v2, v3, v4⟩ := HT.out.free5
  go_enter Tryd.func21, Tryd.ntmps21
  go_wp2_with fail
  obtain ⟨u0, u1, u2, u3, u4⟩ := hT5.at5
  refine bodyPost_ret (v := .tuple #[edV 0 ⟨#[]⟩ 0 0 (.slice none 0 0), .int .i64 (4 : Int)]) (by simp [results, Tryd.results21, go_sem, u0, u1, u2, u3, u4, edV]) rfl ?_
  exact ⟨⟨_, rfl, EdV.none_⟩, hB5⟩
set_option maxRecDepth 100000 in
set_option maxHeartbeats 4000000 in
theorem rget9_0 (b ro n c : Nat) (w : World) (hn : 0 < n) (hbb : b < w.heap.size) (cb : w.cell? ⟨b, ro, none⟩ = some (.int .u8 0)) :
    Calls Tryd.prog 21 #[.slice (some ⟨b, ro, none⟩) n c] w (GetP w Ed.none 5) := by
  have hne0 : ((n : Int) == 0) = false := by rw [beq_eq_false_iff_ne]; omega
  have hne0' : ¬ (n : Int) = 0 := by omega
  have hpos' : (0 : Int) < (n : Int) := by omega
  have HT := Lib.hid ((Bx.new w #[.int .i64 0, .string ⟨#[]⟩, .int .u64 0, .int .u32 0, .slice none 0 0] 36 _ rfl).alloc (.cells #[.int .i64 0, .string ⟨#[]⟩, .int .u64 0, .int .u32 0, .slice none 0 0] 36))
  have HB := Lib.hid (balloc (bnew w (.cells #[.int .i64 0, .string ⟨#[]⟩, .int .u64 0, .int .u32 0, .slice none 0 0] 36)) (.cells #[.int .i64 0, .string ⟨#[]⟩, .int .u64 0, .int .u32 0, .slice none 0 0] 36))
  have hT5 := HT.out
  have hB5 := HB.out
  obtain ⟨t0, t1, t2, t3, t4⟩ := HT.out.at5
  obtain ⟨v0, v1, v2, v3, v4⟩ := HT.out.free5
  go_enter Tryd.func21, Tryd.ntmps21
  go_wp2_with fail
  obtain ⟨u0, u1, u2, u3, u4⟩ := hT5.at5
  refine bodyPost_ret (v := .tuple #[edV 0 ⟨#[]⟩ 0 0 (.slice none 0 0), .int .i64 (5 : Int)]) (by simp [results, Tryd.results21, go_sem, u0, u1, u2, u3, u4, edV]) rfl ?_
  exact ⟨⟨_, rfl, EdV.none_⟩, hB5⟩
set_option maxRecDepth 100000 in
set_option maxHeartbeats 4000000 in
theorem rget9_hi (b ro n c : Nat) (k : Nat) (h6 : 6 < k) (h256 : k < 256) (w : World) (hn : 0 < n) (hbb : b < w.heap.size) (cb : w.cell? ⟨b, ro, none⟩ = some (.int .u8 (k : Int))) :
    Calls Tryd.prog 21 #[.slice (some ⟨b, ro, none⟩) n c] w (GetP w Ed.none 5) := by
  have hne0 : ((n : Int) == 0) = false := by rw [beq_eq_false_iff_ne]; omega
  have hne0' : ¬ (n : Int) = 0 := by omega
  have hpos' : (0 : Int) < (n : Int) := by omega
  have z1 : IntKind.i64.wrap (k : Int) = (k : Int) := IntWalk.i64_in _ (by omega)
  have k1 : ¬ (k : Int) < 1 := by omega
  have k2 : (6 : Int) < (k : Int) := by omega
  have HT := Lib.hid ((Bx.new w #[.int .i64 0, .string ⟨#[]⟩, .int .u64 0, .int .u32 0, .slice none 0 0] 36 _ rfl).alloc (.cells #[.int .i64 (k : Int), .string ⟨#[]⟩, .int .u64 0, .int .u32 0, .slice none 0 0] 36))
  have HB := Lib.hid (balloc (bnew w (.cells #[.int .i64 0, .string ⟨#[]⟩, .int .u64 0, .int .u32 0, .slice none 0 0] 36)) (.cells #[.int .i64 (k : Int), .string ⟨#[]⟩, .int .u64 0, .int .u32 0, .slice none 0 0] 36))
  have hT5 := HT.out
  have hB5 := HB.out
  obtain ⟨t0, t1, t2, t3, t4⟩ := HT.out.at5
  obtain ⟨v0, v1, v2, v3, v4⟩ := HT.out.free5
  go_enter Tryd.func21, Tryd.ntmps21
  go_wp2_with fail
  obtain ⟨u0, u1, u2, u3, u4⟩ := hT5.at5
  refine bodyPost_ret (v := .tuple #[edV 0 ⟨#[]⟩ 0 0 (.slice none 0 0), .int .i64 (5 : Int)]) (by simp [results, Tryd.results21, go_sem, u0, u1, u2, u3, u4, edV]) rfl ?_
  exact ⟨⟨_, rfl, EdV.none_⟩, hB5⟩
theorem rget9_any (v : Value) (L : List UInt8) (w : World) (h : Bs w w.heap.size v L) (hl : L.length ≤ 100000) :
    Calls Tryd.prog 21 #[v] w fun e w' => (∃ ev, e = .returned (.tuple #[ev, .int .i64 ((Ed.getR L).2 : Nat)]) ∧ EdV w' w'.heap.size ev (Ed.getR L).1) ∧ Below w.heap.size w w' := by
  obtain ⟨⟨X, C⟩, hQ⟩ : ∃ p, Ed.getR L = p := ⟨_, rfl⟩
  rw [hQ]
  show Calls _ _ _ _ (GetP w X C)
  obtain ⟨A, c, rfl, hc, hr⟩ := h
  rcases hL : L with _ | ⟨x, l1⟩
  · subst hL
    have e : Ed.getR [] = (Ed.none, 4) := rfl
    rw [e] at hQ
    injection hQ with h1 h2
    subst h1 h2
    exact rget9_nil A c w
  · rw [← hL]
    have hx := UInt8.toNat_lt x
    by_cases h16 : 1 ≤ x.toNat ∧ x.toNat ≤ 6
    · have hk : x.toNat = 1 ∨ x.toNat = 2 ∨ x.toNat = 3 ∨ x.toNat = 4 ∨ x.toNat = 5 ∨ x.toNat = 6 := by omega
      rcases hk with hk | hk | hk | hk | hk | hk
      · exact rget9_1 A c L x l1 hL hk w hc hr hl X C hQ
      · exact rget9_2 A c L x l1 hL hk w hc hr hl X C hQ
      · exact rget9_3 A c L x l1 hL hk w hc hr hl X C hQ
      · exact rget9_4 A c L x l1 hL hk w hc hr hl X C hQ
      · exact rget9_5 A c L x l1 hL hk w hc hr hl X C hQ
      · exact rget9_6 A c L x l1 hL hk w hc hr hl X C hQ
    · rw [Ed.getR_other hL rfl h16] at hQ
      injection hQ with h1 h2
      subst h1 h2
      obtain ⟨b, ro, rfl, hbb, hcell⟩ := hr (by rw [hL]; simp [bvs])
      have cb : w.cell? ⟨b, ro, none⟩ = some (.int .u8 (x.toNat : Int)) := hcell 0 (bv x) (by rw [hL]; rfl)
      have hpos : 0 < L.length := by rw [hL]; simp
      by_cases h0 : x.toNat = 0
      · rw [h0] at cb
        exact rget9_0 b ro L.length c w hpos hbb cb
      · exact rget9_hi b ro L.length c x.toNat (by omega) (by omega) w hpos hbb cb
end Go.Proofs.YtggijjknfcofoaaDoor
