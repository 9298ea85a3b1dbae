
/-
  Layer 8: the walk of the laws' own made (a record brought into bounds).
-/
import Derived.Test.YtmiljicohnfejaaDoorRcFew
import Derived.Laws.BitsAllLaws
import Derived.Laws.NewBlocks
set_option linter.unusedVariables false
set_option linter.unusedSimpArgs false
namespace Go.Proofs.YtmiljicohnfejaaDoor
open Go.RowKit

def Rc.made (r : Rc.Rec) : Rc.Rec :=
  { seq := 1 + r.seq % 1099511627776, kind := if r.kind = 2 then 2 else 1, key := if r.key.length = 0 then [7] else r.key.take 64, val := if r.kind = 2 then [] else r.val.take 1024,
    seg := r.seg % 16777216, off := if r.seg % 16777216 = 0 then 0 else 16 + r.off % 16777201 }
theorem Rc.made_may (r : Rc.Rec) : Rc.mayB (Rc.made r) = true := by
  have h1 : (Rc.made r).key.length = if r.key.length = 0 then 1 else min 64 r.key.length := by
    unfold Rc.made
    dsimp only
    by_cases h : r.key.length = 0
    · rw [if_pos h, if_pos h]; rfl
    · rw [if_neg h, if_neg h, List.length_take]
  have h2 : (Rc.made r).val.length = if r.kind = 2 then 0 else min 1024 r.val.length := by
    unfold Rc.made
    dsimp only
    by_cases h : r.kind = 2
    · rw [if_pos h, if_pos h]; rfl
    · rw [if_neg h, if_neg h, List.length_take]
  have h3 : (Rc.made r).off = if r.seg % 16777216 = 0 then 0 else 16 + r.off % 16777201 := rfl
  have h4 : (Rc.made r).kind = if r.kind = 2 then 2 else 1 := rfl
  have h5 : (Rc.made r).seg = r.seg % 16777216 := rfl
  have h6 : (Rc.made r).seq = 1 + r.seq % 1099511627776 := rfl
  simp only [Rc.mayB, Rc.kindB, Lx.mayB, Lx.noneB, Lx.standsB, Bool.and_eq_true, Bool.or_eq_true, decide_eq_true_eq]
  rw [h1, h2, h3, h4, h5, h6]
  have q1 : r.seq % 1099511627776 < 1099511627776 := Int.emod_lt_of_pos _ (by omega)
  have q2 : 0 ≤ r.seq % 1099511627776 := Int.emod_nonneg _ (by omega)
  have q3 : r.seg % 16777216 < 16777216 := Int.emod_lt_of_pos _ (by omega)
  have q4 : 0 ≤ r.seg % 16777216 := Int.emod_nonneg _ (by omega)
  have q5 : r.off % 16777201 < 16777201 := Int.emod_lt_of_pos _ (by omega)
  have q6 : 0 ≤ r.off % 16777201 := Int.emod_nonneg _ (by omega)
  generalize r.seq % 1099511627776 = a at *
  generalize r.seg % 16777216 = b at *
  generalize r.off % 16777201 = c at *
  split <;> split <;> split <;> omega
theorem and_id (s : Int) (h0 : 0 ≤ s) (h1 : s < 4294967296) : bits .and .u32 s 16777215 = s % 16777216 := by
  obtain ⟨n, rfl⟩ := Int.eq_ofNat_of_zero_le h0
  rw [show (16777215 : Int) = ((16777215 : Nat) : Int) by rfl, u32_and_nat _ _ (by omega) (by omega)]
  have : n &&& 16777215 = n % 16777216 := by
    have := Nat.and_two_pow_sub_one_eq_mod n 24
    simpa using this
  rw [this]
  rfl

/-- all blocks below B, and those from C on, are as they were -/
def Keeps (B C : Nat) (w w' : World) : Prop := ∀ k, k < w.heap.size → (k < B ∨ C ≤ k) → w'.heap[k]? = w.heap[k]?
theorem Keeps.refl (B C : Nat) (w : World) : Keeps B C w w := fun _ _ _ => rfl
theorem keep_bs {w W W' : World} {B : Nat} {v : Value} {l : List UInt8} (h : Bs w B v l) (hb : Below w.heap.size w W) (hB : B ≤ w.heap.size) (hk : Keeps B w.heap.size W W') : Bs W' B v l :=
  h.keep fun p hp => (World.cell?_of_block (hk p.block (by have := hb.size; omega) (.inl hp))).trans (hb.cell (by omega))
theorem made_end {w W : World} (B : Nat) (r : Rc.Rec) (a b : Int) (kv vv : Value) (c d : Int) (hb : Below w.heap.size w W) (h1 : a = (Rc.made r).seq) (h2 : b = (Rc.made r).kind)
    (h3 : Below w.heap.size w W → ∀ W', Keeps B w.heap.size W W' → Bs W' W.heap.size kv (Rc.made r).key) (h4 : Below w.heap.size w W → ∀ W', Keeps B w.heap.size W W' → Bs W' W.heap.size vv (Rc.made r).val) (h5 : c = (Rc.made r).seg) (h6 : d = (Rc.made r).off) :
    ∃ v', Ending.returned (.agg #[.int .u64 a, .int .i64 b, kv, vv, .int .u32 c, .int .u32 d]) = .returned v' ∧ (∀ W', Keeps B w.heap.size W W' → RecV W' W.heap.size v' (Rc.made r)) ∧ Below w.heap.size w W :=
  ⟨_, rfl, fun W' hk => ⟨_, _, by rw [h1, h2, h5, h6]; rfl, h3 hb W' hk, h4 hb W' hk⟩, hb⟩
theorem bs_seven {W : World} {g B : Nat} (h : W.cell? ⟨g, 0, none⟩ = some (.int .u8 7)) (hg : g < B) : Bs W B (.slice (some ⟨g, 0, none⟩) 1 1) [7] :=
  ⟨_, _, rfl, Nat.le_refl _, fun _ => ⟨g, 0, rfl, hg, fun j u hu => by
    rcases j with _ | j
    · simp [bvs, bv] at hu; subst hu; simpa using h
    · simp [bvs] at hu⟩⟩
set_option maxRecDepth 100000 in
set_option maxHeartbeats 4000000 in
theorem made_b (v : Value) (r : Rc.Rec) (B : Nat) (w : World) (h : RecV w B v r) (hB : B ≤ w.heap.size) (f : Rc.Fit r) :
    Calls Tryd.prog 20 #[v] w fun e w' => ∃ v', e = .returned v' ∧ (∀ W', Keeps B w.heap.size w' W' → RecV W' w'.heap.size v' (Rc.made r)) ∧ Below w.heap.size w w' := by
  obtain ⟨kv, vv, rfl, h1, h2⟩ := h
  obtain ⟨A, c, k, A', c', rfl, m1, k1, s1, z1⟩ := cut_min kv r.key B 64 w h1
  obtain ⟨X, d, q, X', d', rfl, m2, k2, s2, z2⟩ := cut_min vv r.val B 1024 w h2
  have g1 := f.key1
  have g2 := f.val1
  have g3 := f.seq0
  have g4 := f.seq1
  have g5 := f.off0
  have g6 := f.off1
  obtain ⟨s, hs, hs'⟩ : ∃ s : Int, bits .and .u32 r.seg 16777215 = s ∧ s = r.seg % 16777216 := ⟨_, rfl, and_id _ f.seg0 f.seg1⟩
  have H1 := Lib.hid h1
  have H2 := Lib.hid h2
  have Z1 := Lib.hid z1
  have Z2 := Lib.hid z2
  have Hs := Lib.hid hs'
  have s0 : 0 ≤ s := by rw [hs']; exact Int.emod_nonneg _ (by omega)
  have s9 : s < 16777216 := by rw [hs']; exact Int.emod_lt_of_pos _ (by omega)
  clear z1 z2 h1 h2 hs' f
  have e80 : ((64 : Nat) : Int) = 64 := rfl
  have e11 : ((1024 : Nat) : Int) = 1024 := rfl
  rw [e80] at m1
  rw [e11] at m2
  have E1 : Hid ((Rc.made r).key = if r.key.length = 0 then [7] else r.key.take 64) := Lib.hid rfl
  have E2 : Hid ((Rc.made r).val = if r.kind = 2 then [] else r.val.take 1024) := Lib.hid rfl
  have E3 : Hid ((Rc.made r).off = if r.seg % 16777216 = 0 then 0 else 16 + r.off % 16777201) := Lib.hid rfl
  have E4 : Hid ((Rc.made r).kind = if r.kind = 2 then 2 else 1) := Lib.hid rfl
  have E5 : Hid ((Rc.made r).seg = r.seg % 16777216) := Lib.hid rfl
  have E6 : Hid ((Rc.made r).seq = 1 + r.seq % 1099511627776) := Lib.hid rfl
  unfold recV
  generalize hn : r.key.length = n at *
  generalize hp : r.val.length = p at *
  clear hn hp e80 e11
  go_enter Tryd.func20, Tryd.ntmps20
  go_wp2_with fail
  go_region
  by_cases hn0 : n = 0
  · subst hn0
    obtain rfl : k = 0 := by omega
    by_cases kd : r.kind = 2
    · have t1 : (r.kind != 2) = false := by simp [kd]
      have t2 : (r.kind == 2) = true := by simp [kd]
      by_cases hs0 : s = 0
      · have t3 : (s == 0) = true := by simp [hs0]
        go_wp2_with fail
        refine bodyPost_ret (v := .agg #[.int .u64 (1 + r.seq % 1099511627776), .int .i64 2, .slice (some ⟨w.heap.size + 1 + 1, 0, none⟩) 1 1, .slice none 0 0, .int .u32 0, .int .u32 0]) (by simp [results, Tryd.results20, go_sem]) rfl (made_end B r _ _ _ _ _ _ (by repeat (first | exact Below.refl _ _ | refine Below.drew ?_ | refine balloc ?_ _)) ?_ ?_ ?_ ?_ ?_ ?_)
        · exact E6.out.symm
        · rw [E4.out]; rw [if_pos kd]
        · intro hb W' hk; rw [E1.out]; (first | rw [if_pos rfl] | rw [if_pos trivial]); exact bs_seven ((World.cell?_of_block (hk (w.heap.size + 1 + 1) (by simp) (.inr (by omega)))).trans ((World.cell?_alloc_at _ _ _ _ (by simp)).trans (by simp))) (by simp)
        · intro hb W' hk; rw [E2.out]; rw [if_pos kd]; exact Bs.none_
        · rw [E5.out, ← Hs.out]; exact hs0.symm
        · rw [E3.out, ← Hs.out, if_pos hs0]
      · have t3 : (s == 0) = false := by simp [hs0]
        go_wp2_with fail
        refine bodyPost_ret (v := .agg #[.int .u64 (1 + r.seq % 1099511627776), .int .i64 2, .slice (some ⟨w.heap.size + 1 + 1, 0, none⟩) 1 1, .slice none 0 0, .int .u32 s, .int .u32 (16 + r.off % 16777201)]) (by simp [results, Tryd.results20, go_sem]) rfl (made_end B r _ _ _ _ _ _ (by repeat (first | exact Below.refl _ _ | refine Below.drew ?_ | refine balloc ?_ _)) ?_ ?_ ?_ ?_ ?_ ?_)
        · exact E6.out.symm
        · rw [E4.out]; rw [if_pos kd]
        · intro hb W' hk; rw [E1.out]; (first | rw [if_pos rfl] | rw [if_pos trivial]); exact bs_seven ((World.cell?_of_block (hk (w.heap.size + 1 + 1) (by simp) (.inr (by omega)))).trans ((World.cell?_alloc_at _ _ _ _ (by simp)).trans (by simp))) (by simp)
        · intro hb W' hk; rw [E2.out]; rw [if_pos kd]; exact Bs.none_
        · rw [E5.out, ← Hs.out]
        · rw [E3.out, ← Hs.out, if_neg hs0]
    · have t1 : (r.kind != 2) = true := by simp [kd]
      by_cases hs0 : s = 0
      · have t3 : (s == 0) = true := by simp [hs0]
        go_wp2_with fail
        refine bodyPost_ret (v := .agg #[.int .u64 (1 + r.seq % 1099511627776), .int .i64 1, .slice (some ⟨w.heap.size + 1 + 1, 0, none⟩) 1 1, .slice X' q d', .int .u32 0, .int .u32 0]) (by simp [results, Tryd.results20, go_sem]) rfl (made_end B r _ _ _ _ _ _ (by repeat (first | exact Below.refl _ _ | refine Below.drew ?_ | refine balloc ?_ _)) ?_ ?_ ?_ ?_ ?_ ?_)
        · exact E6.out.symm
        · rw [E4.out]; rw [if_neg kd]
        · intro hb W' hk; rw [E1.out]; (first | rw [if_pos rfl] | rw [if_pos trivial]); exact bs_seven ((World.cell?_of_block (hk (w.heap.size + 1 + 1) (by simp) (.inr (by omega)))).trans ((World.cell?_alloc_at _ _ _ _ (by simp)).trans (by simp))) (by simp)
        · intro hb W' hk; rw [E2.out]; rw [if_neg kd]; exact Z2.out _ _ ((keep_bs H2.out hb hB hk).mono (by have := hb.size; omega))
        · rw [E5.out, ← Hs.out]; exact hs0.symm
        · rw [E3.out, ← Hs.out, if_pos hs0]
      · have t3 : (s == 0) = false := by simp [hs0]
        go_wp2_with fail
        refine bodyPost_ret (v := .agg #[.int .u64 (1 + r.seq % 1099511627776), .int .i64 1, .slice (some ⟨w.heap.size + 1 + 1, 0, none⟩) 1 1, .slice X' q d', .int .u32 s, .int .u32 (16 + r.off % 16777201)]) (by simp [results, Tryd.results20, go_sem]) rfl (made_end B r _ _ _ _ _ _ (by repeat (first | exact Below.refl _ _ | refine Below.drew ?_ | refine balloc ?_ _)) ?_ ?_ ?_ ?_ ?_ ?_)
        · exact E6.out.symm
        · rw [E4.out]; rw [if_neg kd]
        · intro hb W' hk; rw [E1.out]; (first | rw [if_pos rfl] | rw [if_pos trivial]); exact bs_seven ((World.cell?_of_block (hk (w.heap.size + 1 + 1) (by simp) (.inr (by omega)))).trans ((World.cell?_alloc_at _ _ _ _ (by simp)).trans (by simp))) (by simp)
        · intro hb W' hk; rw [E2.out]; rw [if_neg kd]; exact Z2.out _ _ ((keep_bs H2.out hb hB hk).mono (by have := hb.size; omega))
        · rw [E5.out, ← Hs.out]
        · rw [E3.out, ← Hs.out, if_neg hs0]
  · have hk0 : 0 < k := by omega
    by_cases kd : r.kind = 2
    · have t1 : (r.kind != 2) = false := by simp [kd]
      have t2 : (r.kind == 2) = true := by simp [kd]
      by_cases hs0 : s = 0
      · have t3 : (s == 0) = true := by simp [hs0]
        go_wp2_with fail
        refine bodyPost_ret (v := .agg #[.int .u64 (1 + r.seq % 1099511627776), .int .i64 2, .slice A' k c', .slice none 0 0, .int .u32 0, .int .u32 0]) (by simp [results, Tryd.results20, go_sem]) rfl (made_end B r _ _ _ _ _ _ (by repeat (first | exact Below.refl _ _ | refine Below.drew ?_ | refine balloc ?_ _)) ?_ ?_ ?_ ?_ ?_ ?_)
        · exact E6.out.symm
        · rw [E4.out]; rw [if_pos kd]
        · intro hb W' hk; rw [E1.out]; (first | rw [if_neg hn0] | rw [if_neg (by omega)]); exact Z1.out _ _ ((keep_bs H1.out hb hB hk).mono (by have := hb.size; omega))
        · intro hb W' hk; rw [E2.out]; rw [if_pos kd]; exact Bs.none_
        · rw [E5.out, ← Hs.out]; exact hs0.symm
        · rw [E3.out, ← Hs.out, if_pos hs0]
      · have t3 : (s == 0) = false := by simp [hs0]
        go_wp2_with fail
        refine bodyPost_ret (v := .agg #[.int .u64 (1 + r.seq % 1099511627776), .int .i64 2, .slice A' k c', .slice none 0 0, .int .u32 s, .int .u32 (16 + r.off % 16777201)]) (by simp [results, Tryd.results20, go_sem]) rfl (made_end B r _ _ _ _ _ _ (by repeat (first | exact Below.refl _ _ | refine Below.drew ?_ | refine balloc ?_ _)) ?_ ?_ ?_ ?_ ?_ ?_)
        · exact E6.out.symm
        · rw [E4.out]; rw [if_pos kd]
        · intro hb W' hk; rw [E1.out]; (first | rw [if_neg hn0] | rw [if_neg (by omega)]); exact Z1.out _ _ ((keep_bs H1.out hb hB hk).mono (by have := hb.size; omega))
        · intro hb W' hk; rw [E2.out]; rw [if_pos kd]; exact Bs.none_
        · rw [E5.out, ← Hs.out]
        · rw [E3.out, ← Hs.out, if_neg hs0]
    · have t1 : (r.kind != 2) = true := by simp [kd]
      by_cases hs0 : s = 0
      · have t3 : (s == 0) = true := by simp [hs0]
        go_wp2_with fail
        refine bodyPost_ret (v := .agg #[.int .u64 (1 + r.seq % 1099511627776), .int .i64 1, .slice A' k c', .slice X' q d', .int .u32 0, .int .u32 0]) (by simp [results, Tryd.results20, go_sem]) rfl (made_end B r _ _ _ _ _ _ (by repeat (first | exact Below.refl _ _ | refine Below.drew ?_ | refine balloc ?_ _)) ?_ ?_ ?_ ?_ ?_ ?_)
        · exact E6.out.symm
        · rw [E4.out]; rw [if_neg kd]
        · intro hb W' hk; rw [E1.out]; (first | rw [if_neg hn0] | rw [if_neg (by omega)]); exact Z1.out _ _ ((keep_bs H1.out hb hB hk).mono (by have := hb.size; omega))
        · intro hb W' hk; rw [E2.out]; rw [if_neg kd]; exact Z2.out _ _ ((keep_bs H2.out hb hB hk).mono (by have := hb.size; omega))
        · rw [E5.out, ← Hs.out]; exact hs0.symm
        · rw [E3.out, ← Hs.out, if_pos hs0]
      · have t3 : (s == 0) = false := by simp [hs0]
        go_wp2_with fail
        refine bodyPost_ret (v := .agg #[.int .u64 (1 + r.seq % 1099511627776), .int .i64 1, .slice A' k c', .slice X' q d', .int .u32 s, .int .u32 (16 + r.off % 16777201)]) (by simp [results, Tryd.results20, go_sem]) rfl (made_end B r _ _ _ _ _ _ (by repeat (first | exact Below.refl _ _ | refine Below.drew ?_ | refine balloc ?_ _)) ?_ ?_ ?_ ?_ ?_ ?_)
        · exact E6.out.symm
        · rw [E4.out]; rw [if_neg kd]
        · intro hb W' hk; rw [E1.out]; (first | rw [if_neg hn0] | rw [if_neg (by omega)]); exact Z1.out _ _ ((keep_bs H1.out hb hB hk).mono (by have := hb.size; omega))
        · intro hb W' hk; rw [E2.out]; rw [if_neg kd]; exact Z2.out _ _ ((keep_bs H2.out hb hB hk).mono (by have := hb.size; omega))
        · rw [E5.out, ← Hs.out]
        · rw [E3.out, ← Hs.out, if_neg hs0]
end Go.Proofs.YtmiljicohnfejaaDoor
