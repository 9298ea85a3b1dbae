
/-
  Layer 10, the document's answer: the walks of Put, Get, Check.
-/
import Derived.Test.YtggijjknfcofoaaDoorHdKn
import Derived.Test.YtggijjknfcofoaaDoorDxCov
import Derived.Test.YtggijjknfcofoaaDoorCutM
set_option linter.unusedVariables false
set_option linter.unusedSimpArgs false
namespace Go.Proofs.YtggijjknfcofoaaDoor.Hd
open Go.RowKit

/-- append to a row that has no room left, whoever holds it: the result is new -/
theorem wpList_append_full {P : Program} (w : World) {ops : Array Oper} {rest : List Oper} {o : Oper} {a : Act} {Q : Exit → Act → World → Prop} (hgd : o.guard = none) (s x : Operand) (t : TypeId)
    (ho : o.op = .call { callee := .builtin .append, args := #[s, x], argTypes := #[t, t] })
    (e : TypeId) (i : TypeInfo) (z : Value) (ht : P.underlying t = some (.slice e)) (hi : P.info? e = some i) (hz : i.zero = some z)
    (hsize : i.size = 1) (hby : i.bytes = 1) (hzs : z.cells.size = 1)
    (b : Addr) (n cap : Nat) (xs : List Value) (hs : a.eval s = .slice (some b) n cap) (hlo : xs.length = n) (holds : ∀ j v, xs[j]? = some v → w.cell? (b.add j) = some v)
    (ad : Addr) (m c : Nat) (news : List Value) (hx : a.eval x = .slice (some ad) m c) (hl : news.length = m) (hnews : ∀ j v, news[j]? = some v → w.cell? (ad.add j) = some v)
    (hg : cap < n + m) (h63 : n + m ≤ maxLen) (hbytes : (n + m) * 1 ≤ 140737488355328)
    (h : ∀ v' w', w'.ownsRow w.heap.size e 1 v' (n + m) (xs ++ news) → Below w.heap.size w w' → wpList P ops Q rest (a.put o.dst v') w') : wpList P ops Q (o :: rest) a w := by
  have hr := run_append_grow (P := P) w t o.type e i z ht hi hz b n cap xs (by rw [hsize, Nat.mul_one]; exact hlo) holds ad m c news (by rw [hsize, Nat.mul_one]; exact hl) hnews hg (by simp only [maxLen] at h63; omega) (by rw [hby]; exact growslice_fits (by omega) hbytes)
  refine wpList_plain hgd fun K hK => ?_
  unfold Oper.wp execOp
  simp only [ho, resolve, invoke, builtin, Sem.run_bind, Sem.run_pure, Result.andThen_ok, List.map_toArray, List.map_cons, List.map_nil, hs, hx, hr]
  refine hK _ _ (h _ _ ?_ ?_)
  · have hge := grownCap_ge w (n + m) cap e
    have hcm : grownCap w (n + m) cap e ≤ maxLen := grownCap_le_maxLen w (n + m) cap e h63
    refine ⟨by rw [List.length_append, hlo, hl, Nat.mul_one], .inr ⟨w.heap.size, _, _, rfl, Nat.le_refl _, heap_alloc_new w.drew _, hge, hcm, ?_, ?_⟩⟩
    · simp only [Array.size_append, List.size_toArray, size_zeroCells, hzs, hlo, hl]
      omega
    · simp only [Array.toList_append, List.append_assoc]
      rw [← List.append_assoc, Nat.mul_one, show n + m = (xs ++ news).length by rw [List.length_append, hlo, hl]]
      exact List.take_left
  · exact (below_drewN (Below.refl _ _) 1).alloc (Nat.le_refl _) _

set_option maxRecDepth 100000 in
theorem rput_no (k n : Int) (w : World) (h0 : 0 ≤ n) (h1 : n < 4294967296) (h : mayB k n = false) : Calls Tryd.prog 23 #[.int .i64 k, .int .u32 n] w fun e w' => e = .returned (.tuple #[.slice none 0 0, .int .i64 1]) ∧ w = w' := by
  simp only [mayB, decide_eq_false_iff_not] at h
  by_cases k1 : k = 1
  · subst k1
    by_cases n0 : n = 0
    · subst n0
      clear h
      go_enter Tryd.func23, Tryd.ntmps23
      go_wp2_with fail
      go_ret2
      exact ⟨rfl, rfl⟩
    · have e1 : (n == 0) = false := by simp [n0]
      have e2 : 16777215 < n := by omega
      clear h
      go_enter Tryd.func23, Tryd.ntmps23
      go_wp2_with fail
      go_ret2
      exact ⟨rfl, rfl⟩
  · have e1 : (k == 1) = false := by simp [k1]
    by_cases k2 : k = 2
    · subst k2
      have e2 : (n == 0) = false := by simp; omega
      have n0 : ¬ n = 0 := by omega
      clear h
      go_enter Tryd.func23, Tryd.ntmps23
      go_wp2_with fail
      go_ret2
      exact ⟨rfl, rfl⟩
    · have e2 : (k == 2) = false := by simp [k2]
      clear h
      go_enter Tryd.func23, Tryd.ntmps23
      go_wp2_with fail
      go_ret2
      exact ⟨rfl, rfl⟩
theorem rd_cells {w : World} {B b o : Nat} {xs : List Value} (h : Rd w B (some ⟨b, o, none⟩) xs) : ∀ j v, xs[j]? = some v → w.cell? ((⟨b, o, none⟩ : Addr).add j) = some v := by
  intro j v hv
  obtain ⟨b', o', e, _, hc⟩ := h (by intro e; subst e; simp at hv)
  injection e with e
  injection e with e1 e2
  subst e1 e2
  rw [Addr.add_mid]
  exact hc j v hv
/-- the seven letters and the five bytes, in two new blocks -/
theorem lit_cells (w : World) (ds : List UInt8) : (∀ j v, (bvs letters)[j]? = some v → ((w.alloc (.cells #[.int .u8 104, .int .u8 111, .int .u8 117, .int .u8 114, .int .u8 98, .int .u8 107, .int .u8 49] 5 (7, 8))).alloc (.cells (bvs ds).toArray 5)).cell? ((⟨w.heap.size, 0, none⟩ : Addr).add j) = some v) ∧
    (∀ j v, (bvs ds)[j]? = some v → ((w.alloc (.cells #[.int .u8 104, .int .u8 111, .int .u8 117, .int .u8 114, .int .u8 98, .int .u8 107, .int .u8 49] 5 (7, 8))).alloc (.cells (bvs ds).toArray 5)).cell? ((⟨w.heap.size + 1, 0, none⟩ : Addr).add j) = some v) := by
  constructor
  · obtain ⟨A, c, e, _, hr⟩ := bs_newM w letters 5 (7, 8)
    injection e with e1 e2 e3
    subst e1
    exact rd_cells (hr.alloc (by simp) _)
  · intro j v hv
    obtain ⟨A, c, e, _, hr⟩ := Bs.new (w.alloc (.cells #[.int .u8 104, .int .u8 111, .int .u8 117, .int .u8 114, .int .u8 98, .int .u8 107, .int .u8 49] 5 (7, 8))) ds 5
    injection e with e1 e2 e3
    subst e1
    have := rd_cells hr j v hv
    rw [World.size_alloc] at this
    exact this
set_option maxRecDepth 100000 in
set_option maxHeartbeats 4000000 in
theorem rput_two (w : World) : Calls Tryd.prog 23 #[.int .i64 2, .int .u32 0] w fun e w' => ∃ v, e = .returned (.tuple #[v, .int .i64 0]) ∧ w'.ownsRow w.heap.size 5 1 v 16 (bvs (headL 2 0)) ∧ Below w.heap.size w w' := by
  obtain ⟨i0, hi0, hz0, hz1, hz2⟩ := info_parts byte_info
  have kc := fun (w : World) (C : Array Value) (n c : Nat) => Lib.run_convert_bytes_const (P := Tryd.prog) w 30 5 C n c Tryd.underlying30 Tryd.underlying5
  have hlc := Lib.hid (lit_cells w [2, 0, 0, 0, 0])
  have b0 := hbnew w (.cells #[.int .u8 104, .int .u8 111, .int .u8 117, .int .u8 114, .int .u8 98, .int .u8 107, .int .u8 49] 5 (7, 8))
  have B1 := Lib.hid (b0.alloc (by simp) (.cells (bvs [2, 0, 0, 0, 0]).toArray 5))
  clear b0
  go_enter Tryd.func23, Tryd.ntmps23
  go_wp2_with (at_builtin; (refine wpList_append_full _ rfl _ _ 30 rfl 5 i0 (.int .u8 0) Tryd.underlying30 hi0 hz0 hz1 hz2 rfl ⟨w.heap.size, 0, none⟩ 7 7 (bvs letters) rfl rfl hlc.out.1 ⟨w.heap.size + 1, 0, none⟩ 5 5 (bvs [2, 0, 0, 0, 0]) rfl rfl hlc.out.2 (by omega) (by unfold maxLen; omega) (by omega) ?_); intro v2 w2 hown2 hb2)
  rw [← bvs_append] at hown2
  have B2 := Lib.hid (B1.out.trans (hb2.mono B1.out.size))
  have O2 : Hid (Bs w2 w2.heap.size v2 (bodyL 2 0)) := Lib.hid (by have := Bs.of_own hown2; exact this)
  clear hown2 hb2
  obtain ⟨A2, c2, rfl, hc2, hr2⟩ := id O2.out
  have hcv := Crc.rcover_any A2 (bodyL 2 0) c2 w2 hr2 (by rw [bodyL_length]; omega)
  rw [bodyL_length] at hcv ⊢
  clear hr2
  refine hcv.mono ?_
  rintro e w4 ⟨v4, rfl, hown4, hb4⟩
  have O4 := Lib.hid (own_base hown4 B2.out.size)
  have B4 := Lib.hid (hbstep B2.out hb4)
  clear hb4 hown4
  go_wp2_with fail
  go_ret2
  exact ⟨v4, rfl, O4.out, B4.out⟩
set_option maxRecDepth 100000 in
set_option maxHeartbeats 4000000 in
theorem rput_one (n : Nat) (hn0 : ¬ n = 0) (hn1 : n ≤ 16777215) (w : World) : Calls Tryd.prog 23 #[.int .i64 1, .int .u32 (n : Int)] w fun e w' => ∃ v, e = .returned (.tuple #[v, .int .i64 0]) ∧ w'.ownsRow w.heap.size 5 1 v 16 (bvs (headL 1 n)) ∧ Below w.heap.size w w' := by
  obtain ⟨i0, hi0, hz0, hz1, hz2⟩ := info_parts byte_info
  have kc := fun (w : World) (C : Array Value) (n c : Nat) => Lib.run_convert_bytes_const (P := Tryd.prog) w 30 5 C n c Tryd.underlying30 Tryd.underlying5
  obtain ⟨c0, h0⟩ : ∃ c, Px.dg n 0 = c := ⟨_, rfl⟩
  obtain ⟨c1, h1⟩ : ∃ c, Px.dg n 1 = c := ⟨_, rfl⟩
  obtain ⟨c2, h2⟩ : ∃ c, Px.dg n 2 = c := ⟨_, rfl⟩
  obtain ⟨c3, h3⟩ : ∃ c, Px.dg n 3 = c := ⟨_, rfl⟩
  have g0 : (n : Int) % 256 = (c0.toNat : Int) := by rw [← h0, Px.dg_toNat]; simp
  have g1 : (n : Int) / 256 % 256 = (c1.toNat : Int) := by rw [← h1, Px.dg_toNat]; simp
  have g2 : (n : Int) / 65536 % 256 = (c2.toNat : Int) := by rw [← h2, Px.dg_toNat]; simp
  have g3 : (n : Int) / 16777216 = (c3.toNat : Int) := by rw [← h3, Px.dg_toNat]; simp; omega
  have e1 : ((n : Int) == 0) = false := by simp; omega
  have e2 : ¬ (16777215 : Int) < (n : Int) := by omega
  have HD : Hid (bodyL 1 n = letters ++ [1, c0, c1, c2, c3]) := Lib.hid (by rw [← h0, ← h1, ← h2, ← h3]; rfl)
  clear h0 h1 h2 h3
  have hlc := Lib.hid (lit_cells w [1, c0, c1, c2, c3])
  have b0 := hbnew w (.cells #[.int .u8 104, .int .u8 111, .int .u8 117, .int .u8 114, .int .u8 98, .int .u8 107, .int .u8 49] 5 (7, 8))
  have B1 := Lib.hid (b0.alloc (by simp) (.cells (bvs [1, c0, c1, c2, c3]).toArray 5))
  clear b0
  go_enter Tryd.func23, Tryd.ntmps23
  go_wp2_with (at_builtin; (refine wpList_append_full _ rfl _ _ 30 rfl 5 i0 (.int .u8 0) Tryd.underlying30 hi0 hz0 hz1 hz2 rfl ⟨w.heap.size, 0, none⟩ 7 7 (bvs letters) rfl rfl hlc.out.1 ⟨w.heap.size + 1, 0, none⟩ 5 5 (bvs [1, c0, c1, c2, c3]) rfl rfl hlc.out.2 (by omega) (by unfold maxLen; omega) (by omega) ?_); intro v2 w2 hown2 hb2)
  rw [← bvs_append] at hown2
  have B2 := Lib.hid (B1.out.trans (hb2.mono B1.out.size))
  have O2 : Hid (Bs w2 w2.heap.size v2 (bodyL 1 n)) := Lib.hid (by have := Bs.of_own hown2; rw [HD.out]; exact this)
  clear hown2 hb2
  obtain ⟨A2, c2, rfl, hc2, hr2⟩ := id O2.out
  have hcv := Crc.rcover_any A2 (bodyL 1 n) c2 w2 hr2 (by rw [bodyL_length]; omega)
  rw [bodyL_length] at hcv ⊢
  clear hr2
  refine hcv.mono ?_
  rintro e w4 ⟨v4, rfl, hown4, hb4⟩
  have O4 := Lib.hid (own_base hown4 B2.out.size)
  have B4 := Lib.hid (hbstep B2.out hb4)
  clear hb4 hown4
  go_wp2_with fail
  go_ret2
  exact ⟨v4, rfl, O4.out, B4.out⟩
/-- what Put tells: the bytes, the error -/
def putQ (k n : Int) : List UInt8 × Nat := if mayB k n = true then (headL k.toNat n.toNat, 0) else ([], 1)
theorem putq_any (k n : Int) (w : World) (h0 : 0 ≤ n) (h1 : n < 4294967296) (ht : Crc.Tab w) (q : List UInt8 × Nat) (hq : putQ k n = q) :
    Calls Tryd.prog 22 #[.int .i64 k, .int .u32 n] w fun e w' => ∃ v, e = .returned (.tuple #[v, .int .i64 q.2]) ∧ Bs w' w'.heap.size v q.1 ∧ Below w.heap.size w w' := by
  unfold putQ at hq
  by_cases hm : mayB k n = true
  · rw [if_pos hm] at hq
    subst hq
    obtain ⟨a1, a2, a3, a4⟩ := may_lt hm
    obtain ⟨k', rfl⟩ := Int.eq_ofNat_of_zero_le (show 0 ≤ k by omega)
    obtain ⟨n', rfl⟩ := Int.eq_ofNat_of_zero_le h0
    refine (put_ok k' n' w hm ht).mono ?_
    rintro e w' ⟨v, rfl, hown, hb⟩
    exact ⟨v, rfl, Bs.of_own hown, hb⟩
  · rw [if_neg hm] at hq
    subst hq
    refine (put_no k n w h0 h1 (by simpa using hm)).mono ?_
    rintro e w' ⟨rfl, rfl⟩
    exact ⟨_, rfl, Bs.none_, Below.refl _ _⟩
theorem rputq_any (k n : Int) (w : World) (h0 : 0 ≤ n) (h1 : n < 4294967296) (q : List UInt8 × Nat) (hq : putQ k n = q) :
    Calls Tryd.prog 23 #[.int .i64 k, .int .u32 n] w fun e w' => ∃ v, e = .returned (.tuple #[v, .int .i64 q.2]) ∧ Bs w' w'.heap.size v q.1 ∧ Below w.heap.size w w' := by
  unfold putQ at hq
  by_cases hm : mayB k n = true
  · rw [if_pos hm] at hq
    subst hq
    have hm' := hm
    simp only [mayB, decide_eq_true_eq] at hm'
    obtain ⟨n', rfl⟩ := Int.eq_ofNat_of_zero_le h0
    rcases hm' with ⟨rfl, b1, b2⟩ | ⟨rfl, b1⟩
    · refine (rput_one n' (by omega) (by omega) w).mono ?_
      rintro e w' ⟨v, rfl, hown, hb⟩
      exact ⟨v, rfl, Bs.of_own hown, hb⟩
    · obtain rfl : n' = 0 := by omega
      have hp : Calls Tryd.prog 23 #[.int .i64 2, .int .u32 ((0 : Nat) : Int)] w _ := rput_two w
      refine hp.mono ?_
      rintro e w' ⟨v, rfl, hown, hb⟩
      exact ⟨v, rfl, Bs.of_own hown, hb⟩
  · rw [if_neg hm] at hq
    subst hq
    refine (rput_no k n w h0 h1 (by simpa using hm)).mono ?_
    rintro e w' ⟨rfl, rfl⟩
    exact ⟨_, rfl, Bs.none_, Below.refl _ _⟩
end Go.Proofs.YtggijjknfcofoaaDoor.Hd
