
/-
  Layer 10, the document's answer: the walks of Get, Check.
-/
import Derived.Test.YtggijjknfcofoaaDoorHdRef
set_option linter.unusedVariables false
set_option linter.unusedSimpArgs false
namespace Go.Proofs.YtggijjknfcofoaaDoor.Hd
open Go.RowKit

theorem kindN_at (l : List UInt8) : kindN l = (l.getD 7 0).toNat := by
  unfold kindN
  simp [Px.rdN, List.getD_eq_getElem?_getD, List.getElem?_drop]
theorem idN_at (l : List UInt8) : idN l = (l.getD 8 0).toNat + (l.getD 9 0).toNat * 256 + (l.getD 10 0).toNat * 65536 + (l.getD 11 0).toNat * 16777216 := by
  unfold idN
  simp [Px.rdN, List.getD_eq_getElem?_getD, List.getElem?_drop]
set_option maxRecDepth 100000 in
set_option maxHeartbeats 8000000 in
theorem rget_any (v : Value) (l : List UInt8) (w : World) (h : Bs w w.heap.size v l) (hm : l.length ≤ 100000) (q : Nat × Nat × Nat) (hq : getQ l = q) :
    Calls Tryd.prog 25 #[v] w fun e w' => e = .returned (.tuple #[.int .i64 q.1, .int .u32 q.2.1, .int .i64 q.2.2]) ∧ Below w.heap.size w w' := by
  have HH := Lib.hid h
  obtain ⟨A, c, rfl, hc, hr⟩ := h
  have HQ := Lib.hid hq
  by_cases hs : l.length < 16
  · have hs' : (l.length : Int) < 16 := by omega
    have H := Lib.hid (show q = (0, 0, 22) by rw [← HQ.out, get_short hs])
    clear hr hq
    go_enter Tryd.func25, Tryd.ntmps25
    go_wp2_with fail
    go_ret3
    rw [H.out]
    exact ⟨rfl, Below.refl _ _⟩
  · have hs' : ¬ (l.length : Int) < 16 := by omega
    rw [← ref_get] at hq
    unfold refQ at hq
    rw [if_neg hs] at hq
    obtain ⟨A6, c6, hcut6, hc6, hcr6⟩ := cut_h A l.length c 16 (by omega) hc
    obtain ⟨A7, c7, hcut7, hc7, hcr7⟩ := cut_h A l.length c 7 (by omega) hc
    have e16 : ((16 : Nat) : Int) = 16 := rfl
    have e7 : ((7 : Nat) : Int) = 7 := rfl
    rw [e16] at hcut6
    rw [e7] at hcut7
    have b6 : Bs w w.heap.size (.slice A6 16 c6) (l.take 16) := ⟨A6, c6, by rw [List.length_take, Nat.min_eq_left (by omega)], by rw [List.length_take]; omega, hcr6 w _ l rfl hr⟩
    have hrr := Crc.rright_b _ (l.take 16) _ w b6 (Nat.le_refl _) (by rw [List.length_take]; omega)
    have Hrr := Lib.hid hrr
    have Hc7 := Lib.hid hcr7
    have Hq := Lib.hid hq
    clear hcr6 hcr7 b6 hrr hq e16 e7
    by_cases h1 : Cx.right (l.take 16) = true
    · rw [h1] at Hrr
      by_cases h2 : l.take 7 = letters
      · obtain ⟨b, o, rfl, hbB, hcell⟩ := hr (by intro e; have := congrArg List.length e; simp [bvs] at this; subst this; simp at hs)
        have hci : ∀ k, k < l.length → w.cell? ⟨b, o + k, none⟩ = some (.int .u8 ((l.getD k 0).toNat : Int)) := fun k hk => by
          have := hcell k _ (bvs_get l k hk)
          rw [this, List.getD_eq_getElem?_getD, List.getElem?_eq_getElem hk]
          rfl
        have x7 := hci 7 (by omega)
        have x8 := hci 8 (by omega)
        have x9 := hci 9 (by omega)
        have x10 := hci 10 (by omega)
        have x11 := hci 11 (by omega)
        have q7 := UInt8.toNat_lt (l.getD 7 0)
        have q8 := UInt8.toNat_lt (l.getD 8 0)
        have q9 := UInt8.toNat_lt (l.getD 9 0)
        have q10 := UInt8.toNat_lt (l.getD 10 0)
        have q11 := UInt8.toNat_lt (l.getD 11 0)
        have HK := kindN_at l
        have HI := idN_at l
        generalize l.getD 7 0 = y7 at *
        generalize l.getD 8 0 = y8 at *
        generalize l.getD 9 0 = y9 at *
        generalize l.getD 10 0 = y10 at *
        generalize l.getD 11 0 = y11 at *
        have hq2 := Hq.out
        rw [HK] at hq2
        generalize hI : idN l = I at HI hq2
        have HI2 := Lib.hid HI
        have hI32 : I < 4294967296 := by omega
        have Hq2 := Lib.hid hq2
        have z7 : IntKind.i64.wrap (y7.toNat : Int) = (y7.toNat : Int) := IntWalk.i64_in _ (by omega)
        have hb7 : w.heap.size ≤ w.heap.size := Nat.le_refl _
        have E2 := Lib.hid h2
        clear hci hcell hq2 hI HI HK Hq h2
        go_enter Tryd.func25, Tryd.ntmps25
        go_wp2_with fail
        refine Hrr.out.mono ?_
        rintro e w1 ⟨rfl, hb1⟩
        have kv := convert_rd (P := Tryd.prog) (Hc7.out w1 w.heap.size l rfl (hr.below hb1 (Nat.le_refl _))) c7 30 5 9 Tryd.underlying30 Tryd.underlying5 Tryd.underlying9
        rw [List.length_take, Nat.min_eq_left (by omega), E2.out] at kv
        unfold letters at kv
        have x7 := (hb1.cell (p := ⟨b, o + 7, none⟩) hbB).trans x7
        have x8 := (hb1.cell (p := ⟨b, o + 8, none⟩) hbB).trans x8
        have x9 := (hb1.cell (p := ⟨b, o + 9, none⟩) hbB).trans x9
        have x10 := (hb1.cell (p := ⟨b, o + 10, none⟩) hbB).trans x10
        have x11 := (hb1.cell (p := ⟨b, o + 11, none⟩) hbB).trans x11
        have t7 : (7 : Int) < (l.length : Int) := by omega
        have t8 : (8 : Int) < (l.length : Int) := by omega
        have t9 : (9 : Int) < (l.length : Int) := by omega
        have t10 : (10 : Int) < (l.length : Int) := by omega
        have t11 : (11 : Int) < (l.length : Int) := by omega
        have B1 := Lib.hid hb1
        clear hb1
        go_wp2_with fail
        go_quiet (fail)
        go_wp2_with fail
        have hsum : ((y8.toNat : Int) + (y9.toNat : Int) * 256 + (y10.toNat : Int) * 65536 + (y11.toNat : Int) * 16777216) = (I : Int) := by have := HI2.out; omega
        rw [hsum]
        by_cases hmb : mayB (y7.toNat : Int) (I : Int) = true
        · have H := Lib.hid (show q = (y7.toNat, I, 0) by rw [← Hq2.out, if_pos ⟨h1, E2.out, hmb⟩])
          have hp : (putQ (y7.toNat : Int) (I : Int)).2 = 0 := by unfold putQ; rw [if_pos hmb]
          have hc := rputq_any (y7.toNat : Int) (I : Int) (w1.drewN nq) (by omega) (by omega) _ rfl
          rw [hp] at hc
          refine hc.mono ?_
          rintro e w2 ⟨v2, rfl, _, hb2⟩
          clear hc hmb
          go_wp2_with fail
          go_ret3
          rw [H.out]
          exact ⟨rfl, hbstep (below_drewN B1.out _) hb2⟩
        · have H := Lib.hid (show q = (0, 0, 23) by rw [← Hq2.out, if_neg (fun h => hmb h.2.2)])
          have hp : (putQ (y7.toNat : Int) (I : Int)).2 = 1 := by unfold putQ; rw [if_neg hmb]
          have hc := rputq_any (y7.toNat : Int) (I : Int) (w1.drewN nq) (by omega) (by omega) _ rfl
          rw [hp] at hc
          refine hc.mono ?_
          rintro e w2 ⟨v2, rfl, _, hb2⟩
          clear hc hmb
          go_wp2_with fail
          go_ret3
          rw [H.out]
          exact ⟨rfl, hbstep (below_drewN B1.out _) hb2⟩
      · have H := Lib.hid (show q = (0, 0, 23) by rw [← Hq.out, if_neg (fun h => h2 h.2.1)])
        go_enter Tryd.func25, Tryd.ntmps25
        go_wp2_with fail
        refine Hrr.out.mono ?_
        rintro e w1 ⟨rfl, hb1⟩
        have kv := convert_rd (P := Tryd.prog) (Hc7.out w1 w.heap.size l rfl (hr.below hb1 (Nat.le_refl _))) c7 30 5 9 Tryd.underlying30 Tryd.underlying5 Tryd.underlying9
        rw [List.length_take, Nat.min_eq_left (by omega)] at kv
        have hne : (l.take 7 == [104, 111, 117, 114, 98, 107, 49]) = false := by
          rw [beq_eq_false_iff_ne]
          exact h2
        clear h2
        go_wp2_with fail
        go_ret3
        rw [H.out]
        exact ⟨rfl, hb1⟩
    · rw [Bool.not_eq_true] at h1
      rw [h1] at Hrr
      have H := Lib.hid (show q = (0, 0, 23) by rw [← Hq.out, if_neg (fun h => by rw [h1] at h; cases h.1)])
      go_enter Tryd.func25, Tryd.ntmps25
      go_wp2_with fail
      refine Hrr.out.mono ?_
      rintro e w1 ⟨rfl, hb1⟩
      go_wp2_with fail
      go_ret3
      rw [H.out]
      exact ⟨rfl, hb1⟩
theorem rcheck_any (v : Value) (l : List UInt8) (k n : Int) (w : World) (h : Bs w w.heap.size v l) (hm : l.length ≤ 100000) (q : Nat) (hq : checkN l k n = q) :
    Calls Tryd.prog 27 #[v, .int .i64 k, .int .u32 n] w fun e w' => e = .returned (.int .i64 q) ∧ Below w.heap.size w w' := by
  obtain ⟨⟨K, I, E⟩, hg⟩ : ∃ p, getQ l = p := ⟨_, rfl⟩
  have hget := rget_any v l w h hm (K, I, E) hg
  unfold checkN at hq
  rw [hg] at hq
  simp only at hq hget
  obtain ⟨A, c, rfl, _, _⟩ := h
  have HQ := Lib.hid hq
  clear hq hg
  by_cases hE : E = 0
  · subst hE
    by_cases hk : (K : Int) = k
    · have e1 : ((K : Int) == k) = true := by simp [hk]
      by_cases hn : (I : Int) = n
      · have e2 : ((I : Int) == n) = true := by simp [hn]
        have H := Lib.hid (show q = 0 by rw [← HQ.out, if_pos rfl, if_pos ⟨hk, hn⟩])
        subst hk hn
        go_enter Tryd.func27, Tryd.ntmps27
        go_wp2_with fail
        refine hget.mono ?_
        rintro e w1 ⟨rfl, hb⟩
        go_wp2_with fail
        go_ret
        exact ⟨hret_int (by rw [H.out]; rfl), hb⟩
      · have e2 : ((I : Int) == n) = false := by simp [hn]
        have H := Lib.hid (show q = 23 by rw [← HQ.out, if_pos rfl, if_neg (fun h => hn h.2)])
        subst hk
        clear hn
        go_enter Tryd.func27, Tryd.ntmps27
        go_wp2_with fail
        refine hget.mono ?_
        rintro e w1 ⟨rfl, hb⟩
        go_wp2_with fail
        go_ret
        exact ⟨hret_int (by rw [H.out]; rfl), hb⟩
    · have e1 : ((K : Int) == k) = false := by simp [hk]
      have H := Lib.hid (show q = 23 by rw [← HQ.out, if_pos rfl, if_neg (fun h => hk h.1)])
      clear hk
      go_enter Tryd.func27, Tryd.ntmps27
      go_wp2_with fail
      refine hget.mono ?_
      rintro e w1 ⟨rfl, hb⟩
      go_wp2_with fail
      go_ret
      exact ⟨hret_int (by rw [H.out]; rfl), hb⟩
  · have e1 : ((E : Int) == 0) = false := by simp [hE]
    have H := Lib.hid (show q = E by rw [← HQ.out, if_neg hE])
    clear hE
    go_enter Tryd.func27, Tryd.ntmps27
    go_wp2_with fail
    refine hget.mono ?_
    rintro e w1 ⟨rfl, hb⟩
    go_wp2_with fail
    go_ret
    exact ⟨hret_int (by rw [H.out]), hb⟩
end Go.Proofs.YtggijjknfcofoaaDoor.Hd
