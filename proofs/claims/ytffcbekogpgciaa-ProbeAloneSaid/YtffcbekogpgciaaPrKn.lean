
/-
  Layer 14 (probe): a table in memory of the law's own; the chapter's rows.
-/
import Derived.Test.YtffcbekogpgciaaPrRem
import Derived.Test.YtffcbekogpgciaaPrSlots
import Derived.Lib.SlBytesConst
set_option linter.unusedVariables false
set_option linter.unusedSimpArgs false
namespace Go.Proofs.Ytffcbekogpgciaa.Pr
open Go Go.RowKit

theorem pbnew (w : World) (o : Obj) : Below w.heap.size w (w.alloc o) := (Below.refl _ _).alloc (Nat.le_refl _) _
theorem bs_lit (w : World) (l : List UInt8) (C : Array Value) (t : TypeId) (fr : Nat × Nat) (hC : C = (bvs l).toArray) : Bs (w.alloc (.cells C t fr)) (w.alloc (.cells C t fr)).heap.size (.slice (some ⟨w.heap.size, 0, none⟩) l.length l.length) l := by
  subst hC
  refine ⟨_, _, rfl, Nat.le_refl _, fun _ => ⟨w.heap.size, 0, rfl, by simp, fun j u hu => ?_⟩⟩
  rw [Nat.zero_add, World.cell?_alloc_mark]
  simpa using hu
/-- a table in memory from B on -/
def PLive (B : Nat) (w : World) (T : Nat) (s : PT) : Prop := ∃ M R, TabM w T M R s ∧ (∀ i, M i → B ≤ i) ∧ (∀ i, R i → B ≤ i)
section
variable {B T : Nat} {w w0 w' : World} {s : PT}
theorem PLive.on (h : PLive B w T s) (hb : Below w.heap.size w w') : PLive B w' T s := by
  obtain ⟨M, R, h1, h2, h3⟩ := h
  exact ⟨M, R, h1.on hb, h2, h3⟩
theorem PLive.ok (h : PLive B w T s) : s.Ok := by obtain ⟨M, R, h1, _⟩ := h; exact h1.ok
theorem live_new (seed : Nat) (w : World) (hs : seed < 18446744073709551616) (B : Nat) (hB : B ≤ w.heap.size) :
    Calls Try.prog 8 #[.int .u64 (seed : Int)] w fun e w' => ∃ T, e = .returned (.pointer (some ⟨T, 0, none⟩)) ∧ PLive B w' T (PT.new seed) ∧ Below w.heap.size w w' :=
  (new_b seed w hs).mono fun e w' ⟨T, h1, h2, h3⟩ => ⟨T, h1, ⟨_, _, h2, fun i hi => Nat.le_trans hB hi.1, fun i hi => hi.elim⟩, h3⟩
theorem live_len (h : PLive B w T s) :
    Calls Try.prog 19 #[.pointer (some ⟨T, 0, none⟩)] w fun e w' => e = .returned (.int .i64 (s.prs.length : Int)) ∧ w = w' := by
  obtain ⟨M, R, h1, _⟩ := h
  exact len_b T M R s w h1
theorem live_get (h : PLive B w T s) (kv : Value) (k : List UInt8) (hk : Bs w w.heap.size kv k) (hkl : k.length < 1000000) :
    Calls Try.prog 14 #[.pointer (some ⟨T, 0, none⟩), kv] w fun e w' => ∃ (v : Nat) (b : Bool), e = .returned (.tuple #[.int .u64 (v : Int), .bool b]) ∧ Gets s.prs k v b ∧ Below w.heap.size w w' := by
  obtain ⟨M, R, h1, _⟩ := h
  exact get_b T M R s w h1 kv k hk hkl
theorem live_slots (h : PLive B w T s) :
    Calls Try.prog 16 #[.pointer (some ⟨T, 0, none⟩)] w fun e w' => ∃ g c', e = .returned (.slice (some ⟨g, 0, none⟩) s.sl.length c') ∧ w.heap.size ≤ g ∧ SlotsAt w' g c' (fun b => w.heap.size ≤ b ∧ b ≠ g ∧ b < w'.heap.size) s.sl ∧ Below w.heap.size w w' := by
  obtain ⟨M, R, ⟨ho, _, _, h3, S, c, h4, _⟩, _⟩ := h
  exact slots_b T S c R s.seed _ s.sl w h4 h3 (by have := ho.l8; omega) (by have := ho.l9; omega) (fun i e hi => ho.slot_key i e hi)
theorem live_set (h0 : PLive B w0 T s) (hb : Below w0.heap.size w0 w) (hB : B ≤ w0.heap.size) (kv : Value) (k : List UInt8) (hk : Bs w w.heap.size kv k) (hl0 : 0 < k.length) (hl1 : k.length ≤ 64) (v : Nat) (hv : v < 18446744073709551616) (hfew : s.prs.length < 900000) (hka : ∀ b, kv.ownBlock = some b → b < B ∨ w0.heap.size ≤ b) :
    Calls Try.prog 9 #[.pointer (some ⟨T, 0, none⟩), kv, .int .u64 (v : Int)] w fun e w' => e = .returned (.int .i64 0) ∧ ∃ s', s'.seed = s.seed ∧ List.Perm s'.prs ((k, v) :: remA s.prs k) ∧ PLive B w' T s' ∧ Below B w0 w' := by
  obtain ⟨M, R, h1, h2, h3⟩ := h0
  have hMlt := h1.2.2.1
  refine (set_yes T M R s w (h1.on hb) kv k hk hl0 hl1 v hv hfew (fun b hb' hm => ?_)).mono ?_
  · rcases hka b hb' with e | e
    · have := h2 b hm; omega
    · have := hMlt b hm; omega
  · rintro e w' ⟨rfl, s', e1, e2, M', R', t1, t2, t3, t4⟩
    have hs := hb.size
    exact ⟨rfl, s', e1, e2, ⟨M', R', t1, fun i hi => (t3 i hi).elim (h2 i) (fun e => by omega), fun i hi => (t4 i hi).elim (h3 i) (fun e => by omega)⟩, (hb.mono hB).trans (t2.below (by omega) h2)⟩
theorem live_set_no (h : PLive B w T s) (kv : Value) (k : List UInt8) (hk : Bs w w.heap.size kv k) (hl : k.length = 0 ∨ 64 < k.length) (hkl : k.length < 1000000) (v : Nat) :
    Calls Try.prog 9 #[.pointer (some ⟨T, 0, none⟩), kv, .int .u64 (v : Int)] w fun e w' => e = .returned (.int .i64 1) ∧ w = w' := by
  obtain ⟨M, R, h1, h2, h3⟩ := h
  exact set_no T M R s w h1 kv k hk hl hkl v
theorem live_rem (h0 : PLive B w0 T s) (hb : Below w0.heap.size w0 w) (hB : B ≤ w0.heap.size) (kv : Value) (k : List UInt8) (hk : Bs w w.heap.size kv k) (hl0 : 0 < k.length) (hl1 : k.length ≤ 64) (v : Nat) (hin : (k, v) ∈ s.prs) :
    Calls Try.prog 11 #[.pointer (some ⟨T, 0, none⟩), kv] w fun e w' => e = .returned (.int .i64 0) ∧ ∃ s', s'.seed = s.seed ∧ List.Perm s'.prs (remA s.prs k) ∧ PLive B w' T s' ∧ Below B w0 w' := by
  obtain ⟨M, R, h1, h2, h3⟩ := h0
  refine (rem_yes T M R s w (h1.on hb) kv k hk hl0 hl1 v hin).mono ?_
  rintro e w' ⟨rfl, s', e1, e2, M', R', t1, t2, t3, t4⟩
  have hs := hb.size
  exact ⟨rfl, s', e1, e2, ⟨M', R', t1, fun i hi => (t3 i hi).elim (h2 i) (fun e => by omega), fun i hi => (t4 i hi).elim (h3 i) (fun e => by omega)⟩, (hb.mono hB).trans (t2.below (by omega) h2)⟩
theorem live_rem_none (h : PLive B w T s) (kv : Value) (k : List UInt8) (hk : Bs w w.heap.size kv k) (hl0 : 0 < k.length) (hl1 : k.length ≤ 64) (hno : ∀ p ∈ s.prs, p.1 ≠ k) :
    Calls Try.prog 11 #[.pointer (some ⟨T, 0, none⟩), kv] w fun e w' => e = .returned (.int .i64 6) ∧ Below w.heap.size w w' := by
  obtain ⟨M, R, h1, h2, h3⟩ := h
  exact rem_none T M R s w h1 kv k hk hl0 hl1 hno
theorem live_rem_no (h : PLive B w T s) (kv : Value) (k : List UInt8) (hk : Bs w w.heap.size kv k) (hl : k.length = 0 ∨ 64 < k.length) (hkl : k.length < 1000000) :
    Calls Try.prog 11 #[.pointer (some ⟨T, 0, none⟩), kv] w fun e w' => e = .returned (.int .i64 1) ∧ w = w' := by
  obtain ⟨M, R, h1, h2, h3⟩ := h
  exact rem_no T M R s w h1 kv k hk hl hkl
end
theorem room_few {k : Nat} (h : k ≤ 6) : room k = 8 := by rw [room, roomS_done (by omega)]
theorem room_7 : room 7 = 16 := by rw [room, roomS_step (by omega) (by omega), roomS_done (by omega)]

set_option maxRecDepth 100000 in
set_option maxHeartbeats 8000000 in
theorem knows14 (w : World) : Calls Try.prog 20 #[] w fun e w' => e = .returned (.bool true) ∧ Below w.heap.size w w' := by
  go_enter Try.func20, Try.ntmps20
  go_wp2_with fail
  refine (live_new 0 w (by omega) w.heap.size (Nat.le_refl _)).mono ?_
  rintro e w1 ⟨T, rfl, hp, hb⟩
  have HP := Lib.hid hp
  have HB := Lib.hid hb
  have e0 : (PT.new 0).prs = [] := kn_none 8
  have E0 := Lib.hid e0
  clear hp hb e0
  go_wp2_with fail
  go_loopw [2] (fun ix wr => ∃ (i : Nat) (s : PT), ix = .int .u8 (i : Int) ∧ i ≤ 6 ∧ Hid (s.prs.length = i ∧ (∀ p ∈ s.prs, ∃ j : Nat, j < i ∧ p.1 = [UInt8.ofNat j]) ∧ PLive w.heap.size wr T s ∧ Below w.heap.size w wr)) (fun ix _ => 6 - (intOf ix).toNat)
  case atStart => exact ⟨0, PT.new 0, rfl, by omega, Lib.hid ⟨by rw [E0.out]; rfl, fun p hp => by rw [E0.out] at hp; simp at hp, HP.out, HB.out⟩⟩
  case round =>
    obtain ⟨i, s, rfl, hi, HI⟩ := hrel
    rename World => wr
    by_cases hlt : i < 6
    · have j0 : (i : Int) < 6 := by omega
      have hw : IntKind.u8.wrap ((i : Int) + 1) = (i : Int) + 1 := IntWalk.u8_in _ (by omega)
      have hw2 : IntKind.u64.wrap (i : Int) = (i : Int) := IntWalk.u64_in _ (by omega)
      obtain ⟨hlen, hkeys, hlive, hbl⟩ := HI.out
      have HK := Lib.hid hkeys
      have HBl := Lib.hid hbl
      have HLen := Lib.hid hlen
      have HLive := Lib.hid hlive
      clear hlen hkeys hlive hbl HI
      go_wp2_with fail
      have hbs := bs_lit wr [UInt8.ofNat i] #[.int .u8 (i : Int)] 5 (0, 0) (by rw [bv_lit i (by omega)]; rfl)
      refine (live_set HLive.out (pbnew wr _) HBl.out.size _ [UInt8.ofNat i] hbs (by simp) (by simp) i (by omega) (by have := HLen.out; omega) (fun b hb => by simp only [Value.ownBlock, Option.some.injEq] at hb; right; omega)).mono ?_
      rintro e w3 ⟨rfl, s', hs1, hs2, hl3, hb3⟩
      have hno : ∀ p ∈ s.prs, p.1 ≠ [UInt8.ofNat i] := fun p hp e => by
        obtain ⟨j, hj, hpj⟩ := HK.out p hp
        rw [e] at hpj
        injection hpj with hpj
        have := congrArg UInt8.toNat hpj
        rw [UInt8.toNat_ofNat_of_lt' (by simp [UInt8.size]; omega), UInt8.toNat_ofNat_of_lt' (by simp [UInt8.size]; omega)] at this
        omega
      rw [remA_none hno] at hs2
      have HS2 := Lib.hid hs2
      have HL3 := Lib.hid hl3
      have HB3 := Lib.hid (HBl.out.trans hb3)
      clear hs1 hs2 hl3 hb3 hbs hno
      go_wp2_with fail
      go_roundw
      case rel =>
        refine ⟨i + 1, s', by push_cast; rfl, by omega, Lib.hid ⟨by rw [HS2.out.length_eq, List.length_cons, HLen.out], fun p hp => ?_, HL3.out, HB3.out⟩⟩
        rcases List.mem_cons.1 (HS2.out.mem_iff.1 hp) with rfl | hp
        · exact ⟨i, by omega, rfl⟩
        · obtain ⟨j, hj, e⟩ := HK.out p hp
          exact ⟨j, by omega, e⟩
      case measure => simp [intOf]; omega
    · have j0 : ¬ (i : Int) < 6 := by omega
      obtain rfl : i = 6 := by omega
      obtain ⟨hlen, hkeys, hlive, hbl⟩ := HI.out
      have hno : ∀ p ∈ s.prs, p.1 ≠ [9] := fun p hp e => by
        obtain ⟨j, hj, hpj⟩ := hkeys p hp
        rw [e] at hpj
        injection hpj with hpj
        have := congrArg UInt8.toNat hpj
        rw [UInt8.toNat_ofNat_of_lt' (by simp [UInt8.size]; omega)] at this
        have h9 : (9 : UInt8).toNat = 9 := rfl
        omega
      have HNo := Lib.hid hno
      have HBl := Lib.hid hbl
      have HLive := Lib.hid hlive
      have HLen := Lib.hid hlen
      have HA := Lib.hid (show s.sl.length = 8 by rw [hlive.ok.len, hlen]; exact room_few (by omega))
      clear hlen hkeys hlive hbl HI hno j0 hi hlt
      go_wp2_with fail
      refine (live_slots HLive.out).mono ?_
      rintro e w3 ⟨g3, c3, rfl, _, _, hb3⟩
      rw [HA.out]
      have HL3 := Lib.hid (HLive.out.on hb3)
      have HB3 := Lib.hid (HBl.out.trans (hb3.mono HBl.out.size))
      clear hb3
      go_wp2_with fail
      have hbs := bs_lit w3 [9] #[.int .u8 9] 5 (0, 0) rfl
      refine (live_set HL3.out (pbnew w3 _) HB3.out.size _ [9] hbs (by simp) (by simp) 9 (by omega) (by have := HLen.out; omega) (fun b hb => by simp only [Value.ownBlock, Option.some.injEq] at hb; right; omega)).mono ?_
      rintro e w4 ⟨rfl, s4, hs4, hp4, hl4, hb4⟩
      rw [remA_none HNo.out] at hp4
      have HP4 := Lib.hid hp4
      have HL4 := Lib.hid hl4
      have HB4 := Lib.hid (HB3.out.trans hb4)
      have HA4 := Lib.hid (show s4.sl.length = 16 by rw [hl4.ok.len, hp4.length_eq, List.length_cons, HLen.out]; exact room_7)
      clear hs4 hp4 hl4 hb4 hbs
      go_wp2_with fail
      refine (live_slots HL4.out).mono ?_
      rintro e w5 ⟨g5, c5, rfl, _, _, hb5⟩
      rw [HA4.out]
      have HL5 := Lib.hid (HL4.out.on hb5)
      have HB5 := Lib.hid (HB4.out.trans (hb5.mono HB4.out.size))
      clear hb5
      go_wp2_with fail
      have hbs := bs_lit w5 [9] #[.int .u8 9] 5 (0, 0) rfl
      refine (live_rem HL5.out (pbnew w5 _) HB5.out.size _ [9] hbs (by simp) (by simp) 9 (HP4.out.mem_iff.2 (List.mem_cons_self ..))).mono ?_
      rintro e w6 ⟨rfl, s6, hs6, hp6, hl6, hb6⟩
      have h9 : remA ((([9] : List UInt8), 9) :: s.prs) [9] = s.prs := by
        show remA ([(([9] : List UInt8), 9)] ++ s.prs) [9] = s.prs
        unfold remA
        rw [List.filter_append, List.filter_cons_of_neg (by simp), List.filter_nil, List.nil_append]
        exact remA_none HNo.out
      have hp6' : List.Perm s6.prs s.prs := hp6.trans ((remA_perm HP4.out [9]).trans (by rw [h9]))
      have HP6 := Lib.hid hp6'
      have HL6 := Lib.hid hl6
      have HB6 := Lib.hid (HB5.out.trans hb6)
      have HA6 := Lib.hid (show s6.sl.length = 8 by rw [hl6.ok.len, hp6'.length_eq, HLen.out]; exact room_few (by omega))
      clear hs6 hp6 hl6 hb6 hbs h9 hp6'
      go_wp2_with fail
      have hbs := bs_lit w6 [9] #[.int .u8 9] 5 (0, 0) rfl
      refine (live_get (HL6.out.on (pbnew w6 _)) _ [9] hbs (by simp)).mono ?_
      rintro e w7 ⟨v7, b7, rfl, hg7, hb7⟩
      obtain ⟨rfl, rfl⟩ : b7 = false ∧ v7 = 0 := by
        rcases hg7 with ⟨_, hm⟩ | ⟨e1, e2, _⟩
        · exact absurd rfl (HNo.out _ (HP6.out.mem_iff.1 hm))
        · exact ⟨e1, e2⟩
      have HL7 := Lib.hid ((HL6.out.on (pbnew w6 _)).on hb7)
      have HB7 := Lib.hid (HB6.out.trans (((pbnew w6 _).trans (hb7.mono (pbnew w6 _).size)).mono HB6.out.size))
      clear hg7 hb7 hbs
      go_wp2_with fail
      refine (live_slots HL7.out).mono ?_
      rintro e w8 ⟨g8, c8, rfl, _, _, hb8⟩
      rw [HA6.out]
      have HB8 := Lib.hid (HB7.out.trans (hb8.mono HB7.out.size))
      clear hb8
      go_wp2_with fail
      go_ret
      exact ⟨rfl, HB8.out⟩
end Go.Proofs.Ytffcbekogpgciaa.Pr
