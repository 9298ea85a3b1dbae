/-
  The walk of the law CrcTurned: it returns true, and writes nothing that was there.
-/
import Derived.Test.YtcgcopkalcjmpaaDoorCxKnows
import Derived.OpenShut
set_option linter.unusedVariables false
set_option linter.unusedSimpArgs false
namespace Go.Proofs.YtcgcopkalcjmpaaDoor.crcTurned
open Go.RowKit
theorem u32_letter {a : Int} (h : (Lit.int .u32 a).wf = true) : ∃ v : BitVec 32, a = (v.toNat : Int) := by
  obtain ⟨p, q⟩ := bounds_u32 h
  obtain ⟨n, rfl⟩ := Int.eq_ofNat_of_zero_le p
  exact ⟨BitVec.ofNat 32 n, by rw [BitVec.toNat_ofNat, Nat.mod_eq_of_lt (by omega)]⟩
theorem or_one (b : BitVec 32) : ∃ c : BitVec 32, bits .or .u32 (b.toNat : Int) 1 = (c.toNat : Int) ∧ c.getLsbD 0 = true := by
  refine ⟨b ||| 1#32, ?_, by simp⟩
  rw [show (1 : Int) = (((1#32 : BitVec 32).toNat : Nat) : Int) by rfl, u32_or_nat _ _ b.isLt (by decide), BitVec.toNat_or]
theorem bit_j (b : BitVec 32) (j : Nat) : (bits .and .u32 ((b.toNat : Int) / 2 ^ j) 1 == 1) = b.getLsbD j := by
  have e : (b.toNat : Int) / 2 ^ j = ((b.toNat / 2 ^ j : Nat) : Int) := by simp
  have hlt : b.toNat / 2 ^ j < 4294967296 := Nat.lt_of_le_of_lt (Nat.div_le_self _ _) b.isLt
  rw [e, show (1 : Int) = ((1 : Nat) : Int) by rfl, u32_and_nat _ _ hlt (by omega), nat_mask1, BitVec.getLsbD, Nat.testBit_eq_decide_div_mod_eq]
  rw [Bool.eq_iff_iff]
  simp
  omega
theorem b8_xor (x y : UInt8) : ∃ z : UInt8, bits .xor .u8 (x.toNat : Int) (y.toNat : Int) = (z.toNat : Int) ∧ z = x ^^^ y :=
  ⟨_, by rw [u8_xor_nat _ _ (UInt8.toNat_lt x) (UInt8.toNat_lt y), UInt8.toNat_xor], rfl⟩
theorem turn8 (x : UInt8) (q : Nat) (h : q < 8) : bits .xor .u8 (x.toNat : Int) (2 ^ q % 256) = ((x ^^^ UInt8.ofNat (2 ^ q)).toNat : Int) := by
  have e : (2 ^ q % 256 : Int) = ((UInt8.ofNat (2 ^ q)).toNat : Int) := by
    have : q = 0 ∨ q = 1 ∨ q = 2 ∨ q = 3 ∨ q = 4 ∨ q = 5 ∨ q = 6 ∨ q = 7 := by omega
    rcases this with rfl | rfl | rfl | rfl | rfl | rfl | rfl | rfl <;> rfl
  rw [e, u8_xor_nat _ _ (UInt8.toNat_lt x) (UInt8.toNat_lt _), UInt8.toNat_xor]
set_option maxRecDepth 100000 in
set_option maxHeartbeats 4000000 in
theorem walk (v0 : Value) (z0 : List Int) (a1 : Int) (a2 : Int) (w : World) (w0 : Ints w w.heap.size .u8 v0 z0) (g0 : ∀ n ∈ z0, (Lit.int .u8 n).wf = true) (s0 : z0.length * 1 ≤ 140737488351232) (w1 : (Lit.int .u32 a1).wf = true) (w2 : (Lit.int .u32 a2).wf = true) (ht : Tab w) :
    Calls Tryd.prog 6 #[v0, .int .u32 a1, .int .u32 a2] w fun e w' => e = .returned (.bool true) ∧ Below w.heap.size w w' := by
  have hbs := bs_of_ints w0 (fun z hz => bounds_u8 (g0 z hz))
  have hll : (z0.map fun z => UInt8.ofNat z.toNat).length ≤ 140737488351232 := by rw [List.length_map]; omega
  generalize z0.map (fun z => UInt8.ofNat z.toNat) = l at hbs hll
  clear w0 g0 s0
  obtain ⟨A, c, rfl, hc, hr⟩ := hbs
  obtain ⟨p1, q1⟩ := bounds_u32 w1
  obtain ⟨b, rfl⟩ := u32_letter w2
  clear w1 w2
  have Ht := Lib.hid ht
  clear ht
  obtain ⟨n, hn⟩ : ∃ n : Nat, min l.length 2000 = n := ⟨_, rfl⟩
  have hn1 : n ≤ l.length := by omega
  have hn2 : n ≤ 2000 := by omega
  have hmin : min (l.length : Int) 2000 = (n : Int) := by omega
  have Hs := Lib.hid (show Bs w w.heap.size (.slice A n c) (l.take n) from ⟨A, c, by rw [List.length_take]; congr 1; omega, by rw [List.length_take]; omega, by rw [bvs_take]; exact hr.take n⟩)
  have Hl := Lib.hid (show (l.take n).length = n by rw [List.length_take]; omega)
  generalize l.take n = L at Hs Hl
  clear hn hr
  go_enter Tryd.func6, Tryd.ntmps6
  go_wp2_with fail
  clear hmin hc hn1 hll
  refine (cover_b _ L _ Hs.out Ht.out (by rw [Hl.out]; omega)).mono ?_
  rintro e w1 ⟨v, rfl, hown, b1⟩
  have Ht1 := Lib.hid (Ht.out.on b1)
  have HR := Lib.hid (Cx.right_cover L)
  have HL := Lib.hid ((Cx.cover_length L).trans (by rw [Hl.out]))
  rw [Hl.out] at hown
  generalize Cx.cover L = R at hown HR HL
  clear Hs Hl
  obtain ⟨g, cap, rfl, hge, hgl⟩ := hown.form (by omega)
  have hsR := Lib.hid (Bs.of_own hown)
  have Hown := Lib.hid hown
  clear hown
  go_wp2_with fail
  refine (right_b _ R _ _ hsR.out Ht1.out (by rw [HL.out]; omega)).mono ?_
  rintro e w2 ⟨rfl, rfl⟩
  rw [HR.out]
  clear hsR
  obtain ⟨b', hb', hb0⟩ := or_one b
  have Hb0 := Lib.hid hb0
  clear hb0
  have hf0 : 0 ≤ a1 % (8 * ((n : Int) + 4)) := Int.emod_nonneg _ (by omega)
  have hf1 : a1 % (8 * ((n : Int) + 4)) < 8 * ((n : Int) + 4) := Int.emod_lt_of_pos _ (by omega)
  obtain ⟨f, hf⟩ := Int.eq_ofNat_of_zero_le hf0
  rw [hf] at hf0 hf1
  have hf2 : f < 8 * (n + 4) := by omega
  clear hf0 hf1
  have h8 : (8 : Int) * ((n : Int) + 4) ≠ 0 := by omega
  go_wp2_with fail
  rw [hf]
  clear hf h8 hb'
  go_loopg [9] 32 (fun k i wr => ∃ (j : Nat) (lj : List UInt8), j + k = 32 ∧ j ≤ 8 * (n + 4) - f ∧ i = .int .i64 j ∧ wr.ownsRow w.heap.size 5 1 (.slice (some ⟨g, 0, none⟩) (n + 4) cap) (n + 4) (bvs lj) ∧ Cx.turned R b' f j lj ∧ Below w.heap.size w wr)
  case atStart => exact ⟨0, R, by omega, by omega, rfl, Hown.out, Cx.turned_zero R b' f, b1⟩
  case round =>
    obtain ⟨j, lj, hj, hjf, rfl, hown, htu, hb⟩ := hrel
    have Htu := Lib.hid htu
    clear htu
    have hlj : lj.length = n + 4 := by rw [Htu.out.1, HL.out]
    have Hlj := Lib.hid hlj
    clear hlj
    by_cases hgo : j < 32 ∧ f + j < 8 * (n + 4)
    · obtain ⟨hj32, hfj⟩ := hgo
      have t1 : (j : Int) < 32 := by omega
      have t2 : (f : Int) + (j : Int) < 8 * ((n : Int) + 4) := by omega
      have hbit := bit_j b' j
      have Hown1 := Lib.hid hown
      rcases hbb : b'.getLsbD j with _ | _
      · rw [hbb] at hbit
        have Hbb := Lib.hid hbb
        clear hbb
        go_wp2_with fail
        go_roundg (gk - 1)
        case measure => omega
        case rel => exact ⟨j + 1, lj, by omega, by omega, by go_num, Hown1.out, Cx.turned_same Htu.out hj32 Hbb.out, hb⟩
      · rw [hbb] at hbit
        have Hbb := Lib.hid hbb
        clear hbb
        obtain ⟨p, hp⟩ : ∃ p : Nat, ((f : Int) + (j : Int)) / 8 = (p : Int) := ⟨(f + j) / 8, by omega⟩
        obtain ⟨q, hq⟩ : ∃ q : Nat, ((f : Int) + (j : Int)) % 8 = (q : Int) := ⟨(f + j) % 8, by omega⟩
        have hpq : f + j = 8 * p + q := by omega
        have hq8 : q < 8 := by omega
        have hpn : p < n + 4 := by omega
        have hcell := Hown1.out.cellAt p (by omega)
        have hfr := Hown1.out.frozenAt p
        obtain ⟨x, hx⟩ : ∃ x, lj[p]? = some x := ⟨lj[p]'(by rw [Hlj.out]; exact hpn), List.getElem?_eq_getElem _⟩
        rw [show (bvs lj)[p]? = some (bv x) by simp [bvs, hx]] at hcell
        unfold bv at hcell
        have Hx := Lib.hid hx
        have Hpq := Lib.hid hpq
        clear hx hpq hown
        go_wp2_with fail
        go_region
        go_wp2_with fail
        go_roundg (gk - 1)
        case measure => omega
        case rel =>
          obtain ⟨hst, _⟩ := Hown1.out.stored p (bv (x ^^^ UInt8.ofNat (2 ^ q)))
          rw [← bvs_set] at hst
          unfold bv at hst
          rw [← turn8 x q hq8] at hst
          exact ⟨j + 1, lj.set p (x ^^^ UInt8.ofNat (2 ^ q)), by omega, by omega, by go_num, hst.drew, Cx.turned_bit Htu.out hj32 Hbb.out Hx.out hq8 Hpq.out, (hb.setCell hge _).drew⟩
    · have hj0 : 0 < j := by omega
      have hwrong := Cx.turned_wrong Htu.out (by rw [HL.out]; omega) HR.out (by omega) hj0 Hb0.out
      have hsj : Bs wr wr.heap.size (.slice (some ⟨g, 0, none⟩) (n + 4) cap) lj := Bs.of_own hown
      have Hsj := Lib.hid hsj
      have Hw := Lib.hid hwrong
      have Htr := Lib.hid (Ht.out.on hb)
      clear hsj hwrong hown
      have hpass : (decide ((j : Int) < 32) = false) ∨ (decide ((j : Int) < 32) = true ∧ decide ((f : Int) + (j : Int) < 8 * ((n : Int) + 4)) = false) := by
        by_cases h32 : j < 32
        · exact .inr ⟨by simp; omega, by simp; omega⟩
        · exact .inl (by simp; omega)
      rcases hpass with t1 | ⟨t1, t2⟩
      all_goals
        go_wp2_with fail
        refine (right_b _ lj _ _ Hsj.out Htr.out (by rw [Hlj.out]; omega)).mono ?_
        rintro e w2 ⟨rfl, rfl⟩
        rw [Hw.out]
        go_wp2_with fail
        refine (knows_any _ Htr.out).mono ?_
        rintro e w3 ⟨rfl, b3⟩
        go_wp2_with fail
        go_ret
        exact ⟨rfl, hb.trans (b3.mono hb.size)⟩
end Go.Proofs.YtcgcopkalcjmpaaDoor.crcTurned
