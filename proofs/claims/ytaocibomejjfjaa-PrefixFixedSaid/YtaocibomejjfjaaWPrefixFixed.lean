/-
  The walk of the law PrefixFixed: it returns true, and writes nothing that was there.
-/
import Derived.Test.YtaocibomejjfjaaPxClone
import Derived.OpenShut
set_option linter.unusedVariables false
set_option linter.unusedSimpArgs false
namespace Go.Proofs.Ytaocibomejjfjaa.prefixFixed
open Go.RowKit

/-- a number that is fixed in enough bytes is read as it was -/
def rdN_ok (a0 : Int) (k : Nat) : Prop := ∀ r : List UInt8, (Px.rdN (Px.leL a0.toNat k ++ r) k : Int) = a0
theorem rdN_okm (a0 : Int) (k : Nat) (h0 : 0 ≤ a0) (h : a0 / 2 ^ (8 * (k : Int)).toNat = 0) : rdN_ok a0 k := by
  intro r
  rw [Px.rdN_fix]
  · omega
  · obtain ⟨n, rfl⟩ := Int.eq_ofNat_of_zero_le h0
    rw [show (8 * (k : Int)).toNat = 8 * k by omega] at h
    rw [Int.toNat_natCast]
    have e : ((n : Int) / 2 ^ (8 * k)) = ((n / 2 ^ (8 * k) : Nat) : Int) := by simp
    rw [e] at h
    omega
theorem rd_lt (l : List UInt8) (k : Nat) (hk : k ≤ 8) : Px.rdN l k < 18446744073709551616 := by
  have h1 := Px.rdN_lt l k
  have h2 : 2 ^ (8 * k) ≤ 2 ^ 64 := Nat.pow_le_pow_right (by omega) (by omega)
  omega
theorem rd_fits (l : List UInt8) (k : Nat) : (Px.rdN l k : Int) / 2 ^ (8 * (k : Int)).toNat = 0 := by
  rw [show (8 * (k : Int)).toNat = 8 * k by omega]
  have e : ((Px.rdN l k : Int) / 2 ^ (8 * k)) = ((Px.rdN l k / 2 ^ (8 * k) : Nat) : Int) := by simp
  rw [e, Nat.div_eq_of_lt (Px.rdN_lt l k)]
  rfl
set_option maxRecDepth 100000 in
set_option maxHeartbeats 8000000 in
theorem walk (a0 : Int) (a1 : Int) (v2 : Value) (z2 : List Int) (w : World) (w0 : (Lit.int .u64 a0).wf = true) (w1 : (Lit.int .u8 a1).wf = true) (w2 : Ints w w.heap.size .u8 v2 z2) (g2 : ∀ n ∈ z2, (Lit.int .u8 n).wf = true) (s2 : z2.length * 1 ≤ 140737488351232) :
    Calls Try.prog 7 #[.int .u64 a0, .int .u8 a1, v2] w fun e w' => e = .returned (.bool true) ∧ Below w.heap.size w w' := by
  obtain ⟨i0, hi0, hz0, hz1, hz2⟩ := info_parts byte_info
  obtain ⟨p0, q0⟩ := bounds_u64 w0
  obtain ⟨p1, q1⟩ := bounds_u8 w1
  have hbs := bs_of_ints w2 (fun z hz => bounds_u8 (g2 z hz))
  have hll : (z2.map fun z => UInt8.ofNat z.toNat).length ≤ 140737488351232 := by rw [List.length_map]; omega
  generalize z2.map (fun z => UInt8.ofNat z.toNat) = l at hbs hll
  clear w0 w1 w2 g2 s2
  obtain ⟨A2, c2, rfl, hc2, hr2⟩ := hbs
  have Hr2 := Lib.hid hr2
  clear hr2
  go_enter Try.func7, Try.ntmps7
  go_wp2_with fail
  refine (wakes_any _).mono ?_
  rintro e w1 ⟨rfl, b1⟩
  go_wp2_with fail
  obtain ⟨k, hk⟩ := Int.eq_ofNat_of_zero_le (by omega : 0 ≤ 1 + a1 % 8)
  have hk1 : 1 ≤ k := by omega
  have hk8 : k ≤ 8 := by omega
  rw [hk]
  have Hk := Lib.hid hk
  clear hk
  have Hr1 := Lib.hid (Hr2.out.below b1 (Nat.le_refl _))
  clear Hr2
  have hfit : (a0 / 2 ^ (8 * (k : Int)).toNat = 0 ∧ (((k : Int) == 8) = true ∨ (((k : Int) == 8) = false ∧ (a0 / 2 ^ (8 * k) == 0) = true))) ∨
      (((k : Int) == 8) = false ∧ (a0 / 2 ^ (8 * k) == 0) = false ∧ (a0 / 2 ^ (8 * (k : Int)).toNat != 0) = true) := by
    rw [show (8 * (k : Int)).toNat = 8 * k by omega]
    by_cases h8 : k = 8
    · refine .inl ⟨?_, .inl (by simp; omega)⟩
      subst h8
      omega
    · by_cases hz : a0 / 2 ^ (8 * k) = 0
      · exact .inl ⟨hz, .inr ⟨by simp; omega, by simp [hz]⟩⟩
      · exact .inr ⟨by simp; omega, by simp [hz], by simp [hz]⟩
  have hlen : k ≤ l.length ∨ l.length < k := by omega
  have Hlen := Lib.hid hlen
  clear hlen
  obtain ⟨m, hmm⟩ := Int.eq_ofNat_of_zero_le (by omega : 0 ≤ 1 + a1 % 32)
  have hm1 : 1 ≤ m := by omega
  have hm32 : m ≤ 32 := by omega
  have Hmm := Lib.hid hmm
  clear hmm
  have hnar : (a0 / 2 ^ m = 0 ∧ a0 < 4294967296 ∧ (a0 / 2 ^ m == 0) = true) ∨ ((a0 / 2 ^ m != 0) = true ∧ (a0 / 2 ^ m == 0) = false) := by
    by_cases hz : a0 / 2 ^ m = 0
    · refine .inl ⟨hz, ?_, by simp [hz]⟩
      obtain ⟨n, rfl⟩ := Int.eq_ofNat_of_zero_le p0
      have e : ((n : Int) / 2 ^ m) = ((n / 2 ^ m : Nat) : Int) := by simp
      rw [e] at hz
      have h2 : 2 ^ m ≤ 2 ^ 32 := Nat.pow_le_pow_right (by omega) hm32
      rcases Nat.lt_or_ge n (2 ^ m) with h3 | h3
      · omega
      · have := Nat.div_pos h3 (Nat.two_pow_pos m)
        omega
    · exact .inr ⟨by simp [hz], by simp [hz]⟩
  have Hnar := Lib.hid hnar
  clear hnar
  rcases hfit with ⟨hf, hfit⟩ | ⟨f1, f2, hf⟩
  · have Hf := Lib.hid hf
    clear hf
    refine (fixed_b _ [] _ _ w1 (by exact Bs.none_) (by omega) (by omega) (by omega) (by omega) Hf.out (by simp)).mono ?_
    rintro e w2 ⟨r2, rfl, hown, hb⟩
    rw [Int.toNat_natCast] at hown
    simp only [List.length_nil, Nat.zero_add, List.nil_append] at hown
    have hs : Bs w2 w2.heap.size r2 (Px.leL a0.toNat k) := Bs.of_own hown
    obtain ⟨A, c, rfl, hck, _⟩ := own_slice hown
    have b2 := b1.trans (hb.mono b1.size)
    have Hr3 := Lib.hid (Hr1.out.below hb b1.size)
    have Hs := Lib.hid hs
    clear hown hb hs Hr1 b1
    have hfx : rdN_ok a0 k := rdN_okm a0 k p0 Hf.out
    rcases hfit with f1 | ⟨f1, f2⟩
    all_goals
      go_wp2_with fail
      refine (clone_b _ _ _ Hs.out (by rw [Px.leL_length]; omega)).mono ?_
      rintro e w3 ⟨r3, rfl, hown3, hb3⟩
      rw [Px.leL_length] at hown3
      have hb4 := b2.trans (hb3.mono b2.size)
      have Hr4 := Lib.hid (Hr3.out.below hb3 b2.size)
      have hz3 := b2.size
      have hz4 := hb3.size
      clear Hr3 b2 Hs hb3
      go_wp2_with (at_builtin; (refine wpList_append_rd _ rfl _ _ 22 rfl w2.heap.size 5 i0 (.int .u8 0) 1 1 Try.underlying22 hi0 hz0 hz1 hz2 rfl (by omega) r3 k (bvs (Px.leL a0.toNat k)) rfl hown3 w.heap.size A2 l.length c2 (bvs l) rfl (by simp [bvs]) Hr4.out (bvs_one l) (by unfold maxLen; omega) (by omega) hz4 ?_); intro v4 w4 hown4 hbw4 hgr4 _)
      have hs4 : Bs w4 w4.heap.size v4 (Px.leL a0.toNat k ++ l) := Bs.of_own (by rw [bvs_append]; exact hown4)
      have Hr5 := Lib.hid (Hr4.out.below hbw4 hz3)
      have b5 := hb4.trans (hbw4.mono hz3)
      have Hs4 := Lib.hid hs4
      clear hs4 Hr4 hb4 hown4 hbw4 hgr4 hown3 hz3 hz4
      refine (read_b _ _ _ _ _ Hs4.out (by omega) (by omega) (by rw [List.length_append, Px.leL_length]; omega) (by rw [List.length_append, Px.leL_length]; omega)).mono ?_
      rintro e w5 ⟨rfl, rfl⟩
      rw [Int.toNat_natCast, hfx l]
      go_wp2_with fail
      refine (read_short _ _ _ _ _ (by omega) (by omega) (by omega)).mono ?_
      rintro e w5 ⟨rfl, rfl⟩
      rcases Hlen.out with hlen | hlen
      · go_wp2_with fail
        refine (read_b _ l w.heap.size _ _ ⟨A2, c2, rfl, hc2, Hr5.out⟩ (by omega) (by omega) (by omega) (by omega)).mono ?_
        rintro e w5 ⟨rfl, rfl⟩
        rw [Int.toNat_natCast]
        go_wp2_with fail
        refine (fixed_b _ [] _ _ w4 (by exact Bs.none_) (by omega) (by have := rd_lt l k hk8; omega) (by omega) (by omega) (rd_fits l k) (by simp)).mono ?_
        rintro e w6 ⟨r6, rfl, hown6, hb6⟩
        rw [Int.toNat_natCast, Int.toNat_natCast, List.nil_append, Px.leL_rdN l k hlen] at hown6
        have Hs6 := Lib.hid (Bs.of_own hown6)
        have bT := b5.trans (hb6.mono b5.size)
        have Hr6 := Lib.hid (Hr5.out.below hb6 b5.size)
        clear hown6 hb6
        go_wp2_with fail
        refine (equal_b _ _ (l.take k) (l.take k) _ w.heap.size _ Hs6.out ⟨A2, c2, by rw [List.length_take, Nat.min_eq_left hlen], by rw [List.length_take]; omega, by rw [bvs_take]; exact Hr6.out.take _⟩).mono ?_
        rintro e w7 ⟨rfl, rfl⟩
        rw [show (l.take k == l.take k) = true from by simp]
        clear Hs6 Hr6 b5
        rcases Hnar.out with ⟨n1, n2, n3⟩ | ⟨n1, n2⟩
        · have N1 := Lib.hid n1
          clear n1
          go_wp2_with fail
          rw [Hmm.out]
          refine (narrow_ok _ _ _ (by omega) (by omega) (by omega) (by omega) (by rw [Int.toNat_natCast]; exact N1.out) n2).mono ?_
          rintro e w8 ⟨rfl, rfl⟩
          go_wp2_with fail
          refine (wakes_any _).mono ?_
          rintro e w9 ⟨rfl, hb9⟩
          go_wp2_with fail
          go_ret
          exact ⟨rfl, bT.trans (hb9.mono bT.size)⟩
        · have N1 := Lib.hid n1
          clear n1
          go_wp2_with fail
          rw [Hmm.out]
          refine (narrow_long _ _ _ (by omega) (by omega) (by omega) (by omega) (by rw [Int.toNat_natCast]; exact N1.out)).mono ?_
          rintro e w8 ⟨rfl, rfl⟩
          go_wp2_with fail
          refine (wakes_any _).mono ?_
          rintro e w9 ⟨rfl, hb9⟩
          go_wp2_with fail
          go_ret
          exact ⟨rfl, bT.trans (hb9.mono bT.size)⟩
      · have bT := b5
        clear b5
        rcases Hnar.out with ⟨n1, n2, n3⟩ | ⟨n1, n2⟩
        · have N1 := Lib.hid n1
          clear n1
          go_wp2_with fail
          rw [Hmm.out]
          refine (narrow_ok _ _ _ (by omega) (by omega) (by omega) (by omega) (by rw [Int.toNat_natCast]; exact N1.out) n2).mono ?_
          rintro e w8 ⟨rfl, rfl⟩
          go_wp2_with fail
          refine (wakes_any _).mono ?_
          rintro e w9 ⟨rfl, hb9⟩
          go_wp2_with fail
          go_ret
          exact ⟨rfl, bT.trans (hb9.mono bT.size)⟩
        · have N1 := Lib.hid n1
          clear n1
          go_wp2_with fail
          rw [Hmm.out]
          refine (narrow_long _ _ _ (by omega) (by omega) (by omega) (by omega) (by rw [Int.toNat_natCast]; exact N1.out)).mono ?_
          rintro e w8 ⟨rfl, rfl⟩
          go_wp2_with fail
          refine (wakes_any _).mono ?_
          rintro e w9 ⟨rfl, hb9⟩
          go_wp2_with fail
          go_ret
          exact ⟨rfl, bT.trans (hb9.mono bT.size)⟩
  · have HF := Lib.hid hf
    clear hf
    refine (fixed_long _ _ _ _ _ _ (by omega) (by omega) (by omega) (by omega) HF.out).mono ?_
    rintro e w2 ⟨rfl, rfl⟩
    rcases Hlen.out with hlen | hlen
    · go_wp2_with fail
      refine (read_b _ l w.heap.size _ _ ⟨A2, c2, rfl, hc2, Hr1.out⟩ (by omega) (by omega) (by omega) (by omega)).mono ?_
      rintro e w5 ⟨rfl, rfl⟩
      rw [Int.toNat_natCast]
      go_wp2_with fail
      refine (fixed_b _ [] _ _ w1 (by exact Bs.none_) (by omega) (by have := rd_lt l k hk8; omega) (by omega) (by omega) (rd_fits l k) (by simp)).mono ?_
      rintro e w6 ⟨r6, rfl, hown6, hb6⟩
      rw [Int.toNat_natCast, Int.toNat_natCast, List.nil_append, Px.leL_rdN l k hlen] at hown6
      have Hs6 := Lib.hid (Bs.of_own hown6)
      have bT := b1.trans (hb6.mono b1.size)
      have Hr6 := Lib.hid (Hr1.out.below hb6 b1.size)
      clear hown6 hb6
      go_wp2_with fail
      refine (equal_b _ _ (l.take k) (l.take k) _ w.heap.size _ Hs6.out ⟨A2, c2, by rw [List.length_take, Nat.min_eq_left hlen], by rw [List.length_take]; omega, by rw [bvs_take]; exact Hr6.out.take _⟩).mono ?_
      rintro e w7 ⟨rfl, rfl⟩
      rw [show (l.take k == l.take k) = true from by simp]
      clear Hs6 Hr6 b1
      rcases Hnar.out with ⟨n1, n2, n3⟩ | ⟨n1, n2⟩
      · have N1 := Lib.hid n1
        clear n1
        go_wp2_with fail
        rw [Hmm.out]
        refine (narrow_ok _ _ _ (by omega) (by omega) (by omega) (by omega) (by rw [Int.toNat_natCast]; exact N1.out) n2).mono ?_
        rintro e w8 ⟨rfl, rfl⟩
        go_wp2_with fail
        refine (wakes_any _).mono ?_
        rintro e w9 ⟨rfl, hb9⟩
        go_wp2_with fail
        go_ret
        exact ⟨rfl, bT.trans (hb9.mono bT.size)⟩
      · have N1 := Lib.hid n1
        clear n1
        go_wp2_with fail
        rw [Hmm.out]
        refine (narrow_long _ _ _ (by omega) (by omega) (by omega) (by omega) (by rw [Int.toNat_natCast]; exact N1.out)).mono ?_
        rintro e w8 ⟨rfl, rfl⟩
        go_wp2_with fail
        refine (wakes_any _).mono ?_
        rintro e w9 ⟨rfl, hb9⟩
        go_wp2_with fail
        go_ret
        exact ⟨rfl, bT.trans (hb9.mono bT.size)⟩
    · have bT := b1
      clear b1
      rcases Hnar.out with ⟨n1, n2, n3⟩ | ⟨n1, n2⟩
      · have N1 := Lib.hid n1
        clear n1
        go_wp2_with fail
        rw [Hmm.out]
        refine (narrow_ok _ _ _ (by omega) (by omega) (by omega) (by omega) (by rw [Int.toNat_natCast]; exact N1.out) n2).mono ?_
        rintro e w8 ⟨rfl, rfl⟩
        go_wp2_with fail
        refine (wakes_any _).mono ?_
        rintro e w9 ⟨rfl, hb9⟩
        go_wp2_with fail
        go_ret
        exact ⟨rfl, bT.trans (hb9.mono bT.size)⟩
      · have N1 := Lib.hid n1
        clear n1
        go_wp2_with fail
        rw [Hmm.out]
        refine (narrow_long _ _ _ (by omega) (by omega) (by omega) (by omega) (by rw [Int.toNat_natCast]; exact N1.out)).mono ?_
        rintro e w8 ⟨rfl, rfl⟩
        go_wp2_with fail
        refine (wakes_any _).mono ?_
        rintro e w9 ⟨rfl, hb9⟩
        go_wp2_with fail
        go_ret
        exact ⟨rfl, bT.trans (hb9.mono bT.size)⟩
end Go.Proofs.Ytaocibomejjfjaa.prefixFixed
