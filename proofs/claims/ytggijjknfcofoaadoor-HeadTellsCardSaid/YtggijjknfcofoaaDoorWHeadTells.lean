
/-
  The walk of the law HeadTells: it returns true, and writes nothing that was there.
-/
import Derived.Test.YtggijjknfcofoaaDoorHdRGet
import Derived.OpenShut
set_option linter.unusedVariables false
set_option linter.unusedSimpArgs false
namespace Go.Proofs.YtggijjknfcofoaaDoor.headTells
open Go.RowKit
open Go.Proofs.YtggijjknfcofoaaDoor.Hd
theorem bs_form {w : World} {B : Nat} {v : Value} {l : List UInt8} (h : Bs w B v l) : ∃ A n c, v = .slice A n c ∧ Bs w B (.slice A n c) l := by
  obtain ⟨A, c, rfl, h1, h2⟩ := h
  exact ⟨_, _, _, rfl, _, _, rfl, h1, h2⟩
set_option maxRecDepth 100000 in
theorem conv_of {w : World} {B n c : Nat} {A : Option Addr} {l : List UInt8} (h : Bs w B (.slice A n c) l) : (convert 30 9 (.slice A n c)).run Tryd.prog w = .ok (.string ⟨l.toArray⟩) w := by
  obtain ⟨A2, c2, e, _, hr⟩ := h
  injection e with e1 e2 e3
  subst e1 e2 e3
  exact convert_rd (P := Tryd.prog) hr c 30 5 9 Tryd.underlying30 Tryd.underlying5 Tryd.underlying9
set_option maxRecDepth 100000 in
set_option maxHeartbeats 8000000 in
theorem walk (a0 : Int) (a1 : Int) (v2 : Value) (z2 : List Int) (w : World) (w0 : (Lit.int .i64 a0).wf = true) (w1 : (Lit.int .u32 a1).wf = true) (w2 : Ints w w.heap.size .u8 v2 z2) (g2 : ∀ n ∈ z2, (Lit.int .u8 n).wf = true) (s2 : z2.length * 1 ≤ 140737488351232) (ht : Crc.Tab w) :
    Calls Tryd.prog 5 #[.int .i64 a0, .int .u32 a1, v2] w fun e w' => e = .returned (.bool true) ∧ Below w.heap.size w w' := by
  obtain ⟨p1, q1⟩ := bounds_u32 w1
  have hbs := bs_of_ints w2 (fun z hz => bounds_u8 (g2 z hz))
  have hll : (z2.map fun z => UInt8.ofNat z.toNat).length ≤ 140737488351232 := by rw [List.length_map]; omega
  generalize z2.map (fun z => UInt8.ofNat z.toNat) = l at hbs hll
  clear w2 g2 s2 w0 w1
  obtain ⟨A1, c1, k1, A1', c1', rfl, m1, hk1, cut1, s1⟩ := cut_min v2 l w.heap.size 40 w hbs
  have e40 : ((40 : Nat) : Int) = 40 := rfl
  rw [e40] at m1
  have hb1 := s1 w w.heap.size hbs
  have hl40 : (l.take 40).length ≤ 40 := by rw [List.length_take]; omega
  obtain ⟨⟨X, E⟩, hP⟩ : ∃ q, putQ a0 a1 = q := ⟨_, rfl⟩
  obtain ⟨⟨K, I, F⟩, hG⟩ : ∃ q, getQ (l.take 40) = q := ⟨_, rfl⟩
  obtain ⟨q, hC⟩ : ∃ q, checkN (l.take 40) a0 a1 = q := ⟨_, rfl⟩
  have HB := Lib.hid hb1
  have HL := Lib.hid hl40
  have HP := Lib.hid hP
  have HG := Lib.hid hG
  have HC := Lib.hid hC
  have HT := Lib.hid ht
  generalize l.take 40 = m at *
  generalize l.length = n at *
  clear hbs s1 hb1 hl40 hP hG hC ht e40
  go_enter Tryd.func5, Tryd.ntmps5
  go_wp2_with fail
  refine (putq_any a0 a1 w p1 (by omega) HT.out (X, E) HP.out).mono ?_
  rintro e w3 ⟨v3, rfl, h3, b3⟩
  obtain ⟨A3, n3, c3, rfl, h3⟩ := bs_form h3
  have H3 := Lib.hid h3
  have B3 := Lib.hid b3
  clear h3 b3
  go_wp2_with fail
  refine (rputq_any a0 a1 w3 p1 (by omega) (X, E) HP.out).mono ?_
  rintro e w4 ⟨v4, rfl, h4, b4⟩
  obtain ⟨A4, n4, c4, rfl, h4⟩ := bs_form h4
  have H3 := Lib.hid ((H3.out.below b4 (Nat.le_refl _)).mono b4.size)
  have H4 := Lib.hid h4
  have B4 := Lib.hid (hbstep B3.out b4)
  clear h4 b4
  go_wp2_with fail
  refine (Hd.get_any _ m w.heap.size w4 (HB.out.below B4.out (Nat.le_refl _)) B4.out.size (by have := HL.out; omega) (HT.out.on B4.out) (K, I, F) HG.out).mono ?_
  rintro e w5 ⟨rfl, b5⟩
  have H3 := Lib.hid ((H3.out.below b5 (Nat.le_refl _)).mono b5.size)
  have H4 := Lib.hid ((H4.out.below b5 (Nat.le_refl _)).mono b5.size)
  have B5 := Lib.hid (hbstep B4.out b5)
  clear b5
  go_wp2_with fail
  refine (Hd.rget_any _ m w5 ((HB.out.below B5.out (Nat.le_refl _)).mono B5.out.size) (by have := HL.out; omega) (K, I, F) HG.out).mono ?_
  rintro e w6 ⟨rfl, b6⟩
  have H3 := Lib.hid ((H3.out.below b6 (Nat.le_refl _)).mono b6.size)
  have H4 := Lib.hid ((H4.out.below b6 (Nat.le_refl _)).mono b6.size)
  have B6 := Lib.hid (hbstep B5.out b6)
  have kv3 := conv_of H3.out
  have kv4 := conv_of H4.out
  clear b6
  go_wp2_with fail
  refine (Hd.check_any _ m w.heap.size a0 a1 w6 (HB.out.below B6.out (Nat.le_refl _)) B6.out.size (by have := HL.out; omega) (HT.out.on B6.out) q HC.out).mono ?_
  rintro e w7 ⟨rfl, b7⟩
  have B7 := Lib.hid (hbstep B6.out b7)
  clear b7 kv3 kv4
  go_wp2_with fail
  refine (rcheck_any _ m a0 a1 w7 ((HB.out.below B7.out (Nat.le_refl _)).mono B7.out.size) (by have := HL.out; omega) q HC.out).mono ?_
  rintro e w8 ⟨rfl, b8⟩
  have B8 := Lib.hid (hbstep B7.out b8)
  clear b8
  go_wp2_with fail
  refine (knows_any w8 (HT.out.on B8.out)).mono ?_
  rintro e w9 ⟨rfl, b9⟩
  go_wp2_with fail
  go_ret
  exact ⟨rfl, hbstep B8.out b9⟩
end Go.Proofs.YtggijjknfcofoaaDoor.headTells
