/-
  SegFlip, part 23 of what the law's proof leans on: WSegFlip.
-/
import Derived.BigQuiet
import Derived.Test.YtaicibmaogiibaaGreatDoorSegFlipQ22
import Derived.Test.YtaicibmaogiibaaGreatDoorSegFlipQ21
import Derived.Test.YtaicibmaogiibaaGreatDoorSegFlipQ1
/- WSegFlip -/

/-
  SegFlip, walked: a bit of the file turned: one record is bad, or the head.
-/
set_option linter.unusedVariables false
set_option linter.unusedSimpArgs false
namespace Go.Proofs.YtaicibmaogiibaaGreatDoor.segFlip
open Go Go.RowKit Go.Proofs.YtaicibmaogiibaaGreatDoor Go.Proofs.YtaicibmaogiibaaGreatDoor.Sg

theorem turn11 (x : UInt8) (q : Nat) (h : q < 8) : bits .xor .u8 (x.toNat : Int) (2 ^ q % 256) = ((turnB x q).toNat : Int) := by
  have e : (2 ^ q % 256 : Int) = ((UInt8.ofNat (2 ^ q)).toNat : Int) := by
    have : q = 0 ∨ q = 1 ∨ q = 2 ∨ q = 3 ∨ q = 4 ∨ q = 5 ∨ q = 6 ∨ q = 7 := by omega
    rcases this with rfl | rfl | rfl | rfl | rfl | rfl | rfl | rfl <;> rfl
  unfold turnB
  rw [e, u8_xor_nat _ _ (UInt8.toNat_lt x) (UInt8.toNat_lt _), UInt8.toNat_xor]
/-- what a turned bit makes of the file: one record at most is bad -/
theorem flip_two {L : List Rc.Rec} (h : Numb L) {k q : Nat} {c : UInt8} (hq : q < 8) (hc : (bytesN11 7 L)[k]? = some c) :
    ∃ (tt : Nat) (S : Sc.S), Sc.of 7 ((bytesN11 7 L).set k (turnB c q)) = S ∧ Some L S ∧ (k < 16 → S = ⟨7, [], [], 0, 23⟩ ∧ ¬ tt < L.length) ∧ (16 ≤ k → tt < L.length) ∧
      ∀ (i : Nat) (r : Rc.Rec), L[i]? = some r → if i = tt then (readQ ((bytesN11 7 L).set k (turnB c q)) (Sg.offN L L.length) (Sg.offN L i)).2.2 ≠ 0 else readQ ((bytesN11 7 L).set k (turnB c q)) (Sg.offN L L.length) (Sg.offN L i) = (r, Rc.sizeN r, 0) := by
  rcases flip_any h hq hc with ⟨h1, h2, h3⟩ | ⟨h1, h2, t, h3, h4⟩
  · refine ⟨L.length, _, rfl, ?_, fun _ => ⟨h2, by omega⟩, fun _ => by omega, fun i r hr => ?_⟩
    · rw [h2]
      exact ⟨rfl, by decide, by decide, by decide, by decide, fun f hf => by cases hf⟩
    · have := (List.getElem?_eq_some_iff.1 hr).1
      rw [if_neg (by omega)]
      exact h3 i r hr
  · exact ⟨t, _, rfl, h2, fun _ => by omega, fun _ => h3, h4⟩
theorem lone_flip {s : FsP} {n : ByteArray} {f : FSt} {q T k : Nat} {z : UInt8} (h : LoneN s n f) (hn : mayN n = true) (hf : FInv s q T) : FInv { s with file := upd s.file 1 (FSt.new (f.safe.set k z)) } q T := by
  have := hf.onF_ n 0 (k := fun t => (0, FSt.new (t.safe.set k z))) (fun t ht => ⟨FSt.new_ok _, by
    have h1 : (FSt.new (t.safe.set k z)).big = t.safe.length := by simp [FSt.new, FSt.big, FSt.loose, unitsL]
    show (FSt.new (t.safe.set k z)).big ≤ t.big + 0
    rw [h1]
    unfold FSt.big
    omega⟩)
  rw [h.onF hn] at this
  exact this
set_option maxRecDepth 100000 in
set_option maxHeartbeats 32000000 in
theorem walk (v0 : Value) (l0 : List Rc.Rec) (a1 : Int) (a2 : Int) (w : World) (w0 : Recs w w.heap.size v0 l0) (w1 : (Lit.int .u16 a1).wf = true) (w2 : (Lit.int .u8 a2).wf = true) (ht : Ctx w.heap.size w) :
    Calls Tryz.prog 5 #[v0, .int .u16 a1, .int .u8 a2] w fun e w' => e = .returned (.bool true) ∧ Below w.heap.size w w' := by
  have HN := Lib.hid (snum w0)
  have HX := Lib.hid ht
  obtain ⟨L, hL⟩ : ∃ L, L = numL l0 := ⟨_, rfl⟩
  rw [← hL] at HN
  have HL : Hid (Numb L) := Lib.hid (hL ▸ numL_numb l0)
  obtain ⟨n, hn⟩ : ∃ n, n = L.length := ⟨_, rfl⟩
  have hn30 : n ≤ 30 := by rw [hn]; exact HL.out.few
  have HNN := Lib.hid hn
  clear w0 ht hL hn
  go_enter Tryz.func5, Tryz.ntmps5
  go_wp2_with fail
  refine HN.out.mono ?_
  rintro e x1 ⟨v', t, rfl, htl, ht30, hown, htri, hb1⟩
  have hrecs : Recs x1 x1.heap.size v' L := htl ▸ recs_of_own hown htri hb1.size
  obtain ⟨Av, cv, rfl, hvc, hvm, hrec⟩ := id hrecs
  rw [← HNN.out] at hrecs hvc
  have HR := Lib.hid hrecs
  have HB1 := Lib.hid hb1
  clear hown htri hb1 htl ht30 hrec hrecs HN
  rw [← HNN.out]
  go_wp2_with fail
  refine (knew x1 1073741824 (by omega)).mono ?_
  rintro e x2 ⟨A, M0, rfl, hm, hb2, hM0⟩
  have HM2 := Lib.hid (And.intro hm hM0)
  have HB2 := Lib.hid hb2
  clear hm hM0 hb2
  go_wp2_with fail
  refine (swakes x2 ((HX.out.below (bel11 HB1.out HB2.out)).mono (bel11 HB1.out HB2.out).size)).mono ?_
  rintro e x3 ⟨rfl, hb3⟩
  have HB3 := Lib.hid (bel11 HB2.out hb3)
  have HM3 := Lib.hid (And.intro (HM2.out.1.on hb3) HM2.out.2)
  have HX3 := Lib.hid (show Ctx x1.heap.size x3 from (HX.out.below (bel11 HB1.out HB3.out)).mono HB1.out.size)
  clear hb3 HM2 HB2
  go_wp2_with fail
  have hlay := slay (B := x1.heap.size) (id := 7) (L := L) (v := .slice Av n cv) HX3.out HB3.out.size HM3.out.2 (by omega) HM3.out.1 (by omega) (by have := recs_below HR.out HB3.out (Nat.le_refl _); exact this) HL.out
  refine Calls.mono hlay ?_
  clear hlay
  rintro e x4 ⟨G, vat, rfl, M, R, s, k1, k2, k3, k4, k5, k6, k7, k8, k9, k10⟩
  rw [← HNN.out] at k1 k2 k4 k5 k6
  obtain ⟨Al, cl, rfl, hlc, _, _⟩ := own_slice k6
  have HSY := Lib.hid (sync_num (L := L) (n := n) (by omega : 1 ≤ 7 ∧ 7 ≤ 16777215) k2 (by rw [← HNN.out]; exact Nat.le_refl _) k4)
  have hB4 : x1.heap.size ≤ x4.heap.size := Nat.le_trans HB3.out.size k8.size
  have HS := Lib.hid (ssync k1 (HX3.out.below k8) hB4 k9 (by show 7 < _; omega) k4 (by omega) (by omega))
  rw [HSY.out.1, HSY.out.2.2.1] at HS
  obtain ⟨s5, hs5⟩ : ∃ s5, s5 = (syncG s (segN 7 L n)).2.1 := ⟨_, rfl⟩
  rw [← hs5] at HSY HS
  clear hs5
  have HC4 := Lib.hid (And.intro k6 (And.intro k7 (And.intro k8 (And.intro k9 k10))))
  have HQ := Lib.hid (And.intro k3 k5)
  clear k1 k2 k3 k4 k5 k6 k7 k8 k9 k10 hB4
  go_wp2_with fail
  refine HS.out.mono ?_
  rintro e x5 ⟨rfl, M5, R5, j1, j2, j3, j4, j5, j6, j7⟩
  obtain ⟨k6, k7, k8, k9, k10⟩ := HC4.out
  have HOW5 := Lib.hid (j2.own k6 (fun g hg e => e.elim (k7 g hg).1 (k7 g hg).2.2))
  have HOL := Lib.hid (show ∀ g, (Value.slice Al n cl).ownBlock = some g → ¬ M5 g ∧ g < x5.heap.size from fun g hg => ⟨fun e => (j3 g e).elim (k7 g hg).1 (fun e => by have := (k6.lt g hg).2; omega), Nat.lt_of_lt_of_le (k6.lt g hg).2 j2.size⟩)
  have HB5 := Lib.hid (HB3.out.trans (k8.trans (j2.below (Nat.le_trans HB3.out.size k8.size) (fun i e => e.elim (k9 i) (fun e => by rw [e]; exact k10)))))
  have HM5 := Lib.hid (show ∀ i, M5 i → x1.heap.size ≤ i from fun i e => (j3 i e).elim (k9 i) (fun e => by have := HB3.out.size; have := k8.size; omega))
  have HG := Lib.hid k10
  have HS5 := Lib.hid (show SegIn x5 G A M5 R5 _ _ from ⟨j1, j5, j6, j7⟩)
  clear j1 j2 j3 j4 j5 j6 j7 k6 k7 k8 k9 k10 HC4 HS HM3
  have HSE := Lib.hid (sseal HS5.out.2.1)
  go_wp2_with fail
  refine HSE.out.mono ?_
  rintro e x6 ⟨rfl, hb6⟩
  have HB6 := Lib.hid hb6
  clear hb6 HSE
  obtain ⟨z, hz⟩ : ∃ z, z = Sg.offN L n := ⟨_, rfl⟩
  have hz2 : 16 ≤ z ∧ z ≤ 40000 := by rw [hz]; exact ⟨off_ge L n, by have := Sg.offN_le HL.out n; omega⟩
  rw [show (S.seal { segN 7 L n with safe := n }) = .agg #[.int .u32 7, .int .u32 (Sg.offN L n : Int), .int .u32 (n : Int), .int .u64 ((if n = 0 then 0 else 1 : Nat) : Int), .int .u64 (n : Int)] from rfl, ← hz]
  obtain ⟨fi, hfi⟩ : ∃ fi, fi = (if n = 0 then 0 else 1 : Nat) := ⟨_, rfl⟩
  rw [← hfi]
  have HZ := Lib.hid hz
  clear hz hfi
  have hfd : ∀ w : World, (Instr.field 39 (.agg #[.int .u32 7, .int .u32 (z : Int), .int .u32 (n : Int), .int .u64 (fi : Int), .int .u64 (n : Int)]) 1).run Tryz.prog w = .ok (.int .u32 (z : Int)) w := fun _ => by kernel_rfl
  obtain ⟨at_, rfl, hat⟩ : ∃ n : Nat, a1 = (n : Int) ∧ n < 65536 := by
    have h := bounds_u16 w1
    exact ⟨a1.toNat, by omega, by omega⟩
  obtain ⟨bt, rfl, hbt⟩ : ∃ n : Nat, a2 = (n : Int) ∧ n < 256 := by
    have h := bounds_u8 w2
    exact ⟨a2.toNat, by omega, by omega⟩
  clear w1 w2
  obtain ⟨k, hk⟩ : ∃ k, k = at_ % z := ⟨_, rfl⟩
  have hkz : k < z := by rw [hk]; exact Nat.mod_lt _ (by omega)
  obtain ⟨q, hq⟩ : ∃ q, q = bt % 8 := ⟨_, rfl⟩
  have hq8 : q < 8 := by omega
  have u1 : (wrap64 (at_ : Int)).tmod (z : Int) = (k : Int) := by
    rw [IntWalk.wrap64_in _ (by omega), Int.tmod_eq_emod_of_nonneg (by omega), hk]
    push_cast
    rfl
  have u2 : (bt : Int) % 8 = (q : Int) := by omega
  have z0 : (z : Int) ≠ 0 := by omega
  have c1 : IntKind.i64.wrap (at_ : Int) = (at_ : Int) := IntWalk.i64_in _ (by omega)
  have c2 : IntKind.i64.wrap (z : Int) = (z : Int) := IntWalk.i64_in _ (by omega)
  have HNM := Lib.hid (name_any 7 (by omega) x6 ((HX.out.below (bel11 (HB1.out.trans (HB5.out.mono HB1.out.size)) HB6.out)).std))
  clear hk hq
  go_wp2_with fail
  refine HNM.out.mono ?_
  rintro e x7 ⟨rfl, hb7⟩
  have HB7 := Lib.hid (bel11 HB6.out hb7)
  clear hb7 HNM
  go_wp2_with fail
  try simp only [u1]
  have hlo := HSY.out.2.1.toN
  have hlb : (bytesN11 7 L).length = z := by rw [HZ.out, HNN.out, bytesN11_length]; unfold Sg.offN; rw [List.take_length]
  obtain ⟨c, hc⟩ : ∃ c, (bytesN11 7 L)[k]? = some c := ⟨_, List.getElem?_eq_getElem (by rw [hlb]; exact hkz)⟩
  have hfu := hlo.used
  have h0s : (s5.file 1).safe = bytesN11 7 L := by rw [hlo.file]; rfl
  have HF := Lib.hid (kflip (nm := nameB 7) (n := k) (i := 1) (x := c) (z := turnB c q) (HS5.out.1.on HB7.out) HSY.out.2.2.2.2.1 (by omega) hlo.on (by have := nameB_size 7; unfold maxLen; omega) (hlo.node (mayN_name (by omega))) (by rw [hlo.file]; rfl) (by rw [h0s]; exact hc) (turn11 c q hq8))
  have hl8 := hlo.upd (FSt.new ((bytesN11 7 L).set k (turnB c q)))
  have hf8 := lone_flip (k := k) (z := turnB c q) hlo (mayN_name (by omega)) HSY.out.2.2.2.2.1
  rw [h0s] at HF
  obtain ⟨s8, hs8⟩ : ∃ s8 : FsP, s8 = { s5 with file := upd s5.file 1 (FSt.new ((bytesN11 7 L).set k (turnB c q))) } := ⟨_, rfl⟩
  have hf8 : FInv s8 (5 + 1) (300 + 1113 * n + 60) := by rw [hs8]; exact hf8
  rw [← hs8] at HF hl8
  have hu8 : s8.used = s5.used := by rw [hl8.used, hlo.used, FSt.new_bytes, FSt.new_bytes, List.length_set]
  rw [← hu8] at HF
  have HL8 := Lib.hid (And.intro hl8 hf8)
  obtain ⟨tt, S, h1, h2, h3, h4, h5⟩ := flip_two HL.out hq8 hc
  have HFT := Lib.hid (And.intro h1 (And.intro h2 (And.intro h3 (And.intro h4 h5))))
  have HLB := Lib.hid hlb
  clear hlo hfu h0s hl8 hf8 hs8 hu8 h1 h2 h3 h4 h5 hlb hc
  have HF2 := Lib.hid (HF.out.mono (R' := fun e x8 => e = .returned (.int .i64 0) ∧ ∃ M8 R8, SegIn x8 G A M8 R8 s8 { segN 7 L n with safe := n } ∧ Below x1.heap.size x1 x8 ∧ x7.heap.size ≤ x8.heap.size ∧ x8.ownsRow x3.heap.size 49 2 (.slice Al n cl) n (locsN 7 L n)) (by
    rintro e x8 ⟨rfl, M8, R8, j1, j2, j3, j4⟩
    refine ⟨rfl, M8, R8, ⟨j1, (HS5.out.2.1.on HB7.out).chg j2 HS5.out.2.2.1, fun e => ?_, fun e => ?_⟩, ?_, j2.size, j2.own (own_below HOW5.out HB7.out (Nat.le_refl _)) (fun g hg => (HOL.out g hg).1)⟩
    · have := (HS5.out.2.1.on HB7.out).lt
      exact (j3 _ e).elim HS5.out.2.2.1 (fun e => by omega)
    · have := (HS5.out.2.1.on HB7.out).lt
      exact (j4 _ e).elim HS5.out.2.2.2 (fun e => by omega)
    · have h5 : x1.heap.size ≤ x5.heap.size := HB5.out.size
      exact HB5.out.trans ((HB7.out.mono h5).trans (j2.below (Nat.le_trans h5 HB7.out.size) (fun i e => HM5.out i e)))))
  clear HF u1
  refine HF2.out.mono ?_
  rintro e x8 ⟨rfl, M8, R8, g1, g2, g3, g4⟩
  clear HF2
  have HCx := Lib.hid (show Ctx x1.heap.size x8 from (HX.out.below (bel11 HB1.out g2)).mono HB1.out.size)
  have HB8 := Lib.hid g2
  have h18 : x1.heap.size ≤ x8.heap.size := g2.size
  have hrec := (recs_below HR.out g2 (Nat.le_refl _))
  obtain ⟨_, _, he, _, _, hrec⟩ := hrec
  injection he with he1 he2 he3
  subst he1 he3
  have HREC := Lib.hid hrec
  clear hrec he2
  have HROW := Lib.hid g4
  have HRD := Lib.hid (show ∀ V, Below x8.heap.size x8 V → ∀ (i : Nat) (r : Rc.Rec), L[i]? = some r → (i ≠ tt → Calls Tryz.prog 15 #[.pointer (some ⟨G, 0, none⟩), .agg #[.int .u32 7, .int .u32 (Sg.offN L i : Int)]] V fun e w' => ∃ rv, e = .returned (.tuple #[rv, .int .i64 0]) ∧ RecT w' rv r ∧ Below V.heap.size V w') ∧ (i = tt → Calls Tryz.prog 15 #[.pointer (some ⟨G, 0, none⟩), .agg #[.int .u32 7, .int .u32 (Sg.offN L i : Int)]] V fun e w' => ∃ rv, e = .returned (.tuple #[rv, .int .i64 36]) ∧ RecT w' rv Rc.none ∧ Below V.heap.size V w') from fun V hV i r hr => by
    have hsg : SegIn V G A M8 R8 s8 { segN 7 L n with safe := n } := ⟨g1.1.on hV, g1.2.1.on hV, g1.2.2⟩
    have hcx := HCx.out.below (hV.mono h18)
    have hB := Nat.le_trans h18 hV.size
    have hle : (FSt.new ((bytesN11 7 L).set k (turnB c q))).bytes.length = Sg.offN L n := by rw [FSt.new_bytes, List.length_set, HLB.out, HZ.out]
    have hq5 := HFT.out.2.2.2.2 i r hr
    rw [← HNN.out] at hq5
    refine ⟨fun hne => ?_, fun he => ?_⟩
    · rw [if_neg hne] at hq5
      exact rd_num hsg hcx hB (by show 1 ≤ 7 ∧ 7 ≤ _; omega) HL.out (by show Sg.offN L n = Sg.offN L L.length; rw [← HNN.out]) HL8.out.2 (by omega) HL8.out.1 hle hr (by rw [FSt.new_bytes]; exact hq5)
    · rw [if_pos he] at hq5
      exact rd_bad hsg hcx hB (by show 1 ≤ 7 ∧ 7 ≤ _; omega) HL.out (by show Sg.offN L n = Sg.offN L L.length; rw [← HNN.out]) HL8.out.2 (by omega) HL8.out.1 hle hr (by rw [FSt.new_bytes]; exact hq5))
  have HLD := Lib.hid (show ∀ V, Below x8.heap.size x8 V → Calls Tryz.prog 13 #[.pointer (some ⟨A, 0, none⟩), .int .u32 7] V fun e w' => ∃ rv, e = .returned (.tuple #[rv, .int .i64 0]) ∧ Sc.ScanV 56 w' V.heap.size rv S ∧ Below V.heap.size V w' from fun V hV => by
    have hb : (FSt.new ((bytesN11 7 L).set k (turnB c q))).bytes = (bytesN11 7 L).set k (turnB c q) := FSt.new_bytes _
    have := sload ofC (HCx.out.below (hV.mono h18)) (Nat.le_trans h18 hV.size) (by omega : 1 ≤ 7 ∧ 7 ≤ 16777215) (g1.1.on hV) HL8.out.2 (by omega) HL8.out.1 (mayN_name (by omega)) (by rw [hb, List.length_set, HLB.out]; omega)
    rw [hb, HFT.out.1] at this
    exact this)
  have HBW := Lib.hid (show Below w.heap.size w x8 from bel11 HB1.out g2)
  have H18 := Lib.hid h18
  have HB0 := Lib.hid (Below.refl x8.heap.size x8)
  clear g1 g2 g3 g4 h18 HL8 HS5 HOW5 HOL HSY HM5 HB7 HB6 HB5 HB8 HLB HX3
  go_wp2_with fail
  go_loopw [12, 63] (fun bv iv wr => ∃ (j c : Nat), bv = .int .i64 (c : Int) ∧ iv = .int .i64 (j : Int) ∧ j ≤ n ∧ Hid (c = (if tt < j then 1 else 0) ∧ Below x8.heap.size x8 wr)) (fun _ iv _ => n - (RowKit.intOf iv).toNat)
  case atStart => exact ⟨0, 0, rfl, rfl, Nat.zero_le _, Lib.hid ⟨by rw [if_neg (by omega)], HB0.out⟩⟩
  case round =>
    as_aux_lemma =>
      obtain ⟨j, c, rfl, rfl, hj, hh⟩ := hrel
      rename World => wr
      by_cases hjn : j < n
      · obtain ⟨r, hr⟩ : ∃ r, L[j]? = some r := ⟨_, List.getElem?_eq_getElem (by rw [← HNN.out]; exact hjn)⟩
        obtain ⟨b, o, rfl, hbB, kv, vv, e0, e1, e2, e3, e4, e5, hk, hw, hfit⟩ := HREC.out j r hr
        have hk0 := hk
        have hw0 := hw
        obtain ⟨K1, k1', rfl, _, _⟩ := hk0
        obtain ⟨K2, k2', rfl, _, _⟩ := hw0
        obtain ⟨n1, hn1⟩ : ∃ n1, n1 = r.key.length := ⟨_, rfl⟩
        obtain ⟨n2, hn2⟩ : ∃ n2, n2 = r.val.length := ⟨_, rfl⟩
        rw [← hn1] at hk e2
        rw [← hn2] at hw e3
        have hb := hh.out.2
        have hbx : b < x8.heap.size := by have := H18.out; omega
        have y0 := (hb.cell (p := ⟨b, o + j * 6, none⟩) hbx).trans e0
        have y1 := (hb.cell (p := ⟨b, o + j * 6 + 1, none⟩) hbx).trans e1
        have y2 := (hb.cell (p := ⟨b, o + j * 6 + 2, none⟩) hbx).trans e2
        have y3 := (hb.cell (p := ⟨b, o + j * 6 + 3, none⟩) hbx).trans e3
        have y4 := (hb.cell (p := ⟨b, o + j * 6 + 4, none⟩) hbx).trans e4
        have y5 := (hb.cell (p := ⟨b, o + j * 6 + 5, none⟩) hbx).trans e5
        obtain ⟨gr, hgr⟩ : ∃ g, wr.heap.size = g := ⟨_, rfl⟩
        obtain ⟨W1, hW1⟩ : ∃ V, wr.alloc (.cells #[.int .u64 r.seq, .int .i64 r.kind, .slice K1 n1 k1', .slice K2 n2 k2', .int .u32 r.seg, .int .u32 r.off] 51) = V := ⟨_, rfl⟩
        have hbW : Below wr.heap.size wr W1 := by rw [← hW1]; exact al11 _ _
        have hbW1 := bel11 hb hbW
        have HK1 := Lib.hid (show W1.heap[gr]? = some (.cells #[.int .u64 r.seq, .int .i64 r.kind, .slice K1 n1 k1', .slice K2 n2 k2', .int .u32 r.seg, .int .u32 r.off] 51 (0, 0)) from by rw [← hW1, ← hgr]; exact heap_alloc_new wr _)
        have HRV := Lib.hid (show RecV W1 x1.heap.size (recV r.seq r.kind (.slice K1 n1 k1') (.slice K2 n2 k2') r.seg r.off) r from ⟨_, _, rfl, hk.below hbW1 H18.out, hw.below hbW1 H18.out⟩)
        have hrow := own_below HROW.out hbW1 (Nat.le_refl _)
        obtain ⟨gl, rfl, hgl⟩ := Sc.own_at hrow (by omega)
        obtain ⟨t0, t1⟩ := loc_cells hrow hjn
        obtain ⟨oj, hoj⟩ : ∃ oj, oj = Sg.offN L j := ⟨_, rfl⟩
        rw [← hoj] at t1
        have HOJ := Lib.hid hoj
        have HR1 := Lib.hid hr
        have HBW1 := Lib.hid hbW1
        clear e0 e1 e2 e3 e4 e5 hk hw hb hbx hfit hbW hbW1 hrow hn1 hn2 hoj hr hbB
        have hc0 := hh.out.1
        by_cases htt : j = tt
        · have HC := Lib.hid ((HRD.out W1 HBW1.out j r HR1.out).2 htt)
          rw [← HOJ.out] at HC
          rw [if_neg (by omega)] at hc0
          subst hc0
          have HTT := Lib.hid htt
          clear htt
          go_wp2_with fail
          refine HC.out.mono ?_
          rintro e W2 ⟨rv, rfl, ⟨A1, n1', c1', A2, n2', c2', rfl, hrv⟩, hb2⟩
          unfold recV
          have HB2 := Lib.hid (bel11 HBW1.out hb2)
          clear hrv hb2
          go_wp2_with fail
          refine ⟨⟨j + 1, 1, rfl, by push_cast; rfl, by omega, Lib.hid ⟨by rw [if_pos (by have := HTT.out; omega)], bel11 HB2.out (al11 _ _)⟩⟩, by simp [RowKit.intOf]; omega⟩
        · have HC := Lib.hid ((HRD.out W1 HBW1.out j r HR1.out).1 htt)
          rw [← HOJ.out] at HC
          have HCC := Lib.hid (show c = (if tt < j + 1 then 1 else 0) from by rw [hc0]; split <;> split <;> omega)
          clear htt hc0
          go_wp2_with fail
          refine HC.out.mono ?_
          rintro e W2 ⟨rv, rfl, ⟨A1, n1', c1', A2, n2', c2', rfl, hrv⟩, hb2⟩
          unfold recV
          obtain ⟨ga, hga⟩ : ∃ g, W2.heap.size = g := ⟨_, rfl⟩
          obtain ⟨W3, hW3⟩ : ∃ V, W2.alloc (.cells #[.int .u64 r.seq, .int .i64 r.kind, .slice A1 n1' c1', .slice A2 n2' c2', .int .u32 r.seg, .int .u32 r.off] 51) = V := ⟨_, rfl⟩
          have hb3 : Below W2.heap.size W2 W3 := by rw [← hW3]; exact al11 _ _
          have hb13 := bel11 hb2 hb3
          have hka : W3.heap[ga]? = some (.cells #[.int .u64 r.seq, .int .i64 r.kind, .slice A1 n1' c1', .slice A2 n2' c2', .int .u32 r.seg, .int .u32 r.off] 51 (0, 0)) := by rw [← hW3, ← hga]; exact heap_alloc_new W2 _
          obtain ⟨p0, p1, p2, p3, p4, p5⟩ := Sg.box6 hka
          obtain ⟨q0, q1, q2, q3, q4, q5⟩ := Sg.box6 (blk11 HK1.out hb13)
          have HSA := Lib.hid (same_t (r := r) ((hrv.below hb3 (Nat.le_refl _)).mono hb3.size) ((HRV.out.below hb13 (Nat.le_trans H18.out HBW1.out.size)).mono (Nat.le_trans H18.out (Nat.le_trans HBW1.out.size hb13.size))))
          have HB3 := Lib.hid (bel11 HBW1.out hb13)
          clear hrv hb2 hb3 hb13 hka
          go_wp2_with fail
          refine HSA.out.mono ?_
          rintro e W4 ⟨rfl, hb4⟩
          have HB4 := Lib.hid (bel11 HB3.out hb4)
          clear hb4
          go_wp2_with fail
          refine ⟨⟨j + 1, c, rfl, by push_cast; rfl, by omega, Lib.hid ⟨HCC.out, HB4.out⟩⟩, by simp [RowKit.intOf]; omega⟩
      · obtain rfl : n = j := by omega
        have hns : ¬ ((n : Int) < (n : Int)) := by omega
        have HBJ := Lib.hid hh.out.2
        go_wp2_with fail
        have hc0 := hh.out.1
        clear hh
        by_cases hk16 : k < 16
        · obtain ⟨rfl, hno⟩ := HFT.out.2.2.1 hk16
          rw [← HNN.out] at hno
          rw [if_neg hno] at hc0
          subst hc0
          refine Calls.mono (HLD.out _ HBJ.out) ?_
          rintro e x9 ⟨rv, rfl, hsv, hb9⟩
          obtain ⟨Af, cf, Ap, cp, q2, rfl, _⟩ := hsv.lit 7 0 23 0 0 rfl rfl rfl rfl rfl
          have HB9 := Lib.hid (bel11 HBJ.out hb9)
          clear hsv hb9
          obtain ⟨g17, hg17⟩ : ∃ g, x9.heap.size = g := ⟨_, rfl⟩
          obtain ⟨W10, hW10⟩ : ∃ V, x9.alloc (.cells #[.int .u32 7, .slice Af 0 cf, .slice Ap 0 cp, .int .i64 0, .int .i64 23] 44) = V := ⟨_, rfl⟩
          have hk17 : W10.heap[g17]? = some (.cells #[.int .u32 7, .slice Af 0 cf, .slice Ap 0 cp, .int .i64 0, .int .i64 23] 44 (0, 0)) := by rw [← hW10, ← hg17]; exact heap_alloc_new x9 _
          have HB10 := Lib.hid (bel11 HB9.out (show Below x9.heap.size x9 W10 from by rw [← hW10]; exact al11 _ _))
          have d1 := cell_of_row W10 g17 1 _ _ _ hk17
          have d4 := cell_of_row W10 g17 4 _ _ _ hk17
          have f1 : (k : Int) < 16 := by omega
          have f2 : ¬ ((k : Int) ≥ 16) := by omega
          clear hk17 hk16 hno
          go_wp2_with fail
          go_loopw [122] (fun iv wr => iv = .int .i64 0 ∧ Hid (Below x8.heap.size x8 wr)) (fun _ _ => 0)
          case atStart => exact ⟨rfl, HB10⟩
          case round =>
            as_aux_lemma =>
              obtain ⟨rfl, hh2⟩ := hrel
              go_wp2_with fail
              go_ret
              exact ⟨rfl, bel11 HBW.out hh2.out⟩
        · have htn := HFT.out.2.2.2.1 (by omega)
          rw [← HNN.out] at htn
          rw [if_pos htn] at hc0
          subst hc0
          refine Calls.mono (HLD.out _ HBJ.out) ?_
          rintro e x9 ⟨rv, rfl, hsv, hb9⟩
          obtain ⟨hs1, hs2, hs3, hs4, hs5, hs6⟩ := HFT.out.2.1
          obtain ⟨nf, hnf⟩ : ∃ m, S.found.length = m := ⟨_, rfl⟩
          obtain ⟨np, hnp⟩ : ∃ m, S.passed.length = m := ⟨_, rfl⟩
          obtain ⟨st, hst⟩ : ∃ m, (S.stop : Int) = m := ⟨_, rfl⟩
          obtain ⟨wy, hwy⟩ : ∃ m, (S.why : Int) = m := ⟨_, rfl⟩
          obtain ⟨Af, cf, Ap, cp, q2, rfl, hq2, hncf, hown2, hfq⟩ := hsv.lit2 7 st wy nf np (by rw [hs1]; rfl) hnf hnp hst hwy
          rw [hs1] at hown2
          have HB9 := Lib.hid (bel11 HBJ.out hb9)
          obtain ⟨g17, hg17⟩ : ∃ g, x9.heap.size = g := ⟨_, rfl⟩
          obtain ⟨W10, hW10⟩ : ∃ V, x9.alloc (.cells #[.int .u32 7, .slice Af nf cf, .slice Ap np cp, .int .i64 st, .int .i64 wy] 44) = V := ⟨_, rfl⟩
          have hk17 : W10.heap[g17]? = some (.cells #[.int .u32 7, .slice Af nf cf, .slice Ap np cp, .int .i64 st, .int .i64 wy] 44 (0, 0)) := by rw [← hW10, ← hg17]; exact heap_alloc_new x9 _
          have hb10 : Below x9.heap.size x9 W10 := by rw [← hW10]; exact al11 _ _
          have HB10 := Lib.hid (bel11 HB9.out hb10)
          have HOWF := Lib.hid (And.intro (own_below hown2 hb10 (Nat.le_refl _)) (And.intro (fun x hx => (hfq x hx).on hb10) hq2))
          have HSM := Lib.hid (And.intro hnf hs6)
          have d1 := cell_of_row W10 g17 1 _ _ _ hk17
          have d4 := cell_of_row W10 g17 4 _ _ _ hk17
          have f1 : ¬ ((k : Int) < 16) := by omega
          have f2 : (k : Int) ≥ 16 := by omega
          have hnf30 : nf ≤ 30 := by rw [← hnf]; exact hs2
          have HB00 := Lib.hid (Below.refl W10.heap.size W10)
          clear hk17 hk16 hsv hb9 hs1 hs2 hs3 hs4 hs5 hs6 hq2 hown2 hfq hb10 htn hnf hnp hst hwy
          go_wp2_with fail
          go_loopw [122] (fun iv wr => ∃ j : Nat, iv = .int .i64 (j : Int) ∧ j ≤ nf ∧ Hid (Below W10.heap.size W10 wr)) (fun iv _ => nf - (RowKit.intOf iv).toNat)
          case atStart => exact ⟨0, rfl, Nat.zero_le _, HB00⟩
          case round =>
            as_aux_lemma =>
              obtain ⟨j, rfl, hj2, hh2⟩ := hrel
              rename World => wr
              by_cases hjn2 : j < nf
              · obtain ⟨f, hf⟩ : ∃ f, S.found[j]? = some f := ⟨_, List.getElem?_eq_getElem (by rw [HSM.out.1]; exact hjn2)⟩
                obtain ⟨i, r, hr, rfl⟩ := HSM.out.2 f (List.mem_of_getElem? hf)
                obtain ⟨gF, Ak, nk, ck, Aw, nv, cw, rfl, hgF, c0, c1, c2, c3, c4, c5, c6, c7, c8, hbk, hbv⟩ := found_cells11 HOWF.out.1 HOWF.out.2.1 HOWF.out.2.2 (by omega) hf
                have hin : i < n := by rw [HNN.out]; exact (List.getElem?_eq_some_iff.1 hr).1
                have hsq := HL.out.num i r hr
                have hb := hh2.out
                dsimp only at c1 c2 c3 c4 c7 c8 hbk hbv
                obtain ⟨sq, hsq2⟩ : ∃ sq, sq = r.seq := ⟨_, rfl⟩
                obtain ⟨kd, hkd⟩ : ∃ sq, sq = r.kind := ⟨_, rfl⟩
                obtain ⟨sg, hsg⟩ : ∃ sq, sq = r.seg := ⟨_, rfl⟩
                obtain ⟨of, hof⟩ : ∃ sq, sq = r.off := ⟨_, rfl⟩
                obtain ⟨oi, hoi⟩ : ∃ oi, oi = Sg.offN L i := ⟨_, rfl⟩
                obtain ⟨zi, hzi⟩ : ∃ oi, oi = Rc.sizeN r := ⟨_, rfl⟩
                rw [← hoi] at c1
                rw [← hzi] at c2
                rw [← hsq2] at c3
                rw [← hkd] at c4
                rw [← hsg] at c7
                rw [← hof] at c8
                have c0 := (hb.cell (fblock_of_cell c0)).trans c0
                have c1 := (hb.cell (fblock_of_cell c1)).trans c1
                have c2 := (hb.cell (fblock_of_cell c2)).trans c2
                have c3 := (hb.cell (fblock_of_cell c3)).trans c3
                have c4 := (hb.cell (fblock_of_cell c4)).trans c4
                have c5 := (hb.cell (fblock_of_cell c5)).trans c5
                have c6 := (hb.cell (fblock_of_cell c6)).trans c6
                have c7 := (hb.cell (fblock_of_cell c7)).trans c7
                have c8 := (hb.cell (fblock_of_cell c8)).trans c8
                obtain ⟨b, o, rfl, hbB, kv, vv, e0, e1, e2, e3, e4, e5, hk2, hw2, hfit⟩ := HREC.out i r hr
                obtain ⟨K1, k1', rfl, _, _⟩ := id hk2
                obtain ⟨K2, k2', rfl, _, _⟩ := id hw2
                obtain ⟨n1, hn1⟩ : ∃ n1, n1 = r.key.length := ⟨_, rfl⟩
                obtain ⟨n2, hn2⟩ : ∃ n2, n2 = r.val.length := ⟨_, rfl⟩
                rw [← hn1] at hk2 e2
                rw [← hn2] at hw2 e3
                rw [← hsq2] at e0
                rw [← hkd] at e1
                rw [← hsg] at e4
                rw [← hof] at e5
                have hbx8 := bel11 HB10.out hb
                have hbx : b < x8.heap.size := by have := H18.out; omega
                obtain ⟨gl, rfl, hgl⟩ := Sc.own_at HROW.out (by omega)
                obtain ⟨t0, t1⟩ := loc_cells HROW.out hin
                rw [← hoi] at t1
                obtain ⟨gf, hgf⟩ : ∃ g, wr.heap.size = g := ⟨_, rfl⟩
                obtain ⟨W11, hW11⟩ : ∃ V, wr.alloc (.cells #[.int .u32 7, .int .u32 (oi : Int), .int .i64 (zi : Int), .int .u64 sq, .int .i64 kd, .slice Ak nk ck, .slice Aw nv cw, .int .u32 sg, .int .u32 of] 56) = V := ⟨_, rfl⟩
                have hbW : Below wr.heap.size wr W11 := by rw [← hW11]; exact al11 _ _
                have hkf : W11.heap[gf]? = some (.cells #[.int .u32 7, .int .u32 (oi : Int), .int .i64 (zi : Int), .int .u64 sq, .int .i64 kd, .slice Ak nk ck, .slice Aw nv cw, .int .u32 sg, .int .u32 of] 56 (0, 0)) := by rw [← hW11, ← hgf]; exact heap_alloc_new wr _
                have hb11 := bel11 hbx8 hbW
                have HKP := Lib.hid (show ∀ V : World, Below W11.heap.size W11 V → (V.heap[gf]? = some (.cells #[.int .u32 7, .int .u32 (oi : Int), .int .i64 (zi : Int), .int .u64 sq, .int .i64 kd, .slice Ak nk ck, .slice Aw nv cw, .int .u32 sg, .int .u32 of] 56 (0, 0)) ∧ V.cell? ⟨gl, i * 2, none⟩ = some (.int .u32 7) ∧ V.cell? ⟨gl, i * 2 + 1, none⟩ = some (.int .u32 (oi : Int)) ∧ V.cell? ⟨b, o + i * 6, none⟩ = some (.int .u64 sq) ∧ V.cell? ⟨b, o + i * 6 + 1, none⟩ = some (.int .i64 kd) ∧ V.cell? ⟨b, o + i * 6 + 2, none⟩ = some (.slice K1 n1 k1') ∧ V.cell? ⟨b, o + i * 6 + 3, none⟩ = some (.slice K2 n2 k2') ∧ V.cell? ⟨b, o + i * 6 + 4, none⟩ = some (.int .u32 sg) ∧ V.cell? ⟨b, o + i * 6 + 5, none⟩ = some (.int .u32 of)) from fun V hV => by
                  have hx := bel11 hb11 hV
                  exact ⟨blk11 hkf hV, (hx.cell (fblock_of_cell t0)).trans t0, (hx.cell (fblock_of_cell t1)).trans t1, (hx.cell (p := ⟨b, o + i * 6, none⟩) hbx).trans e0, (hx.cell (p := ⟨b, o + i * 6 + 1, none⟩) hbx).trans e1, (hx.cell (p := ⟨b, o + i * 6 + 2, none⟩) hbx).trans e2, (hx.cell (p := ⟨b, o + i * 6 + 3, none⟩) hbx).trans e3, (hx.cell (p := ⟨b, o + i * 6 + 4, none⟩) hbx).trans e4, (hx.cell (p := ⟨b, o + i * 6 + 5, none⟩) hbx).trans e5⟩)
                have HSA := Lib.hid (show ∀ V : World, Below W11.heap.size W11 V → Calls Tryz.prog 16 #[.agg #[.int .u64 sq, .int .i64 kd, .slice Ak nk ck, .slice Aw nv cw, .int .u32 sg, .int .u32 of], .agg #[.int .u64 sq, .int .i64 kd, .slice K1 n1 k1', .slice K2 n2 k2', .int .u32 sg, .int .u32 of]] V fun e w' => e = .returned (.bool true) ∧ Below V.heap.size V w' from fun V hV => by
                  have hx := bel11 (bel11 hb hbW) hV
                  have hy := bel11 hb11 hV
                  have h8 := Nat.le_trans H18.out hy.size
                  rw [hsq2, hkd, hsg, hof]
                  exact same_t (r := r) ⟨_, _, rfl, hbk.below hx (Nat.le_refl _) |>.mono hx.size, hbv.below hx (Nat.le_refl _) |>.mono hx.size⟩ ⟨_, _, rfl, (hk2.below hy H18.out).mono h8, (hw2.below hy H18.out).mono h8⟩)
                have s1 : decide (sq < 1) = false := decide_eq_false (by omega)
                have s2 : decide (sq > (n : Int)) = false := decide_eq_false (by omega)
                have s5 : decide ((n : Int) < sq) = false := decide_eq_false (by omega)
                have s3 : IntKind.u64.wrap (sq - 1) = (i : Int) := by rw [IntWalk.u64_in _ (by omega)]; omega
                have s4 : IntKind.u64.wrap (n : Int) = (n : Int) := IntWalk.u64_in _ (by omega)
                have HBF := Lib.hid (bel11 hb hbW)
                clear hf hr hgF hbk hbv hsq hb hkd hsg hof hoi hzi e0 e1 e2 e3 e4 e5 hk2 hw2 hfit hn1 hn2 hbx hbx8 t0 t1 hgl hbW hkf hb11 hbB hsq2
                go_wp2_with fail
                refine wp_region_noPanic ?_
                have hb0 : Below W11.heap.size W11 W11.drew := (Below.refl _ _).drew
                refine wp_region_held_drew (S := fun V : World => V.heap[gf]? = some (.cells #[.int .u32 7, .int .u32 (oi : Int), .int .i64 (zi : Int), .int .u64 sq, .int .i64 kd, .slice Ak nk ck, .slice Aw nv cw, .int .u32 sg, .int .u32 of] 56 (0, 0)) ∧ V.cell? ⟨gl, i * 2, none⟩ = some (.int .u32 7) ∧ V.cell? ⟨gl, i * 2 + 1, none⟩ = some (.int .u32 (oi : Int)) ∧ V.cell? ⟨b, o + i * 6, none⟩ = some (.int .u64 sq) ∧ V.cell? ⟨b, o + i * 6 + 1, none⟩ = some (.int .i64 kd) ∧ V.cell? ⟨b, o + i * 6 + 2, none⟩ = some (.slice K1 n1 k1') ∧ V.cell? ⟨b, o + i * 6 + 3, none⟩ = some (.slice K2 n2 k2') ∧ V.cell? ⟨b, o + i * 6 + 4, none⟩ = some (.int .u32 sg) ∧ V.cell? ⟨b, o + i * 6 + 5, none⟩ = some (.int .u32 of)) (by kernel_rfl) (HKP.out _ hb0) (fun hHeld => ?_)
                generalize World.drew W11 = V0 at *
                refine wpAnyH_take (i := 0) (v := ?_) opAt_0 (by kernel_rfl) (by kernel_rfl) (by kernel_rfl) (fun _ _ _ h => h) (Or.inl ⟨by rfl, ?_⟩) (by assumption) ?_
                rotate_left
                · (intro w hSw; obtain ⟨hF, t0, t1, e0, e1, e2, e3, e4, e5⟩ := hSw; have m0 := cell_of_row w gf 0 _ _ _ hF; have m1 := cell_of_row w gf 1 _ _ _ hF; have m2 := cell_of_row w gf 2 _ _ _ hF; have m3 := cell_of_row w gf 3 _ _ _ hF; have m4 := cell_of_row w gf 4 _ _ _ hF; have m5 := cell_of_row w gf 5 _ _ _ hF; have m6 := cell_of_row w gf 6 _ _ _ hF; have m7 := cell_of_row w gf 7 _ _ _ hF; have m8 := cell_of_row w gf 8 _ _ _ hF; go_simp; try with_reducible rfl)
                try simp only [Act.put, List.setIfInBounds_toArray, List.set_cons_zero, List.set_cons_succ]
                refine wpAnyH_take (i := 1) (v := ?_) opAt_1 (by kernel_rfl) (by kernel_rfl) (by kernel_rfl) (fun _ _ _ h => h) (Or.inl ⟨by rfl, ?_⟩) (by assumption) ?_
                rotate_left
                · (intro w hSw; obtain ⟨hF, t0, t1, e0, e1, e2, e3, e4, e5⟩ := hSw; have m0 := cell_of_row w gf 0 _ _ _ hF; have m1 := cell_of_row w gf 1 _ _ _ hF; have m2 := cell_of_row w gf 2 _ _ _ hF; have m3 := cell_of_row w gf 3 _ _ _ hF; have m4 := cell_of_row w gf 4 _ _ _ hF; have m5 := cell_of_row w gf 5 _ _ _ hF; have m6 := cell_of_row w gf 6 _ _ _ hF; have m7 := cell_of_row w gf 7 _ _ _ hF; have m8 := cell_of_row w gf 8 _ _ _ hF; go_simp; try with_reducible rfl)
                try simp only [Act.put, List.setIfInBounds_toArray, List.set_cons_zero, List.set_cons_succ]
                refine wpAnyH_take (i := 2) (v := ?_) opAt_2 (by kernel_rfl) (by kernel_rfl) (by kernel_rfl) (fun _ _ _ h => h) (Or.inl ⟨by rfl, ?_⟩) (by assumption) ?_
                rotate_left
                · (intro w hSw; obtain ⟨hF, t0, t1, e0, e1, e2, e3, e4, e5⟩ := hSw; have m0 := cell_of_row w gf 0 _ _ _ hF; have m1 := cell_of_row w gf 1 _ _ _ hF; have m2 := cell_of_row w gf 2 _ _ _ hF; have m3 := cell_of_row w gf 3 _ _ _ hF; have m4 := cell_of_row w gf 4 _ _ _ hF; have m5 := cell_of_row w gf 5 _ _ _ hF; have m6 := cell_of_row w gf 6 _ _ _ hF; have m7 := cell_of_row w gf 7 _ _ _ hF; have m8 := cell_of_row w gf 8 _ _ _ hF; go_simp; try with_reducible rfl)
                try simp only [Act.put, List.setIfInBounds_toArray, List.set_cons_zero, List.set_cons_succ]
                refine wpAnyH_take (i := 3) (v := ?_) opAt_3 (by kernel_rfl) (by kernel_rfl) (by kernel_rfl) (fun _ _ _ h => h) (Or.inl ⟨by rfl, ?_⟩) (by assumption) ?_
                rotate_left
                · (intro w hSw; obtain ⟨hF, t0, t1, e0, e1, e2, e3, e4, e5⟩ := hSw; have m0 := cell_of_row w gf 0 _ _ _ hF; have m1 := cell_of_row w gf 1 _ _ _ hF; have m2 := cell_of_row w gf 2 _ _ _ hF; have m3 := cell_of_row w gf 3 _ _ _ hF; have m4 := cell_of_row w gf 4 _ _ _ hF; have m5 := cell_of_row w gf 5 _ _ _ hF; have m6 := cell_of_row w gf 6 _ _ _ hF; have m7 := cell_of_row w gf 7 _ _ _ hF; have m8 := cell_of_row w gf 8 _ _ _ hF; go_simp; try with_reducible rfl)
                try simp only [Act.put, List.setIfInBounds_toArray, List.set_cons_zero, List.set_cons_succ]
                refine wpAnyH_take (i := 4) (v := ?_) opAt_4 (by kernel_rfl) (by kernel_rfl) (by kernel_rfl) (fun _ _ _ h => h) (Or.inl ⟨by rfl, ?_⟩) (by assumption) ?_
                rotate_left
                · (intro w hSw; obtain ⟨hF, t0, t1, e0, e1, e2, e3, e4, e5⟩ := hSw; have m0 := cell_of_row w gf 0 _ _ _ hF; have m1 := cell_of_row w gf 1 _ _ _ hF; have m2 := cell_of_row w gf 2 _ _ _ hF; have m3 := cell_of_row w gf 3 _ _ _ hF; have m4 := cell_of_row w gf 4 _ _ _ hF; have m5 := cell_of_row w gf 5 _ _ _ hF; have m6 := cell_of_row w gf 6 _ _ _ hF; have m7 := cell_of_row w gf 7 _ _ _ hF; have m8 := cell_of_row w gf 8 _ _ _ hF; go_simp; try with_reducible rfl)
                try simp only [Act.put, List.setIfInBounds_toArray, List.set_cons_zero, List.set_cons_succ]
                refine wpAnyH_take (i := 5) (v := ?_) opAt_5 (by kernel_rfl) (by kernel_rfl) (by kernel_rfl) (fun _ _ _ h => h) (Or.inl ⟨by rfl, ?_⟩) (by assumption) ?_
                rotate_left
                · (intro w hSw; obtain ⟨hF, t0, t1, e0, e1, e2, e3, e4, e5⟩ := hSw; have m0 := cell_of_row w gf 0 _ _ _ hF; have m1 := cell_of_row w gf 1 _ _ _ hF; have m2 := cell_of_row w gf 2 _ _ _ hF; have m3 := cell_of_row w gf 3 _ _ _ hF; have m4 := cell_of_row w gf 4 _ _ _ hF; have m5 := cell_of_row w gf 5 _ _ _ hF; have m6 := cell_of_row w gf 6 _ _ _ hF; have m7 := cell_of_row w gf 7 _ _ _ hF; have m8 := cell_of_row w gf 8 _ _ _ hF; go_simp; try with_reducible rfl)
                try simp only [Act.put, List.setIfInBounds_toArray, List.set_cons_zero, List.set_cons_succ]
                refine wpAnyH_take (i := 6) (v := ?_) opAt_6 (by kernel_rfl) (by kernel_rfl) (by kernel_rfl) (fun _ _ _ h => h) (Or.inl ⟨by rfl, ?_⟩) (by assumption) ?_
                rotate_left
                · (intro w hSw; obtain ⟨hF, t0, t1, e0, e1, e2, e3, e4, e5⟩ := hSw; have m0 := cell_of_row w gf 0 _ _ _ hF; have m1 := cell_of_row w gf 1 _ _ _ hF; have m2 := cell_of_row w gf 2 _ _ _ hF; have m3 := cell_of_row w gf 3 _ _ _ hF; have m4 := cell_of_row w gf 4 _ _ _ hF; have m5 := cell_of_row w gf 5 _ _ _ hF; have m6 := cell_of_row w gf 6 _ _ _ hF; have m7 := cell_of_row w gf 7 _ _ _ hF; have m8 := cell_of_row w gf 8 _ _ _ hF; go_simp; try with_reducible rfl)
                try simp only [Act.put, List.setIfInBounds_toArray, List.set_cons_zero, List.set_cons_succ]
                refine wpAnyH_take (i := 7) (v := ?_) opAt_7 (by kernel_rfl) (by kernel_rfl) (by kernel_rfl) (fun _ _ _ h => h) (Or.inl ⟨by rfl, ?_⟩) (by assumption) ?_
                rotate_left
                · (intro w hSw; obtain ⟨hF, t0, t1, e0, e1, e2, e3, e4, e5⟩ := hSw; have m0 := cell_of_row w gf 0 _ _ _ hF; have m1 := cell_of_row w gf 1 _ _ _ hF; have m2 := cell_of_row w gf 2 _ _ _ hF; have m3 := cell_of_row w gf 3 _ _ _ hF; have m4 := cell_of_row w gf 4 _ _ _ hF; have m5 := cell_of_row w gf 5 _ _ _ hF; have m6 := cell_of_row w gf 6 _ _ _ hF; have m7 := cell_of_row w gf 7 _ _ _ hF; have m8 := cell_of_row w gf 8 _ _ _ hF; go_simp; try with_reducible rfl)
                try simp only [Act.put, List.setIfInBounds_toArray, List.set_cons_zero, List.set_cons_succ]
                refine wpAnyH_take (i := 8) (v := ?_) opAt_8 (by kernel_rfl) (by kernel_rfl) (by kernel_rfl) (fun _ _ _ h => h) (Or.inl ⟨by rfl, ?_⟩) (by assumption) ?_
                rotate_left
                · (intro w hSw; obtain ⟨hF, t0, t1, e0, e1, e2, e3, e4, e5⟩ := hSw; have m0 := cell_of_row w gf 0 _ _ _ hF; have m1 := cell_of_row w gf 1 _ _ _ hF; have m2 := cell_of_row w gf 2 _ _ _ hF; have m3 := cell_of_row w gf 3 _ _ _ hF; have m4 := cell_of_row w gf 4 _ _ _ hF; have m5 := cell_of_row w gf 5 _ _ _ hF; have m6 := cell_of_row w gf 6 _ _ _ hF; have m7 := cell_of_row w gf 7 _ _ _ hF; have m8 := cell_of_row w gf 8 _ _ _ hF; go_simp; try with_reducible rfl)
                try simp only [Act.put, List.setIfInBounds_toArray, List.set_cons_zero, List.set_cons_succ]
                refine wpAnyH_take (i := 9) (v := ?_) opAt_9 (by kernel_rfl) (by kernel_rfl) (by kernel_rfl) (fun _ _ _ h => h) (Or.inl ⟨by rfl, ?_⟩) (by assumption) ?_
                rotate_left
                · (intro w hSw; obtain ⟨hF, t0, t1, e0, e1, e2, e3, e4, e5⟩ := hSw; have m0 := cell_of_row w gf 0 _ _ _ hF; have m1 := cell_of_row w gf 1 _ _ _ hF; have m2 := cell_of_row w gf 2 _ _ _ hF; have m3 := cell_of_row w gf 3 _ _ _ hF; have m4 := cell_of_row w gf 4 _ _ _ hF; have m5 := cell_of_row w gf 5 _ _ _ hF; have m6 := cell_of_row w gf 6 _ _ _ hF; have m7 := cell_of_row w gf 7 _ _ _ hF; have m8 := cell_of_row w gf 8 _ _ _ hF; go_simp; try with_reducible rfl)
                try simp only [Act.put, List.setIfInBounds_toArray, List.set_cons_zero, List.set_cons_succ]
                refine wpAnyH_take (i := 10) (v := ?_) opAt_10 (by kernel_rfl) (by kernel_rfl) (by kernel_rfl) (fun _ _ _ h => h) (Or.inl ⟨by rfl, ?_⟩) (by assumption) ?_
                rotate_left
                · (intro w hSw; obtain ⟨hF, t0, t1, e0, e1, e2, e3, e4, e5⟩ := hSw; have m0 := cell_of_row w gf 0 _ _ _ hF; have m1 := cell_of_row w gf 1 _ _ _ hF; have m2 := cell_of_row w gf 2 _ _ _ hF; have m3 := cell_of_row w gf 3 _ _ _ hF; have m4 := cell_of_row w gf 4 _ _ _ hF; have m5 := cell_of_row w gf 5 _ _ _ hF; have m6 := cell_of_row w gf 6 _ _ _ hF; have m7 := cell_of_row w gf 7 _ _ _ hF; have m8 := cell_of_row w gf 8 _ _ _ hF; go_simp; try with_reducible rfl)
                try simp only [Act.put, List.setIfInBounds_toArray, List.set_cons_zero, List.set_cons_succ]
                refine wpAnyH_take (i := 11) (v := ?_) opAt_11 (by kernel_rfl) (by kernel_rfl) (by kernel_rfl) (fun _ _ _ h => h) (Or.inl ⟨by rfl, ?_⟩) (by assumption) ?_
                rotate_left
                · (intro w hSw; obtain ⟨hF, t0, t1, e0, e1, e2, e3, e4, e5⟩ := hSw; have m0 := cell_of_row w gf 0 _ _ _ hF; have m1 := cell_of_row w gf 1 _ _ _ hF; have m2 := cell_of_row w gf 2 _ _ _ hF; have m3 := cell_of_row w gf 3 _ _ _ hF; have m4 := cell_of_row w gf 4 _ _ _ hF; have m5 := cell_of_row w gf 5 _ _ _ hF; have m6 := cell_of_row w gf 6 _ _ _ hF; have m7 := cell_of_row w gf 7 _ _ _ hF; have m8 := cell_of_row w gf 8 _ _ _ hF; go_simp; try with_reducible rfl)
                try simp only [Act.put, List.setIfInBounds_toArray, List.set_cons_zero, List.set_cons_succ]
                refine wpAnyH_take (i := 12) (v := ?_) opAt_12 (by kernel_rfl) (by kernel_rfl) (by kernel_rfl) (fun _ _ _ h => h) (Or.inl ⟨by rfl, ?_⟩) (by assumption) ?_
                rotate_left
                · (intro w hSw; obtain ⟨hF, t0, t1, e0, e1, e2, e3, e4, e5⟩ := hSw; have m0 := cell_of_row w gf 0 _ _ _ hF; have m1 := cell_of_row w gf 1 _ _ _ hF; have m2 := cell_of_row w gf 2 _ _ _ hF; have m3 := cell_of_row w gf 3 _ _ _ hF; have m4 := cell_of_row w gf 4 _ _ _ hF; have m5 := cell_of_row w gf 5 _ _ _ hF; have m6 := cell_of_row w gf 6 _ _ _ hF; have m7 := cell_of_row w gf 7 _ _ _ hF; have m8 := cell_of_row w gf 8 _ _ _ hF; go_simp; try with_reducible rfl)
                try simp only [Act.put, List.setIfInBounds_toArray, List.set_cons_zero, List.set_cons_succ]
                refine wpAnyH_take (i := 13) (v := ?_) opAt_13 (by kernel_rfl) (by kernel_rfl) (by kernel_rfl) (fun _ _ _ h => h) (Or.inl ⟨by rfl, ?_⟩) (by assumption) ?_
                rotate_left
                · (intro w hSw; obtain ⟨hF, t0, t1, e0, e1, e2, e3, e4, e5⟩ := hSw; have m0 := cell_of_row w gf 0 _ _ _ hF; have m1 := cell_of_row w gf 1 _ _ _ hF; have m2 := cell_of_row w gf 2 _ _ _ hF; have m3 := cell_of_row w gf 3 _ _ _ hF; have m4 := cell_of_row w gf 4 _ _ _ hF; have m5 := cell_of_row w gf 5 _ _ _ hF; have m6 := cell_of_row w gf 6 _ _ _ hF; have m7 := cell_of_row w gf 7 _ _ _ hF; have m8 := cell_of_row w gf 8 _ _ _ hF; go_simp; try with_reducible rfl)
                try simp only [Act.put, List.setIfInBounds_toArray, List.set_cons_zero, List.set_cons_succ]
                refine wpAnyH_take (i := 14) (v := ?_) opAt_14 (by kernel_rfl) (by kernel_rfl) (by kernel_rfl) (fun _ _ _ h => h) (Or.inl ⟨by rfl, ?_⟩) (by assumption) ?_
                rotate_left
                · (intro w hSw; obtain ⟨hF, t0, t1, e0, e1, e2, e3, e4, e5⟩ := hSw; have m0 := cell_of_row w gf 0 _ _ _ hF; have m1 := cell_of_row w gf 1 _ _ _ hF; have m2 := cell_of_row w gf 2 _ _ _ hF; have m3 := cell_of_row w gf 3 _ _ _ hF; have m4 := cell_of_row w gf 4 _ _ _ hF; have m5 := cell_of_row w gf 5 _ _ _ hF; have m6 := cell_of_row w gf 6 _ _ _ hF; have m7 := cell_of_row w gf 7 _ _ _ hF; have m8 := cell_of_row w gf 8 _ _ _ hF; go_simp; try with_reducible rfl)
                try simp only [Act.put, List.setIfInBounds_toArray, List.set_cons_zero, List.set_cons_succ]
                refine wpAnyH_take (i := 15) (v := ?_) opAt_15 (by kernel_rfl) (by kernel_rfl) (by kernel_rfl) (fun _ _ _ h => h) (Or.inl ⟨by rfl, ?_⟩) (by assumption) ?_
                rotate_left
                · (intro w hSw; obtain ⟨hF, t0, t1, e0, e1, e2, e3, e4, e5⟩ := hSw; have m0 := cell_of_row w gf 0 _ _ _ hF; have m1 := cell_of_row w gf 1 _ _ _ hF; have m2 := cell_of_row w gf 2 _ _ _ hF; have m3 := cell_of_row w gf 3 _ _ _ hF; have m4 := cell_of_row w gf 4 _ _ _ hF; have m5 := cell_of_row w gf 5 _ _ _ hF; have m6 := cell_of_row w gf 6 _ _ _ hF; have m7 := cell_of_row w gf 7 _ _ _ hF; have m8 := cell_of_row w gf 8 _ _ _ hF; go_simp; try with_reducible rfl)
                try simp only [Act.put, List.setIfInBounds_toArray, List.set_cons_zero, List.set_cons_succ]
                refine wpAnyH_take (i := 16) (v := ?_) opAt_16 (by kernel_rfl) (by kernel_rfl) (by kernel_rfl) (fun _ _ _ h => h) (Or.inl ⟨by rfl, ?_⟩) (by assumption) ?_
                rotate_left
                · (intro w hSw; obtain ⟨hF, t0, t1, e0, e1, e2, e3, e4, e5⟩ := hSw; have m0 := cell_of_row w gf 0 _ _ _ hF; have m1 := cell_of_row w gf 1 _ _ _ hF; have m2 := cell_of_row w gf 2 _ _ _ hF; have m3 := cell_of_row w gf 3 _ _ _ hF; have m4 := cell_of_row w gf 4 _ _ _ hF; have m5 := cell_of_row w gf 5 _ _ _ hF; have m6 := cell_of_row w gf 6 _ _ _ hF; have m7 := cell_of_row w gf 7 _ _ _ hF; have m8 := cell_of_row w gf 8 _ _ _ hF; go_simp; try with_reducible rfl)
                try simp only [Act.put, List.setIfInBounds_toArray, List.set_cons_zero, List.set_cons_succ]
                refine wpAnyH_take (i := 17) (v := ?_) opAt_17 (by kernel_rfl) (by kernel_rfl) (by kernel_rfl) (fun _ _ _ h => h) (Or.inl ⟨by rfl, ?_⟩) (by assumption) ?_
                rotate_left
                · (intro w hSw; obtain ⟨hF, t0, t1, e0, e1, e2, e3, e4, e5⟩ := hSw; have m0 := cell_of_row w gf 0 _ _ _ hF; have m1 := cell_of_row w gf 1 _ _ _ hF; have m2 := cell_of_row w gf 2 _ _ _ hF; have m3 := cell_of_row w gf 3 _ _ _ hF; have m4 := cell_of_row w gf 4 _ _ _ hF; have m5 := cell_of_row w gf 5 _ _ _ hF; have m6 := cell_of_row w gf 6 _ _ _ hF; have m7 := cell_of_row w gf 7 _ _ _ hF; have m8 := cell_of_row w gf 8 _ _ _ hF; go_simp; try with_reducible rfl)
                try simp only [Act.put, List.setIfInBounds_toArray, List.set_cons_zero, List.set_cons_succ]
                refine wpAnyH_take (i := 18) (v := ?_) opAt_18 (by kernel_rfl) (by kernel_rfl) (by kernel_rfl) (fun _ _ _ h => h) (Or.inl ⟨by rfl, ?_⟩) (by assumption) ?_
                rotate_left
                · (intro w hSw; obtain ⟨hF, t0, t1, e0, e1, e2, e3, e4, e5⟩ := hSw; have m0 := cell_of_row w gf 0 _ _ _ hF; have m1 := cell_of_row w gf 1 _ _ _ hF; have m2 := cell_of_row w gf 2 _ _ _ hF; have m3 := cell_of_row w gf 3 _ _ _ hF; have m4 := cell_of_row w gf 4 _ _ _ hF; have m5 := cell_of_row w gf 5 _ _ _ hF; have m6 := cell_of_row w gf 6 _ _ _ hF; have m7 := cell_of_row w gf 7 _ _ _ hF; have m8 := cell_of_row w gf 8 _ _ _ hF; go_simp; try with_reducible rfl)
                try simp only [Act.put, List.setIfInBounds_toArray, List.set_cons_zero, List.set_cons_succ]
                refine wpAnyH_take (i := 19) (v := ?_) opAt_19 (by kernel_rfl) (by kernel_rfl) (by kernel_rfl) (fun _ _ _ h => h) (Or.inl ⟨by rfl, ?_⟩) (by assumption) ?_
                rotate_left
                · (intro w hSw; obtain ⟨hF, t0, t1, e0, e1, e2, e3, e4, e5⟩ := hSw; have m0 := cell_of_row w gf 0 _ _ _ hF; have m1 := cell_of_row w gf 1 _ _ _ hF; have m2 := cell_of_row w gf 2 _ _ _ hF; have m3 := cell_of_row w gf 3 _ _ _ hF; have m4 := cell_of_row w gf 4 _ _ _ hF; have m5 := cell_of_row w gf 5 _ _ _ hF; have m6 := cell_of_row w gf 6 _ _ _ hF; have m7 := cell_of_row w gf 7 _ _ _ hF; have m8 := cell_of_row w gf 8 _ _ _ hF; go_simp; try with_reducible rfl)
                try simp only [Act.put, List.setIfInBounds_toArray, List.set_cons_zero, List.set_cons_succ]
                refine wpAnyH_take (i := 20) (v := ?_) opAt_20 (by kernel_rfl) (by kernel_rfl) (by kernel_rfl) (fun _ _ _ h => h) (Or.inl ⟨by rfl, ?_⟩) (by assumption) ?_
                rotate_left
                · (intro w hSw; obtain ⟨hF, t0, t1, e0, e1, e2, e3, e4, e5⟩ := hSw; have m0 := cell_of_row w gf 0 _ _ _ hF; have m1 := cell_of_row w gf 1 _ _ _ hF; have m2 := cell_of_row w gf 2 _ _ _ hF; have m3 := cell_of_row w gf 3 _ _ _ hF; have m4 := cell_of_row w gf 4 _ _ _ hF; have m5 := cell_of_row w gf 5 _ _ _ hF; have m6 := cell_of_row w gf 6 _ _ _ hF; have m7 := cell_of_row w gf 7 _ _ _ hF; have m8 := cell_of_row w gf 8 _ _ _ hF; go_simp; try with_reducible rfl)
                try simp only [Act.put, List.setIfInBounds_toArray, List.set_cons_zero, List.set_cons_succ]
                refine wpAnyH_take (i := 21) (v := ?_) opAt_21 (by kernel_rfl) (by kernel_rfl) (by kernel_rfl) (fun _ _ _ h => h) (Or.inl ⟨by rfl, ?_⟩) (by assumption) ?_
                rotate_left
                · (intro w hSw; obtain ⟨hF, t0, t1, e0, e1, e2, e3, e4, e5⟩ := hSw; have m0 := cell_of_row w gf 0 _ _ _ hF; have m1 := cell_of_row w gf 1 _ _ _ hF; have m2 := cell_of_row w gf 2 _ _ _ hF; have m3 := cell_of_row w gf 3 _ _ _ hF; have m4 := cell_of_row w gf 4 _ _ _ hF; have m5 := cell_of_row w gf 5 _ _ _ hF; have m6 := cell_of_row w gf 6 _ _ _ hF; have m7 := cell_of_row w gf 7 _ _ _ hF; have m8 := cell_of_row w gf 8 _ _ _ hF; go_simp; try with_reducible rfl)
                try simp only [Act.put, List.setIfInBounds_toArray, List.set_cons_zero, List.set_cons_succ]
                refine wpAnyH_take (i := 22) (v := ?_) opAt_22 (by kernel_rfl) (by kernel_rfl) (by kernel_rfl) (fun _ _ _ h => h) (Or.inl ⟨by rfl, ?_⟩) (by assumption) ?_
                rotate_left
                · (intro w hSw; obtain ⟨hF, t0, t1, e0, e1, e2, e3, e4, e5⟩ := hSw; have m0 := cell_of_row w gf 0 _ _ _ hF; have m1 := cell_of_row w gf 1 _ _ _ hF; have m2 := cell_of_row w gf 2 _ _ _ hF; have m3 := cell_of_row w gf 3 _ _ _ hF; have m4 := cell_of_row w gf 4 _ _ _ hF; have m5 := cell_of_row w gf 5 _ _ _ hF; have m6 := cell_of_row w gf 6 _ _ _ hF; have m7 := cell_of_row w gf 7 _ _ _ hF; have m8 := cell_of_row w gf 8 _ _ _ hF; go_simp; try with_reducible rfl)
                try simp only [Act.put, List.setIfInBounds_toArray, List.set_cons_zero, List.set_cons_succ]
                refine wpAnyH_take (i := 23) (v := ?_) opAt_23 (by kernel_rfl) (by kernel_rfl) (by kernel_rfl) (fun _ _ _ h => h) (Or.inl ⟨by rfl, ?_⟩) (by assumption) ?_
                rotate_left
                · (intro w hSw; obtain ⟨hF, t0, t1, e0, e1, e2, e3, e4, e5⟩ := hSw; have m0 := cell_of_row w gf 0 _ _ _ hF; have m1 := cell_of_row w gf 1 _ _ _ hF; have m2 := cell_of_row w gf 2 _ _ _ hF; have m3 := cell_of_row w gf 3 _ _ _ hF; have m4 := cell_of_row w gf 4 _ _ _ hF; have m5 := cell_of_row w gf 5 _ _ _ hF; have m6 := cell_of_row w gf 6 _ _ _ hF; have m7 := cell_of_row w gf 7 _ _ _ hF; have m8 := cell_of_row w gf 8 _ _ _ hF; go_simp; try with_reducible rfl)
                try simp only [Act.put, List.setIfInBounds_toArray, List.set_cons_zero, List.set_cons_succ]
                refine wpAnyH_take (i := 24) (v := ?_) opAt_24 (by kernel_rfl) (by kernel_rfl) (by kernel_rfl) (fun _ _ _ h => h) (Or.inl ⟨by rfl, ?_⟩) (by assumption) ?_
                rotate_left
                · (intro w hSw; obtain ⟨hF, t0, t1, e0, e1, e2, e3, e4, e5⟩ := hSw; have m0 := cell_of_row w gf 0 _ _ _ hF; have m1 := cell_of_row w gf 1 _ _ _ hF; have m2 := cell_of_row w gf 2 _ _ _ hF; have m3 := cell_of_row w gf 3 _ _ _ hF; have m4 := cell_of_row w gf 4 _ _ _ hF; have m5 := cell_of_row w gf 5 _ _ _ hF; have m6 := cell_of_row w gf 6 _ _ _ hF; have m7 := cell_of_row w gf 7 _ _ _ hF; have m8 := cell_of_row w gf 8 _ _ _ hF; go_simp; try with_reducible rfl)
                try simp only [Act.put, List.setIfInBounds_toArray, List.set_cons_zero, List.set_cons_succ]
                refine wpAnyH_take (i := 25) (v := ?_) opAt_25 (by kernel_rfl) (by kernel_rfl) (by kernel_rfl) (fun _ _ _ h => h) (Or.inl ⟨by rfl, ?_⟩) (by assumption) ?_
                rotate_left
                · (intro w hSw; obtain ⟨hF, t0, t1, e0, e1, e2, e3, e4, e5⟩ := hSw; have m0 := cell_of_row w gf 0 _ _ _ hF; have m1 := cell_of_row w gf 1 _ _ _ hF; have m2 := cell_of_row w gf 2 _ _ _ hF; have m3 := cell_of_row w gf 3 _ _ _ hF; have m4 := cell_of_row w gf 4 _ _ _ hF; have m5 := cell_of_row w gf 5 _ _ _ hF; have m6 := cell_of_row w gf 6 _ _ _ hF; have m7 := cell_of_row w gf 7 _ _ _ hF; have m8 := cell_of_row w gf 8 _ _ _ hF; go_simp; try with_reducible rfl)
                try simp only [Act.put, List.setIfInBounds_toArray, List.set_cons_zero, List.set_cons_succ]
                refine wpAnyH_take (i := 26) (v := ?_) opAt_26 (by kernel_rfl) (by kernel_rfl) (by kernel_rfl) (fun _ _ _ h => h) (Or.inl ⟨by rfl, ?_⟩) (by assumption) ?_
                rotate_left
                · (intro w hSw; obtain ⟨hF, t0, t1, e0, e1, e2, e3, e4, e5⟩ := hSw; have m0 := cell_of_row w gf 0 _ _ _ hF; have m1 := cell_of_row w gf 1 _ _ _ hF; have m2 := cell_of_row w gf 2 _ _ _ hF; have m3 := cell_of_row w gf 3 _ _ _ hF; have m4 := cell_of_row w gf 4 _ _ _ hF; have m5 := cell_of_row w gf 5 _ _ _ hF; have m6 := cell_of_row w gf 6 _ _ _ hF; have m7 := cell_of_row w gf 7 _ _ _ hF; have m8 := cell_of_row w gf 8 _ _ _ hF; go_simp; try with_reducible rfl)
                try simp only [Act.put, List.setIfInBounds_toArray, List.set_cons_zero, List.set_cons_succ]
                refine wpAnyH_take (i := 27) (v := ?_) opAt_27 (by kernel_rfl) (by kernel_rfl) (by kernel_rfl) (fun _ _ _ h => h) (Or.inl ⟨by rfl, ?_⟩) (by assumption) ?_
                rotate_left
                · (intro w hSw; obtain ⟨hF, t0, t1, e0, e1, e2, e3, e4, e5⟩ := hSw; have m0 := cell_of_row w gf 0 _ _ _ hF; have m1 := cell_of_row w gf 1 _ _ _ hF; have m2 := cell_of_row w gf 2 _ _ _ hF; have m3 := cell_of_row w gf 3 _ _ _ hF; have m4 := cell_of_row w gf 4 _ _ _ hF; have m5 := cell_of_row w gf 5 _ _ _ hF; have m6 := cell_of_row w gf 6 _ _ _ hF; have m7 := cell_of_row w gf 7 _ _ _ hF; have m8 := cell_of_row w gf 8 _ _ _ hF; go_simp; try with_reducible rfl)
                try simp only [Act.put, List.setIfInBounds_toArray, List.set_cons_zero, List.set_cons_succ]
                refine wpAnyH_take (i := 28) (v := ?_) opAt_28 (by kernel_rfl) (by kernel_rfl) (by kernel_rfl) (fun _ _ _ h => h) (Or.inl ⟨by rfl, ?_⟩) (by assumption) ?_
                rotate_left
                · (intro w hSw; obtain ⟨hF, t0, t1, e0, e1, e2, e3, e4, e5⟩ := hSw; have m0 := cell_of_row w gf 0 _ _ _ hF; have m1 := cell_of_row w gf 1 _ _ _ hF; have m2 := cell_of_row w gf 2 _ _ _ hF; have m3 := cell_of_row w gf 3 _ _ _ hF; have m4 := cell_of_row w gf 4 _ _ _ hF; have m5 := cell_of_row w gf 5 _ _ _ hF; have m6 := cell_of_row w gf 6 _ _ _ hF; have m7 := cell_of_row w gf 7 _ _ _ hF; have m8 := cell_of_row w gf 8 _ _ _ hF; go_simp; try with_reducible rfl)
                try simp only [Act.put, List.setIfInBounds_toArray, List.set_cons_zero, List.set_cons_succ]
                refine wpAnyH_take (i := 29) (v := ?_) opAt_29 (by kernel_rfl) (by kernel_rfl) (by kernel_rfl) (fun _ _ _ h => h) (Or.inl ⟨by rfl, ?_⟩) (by assumption) ?_
                rotate_left
                · (intro w hSw; obtain ⟨hF, t0, t1, e0, e1, e2, e3, e4, e5⟩ := hSw; have m0 := cell_of_row w gf 0 _ _ _ hF; have m1 := cell_of_row w gf 1 _ _ _ hF; have m2 := cell_of_row w gf 2 _ _ _ hF; have m3 := cell_of_row w gf 3 _ _ _ hF; have m4 := cell_of_row w gf 4 _ _ _ hF; have m5 := cell_of_row w gf 5 _ _ _ hF; have m6 := cell_of_row w gf 6 _ _ _ hF; have m7 := cell_of_row w gf 7 _ _ _ hF; have m8 := cell_of_row w gf 8 _ _ _ hF; go_simp; try with_reducible rfl)
                try simp only [Act.put, List.setIfInBounds_toArray, List.set_cons_zero, List.set_cons_succ]
                refine wpAnyH_take (i := 30) (v := ?_) opAt_30 (by kernel_rfl) (by kernel_rfl) (by kernel_rfl) (fun _ _ _ h => h) (Or.inl ⟨by rfl, ?_⟩) (by assumption) ?_
                rotate_left
                · (intro w hSw; obtain ⟨hF, t0, t1, e0, e1, e2, e3, e4, e5⟩ := hSw; have m0 := cell_of_row w gf 0 _ _ _ hF; have m1 := cell_of_row w gf 1 _ _ _ hF; have m2 := cell_of_row w gf 2 _ _ _ hF; have m3 := cell_of_row w gf 3 _ _ _ hF; have m4 := cell_of_row w gf 4 _ _ _ hF; have m5 := cell_of_row w gf 5 _ _ _ hF; have m6 := cell_of_row w gf 6 _ _ _ hF; have m7 := cell_of_row w gf 7 _ _ _ hF; have m8 := cell_of_row w gf 8 _ _ _ hF; go_simp; try with_reducible rfl)
                try simp only [Act.put, List.setIfInBounds_toArray, List.set_cons_zero, List.set_cons_succ]
                refine wpAnyH_take (i := 31) (v := ?_) opAt_31 (by kernel_rfl) (by kernel_rfl) (by kernel_rfl) (fun _ _ _ h => h) (Or.inl ⟨by rfl, ?_⟩) (by assumption) ?_
                rotate_left
                · (intro w hSw; obtain ⟨hF, t0, t1, e0, e1, e2, e3, e4, e5⟩ := hSw; have m0 := cell_of_row w gf 0 _ _ _ hF; have m1 := cell_of_row w gf 1 _ _ _ hF; have m2 := cell_of_row w gf 2 _ _ _ hF; have m3 := cell_of_row w gf 3 _ _ _ hF; have m4 := cell_of_row w gf 4 _ _ _ hF; have m5 := cell_of_row w gf 5 _ _ _ hF; have m6 := cell_of_row w gf 6 _ _ _ hF; have m7 := cell_of_row w gf 7 _ _ _ hF; have m8 := cell_of_row w gf 8 _ _ _ hF; go_simp; try with_reducible rfl)
                try simp only [Act.put, List.setIfInBounds_toArray, List.set_cons_zero, List.set_cons_succ]
                refine wpAnyH_take (i := 32) (v := ?_) opAt_32 (by kernel_rfl) (by kernel_rfl) (by kernel_rfl) (fun _ _ _ h => h) (Or.inl ⟨by rfl, ?_⟩) (by assumption) ?_
                rotate_left
                · (intro w hSw; obtain ⟨hF, t0, t1, e0, e1, e2, e3, e4, e5⟩ := hSw; have m0 := cell_of_row w gf 0 _ _ _ hF; have m1 := cell_of_row w gf 1 _ _ _ hF; have m2 := cell_of_row w gf 2 _ _ _ hF; have m3 := cell_of_row w gf 3 _ _ _ hF; have m4 := cell_of_row w gf 4 _ _ _ hF; have m5 := cell_of_row w gf 5 _ _ _ hF; have m6 := cell_of_row w gf 6 _ _ _ hF; have m7 := cell_of_row w gf 7 _ _ _ hF; have m8 := cell_of_row w gf 8 _ _ _ hF; go_simp; try with_reducible rfl)
                try simp only [Act.put, List.setIfInBounds_toArray, List.set_cons_zero, List.set_cons_succ]
                refine wpAnyH_take (i := 33) (v := ?_) opAt_33 (by kernel_rfl) (by kernel_rfl) (by kernel_rfl) (fun _ _ _ h => h) (Or.inl ⟨by rfl, ?_⟩) (by assumption) ?_
                rotate_left
                · (intro w hSw; obtain ⟨hF, t0, t1, e0, e1, e2, e3, e4, e5⟩ := hSw; have m0 := cell_of_row w gf 0 _ _ _ hF; have m1 := cell_of_row w gf 1 _ _ _ hF; have m2 := cell_of_row w gf 2 _ _ _ hF; have m3 := cell_of_row w gf 3 _ _ _ hF; have m4 := cell_of_row w gf 4 _ _ _ hF; have m5 := cell_of_row w gf 5 _ _ _ hF; have m6 := cell_of_row w gf 6 _ _ _ hF; have m7 := cell_of_row w gf 7 _ _ _ hF; have m8 := cell_of_row w gf 8 _ _ _ hF; go_simp; try with_reducible rfl)
                try simp only [Act.put, List.setIfInBounds_toArray, List.set_cons_zero, List.set_cons_succ]
                refine wpAnyH_take (i := 34) (v := ?_) opAt_34 (by kernel_rfl) (by kernel_rfl) (by kernel_rfl) (fun _ _ _ h => h) (Or.inl ⟨by rfl, ?_⟩) (by assumption) ?_
                rotate_left
                · (intro w hSw; obtain ⟨hF, t0, t1, e0, e1, e2, e3, e4, e5⟩ := hSw; have m0 := cell_of_row w gf 0 _ _ _ hF; have m1 := cell_of_row w gf 1 _ _ _ hF; have m2 := cell_of_row w gf 2 _ _ _ hF; have m3 := cell_of_row w gf 3 _ _ _ hF; have m4 := cell_of_row w gf 4 _ _ _ hF; have m5 := cell_of_row w gf 5 _ _ _ hF; have m6 := cell_of_row w gf 6 _ _ _ hF; have m7 := cell_of_row w gf 7 _ _ _ hF; have m8 := cell_of_row w gf 8 _ _ _ hF; go_simp; try with_reducible rfl)
                try simp only [Act.put, List.setIfInBounds_toArray, List.set_cons_zero, List.set_cons_succ]
                refine wpAnyH_ready (rs := [35]) (by kernel_rfl) (by simp) ?_
                refine AllReadyH.cons rfl (fun K hK => ?_) AllReadyH.nil
                go_simp
                refine Calls.mono (HSA.out V0 hb0) ?_
                rintro e V1 ⟨rfl, nb⟩
                try go_wp2_with fail
                have hb1 : Below W11.heap.size W11 V1 := hb0.trans (nb.mono hb0.size)
                clear nb
                refine hK.out _ _ (HKP.out _ hb1) (fun hHeld => ?_)
                clear hK K
                try simp only [Act.put, List.setIfInBounds_toArray, List.set_cons_zero, List.set_cons_succ]
                refine wpAnyH_take (i := 36) (v := ?_) opAt_36 (by kernel_rfl) (by kernel_rfl) (by kernel_rfl) (fun _ _ _ h => h) (Or.inl ⟨by rfl, ?_⟩) (by assumption) ?_
                rotate_left
                · (intro w hSw; obtain ⟨hF, t0, t1, e0, e1, e2, e3, e4, e5⟩ := hSw; have m0 := cell_of_row w gf 0 _ _ _ hF; have m1 := cell_of_row w gf 1 _ _ _ hF; have m2 := cell_of_row w gf 2 _ _ _ hF; have m3 := cell_of_row w gf 3 _ _ _ hF; have m4 := cell_of_row w gf 4 _ _ _ hF; have m5 := cell_of_row w gf 5 _ _ _ hF; have m6 := cell_of_row w gf 6 _ _ _ hF; have m7 := cell_of_row w gf 7 _ _ _ hF; have m8 := cell_of_row w gf 8 _ _ _ hF; go_simp; try with_reducible rfl)
                try simp only [Act.put, List.setIfInBounds_toArray, List.set_cons_zero, List.set_cons_succ]
                refine wpAnyH_take (i := 37) (v := ?_) opAt_37 (by kernel_rfl) (by kernel_rfl) (by kernel_rfl) (fun _ _ _ h => h) (Or.inl ⟨by rfl, ?_⟩) (by assumption) ?_
                rotate_left
                · (intro w hSw; obtain ⟨hF, t0, t1, e0, e1, e2, e3, e4, e5⟩ := hSw; have m0 := cell_of_row w gf 0 _ _ _ hF; have m1 := cell_of_row w gf 1 _ _ _ hF; have m2 := cell_of_row w gf 2 _ _ _ hF; have m3 := cell_of_row w gf 3 _ _ _ hF; have m4 := cell_of_row w gf 4 _ _ _ hF; have m5 := cell_of_row w gf 5 _ _ _ hF; have m6 := cell_of_row w gf 6 _ _ _ hF; have m7 := cell_of_row w gf 7 _ _ _ hF; have m8 := cell_of_row w gf 8 _ _ _ hF; go_simp; try with_reducible rfl)
                try simp only [Act.put, List.setIfInBounds_toArray, List.set_cons_zero, List.set_cons_succ]
                refine wpAnyH_done (by kernel_rfl) ?_ _
                refine NoPanic.normal ?_
                go_wp2_with fail
                exact ⟨⟨j + 1, by push_cast; rfl, by omega, Lib.hid (bel11 HBF.out hb1)⟩, by simp [RowKit.intOf]; omega⟩
              · obtain rfl : nf = j := by omega
                have hns2 : ¬ ((nf : Int) < (nf : Int)) := by omega
                go_wp2_with fail
                go_ret
                exact ⟨rfl, bel11 HBW.out (bel11 HB10.out hh2.out)⟩
end Go.Proofs.YtaicibmaogiibaaGreatDoor.segFlip

