/-
  SegCrash, part 26 of what the law's proof leans on: WSegCrash.
-/
import Derived.BigQuiet
import Derived.Test.YtaicibmaogiibaaGreatDoorSegCrashQ25
import Derived.Test.YtaicibmaogiibaaGreatDoorSegCrashQ24
import Derived.Test.YtaicibmaogiibaaGreatDoorSegCrashQ21
import Derived.Test.YtaicibmaogiibaaGreatDoorSegCrashQ22
import Derived.Test.YtaicibmaogiibaaGreatDoorSegCrashQ18
import Derived.Test.YtaicibmaogiibaaGreatDoorSegCrashQ1
/- WSegCrash -/

/-
  SegCrash, walked: behind a crash a beginning stands that has what was synced; what is appended to it stands behind it.
-/
set_option linter.unusedVariables false
set_option linter.unusedSimpArgs false
namespace Go.Proofs.YtaicibmaogiibaaGreatDoor.segCrash
open Go Go.RowKit Go.Proofs.YtaicibmaogiibaaGreatDoor Go.Proofs.YtaicibmaogiibaaGreatDoor.Sg

theorem mask11 (x : Int) : ∃ O : Nat, O ≤ 1073741823 ∧ bits .and .i64 x 1073741823 = (O : Int) := by
  have hle : (BitVec.ofInt 64 x &&& BitVec.ofInt 64 1073741823).toNat ≤ 1073741823 := by
    rw [BitVec.toNat_and]
    exact Nat.le_trans Nat.and_le_right (by decide)
  refine ⟨(BitVec.ofInt 64 x &&& BitVec.ofInt 64 1073741823).toNat, hle, ?_⟩
  show IntKind.i64.wrap ((BitVec.ofInt 64 x &&& BitVec.ofInt 64 1073741823).toNat : Int) = _
  rw [IntKind.wrap_i64]
  omega
theorem maskStep {w : World} {base n g cap : Nat} {q : List Int} (h : w.ownsRow base 3 1 (.slice (some ⟨g, 0, none⟩) n cap) n (ivs q)) {k : Nat} (hk : k < q.length) (O : Int) :
    w.frozen? ⟨g, k, none⟩ = false ∧ (w.setCell ⟨g, k, none⟩ (.int .i64 O)).ownsRow base 3 1 (.slice (some ⟨g, 0, none⟩) n cap) n (ivs (q.set k O)) ∧ base ≤ g := by
  have g1 : (ivs q)[k]? = some (.int .i64 (q[k]'hk)) := by unfold ivs; rw [List.getElem?_map, List.getElem?_eq_getElem hk]; rfl
  obtain ⟨hst, _⟩ := h.stored k (.int .i64 O)
  refine ⟨h.frozenAt k, ?_, (h.lt g rfl).1⟩
  have e : ivs (q.set k O) = (ivs q).set k (.int .i64 O) := by unfold ivs; rw [List.map_set]
  rw [e]
  exact hst
theorem anySet {q : List Int} {k : Nat} {O : Int} (hk : k < q.length) (hO : 0 ≤ O) (h : (q.take k).any (· < 0) = false) : ((q.set k O).take (k + 1)).any (· < 0) = false := by
  have h1 : (q.set k O)[k]? = some O := by rw [List.getElem?_set_self hk]
  rw [take_next6 h1, List.any_append, List.take_set_of_le (Nat.le_refl k), h]
  simp
  omega
theorem made_ivs (n : Nat) : (madeCells (Value.int .i64 0).cells (n * 1)).toList = ivs (List.replicate n 0) := by
  unfold ivs
  rw [List.map_replicate, Nat.mul_one]
  apply List.ext_getElem?
  intro k
  simp only [madeCells, Value.cells, Array.toList_map, Array.toList_range, List.getElem?_map, List.getElem?_replicate]
  by_cases h : k < n
  · rw [List.getElem?_range h, if_pos h]
    simp [Nat.mod_one]
  · rw [List.getElem?_eq_none (by rw [List.length_range]; omega), if_neg h]
    rfl
theorem crash_steps (s : FsP) (picks : List Int) : (crashK s picks).2.steps = s.steps := by unfold crashK; split <;> rfl
theorem w64_next {a b : Nat} (h : b = a + 1) (h30 : a ≤ 30) : wrap64 ((a : Int) + 1) = (b : Int) := by
  subst h
  rw [IntWalk.wrap64_in _ (by omega)]
  push_cast
  rfl
theorem u64_next {a b : Nat} (h : b = a + 1) (h30 : a ≤ 30) : IntKind.u64.wrap (b : Int) = (b : Int) := IntWalk.u64_in _ (by omega)
theorem i64_next {a b : Nat} (h : b = a + 1) (h30 : a ≤ 30) : IntKind.i64.wrap (b : Int) = (b : Int) := IntWalk.i64_in _ (by omega)
theorem finv_trunc {s : FsP} {q T : Nat} (h : FInv s q T) (n : ByteArray) (z : Int) : FInv (stepF s (truncK n z)).2 q (T + 1) :=
  h.step (Nat.le_refl _) (Nat.le_add_right _ _) (fun h0 => h0.onF_ n 1 (fun t ht => cutT_ok _ t ht))
theorem off_take (L : List Rc.Rec) {m j : Nat} (h : j ≤ m) : Sg.offN (L.take m) j = Sg.offN L j := by unfold Sg.offN; rw [List.take_take, Nat.min_eq_left h]
theorem segN_take (L : List Rc.Rec) (m : Nat) : segN 7 (L.take m) m = segN 7 L m := by unfold segN; rw [off_take L (Nat.le_refl m)]
theorem locsN_take (L : List Rc.Rec) (m : Nat) : ∀ j, j ≤ m → locsN 7 (L.take m) j = locsN 7 L j
  | 0, _ => rfl
  | j + 1, h => by rw [locsN_next, locsN_next, locsN_take L m j (by omega), off_take L (by omega)]
/-- what stands while records are appended behind the sync -/
def CrR (B : Nat) (V W : World) (base G A : Nat) (L : List Rc.Rec) (m j : Nat) (vat : Value) : Prop :=
  ∃ M R s, SegIn W G A M R s (segC L m j) ∧ Lone s (nameB 7) (fileC L m j) ∧ 100000 ≤ s.quota ∧ FInv s 6 (360 + 1113 * j) ∧ s.steps ≤ 6 + j ∧ W.ownsRow base 49 2 vat j (locsN 7 L j) ∧ (∀ g, vat.ownBlock = some g → ¬ M g ∧ ¬ R g ∧ g ≠ G) ∧ Below B V W ∧ (∀ i, M i → B ≤ i) ∧ B ≤ G ∧ base ≤ W.heap.size
theorem loc_infoC : (Tryz.prog.info? 49).map (fun i => (i.zero, i.size, i.bytes)) = some (some (.agg #[.int .u32 0, .int .u32 0]), 2, 8) := by kernel_rfl
theorem int_infoC : (Tryz.prog.info? 3).map (fun i => (i.zero, i.size, i.bytes)) = some (some (.int .i64 0), 1, 8) := by kernel_rfl
set_option maxRecDepth 100000 in
set_option maxHeartbeats 32000000 in
theorem walk (v0 : Value) (l0 : List Rc.Rec) (a1 : Int) (v2 : Value) (z2 : List Int) (w : World) (w0 : Recs w w.heap.size v0 l0) (w1 : (Lit.int .u8 a1).wf = true) (w2 : Ints w w.heap.size .i64 v2 z2) (g2 : ∀ n ∈ z2, (Lit.int .i64 n).wf = true) (s2 : z2.length * 8 ≤ 140737488351232) (ht : Ctx w.heap.size w) :
    Calls Tryz.prog 4 #[v0, .int .u8 a1, v2] w fun e w' => e = .returned (.bool true) ∧ Below w.heap.size w w' := by
  obtain ⟨sy, rfl, hsy⟩ : ∃ n : Nat, a1 = (n : Int) ∧ n < 256 := by
    have h := bounds_u8 w1
    exact ⟨a1.toNat, by omega, by omega⟩
  clear w1 g2
  obtain ⟨Ap, cp, rfl, hcp, hpr⟩ := w2
  obtain ⟨np, hnp⟩ : ∃ np, np = z2.length := ⟨_, rfl⟩
  rw [← hnp] at hcp s2
  rw [← hnp]
  have HPK := Lib.hid (And.intro hnp hpr)
  clear hpr hnp
  obtain ⟨i0, hi0, hz0, hz1, hz2⟩ := info_parts loc_infoC
  obtain ⟨j0, hj0, hy0, hy1, hy2⟩ := info_parts int_infoC
  have HN := Lib.hid (snum w0)
  have HX := Lib.hid ht
  obtain ⟨L, hL⟩ : ∃ L, L = numL l0 := ⟨_, rfl⟩
  rw [← hL] at HN
  have HL : Hid (Numb L) := Lib.hid (hL ▸ numL_numb l0)
  obtain ⟨n, hn⟩ : ∃ n, n = L.length := ⟨_, rfl⟩
  have hn30 : n ≤ 30 := by rw [hn]; exact HL.out.few
  have HNN := Lib.hid hn
  clear w0 ht hL hn
  go_enter Tryz.func4, Tryz.ntmps4
  go_wp2_with fail
  refine HN.out.mono ?_
  rintro e x1 ⟨v', t, rfl, htl, ht30, hown, htri, hb1⟩
  have hrecs : Recs x1 x1.heap.size v' L := htl ▸ recs_of_own hown htri hb1.size
  obtain ⟨Av, cv, rfl, hvc, hvm, hrec⟩ := (show Recs x1 x1.heap.size v' L from hrecs)
  rw [← HNN.out] at hrecs hvc
  have HR := Lib.hid hrecs
  have HB1 := Lib.hid hb1
  clear hown htri hb1 htl ht30 hrec hrecs HN
  rw [← HNN.out]
  go_wp2_with fail
  refine (knew x1 1073741824 (by omega)).mono ?_
  rintro e x2 ⟨A, M0, rfl, hm, hb2, hM0⟩
  have HM2 := Lib.hid (And.intro hm hM0)
  have HB2 := Lib.hid hb2
  clear hm hM0 hb2
  go_wp2_with fail
  refine (swakes x2 ((HX.out.below (bel11 HB1.out HB2.out)).mono (bel11 HB1.out HB2.out).size)).mono ?_
  rintro e x3 ⟨rfl, hb3⟩
  have HB3 := Lib.hid (bel11 HB2.out hb3)
  have HM3 := Lib.hid (And.intro (HM2.out.1.on hb3) HM2.out.2)
  have HX3 := Lib.hid (show Ctx x1.heap.size x3 from (HX.out.below (bel11 HB1.out HB3.out)).mono HB1.out.size)
  clear hb3 HM2 HB2
  obtain ⟨m, hm⟩ : ∃ m, m = sy % (n + 1) := ⟨_, rfl⟩
  have hmn : m ≤ n := by have := Nat.mod_lt sy (show 0 < n + 1 by omega); omega
  have u1 : (sy : Int) % ((n : Int) + 1) = (m : Int) := by rw [hm]; push_cast; rfl
  have u00 : (n : Int) + 1 ≠ 0 := by omega
  obtain ⟨Ah, hsl, hrecsH⟩ := recs_head Av n cv m hmn hvc
  have HRH := Lib.hid (hrecsH _ _ _ (recs_below HR.out HB3.out (Nat.le_refl _)))
  clear hrecsH hm
  go_wp2_with fail
  try simp only [u1]
  clear u1 u00 hsl
  have hlm : (L.take m).length = m := by rw [List.length_take, ← HNN.out]; omega
  have hlay := slay (B := x1.heap.size) (id := 7) (L := L.take m) (v := .slice Ah m cv) HX3.out HB3.out.size HM3.out.2 (by omega) HM3.out.1 (by omega) HRH.out (HL.out.take m)
  refine Calls.mono hlay ?_
  clear hlay
  rintro e x4 ⟨G, vat, rfl, M, R, s, k1, k2, k3, k4, k5, k6, k7, k8, k9, k10⟩
  rw [hlm] at k1 k2 k4 k5 k6
  have hsy := sync_num (L := L.take m) (n := m) (by omega : 1 ≤ 7 ∧ 7 ≤ 16777215) k2 (by rw [hlm]; exact Nat.le_refl _) k4
  rw [segN_take] at k1 hsy
  rw [locsN_take L m m (Nat.le_refl _)] at k6
  rw [← fileC_self] at hsy
  obtain ⟨Al, cl, rfl, hlc, _, _⟩ := own_slice k6
  have hB4 : x1.heap.size ≤ x4.heap.size := Nat.le_trans HB3.out.size k8.size
  have HS := Lib.hid (ssync k1 (HX3.out.below k8) hB4 k9 (by show 7 < _; omega) k4 (by omega) (by omega))
  rw [hsy.1, hsy.2.2.1] at HS
  obtain ⟨s5, hs5⟩ : ∃ s5, s5 = (syncG s (segN 7 L m)).2.1 := ⟨_, rfl⟩
  rw [← hs5] at hsy HS
  clear hs5
  have HSY := Lib.hid hsy
  have HC4 := Lib.hid (And.intro k6 (And.intro k7 (And.intro k8 (And.intro k9 (And.intro k10 (And.intro k3 k5))))))
  clear k1 k2 k3 k4 k5 k6 k7 k8 k9 k10 hB4 hsy HRH hlm
  go_wp2_with fail
  refine HS.out.mono ?_
  rintro e x5 ⟨rfl, M5, R5, j1, j2, j3, j4, j5, j6, j7⟩
  obtain ⟨k6, k7, k8, k9, k10, k3, k5⟩ := HC4.out
  have hb35 : Below x1.heap.size x1 x5 := HB3.out.trans (k8.trans (j2.below (Nat.le_trans HB3.out.size k8.size) (fun i e => e.elim (k9 i) (fun e => by rw [e]; exact k10))))
  have HCR : Hid (CrR x1.heap.size x1 x5 x3.heap.size G A L m (m + 0) (.slice Al m cl)) := Lib.hid ⟨M5, R5, s5, ⟨j1, j5, j6, j7⟩, HSY.out.2.1, by rw [HSY.out.2.2.2.1]; exact k3, HSY.out.2.2.2.2.1.mono (Nat.le_refl _) (by omega), by rw [HSY.out.2.2.2.2.2]; omega, j2.own k6 (fun g hg e => e.elim (k7 g hg).1 (k7 g hg).2.2), fun g hg => ⟨fun e => (j3 g e).elim (k7 g hg).1 (fun e => by have := (k6.lt g hg).2; omega), fun e => (j4 g e).elim (k7 g hg).2.1 (fun e => by have := (k6.lt g hg).2; omega), (k7 g hg).2.2⟩, hb35, fun i e => (j3 i e).elim (k9 i) (fun e => by have := HB3.out.size; have := k8.size; omega), k10, by have := k8.size; have := j2.size; omega⟩
  have HSF := Lib.hid (ssafe j5)
  have cm : IntKind.u64.wrap (m : Int) = (m : Int) := IntWalk.u64_in _ (by omega)
  clear j1 j2 j3 j4 j5 j6 j7 k6 k7 k8 k9 k10 k3 k5 hb35 HC4 HS HSY HM3
  go_wp2_with fail
  rw [show (({ segN 7 L m with safe := m } : S).safe : Int) = (m : Int) from rfl] at HSF
  refine HSF.out.mono ?_
  rintro e x5' ⟨rfl, rfl⟩
  clear HSF
  obtain ⟨d, hd⟩ : ∃ d, n = m + d := ⟨n - m, by omega⟩
  obtain ⟨At, hst, hrt⟩ := recs_tail Av n cv m hmn hvc
  rw [show n - m = d by omega] at hst hrt
  obtain ⟨cd, hcd⟩ : ∃ c, c = cv - m := ⟨_, rfl⟩
  rw [← hcd] at hst hrt
  have hrec := hrt _ _ _ HR.out
  obtain ⟨_, _, he, _, _, hrec⟩ := hrec
  injection he with he1 he2 he3
  subst he1 he3
  have HRT := Lib.hid hrec
  have HD := Lib.hid hd
  have hcl0 : d ≤ cd := by omega
  have hdn : (d : Int) ≤ 30 := by omega
  clear hrec he2 hrt hcd hd
  go_wp2_with fail
  clear hst
  go_loopw [11, 74] (fun va iv wr => ∃ i : Nat, iv = .int .i64 (i : Int) ∧ i ≤ d ∧ Hid (CrR x1.heap.size x1 wr x3.heap.size G A L m (m + i) va)) (fun _ iv _ => d - (RowKit.intOf iv).toNat)
  case atStart => exact ⟨0, rfl, Nat.zero_le _, HCR⟩
  case round =>
    as_aux_lemma =>
      obtain ⟨i, rfl, hi, hh⟩ := hrel
      rename World => wr
      by_cases hin : i < d
      · obtain ⟨M, R, s, k1, k2, k3, k4, k5, k6, k7, k8, k9, k10, k11⟩ := hh.out
        clear hh
        obtain ⟨r, hr⟩ : ∃ r, L[m + i]? = some r := ⟨_, List.getElem?_eq_getElem (by rw [← HNN.out, HD.out]; omega)⟩
        obtain ⟨b, o, rfl, hbB, kv, vv, e0, e1, e2, e3, e4, e5, hk, hw, hfit⟩ := HRT.out i r (by rw [List.getElem?_drop]; exact hr)
        have ha := appC HL.out (Nat.le_add_right m i) hr k2 k3
        have hk0 := hk
        have hw0 := hw
        obtain ⟨K1, k1', rfl, _, _⟩ := hk0
        obtain ⟨K2, k2', rfl, _, _⟩ := hw0
        obtain ⟨n1, hn1⟩ : ∃ n1, n1 = r.key.length := ⟨_, rfl⟩
        obtain ⟨n2, hn2⟩ : ∃ n2, n2 = r.val.length := ⟨_, rfl⟩
        rw [← hn1] at hk e2
        rw [← hn2] at hw e3
        have y0 := (k8.cell (p := ⟨b, o + i * 6, none⟩) hbB).trans e0
        have y1 := (k8.cell (p := ⟨b, o + i * 6 + 1, none⟩) hbB).trans e1
        have y2 := (k8.cell (p := ⟨b, o + i * 6 + 2, none⟩) hbB).trans e2
        have y3 := (k8.cell (p := ⟨b, o + i * 6 + 3, none⟩) hbB).trans e3
        have y4 := (k8.cell (p := ⟨b, o + i * 6 + 4, none⟩) hbB).trans e4
        have y5 := (k8.cell (p := ⟨b, o + i * 6 + 5, none⟩) hbB).trans e5
        obtain ⟨Ao, co, rfl, q1, q2, _⟩ := own_slice k6
        obtain ⟨gr, hgr⟩ : ∃ g, wr.heap.size = g := ⟨_, rfl⟩
        obtain ⟨W1, hW1⟩ : ∃ V, wr.alloc (.cells #[.int .u64 r.seq, .int .i64 r.kind, .slice K1 n1 k1', .slice K2 n2 k2', .int .u32 r.seg, .int .u32 r.off] 51) = V := ⟨_, rfl⟩
        have hbW : Below wr.heap.size wr W1 := by rw [← hW1]; exact al11 _ _
        have hk1 : W1.heap[gr]? = some (.cells #[.int .u64 r.seq, .int .i64 r.kind, .slice K1 n1 k1', .slice K2 n2 k2', .int .u32 r.seg, .int .u32 r.off] 51 (0, 0)) := by rw [← hW1, ← hgr]; exact heap_alloc_new wr _
        obtain ⟨p0, p1, p2, p3, p4, p5⟩ := Sg.box6 hk1
        have hBW : x1.heap.size ≤ wr.heap.size := k8.size
        have hb1B : Below x1.heap.size x1 W1 := k8.trans (hbW.mono hBW)
        have hj30 : m + i < n := by have := HD.out; omega
        have HA := Lib.hid (sappend (w := W1) (G := G) (A := A) (B := x1.heap.size) (Br := x1.heap.size) (x := segC L m (m + i)) (r := r) (v := recV r.seq r.kind (.slice K1 n1 k1') (.slice K2 n2 k2') r.seg r.off) (s := s) (M := M) (R := R) (q := 6) (T := 360 + 1113 * (m + i)) ⟨k1.1.on hbW, k1.2.1.on hbW, k1.2.2⟩ ((HX.out.below (bel11 HB1.out hb1B)).mono HB1.out.size) (Nat.le_trans hBW hbW.size) k9 (by
          have h1 := segN_fit (id := 7) (by omega) HL.out (j := m + i) (by omega)
          exact ⟨h1.id, h1.size, h1.many, h1.first, h1.last, by show m < _; omega⟩) (by show m + i < 1000000; omega) ⟨_, _, rfl, hk.below hb1B (Nat.le_refl _), hw.below hb1B (Nat.le_refl _)⟩ (Nat.le_trans hBW hbW.size) hfit k4 (by omega) (by omega))
        rw [ha.1, ha.2.1] at HA
        have HF2 := Lib.hid (finv_app k4 (nameB 7) (Rc.runL r))
        have HAp := Lib.hid ha
        have HB1B := Lib.hid hb1B
        have HO1 := Lib.hid (own_below k6 hbW (Nat.le_refl _))
        have HOL := Lib.hid (show ∀ g, (Value.slice Ao (m + i) co).ownBlock = some g → g < W1.heap.size ∧ ¬ M g ∧ ¬ R g ∧ g ≠ G from fun g hg => ⟨Nat.lt_of_lt_of_le (k6.lt g hg).2 hbW.size, k7 g hg⟩)
        have HK := Lib.hid (And.intro k3 (And.intro k5 (And.intro k9 (And.intro k10 (Nat.le_trans k11 hbW.size)))))
        have HRn := Lib.hid hr
        clear k1 k2 k3 k4 k5 k6 k7 k8 k9 k10 k11 ha hk hw e0 e1 e2 e3 e4 e5 hfit hbW hk1 hBW hb1B hn1 hn2 hr hbB
        unfold recV at HA
        go_wp2_with fail
        refine HA.out.mono ?_
        rintro e W2 ⟨rfl, M3, R3, j1, j2, j3, j4, j5, j6, j7⟩
        obtain ⟨oj, hoj⟩ : ∃ oj, oj = Sg.offN L (m + i) := ⟨_, rfl⟩
        rw [show locV (7, Sg.offN L (m + i)) = .agg #[.int .u32 7, .int .u32 (oj : Int)] by rw [hoj]; rfl, show ((0 : Nat) : Int) = 0 from rfl]
        have HOJ := Lib.hid hoj
        obtain ⟨gx, hgx⟩ : ∃ g, W2.heap.size = g := ⟨_, rfl⟩
        obtain ⟨W3, hW3⟩ : ∃ V, W2.alloc (.cells #[.int .u32 7, .int .u32 (oj : Int)] 49) = V := ⟨_, rfl⟩
        have hb3 : Below W2.heap.size W2 W3 := by rw [← hW3]; exact al11 _ _
        have hk3 : W3.heap[gx]? = some (.cells #[.int .u32 7, .int .u32 (oj : Int)] 49 (0, 0)) := by rw [← hW3, ← hgx]; exact heap_alloc_new W2 _
        have t0 : W3.cell? ⟨gx, 0, none⟩ = some (.int .u32 7) := cell_of_row W3 gx 0 _ _ _ hk3
        have t1 : W3.cell? ⟨gx, 1, none⟩ = some (.int .u32 (oj : Int)) := cell_of_row W3 gx 1 _ _ _ hk3
        have HO2 := Lib.hid (j2.own HO1.out (fun g hg e => e.elim (HOL.out g hg).2.1 (HOL.out g hg).2.2.2))
        have HSF := Lib.hid (ssafe (j5.on hb3))
        rw [show (((appG s (segC L m (m + i)) r).2.2.2.safe : Nat) : Int) = (m : Int) by rw [HAp.out.2.2.2.2.1]; rfl] at HSF
        have HJ := Lib.hid (And.intro j1 (And.intro j2 (And.intro j3 (And.intro j4 (And.intro j5 (And.intro j6 j7))))))
        have HB3' := Lib.hid hb3
        clear j1 j2 j3 j4 j5 j6 j7 hb3 hk3 hoj p0 p1 p2 p3 p4 p5 y0 y1 y2 y3 y4 y5 HA
        go_wp2_with fail
        refine HSF.out.mono ?_
        rintro e W3' ⟨rfl, rfl⟩
        clear HSF
        obtain ⟨W4, hW4⟩ : ∃ V, W3.alloc (.cells #[.int .u32 7, .int .u32 (oj : Int)] 49) = V := ⟨_, rfl⟩
        have hb4 : Below W3.heap.size W3 W4 := by rw [← hW4]; exact al11 _ _
        have HB24 := Lib.hid (bel11 HB3'.out hb4)
        have HO4 := Lib.hid (own_below HO2.out HB24.out (Nat.le_refl _))
        have hs4 : W4.heap.size = W3.heap.size + 1 := by rw [← hW4]; simp
        have hrd : Rd W4 W4.heap.size (some ⟨W3.heap.size, 0, none⟩) [.int .u32 7, .int .u32 (oj : Int)] := fun _ => ⟨W3.heap.size, 0, rfl, by omega, fun q u hu => by
          have hh := heap_alloc_new W3 (.cells #[.int .u32 7, .int .u32 (oj : Int)] 49)
          rw [hW4] at hh
          rw [cell_of_row W4 W3.heap.size (0 + q) _ _ _ hh]
          simpa using hu⟩
        have HRD := Lib.hid hrd
        have HS23 := Lib.hid (show x3.heap.size ≤ W4.heap.size from by have := HB24.out.size; have := HJ.out.2.1.size; have := HK.out.2.2.2.2; omega)
        clear hb4 hs4 hrd
        go_wp2_with (at_builtin; (try rw [hW4]); (refine wpList_append_rd _ rfl _ _ 32 rfl x3.heap.size 49 i0 (.agg #[.int .u32 0, .int .u32 0]) 2 8 Tryz.underlying32 hi0 hz0 hz1 hz2 rfl (by omega) (.slice Ao (m + i) co) (m + i) (locsN 7 L (m + i)) rfl HO4.out W4.heap.size (some ⟨W3.heap.size, 0, none⟩) 1 1 [.int .u32 7, .int .u32 (oj : Int)] rfl rfl HRD.out (by simp [Value.oneCell']) (by unfold maxLen; omega) (by omega) HS23.out ?_); intro v5 W5 hown5 hb5 hg5 hv5; (have HO5 := Lib.hid hown5); (have HB5 := Lib.hid hb5); (have HG5 := Lib.hid hg5); (have HV5 := Lib.hid hv5); clear hown5 hb5 hg5 hv5)
        obtain ⟨h1, h2, h3, h4, h5, h6, h7⟩ := HAp.out
        obtain ⟨j1, j2, j3, j4, j5, j6, j7⟩ := HJ.out
        have hjB : x1.heap.size ≤ W1.heap.size := HB1B.out.size
        have hg0 : ∀ g, (Value.slice Ao (m + i) co).ownBlock = some g → g < W1.heap.size ∧ ¬ M3 g ∧ ¬ R3 g ∧ g ≠ G := fun g hg => ⟨(HOL.out g hg).1, fun e => (j3 g e).elim (HOL.out g hg).2.1 (fun e => by have := (HOL.out g hg).1; omega), fun e => (j4 g e).elim (HOL.out g hg).2.2.1 (fun e => by have := (HOL.out g hg).1; omega), (HOL.out g hg).2.2.2⟩
        have hc45 : Chg (fun i' => (Value.slice Ao (m + i) co).ownBlock = some i') W4 W5 := Chg.of_grown HG5.out (fun g hg => hg)
        have hseg : SegIn W5 G A M3 R3 _ _ := ⟨(j1.on HB24.out).chg hc45 (fun i' e => ⟨(hg0 i' e).2.1, (hg0 i' e).2.2.1⟩), (j5.on HB24.out).chg hc45 (fun e => (hg0 G e).2.2.2 rfl), j6, j7⟩
        have hbW2 : Below x1.heap.size W1 W2 := j2.below hjB (fun i' e => e.elim (HK.out.2.2.1 i') (fun e => by rw [e]; exact HK.out.2.2.2.1))
        have hbW4 : Below x1.heap.size W2 W4 := HB24.out.mono (Nat.le_trans hjB j2.size)
        have hbW5 : Below x1.heap.size W4 W5 := HB5.out.mono HB3.out.size
        refine ⟨⟨i + 1, (by first | rfl | (congr 1; omega)), by omega, Lib.hid ⟨M3, R3, _, by rw [h5] at hseg; exact hseg, h3, by rw [h6]; exact HK.out.1, ?_, by rw [h7]; have := HK.out.2.1; omega, by rw [show m + (i + 1) = m + i + 1 by omega, locsN_next, ← HOJ.out]; exact HO5.out, fun g hg => ?_, ((HB1B.out.trans hbW2).trans hbW4).trans hbW5, fun i' e => (j3 i' e).elim (HK.out.2.2.1 i') (fun e => by omega), HK.out.2.2.2.1, by have := HS23.out; have := HB5.out.size; have := HG5.out; have := hc45.size; omega⟩⟩, by simp [RowKit.intOf]; omega⟩
        · rw [h4]
          refine HF2.out.mono (Nat.le_refl _) ?_
          rw [Rc.runL_length]
          have := (Rc.may_size (HL.out.may r (List.mem_of_getElem? HRn.out))).2
          omega
        · rcases HV5.out with e | e
          · exact (hg0 g (e ▸ hg)).2
          · rw [e] at hg
            injection hg with hg
            subst hg
            have hm3 := (j1.on HB24.out).ml
            have hr3 := (j1.on HB24.out).rl
            have hG4 := (j5.on HB24.out).lt
            exact ⟨fun e => by have := hm3 _ e; omega, fun e => by have := hr3 _ e; omega, fun e => by omega⟩
      · obtain rfl : d = i := by omega
        have hns : ¬ ((d : Int) < (d : Int)) := by omega
        have hh1 := hh.out
        rw [← HD.out] at hh1
        clear hh
        obtain ⟨M, R, s, k1, k2, k3, k4, k5, k6, k7, k8, k9, k10, k11⟩ := hh1
        obtain ⟨Ao, co, rfl, hoc, _, _⟩ := own_slice k6
        have HK := Lib.hid (And.intro k1 (And.intro k2 (And.intro k3 (And.intro k4 (And.intro k5 (And.intro k6 (And.intro k7 (And.intro k8 (And.intro k9 (And.intro k10 k11))))))))))
        clear k1 k2 k3 k4 k5 k6 k7 k8 k9 k10 k11
        have hnp63 : np ≤ maxLen := by unfold maxLen; omega
        go_wp2_with (at_make; refine wpList_make_full _ rfl _ _ 42 rfl wr.heap.size 3 j0 (.int .i64 0) 1 Tryz.underlying42 hj0 hy0 hy1 .i64 .i64 _ _ np rfl rfl rfl rfl (by rw [hy2]; omega) hnp63 (Nat.le_refl _) ?_; intro x8 hown8 hg8; (have HO8 := Lib.hid hown8); (have HG8 := Lib.hid hg8); clear hown8 hg8)
        have ho8 := HO8.out
        rw [made_ivs] at ho8
        obtain ⟨gm, hgm⟩ : ∃ g, wr.heap.size = g := ⟨_, rfl⟩
        rw [hgm] at ho8
        have HGM := Lib.hid hgm
        have hc8 : Chg (fun i => gm ≤ i) wr x8 := Chg.of_grown HG8.out (fun g hg => by cases hg)
        have HO9 := Lib.hid ho8
        have HC8 := Lib.hid hc8
        try rw [hgm]
        clear ho8 hc8 hgm
        go_loopw [103] (fun iv wr2 => ∃ (k : Nat) (q : List Int), k ≤ np ∧ iv = .int .i64 k ∧ q.length = np ∧ Hid ((q.take k).any (· < 0) = false ∧ wr2.ownsRow gm 3 1 (.slice (some ⟨gm, 0, none⟩) np np) np (ivs q) ∧ Chg (fun i => gm ≤ i) wr wr2)) (fun iv _ => np - (RowKit.intOf iv).toNat)
        case atStart => exact ⟨0, List.replicate np 0, Nat.zero_le _, rfl, List.length_replicate, Lib.hid ⟨rfl, HO9.out, HC8.out⟩⟩
        case round =>
          as_aux_lemma =>
            obtain ⟨k, q, hk, rfl, hql, hh⟩ := hrel
            rename World => wv
            by_cases hkn : k < np
            · have hown := hh.out.2.1
              obtain ⟨x, hx⟩ : ∃ x, z2[k]? = some x := ⟨_, List.getElem?_eq_getElem (by rw [← HPK.out.1]; exact hkn)⟩
              obtain ⟨gp, op, rfl, hlt, hcp2⟩ := HPK.out.2 (by intro e; have := congrArg List.length e; rw [List.length_map, ← HPK.out.1, List.length_nil] at this; omega)
              have e0 := hcp2 k (.int .i64 x) (by rw [List.getElem?_map, hx]; rfl)
              have hbw : Below w.heap.size w wr := bel11 HB1.out HK.out.2.2.2.2.2.2.2.1
              have hgmw : w.heap.size ≤ gm := by rw [← HGM.out]; exact hbw.size
              have e1 := (hbw.cell (p := ⟨gp, op + k, none⟩) hlt).trans e0
              have e2 := (hh.out.2.2.cell (p := ⟨gp, op + k, none⟩) (by show gp < wr.heap.size; have := hbw.size; omega) (by show ¬ gm ≤ gp; omega)).trans e1
              obtain ⟨O, hO1, hO2⟩ := mask11 x
              obtain ⟨m2, m3, m4⟩ := maskStep hown (k := k) (by omega) (O : Int)
              have hcell := hown.cellAt k (by omega)
              rw [show (ivs q)[k]? = some (.int .i64 (q[k]'(by omega))) by unfold ivs; rw [List.getElem?_map, List.getElem?_eq_getElem (by omega)]; rfl] at hcell
              obtain ⟨ov, hov⟩ : ∃ ov, ov = q[k]'(by omega) := ⟨_, rfl⟩
              rw [← hov] at hcell
              have M3 := Lib.hid m3
              have HAN := Lib.hid (anySet (O := (O : Int)) (show k < q.length by omega) (by omega) hh.out.1)
              have HCH := Lib.hid (hh.out.2.2.setCell (p := ⟨gm, k, none⟩) (Nat.le_refl _) (.int .i64 (O : Int)))
              clear hown hx e0 e1 m3 m4 hov hlt hcp2 hbw hgmw hO1
              go_wp2_with fail
              refine ⟨⟨k + 1, _, by omega, by push_cast; rfl, by rw [List.length_set]; exact hql, Lib.hid ⟨HAN.out, M3.out, HCH.out⟩⟩, by simp [RowKit.intOf]; omega⟩
            · obtain rfl : np = k := by omega
              have hns2 : ¬ ((np : Int) < (np : Int)) := by omega
              have hany := hh.out.1
              rw [List.take_of_length_le (by omega)] at hany
              have hc := hh.out.2.2
              obtain ⟨k1, k2, k3, k4, k5, k6, k7, k8, k9, k10, k11⟩ := HK.out
              have hgr : ∀ i, M i ∨ R i → ¬ gm ≤ i := fun i e => by have h1 := HGM.out; have := e.elim (k1.1.ml i) (k1.1.rl i); omega
              have hfm := k1.1.chg hc (fun i e => ⟨fun h => hgr i (.inl h) e, fun h => hgr i (.inr h) e⟩)
              have HISR : IsR wv (fun i => gm ≤ i ∧ i < wv.heap.size) (.slice (some ⟨gm, 0, none⟩) np np) q := ⟨_, np, by rw [hql], by omega, by omega, rdR_of_own hh.out.2.1⟩
              have HCA := Lib.hid (kcrash hfm k4 (by omega) (by omega) HISR (fun i h e => hgr i (.inl h) e.1) (fun i e => e.2) hany)
              obtain ⟨K, c1, c2, c3, c4⟩ := crashC (L := L) (m := m) (by rw [← HNN.out]; exact hmn) (by rw [← HNN.out]; exact k2) q hany
              have c5 := FInv.c_crash k4 q
              have c6 := crash_steps s q
              obtain ⟨s9, hs9⟩ : ∃ s9, s9 = (crashK s q).2 := ⟨_, rfl⟩
              rw [← hs9] at HCA c3 c4 c5 c6
              have HOWV := Lib.hid (hc.own k6 (fun g hg e => by have h1 := HGM.out; have := (k6.lt g hg).2; omega))
              have hbv : Below x1.heap.size x1 wv := k8.trans (hc.below k8.size (fun i e => by have h1 := HGM.out; have := k8.size; omega))
              have HBV := Lib.hid hbv
              have HS9 := Lib.hid (And.intro c1 (And.intro c2 (And.intro c3 (And.intro (show 100000 ≤ s9.quota by rw [c4]; exact k3) (And.intro c5 (show s9.steps ≤ 6 + n by rw [c6]; exact k5))))))
              have HOL := Lib.hid (show ∀ g, (Value.slice Ao n co).ownBlock = some g → ¬ M g from fun g hg => (k7 g hg).1)
              have HM9 := Lib.hid (show ∀ i, M i → x1.heap.size ≤ i from k9)
              clear hany hc hgr hfm HISR c1 c2 c3 c4 c5 c6 hs9 hbv k1 k2 k3 k4 k5 k6 k7 k8 k9 k10 k11 hh hql hk hkn
              go_wp2_with fail
              refine HCA.out.mono ?_
              rintro e x9 ⟨rfl, M9, R9, j1, j2, j3, j4⟩
              have HFM := Lib.hid j1
              have HB9 := Lib.hid (show Below x1.heap.size x1 x9 from HBV.out.trans (j2.below HBV.out.size (fun i e => HM9.out i e)))
              have HROW := Lib.hid (j2.own HOWV.out (fun g hg e => HOL.out g hg e))
              have HM10 := Lib.hid (show ∀ i, M9 i → x1.heap.size ≤ i from fun i e => (j3 i e).elim (HM9.out i) (fun e => by have := HBV.out.size; omega))
              clear j1 j2 j3 j4 HCA HOWV HBV HOL HM9 HK
              obtain ⟨si, Wy, i1, i2, i3, i4, i5⟩ := cutC HL.out (m := m) (K := K) (by rw [← HNN.out]; exact hmn) HS9.out.1 HS9.out.2.1
              rw [← HNN.out] at i2
              have hlen9 : (FSt.new ((bytesN11 7 L).take K)).bytes.length ≤ 100000 := by
                have h1 := HS9.out.2.1
                have h2 := Sg.offN_le HL.out L.length
                have h3 := HL.out.few
                rw [FSt.new_bytes, List.length_take]
                omega
              have HLD := Lib.hid (sload ofC ((HX.out.below (bel11 HB1.out HB9.out)).mono HB1.out.size) HB9.out.size (by omega : 1 ≤ 7 ∧ 7 ≤ 16777215) HFM.out HS9.out.2.2.2.2.1 (by omega) HS9.out.2.2.1.toN (mayN_name (by omega)) hlen9)
              rw [FSt.new_bytes, i5] at HLD
              have HSI := Lib.hid (And.intro i1 i4)
              have HSI3 := Lib.hid i3
              clear i5 i3 i4 hlen9
              go_wp2_with fail
              refine HLD.out.mono ?_
              rintro e xa ⟨rv, rfl, hsv, hba⟩
              obtain ⟨wy, hwy⟩ : ∃ m, (Wy : Int) = m := ⟨_, rfl⟩
              obtain ⟨E, hE⟩ : ∃ E, E = Sg.offN L si := ⟨_, rfl⟩
              rw [← hE] at hsv
              obtain ⟨Af, cf, Aq, cq, q2, rfl, hq2, hncf, hown2, hfq⟩ := Sc.ScanV.lit2 hsv 7 (E : Int) wy si 0 rfl (by show (Sc.places 16 (L.take si)).length = si; rw [Sc.places_length, List.length_take, ← HNN.out]; omega) rfl rfl hwy
              obtain ⟨g19, hg19⟩ : ∃ g, xa.heap.size = g := ⟨_, rfl⟩
              obtain ⟨Wb, hWb⟩ : ∃ V, xa.alloc (.cells #[.int .u32 7, .slice Af si cf, .slice Aq 0 cq, .int .i64 (E : Int), .int .i64 wy] 44) = V := ⟨_, rfl⟩
              have hk19 : Wb.heap[g19]? = some (.cells #[.int .u32 7, .slice Af si cf, .slice Aq 0 cq, .int .i64 (E : Int), .int .i64 wy] 44 (0, 0)) := by rw [← hWb, ← hg19]; exact heap_alloc_new xa _
              have hbW : Below xa.heap.size xa Wb := by rw [← hWb]; exact al11 _ _
              have HBWb := Lib.hid (bel11 hba hbW)
              have HSVB := Lib.hid (And.intro hba.size (show Sc.ScanV 56 Wb x9.heap.size _ _ from hsv.on hbW))
              have HOWF := Lib.hid (And.intro (own_below hown2 hbW (Nat.le_refl _)) (And.intro (fun x hx => (hfq x hx).on hbW) hq2))
              have HK19 := Lib.hid hk19
              have HE := Lib.hid hE
              have HWY := Lib.hid hwy
              have d1 := cell_of_row Wb g19 1 _ _ _ hk19
              have d2 := cell_of_row Wb g19 2 _ _ _ hk19
              have d4 := cell_of_row Wb g19 4 _ _ _ hk19
              clear hsv hba hq2 hown2 hfq hE hwy hk19 hbW
              go_upto_region 26 with fail
              have D4 := Lib.hid d4
              have f1 : ¬ ((si : Int) < (m : Int)) := by have := HSI.out.1; omega
              have f2 : ¬ ((si : Int) > (n : Int)) := by omega
              clear d4
              go_cut [155] from 123 to 154 (fun s155 wx => s155 = .bool false ∧ wx = Wb)
              case first =>
                as_aux_lemma =>
                  rcases HSI.out.2 with h0 | h0
                  · have h1 : wy = 0 := by rw [← HWY.out, h0]; rfl
                    have d4 := D4.out
                    rw [h1] at d4
                    have d4 : Wb.cell? ⟨g19, 4, none⟩ = some (.int .i64 0) := d4
                    clear h1 h0
                    go_wp2_with fail
                    go_meet
                    case rel => exact ⟨rfl, rfl⟩
                  · have h1 : wy = 22 := by rw [← HWY.out, h0]; rfl
                    have d4 := D4.out
                    rw [h1] at d4
                    have d4 : Wb.cell? ⟨g19, 4, none⟩ = some (.int .i64 22) := d4
                    clear h1 h0
                    go_wp2_with fail
                    go_meet
                    case rel => exact ⟨rfl, rfl⟩
              case rest =>
                rename World => Wz
                obtain ⟨rfl, hz⟩ := hcut
                have hz9 := hz.symm
                subst hz9
                have hr0 := HR.out
                obtain ⟨_, _, he, _, _, hrecL⟩ := hr0
                injection he with he1 he2 he3
                subst he1 he3
                have HREC := Lib.hid hrecL
                have HB00 := Lib.hid (Below.refl Wb.heap.size Wb)
                have HBX := Lib.hid (show Below x1.heap.size x1 Wb from HB9.out.trans (HBWb.out.mono HB9.out.size))
                clear hrecL he2 d2
                go_wp2_with fail
                go_loopw [159] (fun iv wr3 => ∃ j : Nat, iv = .int .i64 (j : Int) ∧ j ≤ si ∧ Hid (Below Wb.heap.size Wb wr3)) (fun iv _ => si - (RowKit.intOf iv).toNat)
                case atStart => exact ⟨0, rfl, Nat.zero_le _, HB00⟩
                case round =>
                  as_aux_lemma =>
                    obtain ⟨j, rfl, hj2, hh2⟩ := hrel
                    rename World => wq
                    by_cases hjn2 : j < si
                    · obtain ⟨r, hr⟩ : ∃ r, L[j]? = some r := ⟨_, List.getElem?_eq_getElem (by rw [← HNN.out]; omega)⟩
                      have hf : (Sc.places 16 (L.take si))[j]? = some ⟨Sg.offN L j, Rc.sizeN r, r⟩ := by
                        have h := Sc.places_at 16 (l := L.take si) (i := j) (r := r) (by rw [List.getElem?_take, if_pos hjn2]; exact hr)
                        rw [List.take_take, Nat.min_eq_left (by omega)] at h
                        rw [off_end]
                        exact h
                      obtain ⟨gF, Ak, nk, ck, Aw, nv, cw, rfl, hgF, c0, c1, c2, c3, c4, c5, c6, c7, c8, hbk, hbv⟩ := found_cells11 HOWF.out.1 HOWF.out.2.1 HOWF.out.2.2 (by omega) hf
                      have hb := hh2.out
                      dsimp only at c1 c2 c3 c4 c7 c8 hbk hbv
                      obtain ⟨sq, hsq2⟩ : ∃ sq, sq = r.seq := ⟨_, rfl⟩
                      obtain ⟨kd, hkd⟩ : ∃ sq, sq = r.kind := ⟨_, rfl⟩
                      obtain ⟨sg, hsg⟩ : ∃ sq, sq = r.seg := ⟨_, rfl⟩
                      obtain ⟨of, hof⟩ : ∃ sq, sq = r.off := ⟨_, rfl⟩
                      obtain ⟨oi, hoi⟩ : ∃ oi, oi = Sg.offN L j := ⟨_, rfl⟩
                      obtain ⟨zi, hzi⟩ : ∃ oi, oi = Rc.sizeN r := ⟨_, rfl⟩
                      rw [← hoi] at c1
                      rw [← hzi] at c2
                      rw [← hsq2] at c3
                      rw [← hkd] at c4
                      rw [← hsg] at c7
                      rw [← hof] at c8
                      have c0 := (hb.cell (fblock_of_cell c0)).trans c0
                      have c1 := (hb.cell (fblock_of_cell c1)).trans c1
                      have c2 := (hb.cell (fblock_of_cell c2)).trans c2
                      have c3 := (hb.cell (fblock_of_cell c3)).trans c3
                      have c4 := (hb.cell (fblock_of_cell c4)).trans c4
                      have c5 := (hb.cell (fblock_of_cell c5)).trans c5
                      have c6 := (hb.cell (fblock_of_cell c6)).trans c6
                      have c7 := (hb.cell (fblock_of_cell c7)).trans c7
                      have c8 := (hb.cell (fblock_of_cell c8)).trans c8
                      obtain ⟨b, o, rfl, hbB, kv, vv, e0, e1, e2, e3, e4, e5, hk2, hw2, hfit⟩ := HREC.out j r hr
                      have hk0 := hk2
                      have hw0 := hw2
                      obtain ⟨K1, k1', rfl, _, _⟩ := hk0
                      obtain ⟨K2, k2', rfl, _, _⟩ := hw0
                      obtain ⟨n1, hn1⟩ : ∃ n1, n1 = r.key.length := ⟨_, rfl⟩
                      obtain ⟨n2, hn2⟩ : ∃ n2, n2 = r.val.length := ⟨_, rfl⟩
                      rw [← hn1] at hk2 e2
                      rw [← hn2] at hw2 e3
                      rw [← hsq2] at e0
                      rw [← hkd] at e1
                      rw [← hsg] at e4
                      rw [← hof] at e5
                      have hbx8 : Below x1.heap.size x1 wq := HBX.out.trans (hb.mono HBX.out.size)
                      have hrow := own_below HROW.out (bel11 HBWb.out hb) (Nat.le_refl _)
                      obtain ⟨gl, rfl, hgl⟩ := Sc.own_at hrow (by omega)
                      obtain ⟨t0, t1⟩ := loc_cells hrow (show j < n by omega)
                      rw [← hoi] at t1
                      obtain ⟨gf, hgf⟩ : ∃ g, wq.heap.size = g := ⟨_, rfl⟩
                      obtain ⟨W11, hW11⟩ : ∃ V, wq.alloc (.cells #[.int .u32 7, .int .u32 (oi : Int), .int .i64 (zi : Int), .int .u64 sq, .int .i64 kd, .slice Ak nk ck, .slice Aw nv cw, .int .u32 sg, .int .u32 of] 56) = V := ⟨_, rfl⟩
                      have hbW : Below wq.heap.size wq W11 := by rw [← hW11]; exact al11 _ _
                      have hkf : W11.heap[gf]? = some (.cells #[.int .u32 7, .int .u32 (oi : Int), .int .i64 (zi : Int), .int .u64 sq, .int .i64 kd, .slice Ak nk ck, .slice Aw nv cw, .int .u32 sg, .int .u32 of] 56 (0, 0)) := by rw [← hW11, ← hgf]; exact heap_alloc_new wq _
                      have hb11 : Below x1.heap.size x1 W11 := hbx8.trans (hbW.mono hbx8.size)
                      have HKP := Lib.hid (show ∀ V : World, Below W11.heap.size W11 V → (V.heap[gf]? = some (.cells #[.int .u32 7, .int .u32 (oi : Int), .int .i64 (zi : Int), .int .u64 sq, .int .i64 kd, .slice Ak nk ck, .slice Aw nv cw, .int .u32 sg, .int .u32 of] 56 (0, 0)) ∧ V.cell? ⟨gl, j * 2, none⟩ = some (.int .u32 7) ∧ V.cell? ⟨gl, j * 2 + 1, none⟩ = some (.int .u32 (oi : Int)) ∧ V.cell? ⟨b, o + j * 6, none⟩ = some (.int .u64 sq) ∧ V.cell? ⟨b, o + j * 6 + 1, none⟩ = some (.int .i64 kd) ∧ V.cell? ⟨b, o + j * 6 + 2, none⟩ = some (.slice K1 n1 k1') ∧ V.cell? ⟨b, o + j * 6 + 3, none⟩ = some (.slice K2 n2 k2') ∧ V.cell? ⟨b, o + j * 6 + 4, none⟩ = some (.int .u32 sg) ∧ V.cell? ⟨b, o + j * 6 + 5, none⟩ = some (.int .u32 of)) from fun V hV => by
                        have hx : Below x1.heap.size x1 V := hb11.trans (hV.mono hb11.size)
                        have hy := bel11 hbW hV
                        exact ⟨blk11 hkf hV, (hy.cell (fblock_of_cell t0)).trans t0, (hy.cell (fblock_of_cell t1)).trans t1, (hx.cell (p := ⟨b, o + j * 6, none⟩) hbB).trans e0, (hx.cell (p := ⟨b, o + j * 6 + 1, none⟩) hbB).trans e1, (hx.cell (p := ⟨b, o + j * 6 + 2, none⟩) hbB).trans e2, (hx.cell (p := ⟨b, o + j * 6 + 3, none⟩) hbB).trans e3, (hx.cell (p := ⟨b, o + j * 6 + 4, none⟩) hbB).trans e4, (hx.cell (p := ⟨b, o + j * 6 + 5, none⟩) hbB).trans e5⟩)
                      have HSA := Lib.hid (show ∀ V : World, Below W11.heap.size W11 V → Calls Tryz.prog 16 #[.agg #[.int .u64 sq, .int .i64 kd, .slice Ak nk ck, .slice Aw nv cw, .int .u32 sg, .int .u32 of], .agg #[.int .u64 sq, .int .i64 kd, .slice K1 n1 k1', .slice K2 n2 k2', .int .u32 sg, .int .u32 of]] V fun e w' => e = .returned (.bool true) ∧ Below V.heap.size V w' from fun V hV => by
                        have hx := bel11 (bel11 hb hbW) hV
                        have hy : Below x1.heap.size x1 V := hb11.trans (hV.mono hb11.size)
                        rw [hsq2, hkd, hsg, hof]
                        exact same_t (r := r) ⟨_, _, rfl, (hbk.below hx (Nat.le_refl _)).mono hx.size, (hbv.below hx (Nat.le_refl _)).mono hx.size⟩ ⟨_, _, rfl, (hk2.below hy (Nat.le_refl _)).mono hy.size, (hw2.below hy (Nat.le_refl _)).mono hy.size⟩)
                      have HBF := Lib.hid (bel11 hb hbW)
                      have hjn3 : j < n := by omega
                      clear hf hr hgF hbk hbv hb hkd hsg hof hoi hzi e0 e1 e2 e3 e4 e5 hk2 hw2 hfit hn1 hn2 hbx8 t0 t1 hgl hbW hkf hb11 hbB hsq2 hrow
                      go_wp2_with fail
                      refine wp_region_noPanic ?_
                      have hb0 : Below W11.heap.size W11 W11.drew := (Below.refl _ _).drew
                      refine wp_region_held_drew (S := fun V : World => V.heap[gf]? = some (.cells #[.int .u32 7, .int .u32 (oi : Int), .int .i64 (zi : Int), .int .u64 sq, .int .i64 kd, .slice Ak nk ck, .slice Aw nv cw, .int .u32 sg, .int .u32 of] 56 (0, 0)) ∧ V.cell? ⟨gl, j * 2, none⟩ = some (.int .u32 7) ∧ V.cell? ⟨gl, j * 2 + 1, none⟩ = some (.int .u32 (oi : Int)) ∧ V.cell? ⟨b, o + j * 6, none⟩ = some (.int .u64 sq) ∧ V.cell? ⟨b, o + j * 6 + 1, none⟩ = some (.int .i64 kd) ∧ V.cell? ⟨b, o + j * 6 + 2, none⟩ = some (.slice K1 n1 k1') ∧ V.cell? ⟨b, o + j * 6 + 3, none⟩ = some (.slice K2 n2 k2') ∧ V.cell? ⟨b, o + j * 6 + 4, none⟩ = some (.int .u32 sg) ∧ V.cell? ⟨b, o + j * 6 + 5, none⟩ = some (.int .u32 of)) (by kernel_rfl) (HKP.out _ hb0) (fun hHeld => ?_)
                      generalize World.drew W11 = V0 at *
                      refine wpAnyH_take (i := 0) (v := ?_) opAt_0 (by kernel_rfl) (by kernel_rfl) (by kernel_rfl) (fun _ _ _ h => h) (Or.inl ⟨by rfl, ?_⟩) (by assumption) ?_
                      rotate_left
                      · (intro w hSw; obtain ⟨hF, t0, t1, e0, e1, e2, e3, e4, e5⟩ := hSw; have m0 := cell_of_row w gf 0 _ _ _ hF; have m1 := cell_of_row w gf 1 _ _ _ hF; have m2 := cell_of_row w gf 2 _ _ _ hF; have m3 := cell_of_row w gf 3 _ _ _ hF; have m4 := cell_of_row w gf 4 _ _ _ hF; have m5 := cell_of_row w gf 5 _ _ _ hF; have m6 := cell_of_row w gf 6 _ _ _ hF; have m7 := cell_of_row w gf 7 _ _ _ hF; have m8 := cell_of_row w gf 8 _ _ _ hF; go_simp; try with_reducible rfl)
                      (try simp only [Act.put, List.setIfInBounds_toArray]); (try dsimp only [List.set_cons_zero, List.set_cons_succ])
                      refine wpAnyH_take (i := 1) (v := ?_) opAt_1 (by kernel_rfl) (by kernel_rfl) (by kernel_rfl) (fun _ _ _ h => h) (Or.inl ⟨by rfl, ?_⟩) (by assumption) ?_
                      rotate_left
                      · (intro w hSw; obtain ⟨hF, t0, t1, e0, e1, e2, e3, e4, e5⟩ := hSw; have m0 := cell_of_row w gf 0 _ _ _ hF; have m1 := cell_of_row w gf 1 _ _ _ hF; have m2 := cell_of_row w gf 2 _ _ _ hF; have m3 := cell_of_row w gf 3 _ _ _ hF; have m4 := cell_of_row w gf 4 _ _ _ hF; have m5 := cell_of_row w gf 5 _ _ _ hF; have m6 := cell_of_row w gf 6 _ _ _ hF; have m7 := cell_of_row w gf 7 _ _ _ hF; have m8 := cell_of_row w gf 8 _ _ _ hF; go_simp; try with_reducible rfl)
                      (try simp only [Act.put, List.setIfInBounds_toArray]); (try dsimp only [List.set_cons_zero, List.set_cons_succ])
                      refine wpAnyH_take (i := 2) (v := ?_) opAt_2 (by kernel_rfl) (by kernel_rfl) (by kernel_rfl) (fun _ _ _ h => h) (Or.inl ⟨by rfl, ?_⟩) (by assumption) ?_
                      rotate_left
                      · (intro w hSw; obtain ⟨hF, t0, t1, e0, e1, e2, e3, e4, e5⟩ := hSw; have m0 := cell_of_row w gf 0 _ _ _ hF; have m1 := cell_of_row w gf 1 _ _ _ hF; have m2 := cell_of_row w gf 2 _ _ _ hF; have m3 := cell_of_row w gf 3 _ _ _ hF; have m4 := cell_of_row w gf 4 _ _ _ hF; have m5 := cell_of_row w gf 5 _ _ _ hF; have m6 := cell_of_row w gf 6 _ _ _ hF; have m7 := cell_of_row w gf 7 _ _ _ hF; have m8 := cell_of_row w gf 8 _ _ _ hF; go_simp; try with_reducible rfl)
                      (try simp only [Act.put, List.setIfInBounds_toArray]); (try dsimp only [List.set_cons_zero, List.set_cons_succ])
                      refine wpAnyH_take (i := 3) (v := ?_) opAt_3 (by kernel_rfl) (by kernel_rfl) (by kernel_rfl) (fun _ _ _ h => h) (Or.inl ⟨by rfl, ?_⟩) (by assumption) ?_
                      rotate_left
                      · (intro w hSw; obtain ⟨hF, t0, t1, e0, e1, e2, e3, e4, e5⟩ := hSw; have m0 := cell_of_row w gf 0 _ _ _ hF; have m1 := cell_of_row w gf 1 _ _ _ hF; have m2 := cell_of_row w gf 2 _ _ _ hF; have m3 := cell_of_row w gf 3 _ _ _ hF; have m4 := cell_of_row w gf 4 _ _ _ hF; have m5 := cell_of_row w gf 5 _ _ _ hF; have m6 := cell_of_row w gf 6 _ _ _ hF; have m7 := cell_of_row w gf 7 _ _ _ hF; have m8 := cell_of_row w gf 8 _ _ _ hF; go_simp; try with_reducible rfl)
                      (try simp only [Act.put, List.setIfInBounds_toArray]); (try dsimp only [List.set_cons_zero, List.set_cons_succ])
                      refine wpAnyH_take (i := 4) (v := ?_) opAt_4 (by kernel_rfl) (by kernel_rfl) (by kernel_rfl) (fun _ _ _ h => h) (Or.inl ⟨by rfl, ?_⟩) (by assumption) ?_
                      rotate_left
                      · (intro w hSw; obtain ⟨hF, t0, t1, e0, e1, e2, e3, e4, e5⟩ := hSw; have m0 := cell_of_row w gf 0 _ _ _ hF; have m1 := cell_of_row w gf 1 _ _ _ hF; have m2 := cell_of_row w gf 2 _ _ _ hF; have m3 := cell_of_row w gf 3 _ _ _ hF; have m4 := cell_of_row w gf 4 _ _ _ hF; have m5 := cell_of_row w gf 5 _ _ _ hF; have m6 := cell_of_row w gf 6 _ _ _ hF; have m7 := cell_of_row w gf 7 _ _ _ hF; have m8 := cell_of_row w gf 8 _ _ _ hF; go_simp; try with_reducible rfl)
                      (try simp only [Act.put, List.setIfInBounds_toArray]); (try dsimp only [List.set_cons_zero, List.set_cons_succ])
                      refine wpAnyH_take (i := 5) (v := ?_) opAt_5 (by kernel_rfl) (by kernel_rfl) (by kernel_rfl) (fun _ _ _ h => h) (Or.inl ⟨by rfl, ?_⟩) (by assumption) ?_
                      rotate_left
                      · (intro w hSw; obtain ⟨hF, t0, t1, e0, e1, e2, e3, e4, e5⟩ := hSw; have m0 := cell_of_row w gf 0 _ _ _ hF; have m1 := cell_of_row w gf 1 _ _ _ hF; have m2 := cell_of_row w gf 2 _ _ _ hF; have m3 := cell_of_row w gf 3 _ _ _ hF; have m4 := cell_of_row w gf 4 _ _ _ hF; have m5 := cell_of_row w gf 5 _ _ _ hF; have m6 := cell_of_row w gf 6 _ _ _ hF; have m7 := cell_of_row w gf 7 _ _ _ hF; have m8 := cell_of_row w gf 8 _ _ _ hF; go_simp; try with_reducible rfl)
                      (try simp only [Act.put, List.setIfInBounds_toArray]); (try dsimp only [List.set_cons_zero, List.set_cons_succ])
                      refine wpAnyH_take (i := 6) (v := ?_) opAt_6 (by kernel_rfl) (by kernel_rfl) (by kernel_rfl) (fun _ _ _ h => h) (Or.inl ⟨by rfl, ?_⟩) (by assumption) ?_
                      rotate_left
                      · (intro w hSw; obtain ⟨hF, t0, t1, e0, e1, e2, e3, e4, e5⟩ := hSw; have m0 := cell_of_row w gf 0 _ _ _ hF; have m1 := cell_of_row w gf 1 _ _ _ hF; have m2 := cell_of_row w gf 2 _ _ _ hF; have m3 := cell_of_row w gf 3 _ _ _ hF; have m4 := cell_of_row w gf 4 _ _ _ hF; have m5 := cell_of_row w gf 5 _ _ _ hF; have m6 := cell_of_row w gf 6 _ _ _ hF; have m7 := cell_of_row w gf 7 _ _ _ hF; have m8 := cell_of_row w gf 8 _ _ _ hF; go_simp; try with_reducible rfl)
                      (try simp only [Act.put, List.setIfInBounds_toArray]); (try dsimp only [List.set_cons_zero, List.set_cons_succ])
                      refine wpAnyH_take (i := 7) (v := ?_) opAt_7 (by kernel_rfl) (by kernel_rfl) (by kernel_rfl) (fun _ _ _ h => h) (Or.inl ⟨by rfl, ?_⟩) (by assumption) ?_
                      rotate_left
                      · (intro w hSw; obtain ⟨hF, t0, t1, e0, e1, e2, e3, e4, e5⟩ := hSw; have m0 := cell_of_row w gf 0 _ _ _ hF; have m1 := cell_of_row w gf 1 _ _ _ hF; have m2 := cell_of_row w gf 2 _ _ _ hF; have m3 := cell_of_row w gf 3 _ _ _ hF; have m4 := cell_of_row w gf 4 _ _ _ hF; have m5 := cell_of_row w gf 5 _ _ _ hF; have m6 := cell_of_row w gf 6 _ _ _ hF; have m7 := cell_of_row w gf 7 _ _ _ hF; have m8 := cell_of_row w gf 8 _ _ _ hF; go_simp; try with_reducible rfl)
                      (try simp only [Act.put, List.setIfInBounds_toArray]); (try dsimp only [List.set_cons_zero, List.set_cons_succ])
                      refine wpAnyH_take (i := 8) (v := ?_) opAt_8 (by kernel_rfl) (by kernel_rfl) (by kernel_rfl) (fun _ _ _ h => h) (Or.inl ⟨by rfl, ?_⟩) (by assumption) ?_
                      rotate_left
                      · (intro w hSw; obtain ⟨hF, t0, t1, e0, e1, e2, e3, e4, e5⟩ := hSw; have m0 := cell_of_row w gf 0 _ _ _ hF; have m1 := cell_of_row w gf 1 _ _ _ hF; have m2 := cell_of_row w gf 2 _ _ _ hF; have m3 := cell_of_row w gf 3 _ _ _ hF; have m4 := cell_of_row w gf 4 _ _ _ hF; have m5 := cell_of_row w gf 5 _ _ _ hF; have m6 := cell_of_row w gf 6 _ _ _ hF; have m7 := cell_of_row w gf 7 _ _ _ hF; have m8 := cell_of_row w gf 8 _ _ _ hF; go_simp; try with_reducible rfl)
                      (try simp only [Act.put, List.setIfInBounds_toArray]); (try dsimp only [List.set_cons_zero, List.set_cons_succ])
                      refine wpAnyH_take (i := 9) (v := ?_) opAt_9 (by kernel_rfl) (by kernel_rfl) (by kernel_rfl) (fun _ _ _ h => h) (Or.inl ⟨by rfl, ?_⟩) (by assumption) ?_
                      rotate_left
                      · (intro w hSw; obtain ⟨hF, t0, t1, e0, e1, e2, e3, e4, e5⟩ := hSw; have m0 := cell_of_row w gf 0 _ _ _ hF; have m1 := cell_of_row w gf 1 _ _ _ hF; have m2 := cell_of_row w gf 2 _ _ _ hF; have m3 := cell_of_row w gf 3 _ _ _ hF; have m4 := cell_of_row w gf 4 _ _ _ hF; have m5 := cell_of_row w gf 5 _ _ _ hF; have m6 := cell_of_row w gf 6 _ _ _ hF; have m7 := cell_of_row w gf 7 _ _ _ hF; have m8 := cell_of_row w gf 8 _ _ _ hF; go_simp; try with_reducible rfl)
                      (try simp only [Act.put, List.setIfInBounds_toArray]); (try dsimp only [List.set_cons_zero, List.set_cons_succ])
                      refine wpAnyH_take (i := 10) (v := ?_) opAt_10 (by kernel_rfl) (by kernel_rfl) (by kernel_rfl) (fun _ _ _ h => h) (Or.inl ⟨by rfl, ?_⟩) (by assumption) ?_
                      rotate_left
                      · (intro w hSw; obtain ⟨hF, t0, t1, e0, e1, e2, e3, e4, e5⟩ := hSw; have m0 := cell_of_row w gf 0 _ _ _ hF; have m1 := cell_of_row w gf 1 _ _ _ hF; have m2 := cell_of_row w gf 2 _ _ _ hF; have m3 := cell_of_row w gf 3 _ _ _ hF; have m4 := cell_of_row w gf 4 _ _ _ hF; have m5 := cell_of_row w gf 5 _ _ _ hF; have m6 := cell_of_row w gf 6 _ _ _ hF; have m7 := cell_of_row w gf 7 _ _ _ hF; have m8 := cell_of_row w gf 8 _ _ _ hF; go_simp; try with_reducible rfl)
                      (try simp only [Act.put, List.setIfInBounds_toArray]); (try dsimp only [List.set_cons_zero, List.set_cons_succ])
                      refine wpAnyH_take (i := 11) (v := ?_) opAt_11 (by kernel_rfl) (by kernel_rfl) (by kernel_rfl) (fun _ _ _ h => h) (Or.inl ⟨by rfl, ?_⟩) (by assumption) ?_
                      rotate_left
                      · (intro w hSw; obtain ⟨hF, t0, t1, e0, e1, e2, e3, e4, e5⟩ := hSw; have m0 := cell_of_row w gf 0 _ _ _ hF; have m1 := cell_of_row w gf 1 _ _ _ hF; have m2 := cell_of_row w gf 2 _ _ _ hF; have m3 := cell_of_row w gf 3 _ _ _ hF; have m4 := cell_of_row w gf 4 _ _ _ hF; have m5 := cell_of_row w gf 5 _ _ _ hF; have m6 := cell_of_row w gf 6 _ _ _ hF; have m7 := cell_of_row w gf 7 _ _ _ hF; have m8 := cell_of_row w gf 8 _ _ _ hF; go_simp; try with_reducible rfl)
                      (try simp only [Act.put, List.setIfInBounds_toArray]); (try dsimp only [List.set_cons_zero, List.set_cons_succ])
                      refine wpAnyH_take (i := 12) (v := ?_) opAt_12 (by kernel_rfl) (by kernel_rfl) (by kernel_rfl) (fun _ _ _ h => h) (Or.inl ⟨by rfl, ?_⟩) (by assumption) ?_
                      rotate_left
                      · (intro w hSw; obtain ⟨hF, t0, t1, e0, e1, e2, e3, e4, e5⟩ := hSw; have m0 := cell_of_row w gf 0 _ _ _ hF; have m1 := cell_of_row w gf 1 _ _ _ hF; have m2 := cell_of_row w gf 2 _ _ _ hF; have m3 := cell_of_row w gf 3 _ _ _ hF; have m4 := cell_of_row w gf 4 _ _ _ hF; have m5 := cell_of_row w gf 5 _ _ _ hF; have m6 := cell_of_row w gf 6 _ _ _ hF; have m7 := cell_of_row w gf 7 _ _ _ hF; have m8 := cell_of_row w gf 8 _ _ _ hF; go_simp; try with_reducible rfl)
                      (try simp only [Act.put, List.setIfInBounds_toArray]); (try dsimp only [List.set_cons_zero, List.set_cons_succ])
                      refine wpAnyH_take (i := 13) (v := ?_) opAt_13 (by kernel_rfl) (by kernel_rfl) (by kernel_rfl) (fun _ _ _ h => h) (Or.inl ⟨by rfl, ?_⟩) (by assumption) ?_
                      rotate_left
                      · (intro w hSw; obtain ⟨hF, t0, t1, e0, e1, e2, e3, e4, e5⟩ := hSw; have m0 := cell_of_row w gf 0 _ _ _ hF; have m1 := cell_of_row w gf 1 _ _ _ hF; have m2 := cell_of_row w gf 2 _ _ _ hF; have m3 := cell_of_row w gf 3 _ _ _ hF; have m4 := cell_of_row w gf 4 _ _ _ hF; have m5 := cell_of_row w gf 5 _ _ _ hF; have m6 := cell_of_row w gf 6 _ _ _ hF; have m7 := cell_of_row w gf 7 _ _ _ hF; have m8 := cell_of_row w gf 8 _ _ _ hF; go_simp; try with_reducible rfl)
                      (try simp only [Act.put, List.setIfInBounds_toArray]); (try dsimp only [List.set_cons_zero, List.set_cons_succ])
                      refine wpAnyH_ready (rs := [14]) (by kernel_rfl) (by simp) ?_
                      refine AllReadyH.cons rfl (fun K hK => ?_) AllReadyH.nil
                      go_simp
                      refine Calls.mono (HSA.out V0 hb0) ?_
                      rintro e V1 ⟨rfl, nb⟩
                      try go_wp2_with fail
                      have hb1 : Below W11.heap.size W11 V1 := hb0.trans (nb.mono hb0.size)
                      clear nb
                      refine hK.out _ _ (HKP.out _ hb1) (fun hHeld => ?_)
                      clear hK K
                      (try simp only [Act.put, List.setIfInBounds_toArray]); (try dsimp only [List.set_cons_zero, List.set_cons_succ])
                      refine wpAnyH_take (i := 15) (v := ?_) opAt_15 (by kernel_rfl) (by kernel_rfl) (by kernel_rfl) (fun _ _ _ h => h) (Or.inl ⟨by rfl, ?_⟩) (by assumption) ?_
                      rotate_left
                      · (intro w hSw; obtain ⟨hF, t0, t1, e0, e1, e2, e3, e4, e5⟩ := hSw; have m0 := cell_of_row w gf 0 _ _ _ hF; have m1 := cell_of_row w gf 1 _ _ _ hF; have m2 := cell_of_row w gf 2 _ _ _ hF; have m3 := cell_of_row w gf 3 _ _ _ hF; have m4 := cell_of_row w gf 4 _ _ _ hF; have m5 := cell_of_row w gf 5 _ _ _ hF; have m6 := cell_of_row w gf 6 _ _ _ hF; have m7 := cell_of_row w gf 7 _ _ _ hF; have m8 := cell_of_row w gf 8 _ _ _ hF; go_simp; try with_reducible rfl)
                      (try simp only [Act.put, List.setIfInBounds_toArray]); (try dsimp only [List.set_cons_zero, List.set_cons_succ])
                      refine wpAnyH_take (i := 16) (v := ?_) opAt_16 (by kernel_rfl) (by kernel_rfl) (by kernel_rfl) (fun _ _ _ h => h) (Or.inl ⟨by rfl, ?_⟩) (by assumption) ?_
                      rotate_left
                      · (intro w hSw; obtain ⟨hF, t0, t1, e0, e1, e2, e3, e4, e5⟩ := hSw; have m0 := cell_of_row w gf 0 _ _ _ hF; have m1 := cell_of_row w gf 1 _ _ _ hF; have m2 := cell_of_row w gf 2 _ _ _ hF; have m3 := cell_of_row w gf 3 _ _ _ hF; have m4 := cell_of_row w gf 4 _ _ _ hF; have m5 := cell_of_row w gf 5 _ _ _ hF; have m6 := cell_of_row w gf 6 _ _ _ hF; have m7 := cell_of_row w gf 7 _ _ _ hF; have m8 := cell_of_row w gf 8 _ _ _ hF; go_simp; try with_reducible rfl)
                      (try simp only [Act.put, List.setIfInBounds_toArray]); (try dsimp only [List.set_cons_zero, List.set_cons_succ])
                      refine wpAnyH_done (by kernel_rfl) ?_ _
                      refine NoPanic.normal ?_
                      go_wp2_with fail
                      exact ⟨⟨j + 1, by push_cast; rfl, by omega, Lib.hid (bel11 HBF.out hb1)⟩, by simp [RowKit.intOf]; omega⟩
                    · obtain rfl : si = j := by omega
                      have hns3 : ¬ ((si : Int) < (si : Int)) := by omega
                      have HBQ := Lib.hid (bel11 HBWb.out hh2.out)
                      have HK19 := Lib.hid (blk11 HK19.out hh2.out)
                      have HSVQ := Lib.hid (And.intro HSVB.out.1 (HSVB.out.2.on hh2.out))
                      clear hh2
                      go_upto_region 34 with fail
                      have h19 : x9.heap.size ≤ g19 := by rw [← hg19]; exact HSVQ.out.1
                      have H19 := Lib.hid h19
                      have hb0 : (wq.drew).heap[g19]? = some (.cells #[.int .u32 7, .slice Af si cf, .slice Aq 0 cq, .int .i64 (E : Int), .int .i64 wy] 44 (0, 0)) := HK19.out
                      have HBD := Lib.hid (below_drewN HBQ.out 1)
                      have HSVD := Lib.hid (HSVQ.out.2.on (below_drewN (Below.refl wq.heap.size wq) 1))
                      change Hid (Below x9.heap.size x9 wq.drew) at HBD
                      change Hid (Sc.ScanV 56 wq.drew x9.heap.size _ _) at HSVD
                      have hwb := HBQ.out.size
                      clear h19
                      refine wp_region_noPanic ?_
                      refine wp_region_held_drew (S := fun V : World => V.heap[g19]? = some (.cells #[.int .u32 7, .slice Af si cf, .slice Aq 0 cq, .int .i64 (E : Int), .int .i64 wy] 44 (0, 0))) (by kernel_rfl) hb0 (fun hHeld => ?_)
                      generalize World.drew wq = V0 at *
                      refine wpAnyH_take (i := 0) (v := ?_) opAt_0 (by kernel_rfl) (by kernel_rfl) (by kernel_rfl) (fun _ _ _ h => h) (Or.inl ⟨by rfl, ?_⟩) (by assumption) ?_
                      rotate_left
                      · (intro w hSw; obtain ⟨m0, m1, m2, m3, m4⟩ := Sc.rw5 hSw; go_simp; try with_reducible rfl)
                      (try simp only [Act.put, List.setIfInBounds_toArray]); (try dsimp only [List.set_cons_zero, List.set_cons_succ])
                      refine wpAnyH_take (i := 2) (v := ?_) opAt_2 (by kernel_rfl) (by kernel_rfl) (by kernel_rfl) (fun _ _ _ h => h) (Or.inl ⟨by rfl, ?_⟩) (by assumption) ?_
                      rotate_left
                      · (intro w hSw; obtain ⟨m0, m1, m2, m3, m4⟩ := Sc.rw5 hSw; go_simp; try with_reducible rfl)
                      (try simp only [Act.put, List.setIfInBounds_toArray]); (try dsimp only [List.set_cons_zero, List.set_cons_succ])
                      refine wpAnyH_take (i := 3) (v := ?_) opAt_3 (by kernel_rfl) (by kernel_rfl) (by kernel_rfl) (fun _ _ _ h => h) (Or.inl ⟨by rfl, ?_⟩) (by assumption) ?_
                      rotate_left
                      · (intro w hSw; obtain ⟨m0, m1, m2, m3, m4⟩ := Sc.rw5 hSw; go_simp; try with_reducible rfl)
                      (try simp only [Act.put, List.setIfInBounds_toArray]); (try dsimp only [List.set_cons_zero, List.set_cons_succ])
                      refine wpAnyH_ready (rs := [1]) (by kernel_rfl) (by simp) ?_
                      refine AllReadyH.cons rfl (fun K hK => ?_) AllReadyH.nil
                      go_simp
                      have hb9v := HB9.out.trans (HBD.out.mono HB9.out.size)
                      refine Calls.mono (name_any 7 (by omega) V0 (HX.out.below (bel11 HB1.out hb9v)).std) ?_
                      rintro e V1 ⟨rfl, nb⟩
                      try go_wp2_with fail
                      have hb1 := blk11 hb0 nb
                      have HBD1 := Lib.hid (bel11 HBD.out nb)
                      have HSV1 := Lib.hid (HSVD.out.on nb)
                      clear nb hb9v HBD HSVD
                      refine hK.out _ _ hb1 (fun hHeld => ?_)
                      clear hK K
                      (try simp only [Act.put, List.setIfInBounds_toArray]); (try dsimp only [List.set_cons_zero, List.set_cons_succ])
                      refine wpAnyH_ready (rs := [4]) (by kernel_rfl) (by simp) ?_
                      refine AllReadyH.cons rfl (fun K hK => ?_) AllReadyH.nil
                      go_simp
                      have htr := truncC (i := si) HS9.out.2.2.1.toN HSI3.out HS9.out.2.1
                      rw [← HE.out] at htr
                      have htc := ktrunc (nm := nameB 7) (z := ((E : Nat) : Int)) (by have := nameB_size 7; unfold maxLen; omega) (HFM.out.on HBD1.out) HS9.out.2.2.2.2.1 (by omega) (by have := HS9.out.2.2.2.2.2; omega)
                      rw [htr.1] at htc
                      obtain ⟨_, f, hfok, hfb, hfl, hfq2, hfs⟩ := htr
                      have hft := finv_trunc HS9.out.2.2.2.2.1 (nameB 7) ((E : Nat) : Int)
                      obtain ⟨s10, hs10⟩ : ∃ s10, s10 = (stepF s9 (truncK (nameB 7) ((E : Nat) : Int))).2 := ⟨_, rfl⟩
                      rw [← hs10] at htc hfl hfq2 hfs hft
                      have HF10 := Lib.hid (And.intro hfb (And.intro hfl (And.intro (show 100000 ≤ s10.quota by rw [hfq2]; exact HS9.out.2.2.2.1) (And.intro hft (show s10.steps ≤ 7 + n by rw [hfs]; have := HS9.out.2.2.2.2.2; omega)))))
                      have HTC := Lib.hid htc
                      clear htc hfok hfb hfl hfq2 hfs hft hs10
                      refine HTC.out.mono ?_
                      rintro e V2 ⟨rfl, M2, R2, j1, j2, j3, j4⟩
                      have hm9 : ∀ i, M9 i → i < x9.heap.size := fun i e => HFM.out.ml i e
                      have hk2 : V2.heap[g19]? = some (.cells #[.int .u32 7, .slice Af si cf, .slice Aq 0 cq, .int .i64 (E : Int), .int .i64 wy] 44 (0, 0)) := (j2.block g19 (Array.getElem?_eq_some_iff.1 hb1).1 (fun e => by have := hm9 _ e; have := H19.out; omega)).trans hb1
                      have HSV2 := Lib.hid (HSV1.out.chg j2 hm9)
                      have HFM2 := Lib.hid j1
                      have HNM := Lib.hid (show ¬ M2 g19 from fun e => (j3 _ e).elim (fun e => by have := hm9 _ e; have := H19.out; omega) (fun e => by have := (Array.getElem?_eq_some_iff.1 hb1).1; omega))
                      have HM2 := Lib.hid (show ∀ i, M2 i → x1.heap.size ≤ i from fun i e => (j3 i e).elim (HM10.out i) (fun e => by have := HBD1.out.size; have := HB9.out.size; omega))
                      have HB2x := Lib.hid (show Below x1.heap.size x1 V2 from (HB9.out.trans (HBD1.out.mono HB9.out.size)).trans (j2.below (Nat.le_trans HB9.out.size HBD1.out.size) (fun i e => HM10.out i e)))
                      clear j1 j2 j3 j4 hm9 HTC
                      try go_wp2_with fail
                      refine hK.out _ _ hk2 (fun hHeld => ?_)
                      clear hK K
                      (try simp only [Act.put, List.setIfInBounds_toArray]); (try dsimp only [List.set_cons_zero, List.set_cons_succ])
                      refine wpAnyH_take (i := 5) (v := ?_) opAt_5 (by kernel_rfl) (by kernel_rfl) (by kernel_rfl) (fun _ _ _ h => h) (Or.inl ⟨by rfl, ?_⟩) (by assumption) ?_
                      rotate_left
                      · (intro w hSw; obtain ⟨m0, m1, m2, m3, m4⟩ := Sc.rw5 hSw; go_simp; try with_reducible rfl)
                      (try simp only [Act.put, List.setIfInBounds_toArray]); (try dsimp only [List.set_cons_zero, List.set_cons_succ])
                      refine wpAnyH_done (by kernel_rfl) ?_ _
                      refine NoPanic.normal ?_
                      have d0 := cell_of_row V2 g19 0 _ _ _ hk2
                      have d1 := cell_of_row V2 g19 1 _ _ _ hk2
                      have d2 := cell_of_row V2 g19 2 _ _ _ hk2
                      have d3 := cell_of_row V2 g19 3 _ _ _ hk2
                      have d4 := cell_of_row V2 g19 4 _ _ _ hk2
                      have HK2 := Lib.hid hk2
                      have hE2 : 16 ≤ E ∧ E ≤ 40000 := by rw [HE.out]; exact ⟨off_ge L si, by have := Sg.offN_le HL.out si; omega⟩
                      obtain ⟨fi, hfi⟩ : ∃ fi, fi = (if si = 0 then 0 else 1 : Nat) := ⟨_, rfl⟩
                      have HFI := Lib.hid hfi
                      have hse := Sc.sseal12 HSV2.out (by show (7 : Nat) < _; decide) (by show E < _; omega) (by show (Sc.places 16 (L.take si)).length + 0 ≤ _; rw [Sc.places_length, List.length_take]; omega) (fun f hf => by
                        obtain ⟨i, r, h1, h2⟩ := places_mem hf
                        have := (HL.out.take si).num i r h1
                        rw [h2]
                        show 0 ≤ r.seq
                        omega)
                      rw [seal_take HL.out (by rw [← HNN.out]; exact i2), ← hfi, show (Sc.Sl.val ⟨7, E, si, fi, si⟩) = .agg #[.int .u32 7, .int .u32 (E : Int), .int .u32 (si : Int), .int .u64 (fi : Int), .int .u64 (si : Int)] from rfl] at hse
                      have HSE := Lib.hid hse
                      clear hk2 hse hfi hb0 hb1
                      go_wp2_with fail
                      refine HSE.out.mono ?_
                      rintro e V3 ⟨rfl, hb3⟩
                      have HB3 := Lib.hid hb3
                      clear hb3 HSE d0 d1 d2 d3 d4
                      go_wp2_with fail
                      refine Calls.mono (sof (A := A) 7 E si fi si V3 (by omega) (by omega)) ?_
                      rintro e V4 ⟨G2, rfl, hG2, hc4, hb4⟩
                      have HB4 := Lib.hid (bel11 HB3.out hb4)
                      have HY4 := Lib.hid (show SegIn V4 G2 A M2 R2 s10 ⟨7, E, si, fi, si, si⟩ from ⟨HFM2.out.on HB4.out, hc4, fun e => by have := HFM2.out.ml _ e; have := HB3.out.size; omega, fun e => by have := HFM2.out.rl _ e; have := HB3.out.size; omega⟩)
                      have hk4 := blk11 HK2.out HB4.out
                      have HK4 := Lib.hid hk4
                      have HKP := Lib.hid (show ∀ V : World, Below V4.heap.size V4 V → V.heap[g19]? = some (.cells #[.int .u32 7, .slice Af si cf, .slice Aq 0 cq, .int .i64 (E : Int), .int .i64 wy] 44 (0, 0)) from fun V hV => blk11 hk4 hV)
                      have HSF := Lib.hid (show ∀ V, Below V4.heap.size V4 V → Calls Tryz.prog 18 #[.pointer (some ⟨G2, 0, none⟩)] V fun e w' => e = .returned (.int .u64 (si : Int)) ∧ V = w' from fun V hV => ssafe (HY4.out.2.1.on hV))
                      have u1 : IntKind.u64.wrap (si : Int) = (si : Int) := IntWalk.u64_in _ (by omega)
                      have HG2 := Lib.hid (show V3.heap.size ≤ G2 from hG2)
                      clear hG2 hc4 hb4 hk4
                      go_wp2_with fail
                      refine wp_region_noPanic ?_
                      have hb0 : Below V4.heap.size V4 V4.drew := (Below.refl _ _).drew
                      refine wp_region_held_drew (S := fun V : World => V.heap[g19]? = some (.cells #[.int .u32 7, .slice Af si cf, .slice Aq 0 cq, .int .i64 (E : Int), .int .i64 wy] 44 (0, 0))) (by kernel_rfl) (HKP.out _ hb0) (fun hHeld => ?_)
                      generalize World.drew V4 = V0 at *
                      refine wpAnyH_take (i := 0) (v := ?_) opAt_0 (by kernel_rfl) (by kernel_rfl) (by kernel_rfl) (fun _ _ _ h => h) (Or.inl ⟨by rfl, ?_⟩) (by assumption) ?_
                      rotate_left
                      · (intro w hSw; obtain ⟨m0, m1, m2, m3, m4⟩ := Sc.rw5 hSw; go_simp; try with_reducible rfl)
                      (try simp only [Act.put, List.setIfInBounds_toArray]); (try dsimp only [List.set_cons_zero, List.set_cons_succ])
                      refine wpAnyH_take (i := 1) (v := ?_) opAt_1 (by kernel_rfl) (by kernel_rfl) (by kernel_rfl) (fun _ _ _ h => h) (Or.inl ⟨by rfl, ?_⟩) (by assumption) ?_
                      rotate_left
                      · (intro w hSw; obtain ⟨m0, m1, m2, m3, m4⟩ := Sc.rw5 hSw; go_simp; try with_reducible rfl)
                      (try simp only [Act.put, List.setIfInBounds_toArray]); (try dsimp only [List.set_cons_zero, List.set_cons_succ])
                      refine wpAnyH_take (i := 2) (v := ?_) opAt_2 (by kernel_rfl) (by kernel_rfl) (by kernel_rfl) (fun _ _ _ h => h) (Or.inl ⟨by rfl, ?_⟩) (by assumption) ?_
                      rotate_left
                      · (intro w hSw; obtain ⟨m0, m1, m2, m3, m4⟩ := Sc.rw5 hSw; go_simp; try with_reducible rfl)
                      (try simp only [Act.put, List.setIfInBounds_toArray]); (try dsimp only [List.set_cons_zero, List.set_cons_succ])
                      refine wpAnyH_take (i := 3) (v := ?_) opAt_3 (by kernel_rfl) (by kernel_rfl) (by kernel_rfl) (fun _ _ _ h => h) (Or.inl ⟨by rfl, ?_⟩) (by assumption) ?_
                      rotate_left
                      · (intro w hSw; obtain ⟨m0, m1, m2, m3, m4⟩ := Sc.rw5 hSw; go_simp; try with_reducible rfl)
                      (try simp only [Act.put, List.setIfInBounds_toArray]); (try dsimp only [List.set_cons_zero, List.set_cons_succ])
                      refine wpAnyH_take (i := 5) (v := ?_) opAt_5 (by kernel_rfl) (by kernel_rfl) (by kernel_rfl) (fun _ _ _ h => h) (Or.inl ⟨by rfl, ?_⟩) (by assumption) ?_
                      rotate_left
                      · (intro w hSw; obtain ⟨m0, m1, m2, m3, m4⟩ := Sc.rw5 hSw; go_simp; try with_reducible rfl)
                      (try simp only [Act.put, List.setIfInBounds_toArray]); (try dsimp only [List.set_cons_zero, List.set_cons_succ])
                      refine wpAnyH_take (i := 6) (v := ?_) opAt_6 (by kernel_rfl) (by kernel_rfl) (by kernel_rfl) (fun _ _ _ h => h) (Or.inl ⟨by rfl, ?_⟩) (by assumption) ?_
                      rotate_left
                      · (intro w hSw; obtain ⟨m0, m1, m2, m3, m4⟩ := Sc.rw5 hSw; go_simp; try with_reducible rfl)
                      (try simp only [Act.put, List.setIfInBounds_toArray]); (try dsimp only [List.set_cons_zero, List.set_cons_succ])
                      refine wpAnyH_take (i := 7) (v := ?_) opAt_7 (by kernel_rfl) (by kernel_rfl) (by kernel_rfl) (fun _ _ _ h => h) (Or.inl ⟨by rfl, ?_⟩) (by assumption) ?_
                      rotate_left
                      · (intro w hSw; obtain ⟨m0, m1, m2, m3, m4⟩ := Sc.rw5 hSw; go_simp; try with_reducible rfl)
                      (try simp only [Act.put, List.setIfInBounds_toArray]); (try dsimp only [List.set_cons_zero, List.set_cons_succ])
                      refine wpAnyH_take (i := 8) (v := ?_) opAt_8 (by kernel_rfl) (by kernel_rfl) (by kernel_rfl) (fun _ _ _ h => h) (Or.inl ⟨by rfl, ?_⟩) (by assumption) ?_
                      rotate_left
                      · (intro w hSw; obtain ⟨m0, m1, m2, m3, m4⟩ := Sc.rw5 hSw; go_simp; try with_reducible rfl)
                      (try simp only [Act.put, List.setIfInBounds_toArray]); (try dsimp only [List.set_cons_zero, List.set_cons_succ])
                      refine wpAnyH_ready (rs := [4]) (by kernel_rfl) (by simp) ?_
                      refine AllReadyH.cons rfl (fun K hK => ?_) AllReadyH.nil
                      go_simp
                      refine Calls.mono (HSF.out V0 hb0) ?_
                      rintro e V1 ⟨rfl, h4⟩
                      have h5 := h4.symm
                      subst h5
                      try go_wp2_with fail
                      have hb1 := hb0
                      refine hK.out _ _ (HKP.out _ hb1) (fun hHeld => ?_)
                      clear hK K
                      (try simp only [Act.put, List.setIfInBounds_toArray]); (try dsimp only [List.set_cons_zero, List.set_cons_succ])
                      refine wpAnyH_take (i := 9) (v := ?_) opAt_9 (by kernel_rfl) (by kernel_rfl) (by kernel_rfl) (fun _ _ _ h => h) (Or.inl ⟨by rfl, ?_⟩) (by assumption) ?_
                      rotate_left
                      · (intro w hSw; obtain ⟨m0, m1, m2, m3, m4⟩ := Sc.rw5 hSw; go_simp; try with_reducible rfl)
                      (try simp only [Act.put, List.setIfInBounds_toArray]); (try dsimp only [List.set_cons_zero, List.set_cons_succ])
                      refine wpAnyH_take (i := 10) (v := ?_) opAt_10 (by kernel_rfl) (by kernel_rfl) (by kernel_rfl) (fun _ _ _ h => h) (Or.inl ⟨by rfl, ?_⟩) (by assumption) ?_
                      rotate_left
                      · (intro w hSw; obtain ⟨m0, m1, m2, m3, m4⟩ := Sc.rw5 hSw; go_simp; try with_reducible rfl)
                      (try simp only [Act.put, List.setIfInBounds_toArray]); (try dsimp only [List.set_cons_zero, List.set_cons_succ])
                      refine wpAnyH_done (by kernel_rfl) ?_ _
                      refine NoPanic.normal ?_
                      have HBA := Lib.hid hb1
                      have hkA := blk11 HK4.out hb1
                      have d1 := cell_of_row V1 g19 1 _ _ _ hkA
                      obtain ⟨q1, hq1⟩ : ∃ q, q = si + 1 := ⟨_, rfl⟩
                      have u2 := w64_next hq1 (Nat.le_trans i2 hn30)
                      have u3 := u64_next hq1 (Nat.le_trans i2 hn30)
                      have HQ1 := Lib.hid hq1
                      have HU := Lib.hid (And.intro u2 u3)
                      clear u1 u2 u3 cm
                      have kc := Lib.run_convert_bytes_const (P := Tryz.prog) V1 47 5 #[.int .u8 109, .int .u8 111, .int .u8 114, .int .u8 101] 4 4 Tryz.underlying47 Tryz.underlying5
                      obtain ⟨gl, hgl⟩ : ∃ g, V1.heap.size = g := ⟨_, rfl⟩
                      rw [hgl] at kc
                      obtain ⟨WL, hWL⟩ : ∃ V, V1.alloc (.cells #[.int .u8 109, .int .u8 111, .int .u8 114, .int .u8 101] 5 (4, 5)) = V := ⟨_, rfl⟩
                      obtain ⟨g25, hg25⟩ : ∃ g, WL.heap.size = g := ⟨_, rfl⟩
                      obtain ⟨WA, hWA⟩ : ∃ V, WL.alloc (.cells #[.int .u64 (q1 : Int), .int .i64 1, .slice (some ⟨gl, 0, none⟩) 4 4, .slice none 0 0, .int .u32 0, .int .u32 0] 51) = V := ⟨_, rfl⟩
                      have hbL : Below V1.heap.size V1 WL := by rw [← hWL]; exact al11 _ _
                      have hbA : Below WL.heap.size WL WA := by rw [← hWA]; exact al11 _ _
                      have hkL : WA.heap[gl]? = some (.cells #[.int .u8 109, .int .u8 111, .int .u8 114, .int .u8 101] 5 (4, 5)) := blk11 (by rw [← hWL, ← hgl]; exact heap_alloc_new V1 _) hbA
                      have hk25 : WA.heap[g25]? = some (.cells #[.int .u64 (q1 : Int), .int .i64 1, .slice (some ⟨gl, 0, none⟩) 4 4, .slice none 0 0, .int .u32 0, .int .u32 0] 51 (0, 0)) := by rw [← hWA, ← hg25]; exact heap_alloc_new WL _
                      have hb4A := bel11 hb1 (bel11 hbL hbA)
                      have hg4 : V4.heap.size ≤ gl ∧ V4.heap.size ≤ g25 := by rw [← hgl, ← hg25]; exact ⟨hb1.size, Nat.le_trans hb1.size hbL.size⟩
                      have hbs : Bs WA WA.heap.size (.slice (some ⟨gl, 0, none⟩) 4 4) [109, 111, 114, 101] := bytes_bs [109, 111, 114, 101] _ rfl _ _ gl 4 rfl hkL (Array.getElem?_eq_some_iff.1 hkL).1
                      have hV4x : Below x1.heap.size x1 V4 := HB2x.out.trans (HB4.out.mono HB2x.out.size)
                      have hWAx : Below x1.heap.size x1 WA := hV4x.trans (hb4A.mono hV4x.size)
                      have hfn := HL.out.few
                      have hsap := sappend (w := WA) (G := G2) (A := A) (B := x1.heap.size) (Br := WA.heap.size) (x := ⟨7, E, si, fi, si, si⟩) (r := moreR si) (v := recV (q1 : Int) 1 (.slice (some ⟨gl, 0, none⟩) 4 4) (.slice none 0 0) 0 0) (s := s10) (M := M2) (R := R2) ⟨HY4.out.1.on hb4A, HY4.out.2.1.on hb4A, HY4.out.2.2⟩ ((HX.out.below (bel11 HB1.out hWAx)).mono HB1.out.size) hWAx.size HM2.out ⟨by show 7 < _; omega, by show E < _; omega, by show si < _; omega, by show fi < _; have := HFI.out; rw [this]; split <;> omega, by show si < _; omega, by show si < _; omega⟩ (by show si < _; omega) ⟨_, _, by rw [hq1]; rfl, hbs, ⟨none, 0, rfl, Nat.le_refl _, fun h => absurd rfl h⟩⟩ (Nat.le_refl _) (Rc.fit_may (more_may (by omega))) HF10.out.2.2.2.1 (by omega) (by have := HF10.out.2.2.2.2; omega)
                      have hap := appM HL.out (i := si) (fi := fi) (by rw [← HNN.out]; exact i2) HF10.out.2.1 HF10.out.1 HF10.out.2.2.1
                      have hin := appG_inv HF10.out.2.2.2.1 ⟨7, E, si, fi, si, si⟩ (moreR si)
                      rw [← HE.out] at hap
                      rw [hap.1, hap.2.1, show locV (7, E) = .agg #[.int .u32 7, .int .u32 (E : Int)] from rfl, show ((0 : Nat) : Int) = 0 from rfl] at hsap
                      obtain ⟨s11, hs11⟩ : ∃ s11, s11 = (appG s10 ⟨7, E, si, fi, si, si⟩ (moreR si)).2.2.1 := ⟨_, rfl⟩
                      rw [← hs11] at hsap hap hin
                      unfold recV at hsap
                      have HSAP := Lib.hid hsap
                      have H11 := Lib.hid (And.intro hap.2.2 hin.1)
                      have HWA := Lib.hid (And.intro hWA hg25)
                      have HKL := Lib.hid (And.intro hkL (And.intro hk25 (And.intro hg4 hb4A)))
                      have HWAx := Lib.hid hWAx
                      have HKW := Lib.hid (blk11 HK4.out hb4A)
                      clear hbL hbA hkL hk25 hb4A hg4 hbs hV4x hWAx hfn hsap hap hin hs11 hg25 hWA hq1 hkA hb1
                      obtain ⟨u2, u3⟩ := HU.out
                      go_wp2_with fail
                      clear u2 u3
                      rw [show (si : Int) + 1 = (q1 : Int) by rw [HQ1.out]; push_cast; rfl]
                      rw [HWA.out.1]
                      try rw [HWA.out.2]
                      refine HSAP.out.mono ?_
                      rintro e VB ⟨rfl, M3, R3, j1, j2, j3, j4, j5, j6, j7⟩
                      have hgm : ∀ g, V4.heap.size ≤ g → ¬ (M2 g ∨ g = G2) := fun g hg e => e.elim (fun e => by have := HY4.out.1.ml _ e; omega) (fun e => by have := HY4.out.2.1.lt; omega)
                      have hkLB := (j2.block gl (Array.getElem?_eq_some_iff.1 HKL.out.1).1 (hgm gl HKL.out.2.2.1.1)).trans HKL.out.1
                      have hk25B := (j2.block g25 (Array.getElem?_eq_some_iff.1 HKL.out.2.1).1 (hgm g25 HKL.out.2.2.1.2)).trans HKL.out.2.1
                      have hk19B := (j2.block g19 (Array.getElem?_eq_some_iff.1 HKW.out).1 (fun e => e.elim HNM.out (fun e => by have h1 := (Array.getElem?_eq_some_iff.1 HK2.out).1; have h2 := HG2.out; have h3 := HB3.out.size; omega))).trans HKW.out
                      have hVBx : Below x1.heap.size x1 VB := HWAx.out.trans (j2.below HWAx.out.size (fun i e => e.elim (HM2.out i) (fun e => by have h2 := HG2.out; have h3 := HB3.out.size; have h4 := HB2x.out.size; omega)))
                      obtain ⟨g26, hg26⟩ : ∃ g, VB.heap.size = g := ⟨_, rfl⟩
                      obtain ⟨VC, hVC⟩ : ∃ V, VB.alloc (.cells #[.int .u32 7, .int .u32 (E : Int)] 49) = V := ⟨_, rfl⟩
                      have hbC : Below VB.heap.size VB VC := by rw [← hVC]; exact al11 _ _
                      have hk26 : VC.heap[g26]? = some (.cells #[.int .u32 7, .int .u32 (E : Int)] 49 (0, 0)) := by rw [← hVC, ← hg26]; exact heap_alloc_new VB _
                      have hVCx : Below x1.heap.size x1 VC := hVBx.trans (hbC.mono hVBx.size)
                      have hbytes : (f.app (Rc.runL (moreR si))).bytes = Sc.layB 7 (L.take si) ++ Rc.runL (moreR si) := by rw [FSt.app_bytes, HF10.out.1]
                      have hofm := ofM HL.out (i := si) (by rw [← HNN.out]; exact i2)
                      have hlen : (f.app (Rc.runL (moreR si))).bytes.length ≤ 100000 := by rw [hbytes, List.length_append, layB_take_length, Rc.runL_length, more_size, ← HE.out]; omega
                      have hld := sload ofC ((HX.out.below (bel11 HB1.out hVCx)).mono HB1.out.size) hVCx.size (by omega : 1 ≤ 7 ∧ 7 ≤ 16777215) (j1.on hbC) H11.out.2 (by have := Rc.runL_length (moreR si); rw [more_size] at this; omega) H11.out.1 (mayN_name (by omega)) hlen
                      rw [hbytes, hofm.1, ← HE.out] at hld
                      have HLD2 := Lib.hid hld
                      have HF2 := Lib.hid hofm.2
                      have HC := Lib.hid (And.intro (blk11 hkLB hbC) (And.intro (blk11 hk25B hbC) (And.intro (blk11 hk19B hbC) (And.intro hk26 hVCx))))
                      clear j1 j2 j3 j4 j5 j6 j7 hgm hkLB hk25B hk19B hVBx hbC hk26 hVCx hbytes hofm hlen hld
                      go_wp2_with fail
                      refine HLD2.out.mono ?_
                      rintro e VD ⟨rv2, rfl, hsv, hbD2⟩
                      obtain ⟨E2, hE3⟩ : ∃ E2, E2 = E + 29 := ⟨_, rfl⟩
                      rw [← hE3] at hsv
                      obtain ⟨Af2, cf2, Aq2, cq2, q3, rfl, hq3, hncf2, hown3, hfq3⟩ := Sc.ScanV.lit2 hsv 7 (E2 : Int) 0 q1 0 rfl (by show (Sc.places 16 (L.take si ++ [moreR si])).length = q1; rw [Sc.places_length, List.length_append, List.length_take, ← HNN.out, Nat.min_eq_left i2, HQ1.out]; rfl) rfl rfl rfl
                      obtain ⟨gF2, Ak, nk, ck, Aw, nv, cw, rfl, hgF2, c0, c1, c2, c3, c4, c5, c6, c7, c8, hbk, hbv⟩ := found_cells11 (id := 7) hown3 hfq3 hq3 (by rw [HQ1.out]; omega) HF2.out
                      dsimp only at c1 c2 c3 c4 c7 c8 hbk hbv
                      rw [← HE.out] at c1
                      rw [show (moreR si).seq = (q1 : Int) by rw [HQ1.out]; rfl] at c3
                      obtain ⟨g28, hg28⟩ : ∃ g, VD.heap.size = g := ⟨_, rfl⟩
                      obtain ⟨VE, hVE⟩ : ∃ V, VD.alloc (.cells #[.int .u32 7, .slice (some ⟨gF2, 0, none⟩) q1 cf2, .slice Aq2 0 cq2, .int .i64 (E2 : Int), .int .i64 0] 44) = V := ⟨_, rfl⟩
                      have hbE : Below VD.heap.size VD VE := by rw [← hVE]; exact al11 _ _
                      have hk28 : VE.heap[g28]? = some (.cells #[.int .u32 7, .slice (some ⟨gF2, 0, none⟩) q1 cf2, .slice Aq2 0 cq2, .int .i64 (E2 : Int), .int .i64 0] 44 (0, 0)) := by rw [← hVE, ← hg28]; exact heap_alloc_new VD _
                      have hbCE := bel11 hbD2 hbE
                      have hk25E := blk11 HC.out.2.1 hbCE
                      have hk19E := blk11 HC.out.2.2.1 hbCE
                      have hk26E := blk11 HC.out.2.2.2.1 hbCE
                      have hkLE := blk11 HC.out.1 hbCE
                      have hbsE : Bs VE VE.heap.size (.slice (some ⟨gl, 0, none⟩) 4 4) [109, 111, 114, 101] := bytes_bs [109, 111, 114, 101] _ rfl _ _ gl 4 rfl hkLE (Array.getElem?_eq_some_iff.1 hkLE).1
                      have HKP9 := Lib.hid (show ∀ V : World, Below VE.heap.size VE V → (V.heap[g28]? = some (.cells #[.int .u32 7, .slice (some ⟨gF2, 0, none⟩) q1 cf2, .slice Aq2 0 cq2, .int .i64 (E2 : Int), .int .i64 0] 44 (0, 0)) ∧ V.heap[g19]? = some (.cells #[.int .u32 7, .slice Af si cf, .slice Aq 0 cq, .int .i64 (E : Int), .int .i64 wy] 44 (0, 0)) ∧ V.heap[g26]? = some (.cells #[.int .u32 7, .int .u32 (E : Int)] 49 (0, 0)) ∧ V.heap[g25]? = some (.cells #[.int .u64 (q1 : Int), .int .i64 1, .slice (some ⟨gl, 0, none⟩) 4 4, .slice none 0 0, .int .u32 0, .int .u32 0] 51 (0, 0)) ∧ V.cell? ⟨gF2, si * 9, none⟩ = some (.int .u32 7) ∧ V.cell? ⟨gF2, si * 9 + 1, none⟩ = some (.int .u32 (E : Int)) ∧ V.cell? ⟨gF2, si * 9 + 2, none⟩ = some (.int .i64 29) ∧ V.cell? ⟨gF2, si * 9 + 3, none⟩ = some (.int .u64 (q1 : Int)) ∧ V.cell? ⟨gF2, si * 9 + 4, none⟩ = some (.int .i64 1) ∧ V.cell? ⟨gF2, si * 9 + 5, none⟩ = some (.slice Ak nk ck) ∧ V.cell? ⟨gF2, si * 9 + 6, none⟩ = some (.slice Aw nv cw) ∧ V.cell? ⟨gF2, si * 9 + 7, none⟩ = some (.int .u32 0) ∧ V.cell? ⟨gF2, si * 9 + 8, none⟩ = some (.int .u32 0)) from fun V hV => by
                        have hx := bel11 hbE hV
                        exact ⟨blk11 hk28 hV, blk11 hk19E hV, blk11 hk26E hV, blk11 hk25E hV, (hx.cell (fblock_of_cell c0)).trans c0, (hx.cell (fblock_of_cell c1)).trans c1, (hx.cell (fblock_of_cell c2)).trans c2, (hx.cell (fblock_of_cell c3)).trans c3, (hx.cell (fblock_of_cell c4)).trans c4, (hx.cell (fblock_of_cell c5)).trans c5, (hx.cell (fblock_of_cell c6)).trans c6, (hx.cell (fblock_of_cell c7)).trans c7, (hx.cell (fblock_of_cell c8)).trans c8⟩)
                      have HSA9 := Lib.hid (show ∀ V : World, Below VE.heap.size VE V → Calls Tryz.prog 16 #[.agg #[.int .u64 (q1 : Int), .int .i64 1, .slice Ak nk ck, .slice Aw nv cw, .int .u32 0, .int .u32 0], .agg #[.int .u64 (q1 : Int), .int .i64 1, .slice (some ⟨gl, 0, none⟩) 4 4, .slice none 0 0, .int .u32 0, .int .u32 0]] V fun e w' => e = .returned (.bool true) ∧ Below V.heap.size V w' from fun V hV => by
                        have hx := bel11 hbE hV
                        have e1 : (q1 : Int) = (moreR si).seq := by rw [HQ1.out]; rfl
                        rw [e1]
                        exact same_t (r := moreR si) ⟨_, _, rfl, (hbk.below hx (Nat.le_refl _)).mono hx.size, (hbv.below hx (Nat.le_refl _)).mono hx.size⟩ ⟨_, _, rfl, (hbsE.below hV (Nat.le_refl _)).mono hV.size, ⟨none, 0, rfl, Nat.le_refl _, fun h => absurd rfl h⟩⟩)
                      have HEND := Lib.hid (show Below w.heap.size w VE from bel11 HB1.out (HC.out.2.2.2.2.trans (hbCE.mono HC.out.2.2.2.2.size)))
                      have HVE := Lib.hid (And.intro hVE hg28)
                      have hsq : si < q1 := by rw [HQ1.out]; omega
                      have u5 := w64_next HQ1.out (Nat.le_trans i2 hn30)
                      have u6 : (si : Int) + 1 = (q1 : Int) := by rw [HQ1.out]; push_cast; rfl
                      have u8 := i64_next HQ1.out (Nat.le_trans i2 hn30)
                      clear hsv hbD2 hown3 hfq3 hq3 hgF2 c0 c1 c2 c3 c4 c5 c6 c7 c8 hbk hbv hbE hk28 hbCE hk25E hk19E hk26E hkLE hbsE hVE hg28 hE3
                      go_wp2_with fail
                      rw [HVE.out.1]
                      try rw [HVE.out.2]
                      refine wp_region_noPanic ?_
                      have hb0 : Below VE.heap.size VE VE.drew := (Below.refl _ _).drew
                      refine wp_region_held_drew (S := fun V : World => V.heap[g28]? = some (.cells #[.int .u32 7, .slice (some ⟨gF2, 0, none⟩) q1 cf2, .slice Aq2 0 cq2, .int .i64 (E2 : Int), .int .i64 0] 44 (0, 0)) ∧ V.heap[g19]? = some (.cells #[.int .u32 7, .slice Af si cf, .slice Aq 0 cq, .int .i64 (E : Int), .int .i64 wy] 44 (0, 0)) ∧ V.heap[g26]? = some (.cells #[.int .u32 7, .int .u32 (E : Int)] 49 (0, 0)) ∧ V.heap[g25]? = some (.cells #[.int .u64 (q1 : Int), .int .i64 1, .slice (some ⟨gl, 0, none⟩) 4 4, .slice none 0 0, .int .u32 0, .int .u32 0] 51 (0, 0)) ∧ V.cell? ⟨gF2, si * 9, none⟩ = some (.int .u32 7) ∧ V.cell? ⟨gF2, si * 9 + 1, none⟩ = some (.int .u32 (E : Int)) ∧ V.cell? ⟨gF2, si * 9 + 2, none⟩ = some (.int .i64 29) ∧ V.cell? ⟨gF2, si * 9 + 3, none⟩ = some (.int .u64 (q1 : Int)) ∧ V.cell? ⟨gF2, si * 9 + 4, none⟩ = some (.int .i64 1) ∧ V.cell? ⟨gF2, si * 9 + 5, none⟩ = some (.slice Ak nk ck) ∧ V.cell? ⟨gF2, si * 9 + 6, none⟩ = some (.slice Aw nv cw) ∧ V.cell? ⟨gF2, si * 9 + 7, none⟩ = some (.int .u32 0) ∧ V.cell? ⟨gF2, si * 9 + 8, none⟩ = some (.int .u32 0)) (by kernel_rfl) (HKP9.out _ hb0) (fun hHeld => ?_)
                      generalize World.drew VE = V0 at *
                      refine wpAnyH_take (i := 0) (v := ?_) opAt_0 (by kernel_rfl) (by kernel_rfl) (by kernel_rfl) (fun _ _ _ h => h) (Or.inl ⟨by rfl, ?_⟩) (by assumption) ?_
                      rotate_left
                      · (intro w hSw; obtain ⟨h28, h19, h26, h25, c0, c1, c2, c3, c4, c5, c6, c7, c8⟩ := hSw; obtain ⟨m0, m1, m2, m3, m4⟩ := Sc.rw5 h28; obtain ⟨s0, s1, s2, s3, s4⟩ := Sc.rw5 h19; have l0 := cell_of_row w g26 0 _ _ _ h26; have l1 := cell_of_row w g26 1 _ _ _ h26; obtain ⟨p0, p1, p2, p3, p4, p5⟩ := Sg.box6 h25; go_simp; try with_reducible rfl)
                      (try simp only [Act.put, List.setIfInBounds_toArray]); (try dsimp only [List.set_cons_zero, List.set_cons_succ])
                      refine wpAnyH_take (i := 1) (v := ?_) opAt_1 (by kernel_rfl) (by kernel_rfl) (by kernel_rfl) (fun _ _ _ h => h) (Or.inl ⟨by rfl, ?_⟩) (by assumption) ?_
                      rotate_left
                      · (intro w hSw; obtain ⟨h28, h19, h26, h25, c0, c1, c2, c3, c4, c5, c6, c7, c8⟩ := hSw; obtain ⟨m0, m1, m2, m3, m4⟩ := Sc.rw5 h28; obtain ⟨s0, s1, s2, s3, s4⟩ := Sc.rw5 h19; have l0 := cell_of_row w g26 0 _ _ _ h26; have l1 := cell_of_row w g26 1 _ _ _ h26; obtain ⟨p0, p1, p2, p3, p4, p5⟩ := Sg.box6 h25; go_simp; try with_reducible rfl)
                      (try simp only [Act.put, List.setIfInBounds_toArray]); (try dsimp only [List.set_cons_zero, List.set_cons_succ])
                      refine wpAnyH_take (i := 2) (v := ?_) opAt_2 (by kernel_rfl) (by kernel_rfl) (by kernel_rfl) (fun _ _ _ h => h) (Or.inl ⟨by rfl, ?_⟩) (by assumption) ?_
                      rotate_left
                      · (intro w hSw; obtain ⟨h28, h19, h26, h25, c0, c1, c2, c3, c4, c5, c6, c7, c8⟩ := hSw; obtain ⟨m0, m1, m2, m3, m4⟩ := Sc.rw5 h28; obtain ⟨s0, s1, s2, s3, s4⟩ := Sc.rw5 h19; have l0 := cell_of_row w g26 0 _ _ _ h26; have l1 := cell_of_row w g26 1 _ _ _ h26; obtain ⟨p0, p1, p2, p3, p4, p5⟩ := Sg.box6 h25; go_simp; try with_reducible rfl)
                      (try simp only [Act.put, List.setIfInBounds_toArray]); (try dsimp only [List.set_cons_zero, List.set_cons_succ])
                      refine wpAnyH_take (i := 3) (v := ?_) opAt_3 (by kernel_rfl) (by kernel_rfl) (by kernel_rfl) (fun _ _ _ h => h) (Or.inl ⟨by rfl, ?_⟩) (by assumption) ?_
                      rotate_left
                      · (intro w hSw; obtain ⟨h28, h19, h26, h25, c0, c1, c2, c3, c4, c5, c6, c7, c8⟩ := hSw; obtain ⟨m0, m1, m2, m3, m4⟩ := Sc.rw5 h28; obtain ⟨s0, s1, s2, s3, s4⟩ := Sc.rw5 h19; have l0 := cell_of_row w g26 0 _ _ _ h26; have l1 := cell_of_row w g26 1 _ _ _ h26; obtain ⟨p0, p1, p2, p3, p4, p5⟩ := Sg.box6 h25; go_simp; try with_reducible rfl)
                      (try simp only [Act.put, List.setIfInBounds_toArray]); (try dsimp only [List.set_cons_zero, List.set_cons_succ])
                      refine wpAnyH_take (i := 4) (v := ?_) opAt_4 (by kernel_rfl) (by kernel_rfl) (by kernel_rfl) (fun _ _ _ h => h) (Or.inl ⟨by rfl, ?_⟩) (by assumption) ?_
                      rotate_left
                      · (intro w hSw; obtain ⟨h28, h19, h26, h25, c0, c1, c2, c3, c4, c5, c6, c7, c8⟩ := hSw; obtain ⟨m0, m1, m2, m3, m4⟩ := Sc.rw5 h28; obtain ⟨s0, s1, s2, s3, s4⟩ := Sc.rw5 h19; have l0 := cell_of_row w g26 0 _ _ _ h26; have l1 := cell_of_row w g26 1 _ _ _ h26; obtain ⟨p0, p1, p2, p3, p4, p5⟩ := Sg.box6 h25; go_simp; try with_reducible rfl)
                      (try simp only [Act.put, List.setIfInBounds_toArray]); (try dsimp only [List.set_cons_zero, List.set_cons_succ])
                      refine wpAnyH_take (i := 5) (v := ?_) opAt_5 (by kernel_rfl) (by kernel_rfl) (by kernel_rfl) (fun _ _ _ h => h) (Or.inl ⟨by rfl, ?_⟩) (by assumption) ?_
                      rotate_left
                      · (intro w hSw; obtain ⟨h28, h19, h26, h25, c0, c1, c2, c3, c4, c5, c6, c7, c8⟩ := hSw; obtain ⟨m0, m1, m2, m3, m4⟩ := Sc.rw5 h28; obtain ⟨s0, s1, s2, s3, s4⟩ := Sc.rw5 h19; have l0 := cell_of_row w g26 0 _ _ _ h26; have l1 := cell_of_row w g26 1 _ _ _ h26; obtain ⟨p0, p1, p2, p3, p4, p5⟩ := Sg.box6 h25; go_simp; try with_reducible rfl)
                      (try simp only [Act.put, List.setIfInBounds_toArray]); (try dsimp only [List.set_cons_zero, List.set_cons_succ])
                      refine wpAnyH_take (i := 6) (v := ?_) opAt_6 (by kernel_rfl) (by kernel_rfl) (by kernel_rfl) (fun _ _ _ h => h) (Or.inl ⟨by rfl, ?_⟩) (by assumption) ?_
                      rotate_left
                      · (intro w hSw; obtain ⟨h28, h19, h26, h25, c0, c1, c2, c3, c4, c5, c6, c7, c8⟩ := hSw; obtain ⟨m0, m1, m2, m3, m4⟩ := Sc.rw5 h28; obtain ⟨s0, s1, s2, s3, s4⟩ := Sc.rw5 h19; have l0 := cell_of_row w g26 0 _ _ _ h26; have l1 := cell_of_row w g26 1 _ _ _ h26; obtain ⟨p0, p1, p2, p3, p4, p5⟩ := Sg.box6 h25; go_simp; try with_reducible rfl)
                      (try simp only [Act.put, List.setIfInBounds_toArray]); (try dsimp only [List.set_cons_zero, List.set_cons_succ])
                      refine wpAnyH_take (i := 7) (v := ?_) opAt_7 (by kernel_rfl) (by kernel_rfl) (by kernel_rfl) (fun _ _ _ h => h) (Or.inl ⟨by rfl, ?_⟩) (by assumption) ?_
                      rotate_left
                      · (intro w hSw; obtain ⟨h28, h19, h26, h25, c0, c1, c2, c3, c4, c5, c6, c7, c8⟩ := hSw; obtain ⟨m0, m1, m2, m3, m4⟩ := Sc.rw5 h28; obtain ⟨s0, s1, s2, s3, s4⟩ := Sc.rw5 h19; have l0 := cell_of_row w g26 0 _ _ _ h26; have l1 := cell_of_row w g26 1 _ _ _ h26; obtain ⟨p0, p1, p2, p3, p4, p5⟩ := Sg.box6 h25; go_simp; try with_reducible rfl)
                      (try simp only [Act.put, List.setIfInBounds_toArray]); (try dsimp only [List.set_cons_zero, List.set_cons_succ])
                      refine wpAnyH_take (i := 8) (v := ?_) opAt_8 (by kernel_rfl) (by kernel_rfl) (by kernel_rfl) (fun _ _ _ h => h) (Or.inl ⟨by rfl, ?_⟩) (by assumption) ?_
                      rotate_left
                      · (intro w hSw; obtain ⟨h28, h19, h26, h25, c0, c1, c2, c3, c4, c5, c6, c7, c8⟩ := hSw; obtain ⟨m0, m1, m2, m3, m4⟩ := Sc.rw5 h28; obtain ⟨s0, s1, s2, s3, s4⟩ := Sc.rw5 h19; have l0 := cell_of_row w g26 0 _ _ _ h26; have l1 := cell_of_row w g26 1 _ _ _ h26; obtain ⟨p0, p1, p2, p3, p4, p5⟩ := Sg.box6 h25; go_simp; try with_reducible rfl)
                      (try simp only [Act.put, List.setIfInBounds_toArray]); (try dsimp only [List.set_cons_zero, List.set_cons_succ])
                      refine wpAnyH_take (i := 9) (v := ?_) opAt_9 (by kernel_rfl) (by kernel_rfl) (by kernel_rfl) (fun _ _ _ h => h) (Or.inl ⟨by rfl, ?_⟩) (by assumption) ?_
                      rotate_left
                      · (intro w hSw; obtain ⟨h28, h19, h26, h25, c0, c1, c2, c3, c4, c5, c6, c7, c8⟩ := hSw; obtain ⟨m0, m1, m2, m3, m4⟩ := Sc.rw5 h28; obtain ⟨s0, s1, s2, s3, s4⟩ := Sc.rw5 h19; have l0 := cell_of_row w g26 0 _ _ _ h26; have l1 := cell_of_row w g26 1 _ _ _ h26; obtain ⟨p0, p1, p2, p3, p4, p5⟩ := Sg.box6 h25; go_simp; try with_reducible rfl)
                      (try simp only [Act.put, List.setIfInBounds_toArray]); (try dsimp only [List.set_cons_zero, List.set_cons_succ])
                      refine wpAnyH_take (i := 10) (v := ?_) opAt_10 (by kernel_rfl) (by kernel_rfl) (by kernel_rfl) (fun _ _ _ h => h) (Or.inl ⟨by rfl, ?_⟩) (by assumption) ?_
                      rotate_left
                      · (intro w hSw; obtain ⟨h28, h19, h26, h25, c0, c1, c2, c3, c4, c5, c6, c7, c8⟩ := hSw; obtain ⟨m0, m1, m2, m3, m4⟩ := Sc.rw5 h28; obtain ⟨s0, s1, s2, s3, s4⟩ := Sc.rw5 h19; have l0 := cell_of_row w g26 0 _ _ _ h26; have l1 := cell_of_row w g26 1 _ _ _ h26; obtain ⟨p0, p1, p2, p3, p4, p5⟩ := Sg.box6 h25; go_simp; try with_reducible rfl)
                      (try simp only [Act.put, List.setIfInBounds_toArray]); (try dsimp only [List.set_cons_zero, List.set_cons_succ])
                      refine wpAnyH_take (i := 11) (v := ?_) opAt_11 (by kernel_rfl) (by kernel_rfl) (by kernel_rfl) (fun _ _ _ h => h) (Or.inl ⟨by rfl, ?_⟩) (by assumption) ?_
                      rotate_left
                      · (intro w hSw; obtain ⟨h28, h19, h26, h25, c0, c1, c2, c3, c4, c5, c6, c7, c8⟩ := hSw; obtain ⟨m0, m1, m2, m3, m4⟩ := Sc.rw5 h28; obtain ⟨s0, s1, s2, s3, s4⟩ := Sc.rw5 h19; have l0 := cell_of_row w g26 0 _ _ _ h26; have l1 := cell_of_row w g26 1 _ _ _ h26; obtain ⟨p0, p1, p2, p3, p4, p5⟩ := Sg.box6 h25; go_simp; try with_reducible rfl)
                      (try simp only [Act.put, List.setIfInBounds_toArray]); (try dsimp only [List.set_cons_zero, List.set_cons_succ])
                      refine wpAnyH_take (i := 12) (v := ?_) opAt_12 (by kernel_rfl) (by kernel_rfl) (by kernel_rfl) (fun _ _ _ h => h) (Or.inl ⟨by rfl, ?_⟩) (by assumption) ?_
                      rotate_left
                      · (intro w hSw; obtain ⟨h28, h19, h26, h25, c0, c1, c2, c3, c4, c5, c6, c7, c8⟩ := hSw; obtain ⟨m0, m1, m2, m3, m4⟩ := Sc.rw5 h28; obtain ⟨s0, s1, s2, s3, s4⟩ := Sc.rw5 h19; have l0 := cell_of_row w g26 0 _ _ _ h26; have l1 := cell_of_row w g26 1 _ _ _ h26; obtain ⟨p0, p1, p2, p3, p4, p5⟩ := Sg.box6 h25; go_simp; try with_reducible rfl)
                      (try simp only [Act.put, List.setIfInBounds_toArray]); (try dsimp only [List.set_cons_zero, List.set_cons_succ])
                      refine wpAnyH_take (i := 13) (v := ?_) opAt_13 (by kernel_rfl) (by kernel_rfl) (by kernel_rfl) (fun _ _ _ h => h) (Or.inl ⟨by rfl, ?_⟩) (by assumption) ?_
                      rotate_left
                      · (intro w hSw; obtain ⟨h28, h19, h26, h25, c0, c1, c2, c3, c4, c5, c6, c7, c8⟩ := hSw; obtain ⟨m0, m1, m2, m3, m4⟩ := Sc.rw5 h28; obtain ⟨s0, s1, s2, s3, s4⟩ := Sc.rw5 h19; have l0 := cell_of_row w g26 0 _ _ _ h26; have l1 := cell_of_row w g26 1 _ _ _ h26; obtain ⟨p0, p1, p2, p3, p4, p5⟩ := Sg.box6 h25; go_simp; try with_reducible rfl)
                      (try simp only [Act.put, List.setIfInBounds_toArray]); (try dsimp only [List.set_cons_zero, List.set_cons_succ])
                      refine wpAnyH_take (i := 14) (v := ?_) opAt_14 (by kernel_rfl) (by kernel_rfl) (by kernel_rfl) (fun _ _ _ h => h) (Or.inl ⟨by rfl, ?_⟩) (by assumption) ?_
                      rotate_left
                      · (intro w hSw; obtain ⟨h28, h19, h26, h25, c0, c1, c2, c3, c4, c5, c6, c7, c8⟩ := hSw; obtain ⟨m0, m1, m2, m3, m4⟩ := Sc.rw5 h28; obtain ⟨s0, s1, s2, s3, s4⟩ := Sc.rw5 h19; have l0 := cell_of_row w g26 0 _ _ _ h26; have l1 := cell_of_row w g26 1 _ _ _ h26; obtain ⟨p0, p1, p2, p3, p4, p5⟩ := Sg.box6 h25; go_simp; try with_reducible rfl)
                      (try simp only [Act.put, List.setIfInBounds_toArray]); (try dsimp only [List.set_cons_zero, List.set_cons_succ])
                      refine wpAnyH_take (i := 15) (v := ?_) opAt_15 (by kernel_rfl) (by kernel_rfl) (by kernel_rfl) (fun _ _ _ h => h) (Or.inl ⟨by rfl, ?_⟩) (by assumption) ?_
                      rotate_left
                      · (intro w hSw; obtain ⟨h28, h19, h26, h25, c0, c1, c2, c3, c4, c5, c6, c7, c8⟩ := hSw; obtain ⟨m0, m1, m2, m3, m4⟩ := Sc.rw5 h28; obtain ⟨s0, s1, s2, s3, s4⟩ := Sc.rw5 h19; have l0 := cell_of_row w g26 0 _ _ _ h26; have l1 := cell_of_row w g26 1 _ _ _ h26; obtain ⟨p0, p1, p2, p3, p4, p5⟩ := Sg.box6 h25; go_simp; try with_reducible rfl)
                      (try simp only [Act.put, List.setIfInBounds_toArray]); (try dsimp only [List.set_cons_zero, List.set_cons_succ])
                      refine wpAnyH_take (i := 16) (v := ?_) opAt_16 (by kernel_rfl) (by kernel_rfl) (by kernel_rfl) (fun _ _ _ h => h) (Or.inl ⟨by rfl, ?_⟩) (by assumption) ?_
                      rotate_left
                      · (intro w hSw; obtain ⟨h28, h19, h26, h25, c0, c1, c2, c3, c4, c5, c6, c7, c8⟩ := hSw; obtain ⟨m0, m1, m2, m3, m4⟩ := Sc.rw5 h28; obtain ⟨s0, s1, s2, s3, s4⟩ := Sc.rw5 h19; have l0 := cell_of_row w g26 0 _ _ _ h26; have l1 := cell_of_row w g26 1 _ _ _ h26; obtain ⟨p0, p1, p2, p3, p4, p5⟩ := Sg.box6 h25; go_simp; try with_reducible rfl)
                      (try simp only [Act.put, List.setIfInBounds_toArray]); (try dsimp only [List.set_cons_zero, List.set_cons_succ])
                      refine wpAnyH_take (i := 17) (v := ?_) opAt_17 (by kernel_rfl) (by kernel_rfl) (by kernel_rfl) (fun _ _ _ h => h) (Or.inl ⟨by rfl, ?_⟩) (by assumption) ?_
                      rotate_left
                      · (intro w hSw; obtain ⟨h28, h19, h26, h25, c0, c1, c2, c3, c4, c5, c6, c7, c8⟩ := hSw; obtain ⟨m0, m1, m2, m3, m4⟩ := Sc.rw5 h28; obtain ⟨s0, s1, s2, s3, s4⟩ := Sc.rw5 h19; have l0 := cell_of_row w g26 0 _ _ _ h26; have l1 := cell_of_row w g26 1 _ _ _ h26; obtain ⟨p0, p1, p2, p3, p4, p5⟩ := Sg.box6 h25; go_simp; try with_reducible rfl)
                      (try simp only [Act.put, List.setIfInBounds_toArray]); (try dsimp only [List.set_cons_zero, List.set_cons_succ])
                      refine wpAnyH_take (i := 18) (v := ?_) opAt_18 (by kernel_rfl) (by kernel_rfl) (by kernel_rfl) (fun _ _ _ h => h) (Or.inl ⟨by rfl, ?_⟩) (by assumption) ?_
                      rotate_left
                      · (intro w hSw; obtain ⟨h28, h19, h26, h25, c0, c1, c2, c3, c4, c5, c6, c7, c8⟩ := hSw; obtain ⟨m0, m1, m2, m3, m4⟩ := Sc.rw5 h28; obtain ⟨s0, s1, s2, s3, s4⟩ := Sc.rw5 h19; have l0 := cell_of_row w g26 0 _ _ _ h26; have l1 := cell_of_row w g26 1 _ _ _ h26; obtain ⟨p0, p1, p2, p3, p4, p5⟩ := Sg.box6 h25; go_simp; try with_reducible rfl)
                      (try simp only [Act.put, List.setIfInBounds_toArray]); (try dsimp only [List.set_cons_zero, List.set_cons_succ])
                      refine wpAnyH_take (i := 19) (v := ?_) opAt_19 (by kernel_rfl) (by kernel_rfl) (by kernel_rfl) (fun _ _ _ h => h) (Or.inl ⟨by rfl, ?_⟩) (by assumption) ?_
                      rotate_left
                      · (intro w hSw; obtain ⟨h28, h19, h26, h25, c0, c1, c2, c3, c4, c5, c6, c7, c8⟩ := hSw; obtain ⟨m0, m1, m2, m3, m4⟩ := Sc.rw5 h28; obtain ⟨s0, s1, s2, s3, s4⟩ := Sc.rw5 h19; have l0 := cell_of_row w g26 0 _ _ _ h26; have l1 := cell_of_row w g26 1 _ _ _ h26; obtain ⟨p0, p1, p2, p3, p4, p5⟩ := Sg.box6 h25; go_simp; try with_reducible rfl)
                      (try simp only [Act.put, List.setIfInBounds_toArray]); (try dsimp only [List.set_cons_zero, List.set_cons_succ])
                      refine wpAnyH_take (i := 20) (v := ?_) opAt_20 (by kernel_rfl) (by kernel_rfl) (by kernel_rfl) (fun _ _ _ h => h) (Or.inl ⟨by rfl, ?_⟩) (by assumption) ?_
                      rotate_left
                      · (intro w hSw; obtain ⟨h28, h19, h26, h25, c0, c1, c2, c3, c4, c5, c6, c7, c8⟩ := hSw; obtain ⟨m0, m1, m2, m3, m4⟩ := Sc.rw5 h28; obtain ⟨s0, s1, s2, s3, s4⟩ := Sc.rw5 h19; have l0 := cell_of_row w g26 0 _ _ _ h26; have l1 := cell_of_row w g26 1 _ _ _ h26; obtain ⟨p0, p1, p2, p3, p4, p5⟩ := Sg.box6 h25; go_simp; try with_reducible rfl)
                      (try simp only [Act.put, List.setIfInBounds_toArray]); (try dsimp only [List.set_cons_zero, List.set_cons_succ])
                      refine wpAnyH_take (i := 21) (v := ?_) opAt_21 (by kernel_rfl) (by kernel_rfl) (by kernel_rfl) (fun _ _ _ h => h) (Or.inl ⟨by rfl, ?_⟩) (by assumption) ?_
                      rotate_left
                      · (intro w hSw; obtain ⟨h28, h19, h26, h25, c0, c1, c2, c3, c4, c5, c6, c7, c8⟩ := hSw; obtain ⟨m0, m1, m2, m3, m4⟩ := Sc.rw5 h28; obtain ⟨s0, s1, s2, s3, s4⟩ := Sc.rw5 h19; have l0 := cell_of_row w g26 0 _ _ _ h26; have l1 := cell_of_row w g26 1 _ _ _ h26; obtain ⟨p0, p1, p2, p3, p4, p5⟩ := Sg.box6 h25; go_simp; try with_reducible rfl)
                      (try simp only [Act.put, List.setIfInBounds_toArray]); (try dsimp only [List.set_cons_zero, List.set_cons_succ])
                      refine wpAnyH_take (i := 22) (v := ?_) opAt_22 (by kernel_rfl) (by kernel_rfl) (by kernel_rfl) (fun _ _ _ h => h) (Or.inl ⟨by rfl, ?_⟩) (by assumption) ?_
                      rotate_left
                      · (intro w hSw; obtain ⟨h28, h19, h26, h25, c0, c1, c2, c3, c4, c5, c6, c7, c8⟩ := hSw; obtain ⟨m0, m1, m2, m3, m4⟩ := Sc.rw5 h28; obtain ⟨s0, s1, s2, s3, s4⟩ := Sc.rw5 h19; have l0 := cell_of_row w g26 0 _ _ _ h26; have l1 := cell_of_row w g26 1 _ _ _ h26; obtain ⟨p0, p1, p2, p3, p4, p5⟩ := Sg.box6 h25; go_simp; try with_reducible rfl)
                      (try simp only [Act.put, List.setIfInBounds_toArray]); (try dsimp only [List.set_cons_zero, List.set_cons_succ])
                      refine wpAnyH_take (i := 23) (v := ?_) opAt_23 (by kernel_rfl) (by kernel_rfl) (by kernel_rfl) (fun _ _ _ h => h) (Or.inl ⟨by rfl, ?_⟩) (by assumption) ?_
                      rotate_left
                      · (intro w hSw; obtain ⟨h28, h19, h26, h25, c0, c1, c2, c3, c4, c5, c6, c7, c8⟩ := hSw; obtain ⟨m0, m1, m2, m3, m4⟩ := Sc.rw5 h28; obtain ⟨s0, s1, s2, s3, s4⟩ := Sc.rw5 h19; have l0 := cell_of_row w g26 0 _ _ _ h26; have l1 := cell_of_row w g26 1 _ _ _ h26; obtain ⟨p0, p1, p2, p3, p4, p5⟩ := Sg.box6 h25; go_simp; try with_reducible rfl)
                      (try simp only [Act.put, List.setIfInBounds_toArray]); (try dsimp only [List.set_cons_zero, List.set_cons_succ])
                      refine wpAnyH_take (i := 24) (v := ?_) opAt_24 (by kernel_rfl) (by kernel_rfl) (by kernel_rfl) (fun _ _ _ h => h) (Or.inl ⟨by rfl, ?_⟩) (by assumption) ?_
                      rotate_left
                      · (intro w hSw; obtain ⟨h28, h19, h26, h25, c0, c1, c2, c3, c4, c5, c6, c7, c8⟩ := hSw; obtain ⟨m0, m1, m2, m3, m4⟩ := Sc.rw5 h28; obtain ⟨s0, s1, s2, s3, s4⟩ := Sc.rw5 h19; have l0 := cell_of_row w g26 0 _ _ _ h26; have l1 := cell_of_row w g26 1 _ _ _ h26; obtain ⟨p0, p1, p2, p3, p4, p5⟩ := Sg.box6 h25; go_simp; try with_reducible rfl)
                      (try simp only [Act.put, List.setIfInBounds_toArray]); (try dsimp only [List.set_cons_zero, List.set_cons_succ])
                      refine wpAnyH_take (i := 25) (v := ?_) opAt_25 (by kernel_rfl) (by kernel_rfl) (by kernel_rfl) (fun _ _ _ h => h) (Or.inl ⟨by rfl, ?_⟩) (by assumption) ?_
                      rotate_left
                      · (intro w hSw; obtain ⟨h28, h19, h26, h25, c0, c1, c2, c3, c4, c5, c6, c7, c8⟩ := hSw; obtain ⟨m0, m1, m2, m3, m4⟩ := Sc.rw5 h28; obtain ⟨s0, s1, s2, s3, s4⟩ := Sc.rw5 h19; have l0 := cell_of_row w g26 0 _ _ _ h26; have l1 := cell_of_row w g26 1 _ _ _ h26; obtain ⟨p0, p1, p2, p3, p4, p5⟩ := Sg.box6 h25; go_simp; try with_reducible rfl)
                      (try simp only [Act.put, List.setIfInBounds_toArray]); (try dsimp only [List.set_cons_zero, List.set_cons_succ])
                      refine wpAnyH_take (i := 26) (v := ?_) opAt_26 (by kernel_rfl) (by kernel_rfl) (by kernel_rfl) (fun _ _ _ h => h) (Or.inl ⟨by rfl, ?_⟩) (by assumption) ?_
                      rotate_left
                      · (intro w hSw; obtain ⟨h28, h19, h26, h25, c0, c1, c2, c3, c4, c5, c6, c7, c8⟩ := hSw; obtain ⟨m0, m1, m2, m3, m4⟩ := Sc.rw5 h28; obtain ⟨s0, s1, s2, s3, s4⟩ := Sc.rw5 h19; have l0 := cell_of_row w g26 0 _ _ _ h26; have l1 := cell_of_row w g26 1 _ _ _ h26; obtain ⟨p0, p1, p2, p3, p4, p5⟩ := Sg.box6 h25; go_simp; try with_reducible rfl)
                      (try simp only [Act.put, List.setIfInBounds_toArray]); (try dsimp only [List.set_cons_zero, List.set_cons_succ])
                      refine wpAnyH_take (i := 27) (v := ?_) opAt_27 (by kernel_rfl) (by kernel_rfl) (by kernel_rfl) (fun _ _ _ h => h) (Or.inl ⟨by rfl, ?_⟩) (by assumption) ?_
                      rotate_left
                      · (intro w hSw; obtain ⟨h28, h19, h26, h25, c0, c1, c2, c3, c4, c5, c6, c7, c8⟩ := hSw; obtain ⟨m0, m1, m2, m3, m4⟩ := Sc.rw5 h28; obtain ⟨s0, s1, s2, s3, s4⟩ := Sc.rw5 h19; have l0 := cell_of_row w g26 0 _ _ _ h26; have l1 := cell_of_row w g26 1 _ _ _ h26; obtain ⟨p0, p1, p2, p3, p4, p5⟩ := Sg.box6 h25; go_simp; try with_reducible rfl)
                      (try simp only [Act.put, List.setIfInBounds_toArray]); (try dsimp only [List.set_cons_zero, List.set_cons_succ])
                      refine wpAnyH_take (i := 28) (v := ?_) opAt_28 (by kernel_rfl) (by kernel_rfl) (by kernel_rfl) (fun _ _ _ h => h) (Or.inl ⟨by rfl, ?_⟩) (by assumption) ?_
                      rotate_left
                      · (intro w hSw; obtain ⟨h28, h19, h26, h25, c0, c1, c2, c3, c4, c5, c6, c7, c8⟩ := hSw; obtain ⟨m0, m1, m2, m3, m4⟩ := Sc.rw5 h28; obtain ⟨s0, s1, s2, s3, s4⟩ := Sc.rw5 h19; have l0 := cell_of_row w g26 0 _ _ _ h26; have l1 := cell_of_row w g26 1 _ _ _ h26; obtain ⟨p0, p1, p2, p3, p4, p5⟩ := Sg.box6 h25; go_simp; try with_reducible rfl)
                      (try simp only [Act.put, List.setIfInBounds_toArray]); (try dsimp only [List.set_cons_zero, List.set_cons_succ])
                      refine wpAnyH_take (i := 29) (v := ?_) opAt_29 (by kernel_rfl) (by kernel_rfl) (by kernel_rfl) (fun _ _ _ h => h) (Or.inl ⟨by rfl, ?_⟩) (by assumption) ?_
                      rotate_left
                      · (intro w hSw; obtain ⟨h28, h19, h26, h25, c0, c1, c2, c3, c4, c5, c6, c7, c8⟩ := hSw; obtain ⟨m0, m1, m2, m3, m4⟩ := Sc.rw5 h28; obtain ⟨s0, s1, s2, s3, s4⟩ := Sc.rw5 h19; have l0 := cell_of_row w g26 0 _ _ _ h26; have l1 := cell_of_row w g26 1 _ _ _ h26; obtain ⟨p0, p1, p2, p3, p4, p5⟩ := Sg.box6 h25; go_simp; try with_reducible rfl)
                      (try simp only [Act.put, List.setIfInBounds_toArray]); (try dsimp only [List.set_cons_zero, List.set_cons_succ])
                      refine wpAnyH_take (i := 30) (v := ?_) opAt_30 (by kernel_rfl) (by kernel_rfl) (by kernel_rfl) (fun _ _ _ h => h) (Or.inl ⟨by rfl, ?_⟩) (by assumption) ?_
                      rotate_left
                      · (intro w hSw; obtain ⟨h28, h19, h26, h25, c0, c1, c2, c3, c4, c5, c6, c7, c8⟩ := hSw; obtain ⟨m0, m1, m2, m3, m4⟩ := Sc.rw5 h28; obtain ⟨s0, s1, s2, s3, s4⟩ := Sc.rw5 h19; have l0 := cell_of_row w g26 0 _ _ _ h26; have l1 := cell_of_row w g26 1 _ _ _ h26; obtain ⟨p0, p1, p2, p3, p4, p5⟩ := Sg.box6 h25; go_simp; try with_reducible rfl)
                      (try simp only [Act.put, List.setIfInBounds_toArray]); (try dsimp only [List.set_cons_zero, List.set_cons_succ])
                      refine wpAnyH_take (i := 31) (v := ?_) opAt_31 (by kernel_rfl) (by kernel_rfl) (by kernel_rfl) (fun _ _ _ h => h) (Or.inl ⟨by rfl, ?_⟩) (by assumption) ?_
                      rotate_left
                      · (intro w hSw; obtain ⟨h28, h19, h26, h25, c0, c1, c2, c3, c4, c5, c6, c7, c8⟩ := hSw; obtain ⟨m0, m1, m2, m3, m4⟩ := Sc.rw5 h28; obtain ⟨s0, s1, s2, s3, s4⟩ := Sc.rw5 h19; have l0 := cell_of_row w g26 0 _ _ _ h26; have l1 := cell_of_row w g26 1 _ _ _ h26; obtain ⟨p0, p1, p2, p3, p4, p5⟩ := Sg.box6 h25; go_simp; try with_reducible rfl)
                      (try simp only [Act.put, List.setIfInBounds_toArray]); (try dsimp only [List.set_cons_zero, List.set_cons_succ])
                      refine wpAnyH_take (i := 32) (v := ?_) opAt_32 (by kernel_rfl) (by kernel_rfl) (by kernel_rfl) (fun _ _ _ h => h) (Or.inl ⟨by rfl, ?_⟩) (by assumption) ?_
                      rotate_left
                      · (intro w hSw; obtain ⟨h28, h19, h26, h25, c0, c1, c2, c3, c4, c5, c6, c7, c8⟩ := hSw; obtain ⟨m0, m1, m2, m3, m4⟩ := Sc.rw5 h28; obtain ⟨s0, s1, s2, s3, s4⟩ := Sc.rw5 h19; have l0 := cell_of_row w g26 0 _ _ _ h26; have l1 := cell_of_row w g26 1 _ _ _ h26; obtain ⟨p0, p1, p2, p3, p4, p5⟩ := Sg.box6 h25; go_simp; try with_reducible rfl)
                      (try simp only [Act.put, List.setIfInBounds_toArray]); (try dsimp only [List.set_cons_zero, List.set_cons_succ])
                      refine wpAnyH_take (i := 33) (v := ?_) opAt_33 (by kernel_rfl) (by kernel_rfl) (by kernel_rfl) (fun _ _ _ h => h) (Or.inl ⟨by rfl, ?_⟩) (by assumption) ?_
                      rotate_left
                      · (intro w hSw; obtain ⟨h28, h19, h26, h25, c0, c1, c2, c3, c4, c5, c6, c7, c8⟩ := hSw; obtain ⟨m0, m1, m2, m3, m4⟩ := Sc.rw5 h28; obtain ⟨s0, s1, s2, s3, s4⟩ := Sc.rw5 h19; have l0 := cell_of_row w g26 0 _ _ _ h26; have l1 := cell_of_row w g26 1 _ _ _ h26; obtain ⟨p0, p1, p2, p3, p4, p5⟩ := Sg.box6 h25; go_simp; try with_reducible rfl)
                      (try simp only [Act.put, List.setIfInBounds_toArray]); (try dsimp only [List.set_cons_zero, List.set_cons_succ])
                      refine wpAnyH_take (i := 34) (v := ?_) opAt_34 (by kernel_rfl) (by kernel_rfl) (by kernel_rfl) (fun _ _ _ h => h) (Or.inl ⟨by rfl, ?_⟩) (by assumption) ?_
                      rotate_left
                      · (intro w hSw; obtain ⟨h28, h19, h26, h25, c0, c1, c2, c3, c4, c5, c6, c7, c8⟩ := hSw; obtain ⟨m0, m1, m2, m3, m4⟩ := Sc.rw5 h28; obtain ⟨s0, s1, s2, s3, s4⟩ := Sc.rw5 h19; have l0 := cell_of_row w g26 0 _ _ _ h26; have l1 := cell_of_row w g26 1 _ _ _ h26; obtain ⟨p0, p1, p2, p3, p4, p5⟩ := Sg.box6 h25; go_simp; try with_reducible rfl)
                      (try simp only [Act.put, List.setIfInBounds_toArray]); (try dsimp only [List.set_cons_zero, List.set_cons_succ])
                      refine wpAnyH_take (i := 35) (v := ?_) opAt_35 (by kernel_rfl) (by kernel_rfl) (by kernel_rfl) (fun _ _ _ h => h) (Or.inl ⟨by rfl, ?_⟩) (by assumption) ?_
                      rotate_left
                      · (intro w hSw; obtain ⟨h28, h19, h26, h25, c0, c1, c2, c3, c4, c5, c6, c7, c8⟩ := hSw; obtain ⟨m0, m1, m2, m3, m4⟩ := Sc.rw5 h28; obtain ⟨s0, s1, s2, s3, s4⟩ := Sc.rw5 h19; have l0 := cell_of_row w g26 0 _ _ _ h26; have l1 := cell_of_row w g26 1 _ _ _ h26; obtain ⟨p0, p1, p2, p3, p4, p5⟩ := Sg.box6 h25; go_simp; try with_reducible rfl)
                      (try simp only [Act.put, List.setIfInBounds_toArray]); (try dsimp only [List.set_cons_zero, List.set_cons_succ])
                      refine wpAnyH_take (i := 36) (v := ?_) opAt_36 (by kernel_rfl) (by kernel_rfl) (by kernel_rfl) (fun _ _ _ h => h) (Or.inl ⟨by rfl, ?_⟩) (by assumption) ?_
                      rotate_left
                      · (intro w hSw; obtain ⟨h28, h19, h26, h25, c0, c1, c2, c3, c4, c5, c6, c7, c8⟩ := hSw; obtain ⟨m0, m1, m2, m3, m4⟩ := Sc.rw5 h28; obtain ⟨s0, s1, s2, s3, s4⟩ := Sc.rw5 h19; have l0 := cell_of_row w g26 0 _ _ _ h26; have l1 := cell_of_row w g26 1 _ _ _ h26; obtain ⟨p0, p1, p2, p3, p4, p5⟩ := Sg.box6 h25; go_simp; try with_reducible rfl)
                      (try simp only [Act.put, List.setIfInBounds_toArray]); (try dsimp only [List.set_cons_zero, List.set_cons_succ])
                      refine wpAnyH_take (i := 37) (v := ?_) opAt_37 (by kernel_rfl) (by kernel_rfl) (by kernel_rfl) (fun _ _ _ h => h) (Or.inl ⟨by rfl, ?_⟩) (by assumption) ?_
                      rotate_left
                      · (intro w hSw; obtain ⟨h28, h19, h26, h25, c0, c1, c2, c3, c4, c5, c6, c7, c8⟩ := hSw; obtain ⟨m0, m1, m2, m3, m4⟩ := Sc.rw5 h28; obtain ⟨s0, s1, s2, s3, s4⟩ := Sc.rw5 h19; have l0 := cell_of_row w g26 0 _ _ _ h26; have l1 := cell_of_row w g26 1 _ _ _ h26; obtain ⟨p0, p1, p2, p3, p4, p5⟩ := Sg.box6 h25; go_simp; try with_reducible rfl)
                      (try simp only [Act.put, List.setIfInBounds_toArray]); (try dsimp only [List.set_cons_zero, List.set_cons_succ])
                      refine wpAnyH_take (i := 38) (v := ?_) opAt_38 (by kernel_rfl) (by kernel_rfl) (by kernel_rfl) (fun _ _ _ h => h) (Or.inl ⟨by rfl, ?_⟩) (by assumption) ?_
                      rotate_left
                      · (intro w hSw; obtain ⟨h28, h19, h26, h25, c0, c1, c2, c3, c4, c5, c6, c7, c8⟩ := hSw; obtain ⟨m0, m1, m2, m3, m4⟩ := Sc.rw5 h28; obtain ⟨s0, s1, s2, s3, s4⟩ := Sc.rw5 h19; have l0 := cell_of_row w g26 0 _ _ _ h26; have l1 := cell_of_row w g26 1 _ _ _ h26; obtain ⟨p0, p1, p2, p3, p4, p5⟩ := Sg.box6 h25; go_simp; try with_reducible rfl)
                      (try simp only [Act.put, List.setIfInBounds_toArray]); (try dsimp only [List.set_cons_zero, List.set_cons_succ])
                      refine wpAnyH_take (i := 39) (v := ?_) opAt_39 (by kernel_rfl) (by kernel_rfl) (by kernel_rfl) (fun _ _ _ h => h) (Or.inl ⟨by rfl, ?_⟩) (by assumption) ?_
                      rotate_left
                      · (intro w hSw; obtain ⟨h28, h19, h26, h25, c0, c1, c2, c3, c4, c5, c6, c7, c8⟩ := hSw; obtain ⟨m0, m1, m2, m3, m4⟩ := Sc.rw5 h28; obtain ⟨s0, s1, s2, s3, s4⟩ := Sc.rw5 h19; have l0 := cell_of_row w g26 0 _ _ _ h26; have l1 := cell_of_row w g26 1 _ _ _ h26; obtain ⟨p0, p1, p2, p3, p4, p5⟩ := Sg.box6 h25; go_simp; try with_reducible rfl)
                      (try simp only [Act.put, List.setIfInBounds_toArray]); (try dsimp only [List.set_cons_zero, List.set_cons_succ])
                      refine wpAnyH_take (i := 40) (v := ?_) opAt_40 (by kernel_rfl) (by kernel_rfl) (by kernel_rfl) (fun _ _ _ h => h) (Or.inl ⟨by rfl, ?_⟩) (by assumption) ?_
                      rotate_left
                      · (intro w hSw; obtain ⟨h28, h19, h26, h25, c0, c1, c2, c3, c4, c5, c6, c7, c8⟩ := hSw; obtain ⟨m0, m1, m2, m3, m4⟩ := Sc.rw5 h28; obtain ⟨s0, s1, s2, s3, s4⟩ := Sc.rw5 h19; have l0 := cell_of_row w g26 0 _ _ _ h26; have l1 := cell_of_row w g26 1 _ _ _ h26; obtain ⟨p0, p1, p2, p3, p4, p5⟩ := Sg.box6 h25; go_simp; try with_reducible rfl)
                      (try simp only [Act.put, List.setIfInBounds_toArray]); (try dsimp only [List.set_cons_zero, List.set_cons_succ])
                      refine wpAnyH_take (i := 41) (v := ?_) opAt_41 (by kernel_rfl) (by kernel_rfl) (by kernel_rfl) (fun _ _ _ h => h) (Or.inl ⟨by rfl, ?_⟩) (by assumption) ?_
                      rotate_left
                      · (intro w hSw; obtain ⟨h28, h19, h26, h25, c0, c1, c2, c3, c4, c5, c6, c7, c8⟩ := hSw; obtain ⟨m0, m1, m2, m3, m4⟩ := Sc.rw5 h28; obtain ⟨s0, s1, s2, s3, s4⟩ := Sc.rw5 h19; have l0 := cell_of_row w g26 0 _ _ _ h26; have l1 := cell_of_row w g26 1 _ _ _ h26; obtain ⟨p0, p1, p2, p3, p4, p5⟩ := Sg.box6 h25; go_simp; try with_reducible rfl)
                      (try simp only [Act.put, List.setIfInBounds_toArray]); (try dsimp only [List.set_cons_zero, List.set_cons_succ])
                      refine wpAnyH_take (i := 42) (v := ?_) opAt_42 (by kernel_rfl) (by kernel_rfl) (by kernel_rfl) (fun _ _ _ h => h) (Or.inl ⟨by rfl, ?_⟩) (by assumption) ?_
                      rotate_left
                      · (intro w hSw; obtain ⟨h28, h19, h26, h25, c0, c1, c2, c3, c4, c5, c6, c7, c8⟩ := hSw; obtain ⟨m0, m1, m2, m3, m4⟩ := Sc.rw5 h28; obtain ⟨s0, s1, s2, s3, s4⟩ := Sc.rw5 h19; have l0 := cell_of_row w g26 0 _ _ _ h26; have l1 := cell_of_row w g26 1 _ _ _ h26; obtain ⟨p0, p1, p2, p3, p4, p5⟩ := Sg.box6 h25; go_simp; try with_reducible rfl)
                      (try simp only [Act.put, List.setIfInBounds_toArray]); (try dsimp only [List.set_cons_zero, List.set_cons_succ])
                      refine wpAnyH_ready (rs := [43]) (by kernel_rfl) (by simp) ?_
                      refine AllReadyH.cons rfl (fun K hK => ?_) AllReadyH.nil
                      go_simp
                      refine Calls.mono (HSA9.out V0 hb0) ?_
                      rintro e V1 ⟨rfl, nb⟩
                      try go_wp2_with fail
                      have hb1 : Below VE.heap.size VE V1 := hb0.trans (nb.mono hb0.size)
                      clear nb
                      refine hK.out _ _ (HKP9.out _ hb1) (fun hHeld => ?_)
                      clear hK K
                      (try simp only [Act.put, List.setIfInBounds_toArray]); (try dsimp only [List.set_cons_zero, List.set_cons_succ])
                      refine wpAnyH_take (i := 44) (v := ?_) opAt_44 (by kernel_rfl) (by kernel_rfl) (by kernel_rfl) (fun _ _ _ h => h) (Or.inl ⟨by rfl, ?_⟩) (by assumption) ?_
                      rotate_left
                      · (intro w hSw; obtain ⟨h28, h19, h26, h25, c0, c1, c2, c3, c4, c5, c6, c7, c8⟩ := hSw; obtain ⟨m0, m1, m2, m3, m4⟩ := Sc.rw5 h28; obtain ⟨s0, s1, s2, s3, s4⟩ := Sc.rw5 h19; have l0 := cell_of_row w g26 0 _ _ _ h26; have l1 := cell_of_row w g26 1 _ _ _ h26; obtain ⟨p0, p1, p2, p3, p4, p5⟩ := Sg.box6 h25; go_simp; try with_reducible rfl)
                      (try simp only [Act.put, List.setIfInBounds_toArray]); (try dsimp only [List.set_cons_zero, List.set_cons_succ])
                      refine wpAnyH_take (i := 45) (v := ?_) opAt_45 (by kernel_rfl) (by kernel_rfl) (by kernel_rfl) (fun _ _ _ h => h) (Or.inl ⟨by rfl, ?_⟩) (by assumption) ?_
                      rotate_left
                      · (intro w hSw; obtain ⟨h28, h19, h26, h25, c0, c1, c2, c3, c4, c5, c6, c7, c8⟩ := hSw; obtain ⟨m0, m1, m2, m3, m4⟩ := Sc.rw5 h28; obtain ⟨s0, s1, s2, s3, s4⟩ := Sc.rw5 h19; have l0 := cell_of_row w g26 0 _ _ _ h26; have l1 := cell_of_row w g26 1 _ _ _ h26; obtain ⟨p0, p1, p2, p3, p4, p5⟩ := Sg.box6 h25; go_simp; try with_reducible rfl)
                      (try simp only [Act.put, List.setIfInBounds_toArray]); (try dsimp only [List.set_cons_zero, List.set_cons_succ])
                      refine wpAnyH_done (by kernel_rfl) ?_ _
                      refine NoPanic.normal ?_
                      go_wp2_with fail
                      go_ret
                      exact ⟨rfl, bel11 HEND.out hb1⟩
end Go.Proofs.YtaicibmaogiibaaGreatDoor.segCrash

