/-
  SegCrash, part 25 of what the law's proof leans on: SgBkP, SgOf, SgLay, SgKit, SgLoad, SgOfC, SgBkM, SgCrP, SgKnP.
-/
import Derived.Test.YtaicibmaogiibaaGreatDoorSegCrashQ24
import Derived.Test.YtaicibmaogiibaaGreatDoorSegCrashQ20
import Derived.Test.YtaicibmaogiibaaGreatDoorSegCrashQ22
import Derived.Test.YtaicibmaogiibaaGreatDoorSegCrashQ14
import Derived.Test.YtaicibmaogiibaaGreatDoorSegCrashQ23
import Derived.Test.YtaicibmaogiibaaGreatDoorSegCrashQ5
/- SgBkP -/

/-
  Layer 11: the numbered records of a segment, as scan's plain mathematics tells them: what is read at each place, whole, cut, or with a bit turned.
-/
set_option linter.unusedVariables false
set_option linter.unusedSimpArgs false
namespace Go.Proofs.YtaicibmaogiibaaGreatDoor.Sg
open Go Go.RowKit

theorem up_num : ∀ (L : List Rc.Rec) (a : Int), (∀ r ∈ L, Rc.mayB r = true) → (∀ (i : Nat) r, L[i]? = some r → r.seq = a + ((i + 1 : Nat) : Int)) → Sc.Up a L
  | [], _, _, _ => trivial
  | r :: L, a, hm, hn => by
    have h0 := hn 0 r rfl
    refine ⟨hm r (by simp), by omega, up_num L r.seq (fun x hx => hm x (by simp [hx])) (fun i x hx => ?_)⟩
    have := hn (i + 1) x (by simpa using hx)
    omega
theorem Numb.up {L : List Rc.Rec} (h : Numb L) : Sc.Up 0 L := up_num L 0 h.may (fun i r hr => by have := h.num i r hr; omega)
theorem runsL_flat : ∀ L : List Rc.Rec, Sc.runsL L = L.flatMap Rc.runL
  | [] => rfl
  | r :: L => by rw [Sc.runsL, runsL_flat L]; rfl
theorem bytes_lay (id : Nat) (L : List Rc.Rec) : bytesN11 id L = Sc.layB id L := by unfold bytesN11 Sc.layB; rw [runsL_flat]
theorem off_end (L : List Rc.Rec) (j : Nat) : offN L j = Sc.endN L j := by
  have h : ∀ l : List Rc.Rec, (Sc.runsL l).length = (l.map Rc.sizeN).sum := by
    intro l
    induction l with
    | nil => rfl
    | cons r l ih => rw [Sc.runsL, List.length_append, Rc.runL_length, ih]; simp
  unfold offN Sc.endN
  rw [h]
theorem numb_runs {L : List Rc.Rec} (h : Numb L) : (Sc.runsL L).length ≤ 33390 := by
  have h1 := offN_le h L.length
  have h2 := h.few
  rw [off_end, Sc.endN_all (Nat.le_refl _)] at h1
  omega
theorem read_parts {X R Y : List UInt8} {size off : Nat} (hX : X.length = off) (hR : R.length ≤ 1113) (hs : off + R.length ≤ size) : readQ (X ++ (R ++ Y)) size off = Rc.getQ (R ++ Y.take (min (size - off) 1113 - R.length)) := by
  unfold readQ
  rw [← hX, List.drop_left, List.take_append]
  congr 2
  exact List.take_of_length_le (by omega)
theorem layB_take_length (id : Nat) (L : List Rc.Rec) (i : Nat) : (Sc.layB id (L.take i)).length = offN L i := by
  rw [Sc.layB_length, off_end]
  rfl
theorem places_mem {l : List Rc.Rec} {p : Nat} {f : Sc.Fd} (h : f ∈ Sc.places p l) : ∃ i r, l[i]? = some r ∧ f = ⟨p + (Sc.runsL (l.take i)).length, Rc.sizeN r, r⟩ := by
  obtain ⟨i, hi⟩ := List.getElem?_of_mem h
  have hl : i < l.length := by have := (List.getElem?_eq_some_iff.1 hi).1; rwa [Sc.places_length] at this
  have := Sc.places_at p (List.getElem?_eq_getElem hl)
  rw [this] at hi
  injection hi with hi
  exact ⟨i, _, List.getElem?_eq_getElem hl, hi.symm⟩
end Go.Proofs.YtaicibmaogiibaaGreatDoor.Sg

/- SgOf -/

/-
  Layer 11: Of; Read with a loc that may not be.
-/
set_option linter.unusedVariables false
set_option linter.unusedSimpArgs false
namespace Go.Proofs.YtaicibmaogiibaaGreatDoor.Sg
open Go Go.RowKit

section
set_option maxRecDepth 100000 in
set_option maxHeartbeats 4000000 in
/-- a segment of which the seal is known -/
theorem sof {A : Nat} (id size many first last : Nat) (w : World) (h1 : 1 ≤ id ∧ id ≤ 16777215) (h2 : 16 ≤ size ∧ size ≤ 16777216) :
    Calls Tryz.prog 11 #[.pointer (some ⟨A, 0, none⟩), (.agg #[.int .u32 (id : Int), .int .u32 (size : Int), .int .u32 (many : Int), .int .u64 (first : Int), .int .u64 (last : Int)])] w fun e w' => ∃ G, e = .returned (.tuple #[.pointer (some ⟨G, 0, none⟩), .int .i64 0]) ∧ w.heap.size ≤ G ∧ SegC w' G A ⟨id, size, many, first, last, last⟩ ∧ Below w.heap.size w w' := by
  have hb : Below w.heap.size w (w.alloc (.cells #[.int .u32 (id : Int), .int .u32 (size : Int), .int .u32 (many : Int), .int .u64 (first : Int), .int .u64 (last : Int)] 39)) := (Below.refl _ _).alloc (Nat.le_refl _) _
  have hbk := heap_alloc_new w (.cells #[.int .u32 (id : Int), .int .u32 (size : Int), .int .u32 (many : Int), .int .u64 (first : Int), .int .u64 (last : Int)] 39)
  have hsz1 : (w.alloc (.cells #[.int .u32 (id : Int), .int .u32 (size : Int), .int .u32 (many : Int), .int .u64 (first : Int), .int .u64 (last : Int)] 39)).heap.size = w.heap.size + 1 := by simp
  obtain ⟨W, hW⟩ : ∃ W, W = w.alloc (.cells #[.int .u32 (id : Int), .int .u32 (size : Int), .int .u32 (many : Int), .int .u64 (first : Int), .int .u64 (last : Int)] 39) := ⟨_, rfl⟩
  rw [← hW] at hb hbk hsz1
  obtain ⟨bx, hbx⟩ : ∃ bx, bx = w.heap.size := ⟨_, rfl⟩
  rw [← hbx] at hbk hsz1
  have x0 : W.cell? ⟨bx, 0, none⟩ = some (.int .u32 (id : Int)) := cell_of_row W bx 0 _ _ _ hbk
  have x1 : W.cell? ⟨bx, 1, none⟩ = some (.int .u32 (size : Int)) := cell_of_row W bx 1 _ _ _ hbk
  have x2 : W.cell? ⟨bx, 2, none⟩ = some (.int .u32 (many : Int)) := cell_of_row W bx 2 _ _ _ hbk
  have x3 : W.cell? ⟨bx, 3, none⟩ = some (.int .u64 (first : Int)) := cell_of_row W bx 3 _ _ _ hbk
  have x4 : W.cell? ⟨bx, 4, none⟩ = some (.int .u64 (last : Int)) := cell_of_row W bx 4 _ _ _ hbk
  have HB := Lib.hid hb
  have HBX := Lib.hid hbx
  have HS1 := Lib.hid hsz1
  clear hb hbk hsz1
  have hr := sready (some ⟨A, 0, none⟩) id W
  rw [if_neg (by simp), if_pos h1] at hr
  have i1 : ¬ (size : Int) < 16 := by omega
  have i2 : ¬ (16777216 : Int) < (size : Int) := by omega
  clear h1 h2
  have hc := SegC.new W A ⟨id, size, many, first, last, last⟩ 88
  have HS := Lib.hid (And.intro (show w.heap.size ≤ W.heap.size from HB.out.size) hc)
  clear hc
  go_enter Tryz.func11, Tryz.ntmps11
  go_wp2_with fail
  rw [← hW, ← hbx]
  clear hW hbx
  refine hr.mono ?_
  rintro e w1 ⟨rfl, rfl⟩
  clear hr
  go_wp2_with fail
  go_ret2
  exact ⟨W.heap.size, rfl, HS.out.1, HS.out.2, HB.out.alloc HB.out.size _⟩
end
end Go.Proofs.YtaicibmaogiibaaGreatDoor.Sg

/- SgLay -/

/-
  Layer 11: the law's laid, walked: a segment is created, and each record appended.
-/
set_option linter.unusedVariables false
set_option linter.unusedSimpArgs false
namespace Go.Proofs.YtaicibmaogiibaaGreatDoor.Sg
open Go Go.RowKit

/-- what stands while records are appended: j of them, vat their locs -/
def LayR (w W : World) (B G A id : Nat) (L : List Rc.Rec) (j : Nat) (vat : Value) : Prop :=
  ∃ M R s, SegIn W G A M R s (segN id L j) ∧ Lone s (nameB id) (fileN id L j) ∧ 100000 ≤ s.quota ∧ FInv s 5 (300 + 1113 * j) ∧ s.steps ≤ 5 + j ∧ W.ownsRow w.heap.size 49 2 vat j (locsN id L j) ∧ (∀ g, vat.ownBlock = some g → ¬ M g ∧ ¬ R g ∧ g ≠ G) ∧ Below B w W ∧ (∀ i, M i → B ≤ i) ∧ B ≤ G
theorem loc_info11 : (Tryz.prog.info? 49).map (fun i => (i.zero, i.size, i.bytes)) = some (some (.agg #[.int .u32 0, .int .u32 0]), 2, 8) := by kernel_rfl
theorem segN_fit {id : Nat} {L : List Rc.Rec} (hi : id ≤ 16777215) (hL : Numb L) {j : Nat} (hj : j ≤ 30) : (segN id L j).Fit := by
  have := offN_le hL j
  refine ⟨by show id < _; omega, by show offN L j < _; omega, by show j < _; omega, ?_, by show j < _; omega, by show 0 < _; omega⟩
  show (if j = 0 then 0 else 1) < _
  split <;> omega
set_option maxRecDepth 100000 in
set_option maxHeartbeats 16000000 in
theorem slay {w : World} {A B id qt : Nat} {M R : Nat → Prop} {L : List Rc.Rec} {v : Value} (hx : Ctx B w) (hB : B ≤ w.heap.size) (hMB : ∀ i, M i → B ≤ i) (hi : 1 ≤ id ∧ id ≤ 16777215) (h : FsM w A (FsP.new qt).used M R (FsP.new qt)) (hq : 100000 ≤ qt) (hv : Recs w B v L) (hL : Numb L) :
    Calls Tryz.prog 10 #[.pointer (some ⟨A, 0, none⟩), .int .u32 (id : Int), v] w fun e w' => ∃ G vat, e = .returned (.tuple #[.pointer (some ⟨G, 0, none⟩), vat]) ∧ LayR w w' B G A id L L.length vat := by
  obtain ⟨i0, hi0, hz0, hz1, hz2⟩ := info_parts loc_info11
  obtain ⟨Av, c, rfl, hlc, hcm, hrec⟩ := hv
  have hnew := createG_new (id := id) (q := qt) hi (by omega)
  have hinv := createG_inv (FInv.new qt) (by omega) id
  have HCr := Lib.hid (screate (id := id) hx hB hMB hi h (FInv.new qt) (by omega) (by omega) (by show 0 + 6 ≤ _; omega))
  obtain ⟨n, hn⟩ : ∃ n, n = L.length := ⟨_, rfl⟩
  have hn30 : n ≤ 30 := by rw [hn]; exact hL.few
  rw [← hn] at hlc ⊢
  have HN := Lib.hid hn
  have HR := Lib.hid hrec
  have HX := Lib.hid (And.intro hx (And.intro hB hMB))
  have HNw := Lib.hid (And.intro hnew hinv)
  have HI := Lib.hid hi
  have HL := Lib.hid hL
  have HQ := Lib.hid hq
  clear hrec hn hx hB hMB hnew hinv h hi hL hq
  go_enter Tryz.func10, Tryz.ntmps10
  go_wp2_with fail
  refine HCr.out.mono ?_
  rintro e W0 (⟨_, G, rfl, hG, hS⟩ | ⟨hne, _⟩)
  rotate_left
  · exact absurd HNw.out.1.1 hne
  obtain ⟨M2, R2, k1, k2, k3, k4, k5, k6, k7⟩ := hS
  have HLR : Hid (LayR w W0 B G A id L 0 (.slice none 0 0)) := Lib.hid ⟨M2, R2, _, ⟨k1, k5, k6, k7⟩, HNw.out.1.2.1, by rw [HNw.out.1.2.2]; exact HQ.out, HNw.out.2.1.mono (by omega) (by omega), by have := HNw.out.2.2; have h0 : (FsP.new qt).steps = 0 := rfl; omega, World.ownsRow_nil _ _ _ _, fun g hg => by simp [Value.ownBlock] at hg, k2.below HX.out.2.1 (fun i e => e.elim (HX.out.2.2 i) (fun e => by have := HX.out.2.1; omega)), fun i e => (k3 i e).elim (HX.out.2.2 i) (fun e => by have := HX.out.2.1; omega), by have := HX.out.2.1; omega⟩
  clear k1 k2 k3 k4 k5 k6 k7 HCr
  go_wp2_with fail
  go_loopw [10, 25] (fun va vi wr => ∃ (j : Nat), vi = .int .i64 j ∧ j ≤ n ∧ Hid (LayR w wr B G A id L j va)) (fun _ vi _ => n - (RowKit.intOf vi).toNat)
  case atStart => exact ⟨0, rfl, by omega, HLR⟩
  case round =>
    obtain ⟨j, rfl, hj, hh⟩ := hrel
    rename World => W
    clear HLR
    by_cases hjn : j < n
    · obtain ⟨M, R, s, k1, k2, k3, k4, k5, k6, k7, k8, k9, k10⟩ := hh.out
      clear hh
      have hjl : j < L.length := by rw [← HN.out]; exact hjn
      obtain ⟨r, hr⟩ : ∃ r, L[j]? = some r := ⟨_, List.getElem?_eq_getElem hjl⟩
      obtain ⟨b, o, rfl, hbB, kv, vv, e0, e1, e2, e3, e4, e5, hk, hw, hfit⟩ := HR.out j r hr
      have ha := appN HI.out HL.out hr k2 k3
      have hk0 := hk
      have hw0 := hw
      obtain ⟨K1, k1', rfl, _, _⟩ := hk0
      obtain ⟨K2, k2', rfl, _, _⟩ := hw0
      obtain ⟨n1, hn1⟩ : ∃ n1, n1 = r.key.length := ⟨_, rfl⟩
      obtain ⟨n2, hn2⟩ : ∃ n2, n2 = r.val.length := ⟨_, rfl⟩
      rw [← hn1] at hk e2
      rw [← hn2] at hw e3
      have x0 := (k8.cell (p := ⟨b, o + j * 6, none⟩) hbB).trans e0
      have x1 := (k8.cell (p := ⟨b, o + j * 6 + 1, none⟩) hbB).trans e1
      have x2 := (k8.cell (p := ⟨b, o + j * 6 + 2, none⟩) hbB).trans e2
      have x3 := (k8.cell (p := ⟨b, o + j * 6 + 3, none⟩) hbB).trans e3
      have x4 := (k8.cell (p := ⟨b, o + j * 6 + 4, none⟩) hbB).trans e4
      have x5 := (k8.cell (p := ⟨b, o + j * 6 + 5, none⟩) hbB).trans e5
      obtain ⟨Ao, co, rfl, q1, q2, _⟩ := own_slice k6
      obtain ⟨W1, hW1⟩ : ∃ W1, W1 = W.alloc (.cells #[.int .u64 r.seq, .int .i64 r.kind, .slice K1 n1 k1', .slice K2 n2 k2', .int .u32 r.seg, .int .u32 r.off] 51) := ⟨_, rfl⟩
      have hb1 : Below W.heap.size W W1 := by rw [hW1]; exact (Below.refl _ _).alloc (Nat.le_refl _) _
      have hBW : B ≤ W.heap.size := Nat.le_trans HX.out.2.1 k8.size
      have hb1B : Below B w W1 := k8.trans (hb1.mono hBW)
      have HA := Lib.hid (sappend (w := W1) (G := G) (A := A) (B := B) (Br := B) (x := segN id L j) (r := r) (v := recV r.seq r.kind (.slice K1 n1 k1') (.slice K2 n2 k2') r.seg r.off) (s := s) (M := M) (R := R) (q := 5) (T := 300 + 1113 * j) ⟨k1.1.on hb1, k1.2.1.on hb1, k1.2.2⟩ (HX.out.1.below hb1B) (Nat.le_trans hBW hb1.size) k9 (segN_fit HI.out.2 HL.out (by omega)) (by show j < 1000000; omega) ⟨_, _, rfl, hk.below hb1B (Nat.le_refl _), hw.below hb1B (Nat.le_refl _)⟩ (Nat.le_trans hBW hb1.size) hfit k4 (by omega) (by omega))
      rw [ha.1, ha.2.1] at HA
      have HF2 := Lib.hid (finv_app k4 (nameB id) (Rc.runL r))
      have HAp := Lib.hid ha
      have HB1 := Lib.hid hb1B
      have HO1 := Lib.hid (own_below k6 hb1 (Nat.le_refl _))
      have HOL := Lib.hid (show ∀ g, (Value.slice Ao j co).ownBlock = some g → g < W1.heap.size ∧ ¬ M g ∧ ¬ R g ∧ g ≠ G from fun g hg => ⟨Nat.lt_of_lt_of_le (k6.lt g hg).2 hb1.size, k7 g hg⟩)
      have HK := Lib.hid (And.intro k3 (And.intro k5 (And.intro k9 k10)))
      have HGl := Lib.hid (show G < W1.heap.size from Nat.lt_of_lt_of_le k1.2.1.lt hb1.size)
      have HW1 := Lib.hid (show w.heap.size ≤ W1.heap.size from Nat.le_trans k8.size hb1.size)
      have HRn := Lib.hid hr
      clear k1 k2 k3 k4 k5 k6 k7 k8 k9 k10 ha hk hw e0 e1 e2 e3 e4 e5 hfit hb1 hBW hb1B hjl hn1 hn2
      unfold recV at HA
      go_wp2_with fail
      rw [← hW1]
      clear hW1
      refine HA.out.mono ?_
      rintro e W2 ⟨rfl, M3, R3, j1, j2, j3, j4, j5, j6, j7⟩
      unfold locV
      obtain ⟨oj, hoj⟩ : ∃ oj, oj = offN L j := ⟨_, rfl⟩
      rw [show ((id, offN L j) : Nat × Nat).1 = id from rfl, show ((id, offN L j) : Nat × Nat).2 = offN L j from rfl, ← hoj, show ((0 : Nat) : Int) = 0 from rfl]
      have HOJ := Lib.hid hoj
      clear hoj
      have hO2 := j2.own HO1.out (fun g hg e => e.elim (HOL.out g hg).2.1 (HOL.out g hg).2.2.2)
      obtain ⟨W4, hW4⟩ : ∃ W4, W4 = (W2.alloc (.cells #[.int .u32 (id : Int), .int .u32 (oj : Int)] 49)).alloc (.cells #[.int .u32 (id : Int), .int .u32 (oj : Int)] 49) := ⟨_, rfl⟩
      have hb4 : Below W2.heap.size W2 W4 := by rw [hW4]; exact ((Below.refl _ _).alloc (Nat.le_refl _) _).alloc (by simp) _
      have HO4 := Lib.hid (own_below hO2 hb4 (Nat.le_refl _))
      have hs4 : W4.heap.size = W2.heap.size + 2 := by rw [hW4]; simp
      have hrd : Rd W4 (W2.heap.size + 2) (some ⟨W2.heap.size + 1, 0, none⟩) [.int .u32 (id : Int), .int .u32 (oj : Int)] := fun _ => ⟨W2.heap.size + 1, 0, rfl, by omega, fun q u hu => by
        have hh := heap_alloc_new (W2.alloc (.cells #[.int .u32 (id : Int), .int .u32 (oj : Int)] 49)) (.cells #[.int .u32 (id : Int), .int .u32 (oj : Int)] 49)
        rw [World.size_alloc, ← hW4] at hh
        rw [cell_of_row W4 (W2.heap.size + 1) (0 + q) _ _ _ hh]
        simpa using hu⟩
      have HRD := Lib.hid hrd
      have HS2 := Lib.hid (show W1.heap.size ≤ W2.heap.size from j2.size)
      have HJ := Lib.hid (And.intro j1 (And.intro j2 (And.intro j3 (And.intro j4 (And.intro j5 (And.intro j6 j7))))))
      have HB4 := Lib.hid hb4
      have HS4 := Lib.hid hs4
      clear hO2 hb4 hs4 hrd j1 j2 j3 j4 j5 j6 j7 x0 x1 x2 x3 x4 x5
      go_wp2_with (at_builtin; (try rw [← hW4]); (refine wpList_append_rd _ rfl _ _ 32 rfl w.heap.size 49 i0 (.agg #[.int .u32 0, .int .u32 0]) 2 8 Tryz.underlying32 hi0 hz0 hz1 hz2 rfl (by omega) (.slice Ao j co) j (locsN id L j) rfl HO4.out (W2.heap.size + 2) (some ⟨W2.heap.size + 1, 0, none⟩) 1 1 [.int .u32 (id : Int), .int .u32 (oj : Int)] rfl rfl HRD.out (by simp [Value.oneCell']) (by unfold maxLen; omega) (by omega) (by have := HW1.out; have := HS2.out; have := HS4.out; omega) ?_); intro v5 W5 hown5 hb5 hg5 hv5; (have HO5 := Lib.hid hown5); (have HB5 := Lib.hid hb5); (have HG5 := Lib.hid hg5); (have HV5 := Lib.hid hv5); clear hown5 hb5 hg5 hv5)
      obtain ⟨h1, h2, h3, h4, h5, h6, h7⟩ := HAp.out
      obtain ⟨j1, j2, j3, j4, j5, j6, j7⟩ := HJ.out
      have hjB : B ≤ W1.heap.size := Nat.le_trans HX.out.2.1 HB1.out.size
      have hg0 : ∀ g, (Value.slice Ao j co).ownBlock = some g → g < W1.heap.size ∧ ¬ M3 g ∧ ¬ R3 g ∧ g ≠ G := fun g hg => ⟨(HOL.out g hg).1, fun e => (j3 g e).elim (HOL.out g hg).2.1 (fun e => by have := (HOL.out g hg).1; omega), fun e => (j4 g e).elim (HOL.out g hg).2.2.1 (fun e => by have := (HOL.out g hg).1; omega), (HOL.out g hg).2.2.2⟩
      have hc45 : Chg (fun i => (Value.slice Ao j co).ownBlock = some i) W4 W5 := Chg.of_grown HG5.out (fun g hg => hg)
      have hseg : SegIn W5 G A M3 R3 _ _ := ⟨(j1.on HB4.out).chg hc45 (fun i e => ⟨(hg0 i e).2.1, (hg0 i e).2.2.1⟩), (j5.on HB4.out).chg hc45 (fun e => (hg0 G e).2.2.2 rfl), j6, j7⟩
      have hbW2 : Below B W1 W2 := j2.below hjB (fun i e => e.elim (HK.out.2.2.1 i) (fun e => by rw [e]; exact HK.out.2.2.2))
      have hbW4 : Below B W2 W4 := HB4.out.mono (Nat.le_trans hjB HS2.out)
      have hbW5 : Below B W4 W5 := HB5.out.mono HX.out.2.1
      refine ⟨⟨j + 1, by (first | rfl | (congr 1; omega)), by omega, Lib.hid ⟨M3, R3, _, by rw [h5] at hseg; exact hseg, h3, by rw [h6]; exact HK.out.1, ?_, by rw [h7]; have := HK.out.2.1; omega, by rw [locsN_next, ← HOJ.out]; exact HO5.out, fun g hg => ?_, ((HB1.out.trans hbW2).trans hbW4).trans hbW5, fun i e => (j3 i e).elim (HK.out.2.2.1 i) (fun e => by omega), HK.out.2.2.2⟩⟩, by simp [RowKit.intOf]; omega⟩
      · rw [h4]
        refine HF2.out.mono (Nat.le_refl _) ?_
        rw [Rc.runL_length]
        have := (Rc.may_size (HL.out.may r (List.mem_of_getElem? HRn.out))).2
        omega
      · rcases HV5.out with e | e
        · exact (hg0 g (e ▸ hg)).2
        · rw [e] at hg
          injection hg with hg
          subst hg
          have hm := (j1.on HB4.out).ml
          have hr := (j1.on HB4.out).rl
          have hG4 := (j5.on HB4.out).lt
          exact ⟨fun e => by have := hm _ e; omega, fun e => by have := hr _ e; omega, fun e => by omega⟩
    · have ejn : j = n := by omega
      subst ejn
      go_wp2_with fail
      go_ret2
      exact ⟨G, _, rfl, hh.out⟩
end Go.Proofs.YtaicibmaogiibaaGreatDoor.Sg

/- SgKit -/

/-
  Layer 11: numbered records in the call's own row are a slice of records; the file system's Quota and Flip.
-/
set_option linter.unusedVariables false
set_option linter.unusedSimpArgs false
namespace Go.Proofs.YtaicibmaogiibaaGreatDoor.Sg
open Go Go.RowKit

theorem addr_add0 (g k : Nat) : (⟨g, 0, none⟩ : Addr).add k = ⟨g, k, none⟩ := by
  unfold Addr.add
  split
  · rename_i h; rw [h]
  · simp
theorem rowT_get {t : List Tri} {i : Nat} {x : Tri} (h : t[i]? = some x) (k : Nat) (hk : k < 6) : (rowT t)[i * 6 + k]? = x.cells[k]? := by
  induction t generalizing i with
  | nil => simp at h
  | cons y r ih =>
    have hr : rowT (y :: r) = y.cells ++ rowT r := by simp [rowT]
    have hl : y.cells.length = 6 := rfl
    rw [hr]
    cases i with
    | zero =>
      simp at h
      subst h
      rw [List.getElem?_append_left (by omega)]
      congr 1
      omega
    | succ i =>
      rw [List.getElem?_append_right (by omega), ← ih (by simpa using h)]
      congr 1
      omega
/-- records in a row of the call's own -/
theorem recs_of_own {w : World} {base B : Nat} {v : Value} {t : List Tri} (h : w.ownsRow base 51 6 v t.length (rowT t)) (ht : ∀ x ∈ t, TriOk w B x) (hB : B ≤ w.heap.size) : Recs w w.heap.size v (t.map (·.1)) := by
  obtain ⟨A, c, rfl, hc, hm, hlt⟩ := own_slice h
  refine ⟨A, c, by rw [List.length_map], by rw [List.length_map]; exact hc, hm, fun i r hi => ?_⟩
  rw [List.getElem?_map] at hi
  cases hx : t[i]? with
  | none => rw [hx] at hi; cases hi
  | some x =>
    rw [hx] at hi
    injection hi with hi
    subst hi
    have hpos : 0 < t.length := by
      have := (List.getElem?_eq_some_iff.1 hx).1
      omega
    rcases h.2 with ⟨_, e⟩ | ⟨g, cap, cur, hv, hg, hcells, _⟩
    · omega
    · injection hv with hv1 _ hv2
      subst hv1
      have hcs := h.cells (g := g) rfl
      have hok := ht x (List.mem_of_getElem? hx)
      have hkc : ∀ k u, k < 6 → x.cells[k]? = some u → w.cell? ⟨g, 0 + i * 6 + k, none⟩ = some u := fun k u hk hu => by
        have := hcs (i * 6 + k) u (by rw [rowT_get hx k hk]; exact hu)
        rw [addr_add0] at this
        simpa using this
      exact ⟨g, 0, rfl, (hlt _ rfl).2, x.2.1, x.2.2, hkc 0 _ (by omega) rfl, hkc 1 _ (by omega) rfl, hkc 2 _ (by omega) rfl, hkc 3 _ (by omega) rfl, hkc 4 _ (by omega) rfl, hkc 5 _ (by omega) rfl, hok.key.mono hB, hok.val.mono hB, hok.fit⟩
section
variable {w : World} {A u q T n i : Nat} {M R : Nat → Prop} {s : FsP} {nm : ByteArray}
theorem FsC.set2 {X B qu st : Nat} {on : Bool} {hv : Value} (h : FsC w A X B qu u st on hv) (k : Nat) : FsC (w.setCell ⟨A, 2, none⟩ (.int .i64 (k : Int))) A X B k u st on hv := by
  obtain ⟨c0, c1, c2, c3, c4, c5, c6, f0, f1, f2, f3, f4, f5, f6⟩ := h
  refine ⟨?_, ?_, World.cell?_setCell_same _ _ _ c2, ?_, ?_, ?_, ?_, by rw [World.frozen?_setCell]; assumption, by rw [World.frozen?_setCell]; assumption, by rw [World.frozen?_setCell]; assumption, by rw [World.frozen?_setCell]; assumption, by rw [World.frozen?_setCell]; assumption, by rw [World.frozen?_setCell]; assumption, by rw [World.frozen?_setCell]; assumption⟩ <;>
    (rw [World.cell?_setCell_other _ _ _ _ (by intro e; injection e with e1 e2; omega)]; assumption)
end
end Go.Proofs.YtaicibmaogiibaaGreatDoor.Sg

/- SgLoad -/

/-
  Layer 11: Load, from what a scan of its bytes tells.
-/
set_option linter.unusedVariables false
set_option linter.unusedSimpArgs false
namespace Go.Proofs.YtaicibmaogiibaaGreatDoor.Sg
open Go Go.RowKit

theorem FqOk_base {w : World} {lo lo' : Nat} {x : Sc.Fq} (h : Sc.FqOk w lo x) (hl : lo' ≤ lo) : Sc.FqOk w lo' x := ⟨h.key.mono hl, h.val.mono hl⟩
/-- what package scan's Of has to keep -/
def OfC : Prop := ∀ (w : World) (v : Value) (b : List UInt8) (id : Nat), Bs w w.heap.size v b → b.length ≤ 100000 → id < 4294967296 → RTab w →
  Calls Tryz.prog 29 #[.int .u32 (id : Int), v] w fun e w' => ∃ rv, e = .returned rv ∧ Sc.ScanV 56 w' w.heap.size rv (Sc.of id b) ∧ Below w.heap.size w w'
section
variable {w : World} {A u q T B id : Nat} {M R : Nat → Prop} {s : FsP} {t : FSt}
set_option maxRecDepth 100000 in
set_option maxHeartbeats 4000000 in
theorem sload (hof : OfC) (hx : Ctx B w) (hB : B ≤ w.heap.size) (hi : 1 ≤ id ∧ id ≤ 16777215) (h : FsM w A u M R s) (hf : FInv s q T) (hT : T ≤ 1000000) (hl : LoneN s (nameB id) t) (hmy : mayN (nameB id) = true) (hlen : t.bytes.length ≤ 100000) :
    Calls Tryz.prog 13 #[.pointer (some ⟨A, 0, none⟩), .int .u32 (id : Int)] w fun e w' => ∃ rv, e = .returned (.tuple #[rv, .int .i64 0]) ∧ Sc.ScanV 56 w' w.heap.size rv (Sc.of id t.bytes) ∧ Below w.heap.size w w' := by
  obtain ⟨nm, hnm⟩ : ∃ nm, nm = nameB id := ⟨_, rfl⟩
  have hnsz : nm.size ≤ maxLen := by rw [hnm]; have := nameB_size id; unfold maxLen; omega
  obtain ⟨bx, hbx⟩ : ∃ bx, w.heap.size = bx := ⟨_, rfl⟩
  obtain ⟨W, hW⟩ : ∃ W, w.alloc (.cells #[.int .u32 0, .slice none 0 0, .slice none 0 0, .int .i64 0, .int .i64 0] 44) = W := ⟨_, rfl⟩
  have hb : Below w.heap.size w W := by rw [← hW]; exact (Below.refl _ _).alloc (Nat.le_refl _) _
  have hk : W.heap[bx]? = some (.cells #[.int .u32 0, .slice none 0 0, .slice none 0 0, .int .i64 0, .int .i64 0] 44 (0, 0)) := by rw [← hW, ← hbx]; exact heap_alloc_new w _
  have hr := sready (some ⟨A, 0, none⟩) id W
  rw [if_neg (by simp), if_pos hi] at hr
  obtain ⟨L, hL⟩ : ∃ L, L = t.bytes.length := ⟨_, rfl⟩
  obtain ⟨b, hbb⟩ : ∃ b, b = t.bytes := ⟨_, rfl⟩
  have h0 : nodeF s nm = (0, 1) := by rw [hnm]; exact hl.node hmy
  have HNm : Hid (∀ V, Below w.heap.size w V → Calls Tryz.prog 22 #[.int .u32 (id : Int)] V fun e w' => e = .returned (.string nm) ∧ Below V.heap.size V w') := Lib.hid fun V hb => by rw [hnm]; exact name_any id (by omega) V (hx.below (hb.mono hB)).std
  have HSz : Hid (∀ V, Below w.heap.size w V → Calls Tryz.prog 38 #[.pointer (some ⟨A, 0, none⟩), .string nm] V fun e w' => e = .returned (.tuple #[.int .i64 (L : Int), .int .i64 0]) ∧ Below V.heap.size V w') := Lib.hid fun V hb => by
    have h1 := ksize (nm := nm) (h.on hb) hf hT hl.on hnsz
    rw [h0] at h1
    simp only [if_true] at h1
    rw [hl.file, ← hL] at h1
    exact h1
  have HRd : Hid (∀ V, Below w.heap.size w V → Calls Tryz.prog 27 #[.pointer (some ⟨A, 0, none⟩), .string nm, .int .i64 0, .int .i64 (L : Int)] V fun e w' => ∃ r, e = .returned (.tuple #[r, .int .i64 0]) ∧ w'.ownsRow V.heap.size 5 1 r L (bvs b) ∧ Below V.heap.size V w') := Lib.hid fun V hb => by
    have h1 := kread (nm := nm) (L := L) (h.on hb) hf hT hl.on hnsz h0 (by rw [hl.file, hL])
    rw [hl.file, ← hbb] at h1
    exact h1
  have HB := Lib.hid hb
  have HK := Lib.hid hk
  have HBX := Lib.hid hbx
  have HOF := Lib.hid hof
  have HTab := Lib.hid (fun (V : World) (hb : Below w.heap.size w V) => (hx.below (hb.mono hB)).tab)
  have HLb := Lib.hid (show L = b.length ∧ b.length ≤ 100000 by rw [hL, hbb]; exact ⟨rfl, hlen⟩)
  have HI := Lib.hid (show id < 4294967296 by omega)
  rw [← hbb]
  clear hb hk h hf hl hmy hlen hL hbb h0 hnm hnsz hx hB hof hi
  go_enter Tryz.func13, Tryz.ntmps13
  go_wp2_with fail
  refine hr.mono ?_
  rintro e w1 ⟨rfl, rfl⟩
  clear hr hW
  go_wp2_with fail
  refine (HNm.out _ HB.out).mono ?_
  rintro e w1 ⟨rfl, hb1⟩
  have HB1 := Lib.hid (HB.out.trans (hb1.mono HB.out.size))
  have HK1 := Lib.hid ((hb1.block bx (Array.getElem?_eq_some_iff.1 HK.out).1).trans HK.out)
  clear hb1 HB HK
  go_wp2_with fail
  refine (HSz.out _ HB1.out).mono ?_
  rintro e w2 ⟨rfl, hb2⟩
  have HB2 := Lib.hid (HB1.out.trans (hb2.mono HB1.out.size))
  have HK2 := Lib.hid ((hb2.block bx (Array.getElem?_eq_some_iff.1 HK1.out).1).trans HK1.out)
  clear hb2 HB1 HK1
  go_wp2_with fail
  refine (HNm.out _ HB2.out).mono ?_
  rintro e w3 ⟨rfl, hb3⟩
  have HB3 := Lib.hid (HB2.out.trans (hb3.mono HB2.out.size))
  have HK3 := Lib.hid ((hb3.block bx (Array.getElem?_eq_some_iff.1 HK2.out).1).trans HK2.out)
  clear hb3 HB2 HK2
  go_wp2_with fail
  refine (HRd.out _ HB3.out).mono ?_
  rintro e w4 ⟨r, rfl, ho4, hb4⟩
  have HB4 := Lib.hid (HB3.out.trans (hb4.mono HB3.out.size))
  have HK4 := Lib.hid ((hb4.block bx (Array.getElem?_eq_some_iff.1 HK3.out).1).trans HK3.out)
  have HO4 := Lib.hid ho4
  have HB3s := Lib.hid HB4.out.size
  clear ho4 hb4 HB3 HK3
  have hbs : Bs w4 w4.heap.size r b := by
    have h1 := HO4.out
    obtain ⟨A', c', rfl, h2, _, _⟩ := own_slice h1
    refine ⟨A', c', by rw [HLb.out.1], by rw [← HLb.out.1]; exact h2, Rd.of_own h1⟩
  have HSc := Lib.hid (HOF.out w4 r b id hbs HLb.out.2 HI.out (HTab.out _ HB4.out))
  have y0 : w4.cell? ⟨bx, 0, none⟩ = some (.int .u32 0) := cell_of_row w4 bx 0 _ _ _ HK4.out
  have y1 : w4.cell? ⟨bx, 1, none⟩ = some (.slice none 0 0) := cell_of_row w4 bx 1 _ _ _ HK4.out
  clear hbs y0 y1
  go_wp2_with fail
  refine HSc.out.mono ?_
  rintro e w5 ⟨rv, rfl, hsc, hb5⟩
  have HB5 := Lib.hid (HB4.out.trans (hb5.mono HB4.out.size))
  have HK5 := Lib.hid ((hb5.block bx (Array.getElem?_eq_some_iff.1 HK4.out).1).trans HK4.out)
  clear hb5 HB4 HK4 HSc HO4
  obtain ⟨sc, hsd⟩ : ∃ sc, sc = Sc.of id b := ⟨_, rfl⟩
  rw [← hsd] at hsc
  have HSD := Lib.hid hsd
  obtain ⟨vf, vp, q, rfl, h1, h2, h3, h4⟩ := hsc
  obtain ⟨Af, cf, rfl, _, _, _⟩ := own_slice h2
  obtain ⟨Ap, cp, rfl, _, _, _⟩ := own_slice h4
  have HV := Lib.hid (And.intro h1 (And.intro h2 (And.intro h3 h4)))
  obtain ⟨nf, hnf⟩ : ∃ nf, q.length = nf := ⟨_, rfl⟩
  obtain ⟨np, hnp⟩ : ∃ np, sc.passed.length = np := ⟨_, rfl⟩
  obtain ⟨z1, hz1⟩ : ∃ z1, sc.id = z1 := ⟨_, rfl⟩
  obtain ⟨z2, hz2⟩ : ∃ z2, sc.stop = z2 := ⟨_, rfl⟩
  obtain ⟨z3, hz3⟩ : ∃ z3, sc.why = z3 := ⟨_, rfl⟩
  rw [hnf, hnp, hz1, hz2, hz3]
  have HZ := Lib.hid (And.intro hnf (And.intro hnp (And.intro hz1 (And.intro hz2 hz3))))
  clear h1 h2 h3 h4 hsd hnf hnp hz1 hz2 hz3
  have y0 : w5.cell? ⟨bx, 0, none⟩ = some (.int .u32 0) := cell_of_row w5 bx 0 _ _ _ HK5.out
  have y1 : w5.cell? ⟨bx, 1, none⟩ = some (.slice none 0 0) := cell_of_row w5 bx 1 _ _ _ HK5.out
  have y2 : w5.cell? ⟨bx, 2, none⟩ = some (.slice none 0 0) := cell_of_row w5 bx 2 _ _ _ HK5.out
  have y3 : w5.cell? ⟨bx, 3, none⟩ = some (.int .i64 0) := cell_of_row w5 bx 3 _ _ _ HK5.out
  have y4 : w5.cell? ⟨bx, 4, none⟩ = some (.int .i64 0) := cell_of_row w5 bx 4 _ _ _ HK5.out
  have f0 : w5.frozen? ⟨bx, 0, none⟩ = false := by simp [World.frozen?, HK5.out]
  have f1 : w5.frozen? ⟨bx, 1, none⟩ = false := by simp [World.frozen?, HK5.out]
  have f2 : w5.frozen? ⟨bx, 2, none⟩ = false := by simp [World.frozen?, HK5.out]
  have f3 : w5.frozen? ⟨bx, 3, none⟩ = false := by simp [World.frozen?, HK5.out]
  have f4 : w5.frozen? ⟨bx, 4, none⟩ = false := by simp [World.frozen?, HK5.out]
  go_wp2_with fail
  have h9 := Go.Joins.block_setCell (i := 4) (Go.Joins.block_setCell (i := 3) (Go.Joins.block_setCell (i := 2) (Go.Joins.block_setCell (i := 1) (Go.Joins.block_setCell (i := 0) HK5.out (.int .u32 (z1 : Int))) (.slice Af nf cf)) (.slice Ap np cp)) (.int .i64 (z2 : Int))) (.int .i64 (z3 : Int))
  have h9 : _ = some (Obj.cells #[.int .u32 (z1 : Int), .slice Af nf cf, .slice Ap np cp, .int .i64 (z2 : Int), .int .i64 (z3 : Int)] 44 (0, 0)) := h9
  have u0 := cell_of_row _ bx 0 _ _ _ h9
  have u1 := cell_of_row _ bx 1 _ _ _ h9
  have u2 := cell_of_row _ bx 2 _ _ _ h9
  have u3 := cell_of_row _ bx 3 _ _ _ h9
  have u4 := cell_of_row _ bx 4 _ _ _ h9
  have hc1 := ((((chg_set w5 bx 0 (.int .u32 (z1 : Int))).setCell (p := ⟨bx, 1, none⟩) rfl (.slice Af nf cf)).setCell (p := ⟨bx, 2, none⟩) rfl (.slice Ap np cp)).setCell (p := ⟨bx, 3, none⟩) rfl (.int .i64 (z2 : Int))).setCell (p := ⟨bx, 4, none⟩) rfl (.int .i64 (z3 : Int))
  have hty : Sc.Typed w5 44 (fun i => i = bx) := fun g e => by obtain rfl : g = bx := e; exact ⟨_, _, HK5.out⟩
  obtain ⟨h1, h2, h3, h4⟩ := HV.out
  obtain ⟨rfl, rfl, rfl, rfl, rfl⟩ := HZ.out
  have hlo : w.heap.size ≤ w4.heap.size := HB3s.out
  obtain rfl := HSD.out
  refine bodyPost_ret (v := .tuple #[.agg #[.int .u32 ((Sc.of id b).id : Int), .slice Af q.length cf, .slice Ap (Sc.of id b).passed.length cp, .int .i64 ((Sc.of id b).stop : Int), .int .i64 ((Sc.of id b).why : Int)], .int .i64 0]) (by simp [results, Tryz.results13, go_sem, u0, u1, u2, u3, u4]) rfl ⟨_, rfl, ⟨_, _, q, rfl, h1, hty.own (by decide) hc1 (own_base h2 hlo), fun x hx => (FqOk_base (h3 x hx) hlo).apart hty (by decide) hc1, hty.own (by decide) hc1 (own_base h4 hlo)⟩, ?_⟩
  exact HB5.out.trans (hc1.below HB5.out.size (fun i e => by have := HBX.out; omega))
end
end Go.Proofs.YtaicibmaogiibaaGreatDoor.Sg

/- SgOfC -/

/-
  Layer 11: package scan keeps what Load asks of it.
-/
set_option linter.unusedVariables false
namespace Go.Proofs.YtaicibmaogiibaaGreatDoor.Sg
open Go Go.RowKit
theorem ofC : OfC := fun w v b id h hl hi ht => Sc.sof v b id w h hl hi ht
end Go.Proofs.YtaicibmaogiibaaGreatDoor.Sg

/- SgBkM -/

/-
  Layer 11: what the laws SegBack, SegFlip, SegCrash share in memory: reads of numbered records, the rows of locs and records, what a scan found.
-/
set_option linter.unusedVariables false
set_option linter.unusedSimpArgs false
namespace Go.Proofs.YtaicibmaogiibaaGreatDoor.Sg
open Go Go.RowKit Go.Proofs.YtaicibmaogiibaaGreatDoor

theorem al11 (w : World) (o : Obj) : Below w.heap.size w (w.alloc o) := (Below.refl _ _).alloc (Nat.le_refl _) _
theorem bel11 {w w1 w2 : World} (h : Below w.heap.size w w1) (k : Below w1.heap.size w1 w2) : Below w.heap.size w w2 := h.trans (k.mono h.size)
theorem blk11 {w w' : World} {g : Nat} {o : Obj} (h : w.heap[g]? = some o) (hb : Below w.heap.size w w') : w'.heap[g]? = some o := (hb.block g (Array.getElem?_eq_some_iff.1 h).1).trans h
section
variable {w : World} {G A q T B : Nat} {M R : Nat → Prop} {s : FsP} {x : S} {L : List Rc.Rec} {f : FSt}
theorem off_ge (L : List Rc.Rec) (j : Nat) : 16 ≤ offN L j := by unfold offN; omega
/-- a loc of the row -/
theorem locs_get (id : Nat) (L : List Rc.Rec) : ∀ {n j : Nat}, j < n → (locsN id L n)[j * 2]? = some (.int .u32 (id : Int)) ∧ (locsN id L n)[j * 2 + 1]? = some (.int .u32 (offN L j : Int))
  | n + 1, j, h => by
    have hl : ∀ n, (locsN id L n).length = n * 2 := by
      intro n
      induction n with
      | zero => rfl
      | succ n ih => rw [locsN_next, List.length_append, ih]; simp; omega
    rw [locsN_next]
    by_cases hj : j < n
    · have := locs_get id L hj
      rw [List.getElem?_append_left (by rw [hl]; omega), List.getElem?_append_left (by rw [hl]; omega)]
      exact this
    · obtain rfl : j = n := by omega
      rw [List.getElem?_append_right (by rw [hl]; omega), List.getElem?_append_right (by rw [hl]; omega), hl]
      exact ⟨by simp, by rw [show j * 2 + 1 - j * 2 = 1 by omega]; simp⟩
theorem loc_cells {base n c g : Nat} {id j : Nat} (h : w.ownsRow base 49 2 (.slice (some ⟨g, 0, none⟩) n c) n (locsN id L n)) (hj : j < n) : w.cell? ⟨g, j * 2, none⟩ = some (.int .u32 (id : Int)) ∧ w.cell? ⟨g, j * 2 + 1, none⟩ = some (.int .u32 (offN L j : Int)) := by
  obtain ⟨h0, h1⟩ := locs_get id L hj
  have t0 := h.cells (g := g) rfl (j * 2) _ h0
  have t1 := h.cells (g := g) rfl (j * 2 + 1) _ h1
  rw [addr_add0] at t0 t1
  exact ⟨t0, t1⟩
theorem recs_below {B C : Nat} {w w' : World} {v : Value} {l : List Rc.Rec} (h : Recs w B v l) (hb : Below C w w') (hC : B ≤ C) : Recs w' B v l := by
  obtain ⟨A, c, rfl, h1, h2, h3⟩ := h
  refine ⟨A, c, rfl, h1, h2, fun i r hr => ?_⟩
  obtain ⟨b, o, e, hbB, kv, vv, e0, e1, e2, e3, e4, e5, hk, hv, hf⟩ := h3 i r hr
  have hc : ∀ (k : Nat) {u : Value}, w.cell? ⟨b, k, none⟩ = some u → w'.cell? ⟨b, k, none⟩ = some u := fun k u hu => (hb.cell (p := ⟨b, k, none⟩) (by show b < C; omega)).trans hu
  exact ⟨b, o, e, hbB, kv, vv, hc _ e0, hc _ e1, hc _ e2, hc _ e3, hc _ e4, hc _ e5, hk.below hb hC, hv.below hb hC, hf⟩
/-- a box of a record, loaded -/
theorem box6 {g : Nat} {a0 a1 a2 a3 a4 a5 : Value} {T : TypeId} (h : w.heap[g]? = some (.cells #[a0, a1, a2, a3, a4, a5] T (0, 0))) : w.cell? ⟨g, 0, none⟩ = some a0 ∧ w.cell? ⟨g, 1, none⟩ = some a1 ∧ w.cell? ⟨g, 2, none⟩ = some a2 ∧ w.cell? ⟨g, 3, none⟩ = some a3 ∧ w.cell? ⟨g, 4, none⟩ = some a4 ∧ w.cell? ⟨g, 5, none⟩ = some a5 :=
  ⟨cell_of_row w g 0 _ _ _ h, cell_of_row w g 1 _ _ _ h, cell_of_row w g 2 _ _ _ h, cell_of_row w g 3 _ _ _ h, cell_of_row w g 4 _ _ _ h, cell_of_row w g 5 _ _ _ h⟩
theorem same_own (r : Rc.Rec) : Rc.sameB r r = true := by unfold Rc.sameB; simp
/-- Same of a record with itself -/
theorem same_t {v v' : Value} {r : Rc.Rec} (h : RecV w w.heap.size v r) (h' : RecV w w.heap.size v' r) :
    Calls Tryz.prog 16 #[v, v'] w fun e w' => e = .returned (.bool true) ∧ Below w.heap.size w w' := by
  have := rsame_b v v' r r w.heap.size w h h' (Nat.le_refl _)
  rwa [same_own] at this
theorem found_cells11 {id lo n cf : Nat} {A : Option Addr} {q : List Sc.Fq} {fs : List Sc.Fd} (ho : w.ownsRow lo 56 9 (.slice A n cf) n (Sc.rowF id q)) (hf : ∀ x ∈ q, Sc.FqOk w lo x) (hq : q.map (·.1) = fs) (hn : 0 < n) {j : Nat} {f : Sc.Fd} (hj : fs[j]? = some f) :
    ∃ g Ak nk ck Av nv cv, A = some ⟨g, 0, none⟩ ∧ lo ≤ g ∧ w.cell? ⟨g, j * 9, none⟩ = some (.int .u32 (id : Int)) ∧ w.cell? ⟨g, j * 9 + 1, none⟩ = some (.int .u32 (f.off : Int)) ∧ w.cell? ⟨g, j * 9 + 2, none⟩ = some (.int .i64 (f.size : Int)) ∧ w.cell? ⟨g, j * 9 + 3, none⟩ = some (.int .u64 f.r.seq) ∧ w.cell? ⟨g, j * 9 + 4, none⟩ = some (.int .i64 f.r.kind) ∧
      w.cell? ⟨g, j * 9 + 5, none⟩ = some (.slice Ak nk ck) ∧ w.cell? ⟨g, j * 9 + 6, none⟩ = some (.slice Av nv cv) ∧ w.cell? ⟨g, j * 9 + 7, none⟩ = some (.int .u32 f.r.seg) ∧ w.cell? ⟨g, j * 9 + 8, none⟩ = some (.int .u32 f.r.off) ∧ Bs w w.heap.size (.slice Ak nk ck) f.r.key ∧ Bs w w.heap.size (.slice Av nv cv) f.r.val := by
  obtain ⟨g, rfl, hg⟩ := Sc.own_at ho hn
  obtain ⟨xq, hxq⟩ : ∃ x, q[j]? = some x := by
    subst hq
    rw [List.getElem?_map] at hj
    rcases h : q[j]? with _ | x
    · rw [h] at hj; cases hj
    · exact ⟨x, rfl⟩
  have hx1 : xq.1 = f := by
    have h1 : (q.map (·.1))[j]? = some xq.1 := by rw [List.getElem?_map, hxq]; rfl
    rw [hq] at h1
    exact Option.some.inj (h1.symm.trans hj)
  have hfq := hf xq (List.mem_of_getElem? hxq)
  obtain ⟨fd, kv, vv⟩ := xq
  have hx1 : fd = f := hx1
  subst hx1
  have h5 := hfq.key
  have h6 := hfq.val
  dsimp only at h5 h6
  obtain ⟨Ak, nk, ck, rfl⟩ : ∃ A n c, kv = .slice A n c := by rcases h5 with ⟨h1, _⟩ | ⟨g, h1, _⟩ <;> exact ⟨_, _, _, h1⟩
  obtain ⟨Av, nv, cv, rfl⟩ : ∃ A n c, vv = .slice A n c := by rcases h6 with ⟨h1, _⟩ | ⟨g, h1, _⟩ <;> exact ⟨_, _, _, h1⟩
  have F := fun k (hk : k < 9) => Sc.rowF_get (id := id) hxq k hk
  have c0 := ho.cells (g := g) rfl (j * 9) _ (F 0 (by decide))
  have c1 := ho.cells (g := g) rfl (j * 9 + 1) _ (F 1 (by decide))
  have c2 := ho.cells (g := g) rfl (j * 9 + 2) _ (F 2 (by decide))
  have c3 := ho.cells (g := g) rfl (j * 9 + 3) _ (F 3 (by decide))
  have c4 := ho.cells (g := g) rfl (j * 9 + 4) _ (F 4 (by decide))
  have c5 := ho.cells (g := g) rfl (j * 9 + 5) _ (F 5 (by decide))
  have c6 := ho.cells (g := g) rfl (j * 9 + 6) _ (F 6 (by decide))
  have c7 := ho.cells (g := g) rfl (j * 9 + 7) _ (F 7 (by decide))
  have c8 := ho.cells (g := g) rfl (j * 9 + 8) _ (F 8 (by decide))
  rw [Sc.addr_add1] at c0 c1 c2 c3 c4 c5 c6 c7 c8
  exact ⟨g, Ak, nk, ck, Av, nv, cv, rfl, hg, c0, c1, c2, c3, c4, c5, c6, c7, c8, h5.bs, h6.bs⟩
/-- a sync of a segment of numbered records -/
theorem sync_num {id n : Nat} (hi : 1 ≤ id ∧ id ≤ 16777215) (hl : Lone s (nameB id) (fileN id L n)) (hn : L.length ≤ n) (hf : FInv s q T) :
    (syncG s (segN id L n)).1 = 0 ∧ Lone (syncG s (segN id L n)).2.1 (nameB id) (FSt.new (bytesN11 id L)) ∧ (syncG s (segN id L n)).2.2 = { segN id L n with safe := n } ∧ (syncG s (segN id L n)).2.1.quota = s.quota ∧ FInv (syncG s (segN id L n)).2.1 (q + 1) (T + 60) ∧ (syncG s (segN id L n)).2.1.steps = s.steps + 1 := by
  have h1 := hl.toN.sync (mayN_name hi)
  have hp := (fileN_bytes id L n).2.1
  have hb := (fileN_bytes id L n).1
  rw [List.take_of_length_le hn] at hb
  rw [hp.synced, hb] at h1
  have hfi : FInv (stepF s (syncK (nameB id))).2 (q + 1) (T + 60) := by
    refine hf.step (Nat.le_succ _) (Nat.le_add_right _ _) (fun h0 => ?_)
    exact (h0.onF_ (nameB id) 0 (fun t ht => syncT_ok t ht)).mono (Nat.le_succ _) (by omega)
  have e1 : (segN id L n).id = id := rfl
  unfold syncG
  rw [e1, if_pos h1.1]
  exact ⟨rfl, hl.by_step h1.2, rfl, h1.2.2.2.1, hfi, h1.2.2.2.2⟩
end
end Go.Proofs.YtaicibmaogiibaaGreatDoor.Sg

/- SgCrP -/

/-
  Layer 11: a segment of numbered records, some of them synced, behind a crash (plain mathematics); a row of records cut.
-/
set_option linter.unusedVariables false
set_option linter.unusedSimpArgs false
namespace Go.Proofs.YtaicibmaogiibaaGreatDoor.Sg
open Go Go.RowKit Go.Proofs.YtaicibmaogiibaaGreatDoor

theorem elRecs : Tryz.prog.underlying 22 = some (.slice (Tryz.prog.elem 22)) := by kernel_rfl
theorem addr_addo (b o k : Nat) : (⟨b, o, none⟩ : Addr).add k = ⟨b, o + k, none⟩ := by unfold Addr.add; split <;> simp_all
theorem recs_head (A : Option Addr) (n c m : Nat) (hm : m ≤ n) (hc : n ≤ c) : ∃ A', (∀ w, (Instr.sliceAt 22 (.slice A n c) none (some (.int .i64 (m : Int))) none).run Tryz.prog w = .ok (.slice A' m c) w) ∧ ∀ w B L, Recs w B (.slice A n c) L → Recs w B (.slice A' m c) (L.take m) := by
  refine ⟨if c = 0 then A else A.map (·.add 0), fun w => ?_, fun w B L h => ?_⟩
  · rw [run_sliceAt_slice _ 22 _ _ _ _ elRecs, run_slice_h _ 22 A n c elRecs .i64 m (by omega) (by omega)]
    have : (sizeOf (Tryz.prog.elem 22)).run Tryz.prog w = .ok 6 w := by kernel_rfl
    rw [this]
    simp [Result.andThen, sliced]
  · obtain ⟨A2, c2, e, h1, h2, h3⟩ := h
    injection e with e1 e2 e3
    subst e1 e2 e3
    refine ⟨_, c, by rw [List.length_take, Nat.min_eq_left hm], by rw [List.length_take]; omega, h2, fun i r hr => ?_⟩
    rw [List.getElem?_take] at hr
    split at hr
    · obtain ⟨b, o, rfl, hb, hk⟩ := h3 i r hr
      have hlt := (List.getElem?_eq_some_iff.1 hr).1
      rw [if_neg (by omega)]
      exact ⟨b, o, by rw [Option.map_some, addr_addo]; rfl, hb, hk⟩
    · cases hr
theorem recs_tail (A : Option Addr) (n c m : Nat) (hm : m ≤ n) (hc : n ≤ c) : ∃ A', (∀ w, (Instr.sliceAt 22 (.slice A n c) (some (.int .i64 (m : Int))) none none).run Tryz.prog w = .ok (.slice A' (n - m) (c - m)) w) ∧ ∀ w B L, Recs w B (.slice A n c) L → Recs w B (.slice A' (n - m) (c - m)) (L.drop m) := by
  refine ⟨if c = m then A else A.map (·.add (m * 6)), fun w => ?_, fun w B L h => ?_⟩
  · rw [run_sliceAt_slice _ 22 _ _ _ _ elRecs, run_slice_l _ 22 A n c elRecs .i64 m (by omega) (by omega)]
    have : (sizeOf (Tryz.prog.elem 22)).run Tryz.prog w = .ok 6 w := by kernel_rfl
    rw [this]
    simp [Result.andThen, sliced]
  · obtain ⟨A2, c2, e, h1, h2, h3⟩ := h
    injection e with e1 e2 e3
    subst e1 e2 e3
    refine ⟨_, c - m, by rw [List.length_drop], by rw [List.length_drop]; omega, by omega, fun i r hr => ?_⟩
    rw [List.getElem?_drop] at hr
    obtain ⟨b, o, rfl, hb, hk⟩ := h3 (m + i) r hr
    have hlt := (List.getElem?_eq_some_iff.1 hr).1
    rw [if_neg (by omega)]
    refine ⟨b, o + m * 6, by rw [Option.map_some, addr_addo], hb, ?_⟩
    rw [show o + m * 6 + i * 6 = o + (m + i) * 6 by omega]
    exact hk

/-- the file when m records are synced and j stand -/
def fileC (L : List Rc.Rec) (m j : Nat) : FSt := ((L.drop m).take (j - m)).foldl (fun t r => t.app (Rc.runL r)) (FSt.new (bytesN11 7 (L.take m)))
theorem fileC_self (L : List Rc.Rec) (m : Nat) : fileC L m m = FSt.new (bytesN11 7 (L.take m)) := by unfold fileC; rw [Nat.sub_self]; rfl
theorem fileC_next {L : List Rc.Rec} {m j : Nat} {r : Rc.Rec} (hm : m ≤ j) (h : L[j]? = some r) : fileC L m (j + 1) = (fileC L m j).app (Rc.runL r) := by
  unfold fileC
  rw [show j + 1 - m = j - m + 1 by omega, List.take_add_one, List.getElem?_drop, show m + (j - m) = j by omega, h]
  simp
theorem fileC_facts (L : List Rc.Rec) (m : Nat) : ∀ d, m + d ≤ L.length → (fileC L m (m + d)).bytes = bytesN11 7 (L.take (m + d)) ∧ Pure (fileC L m (m + d)) ∧ (fileC L m (m + d)).safe = bytesN11 7 (L.take m)
  | 0, _ => by
    rw [Nat.add_zero, fileC_self]
    exact ⟨FSt.new_bytes _, Pure.new _, rfl⟩
  | d + 1, h => by
    obtain ⟨r, hr⟩ : ∃ r, L[m + d]? = some r := ⟨_, List.getElem?_eq_getElem (by omega)⟩
    have ih := fileC_facts L m d (by omega)
    rw [← Nat.add_assoc, fileC_next (Nat.le_add_right _ _) hr]
    refine ⟨?_, ih.2.1.app run_ne, by rw [app_safe]; exact ih.2.2⟩
    rw [FSt.app_bytes, ih.1, List.take_add_one, hr]
    unfold bytesN11
    simp
/-- the segment then -/
def segC (L : List Rc.Rec) (m j : Nat) : S := { segN 7 L j with safe := m }
theorem segC_more {L : List Rc.Rec} (hL : Numb L) {m j : Nat} {r : Rc.Rec} (h : L[j]? = some r) : (segC L m j).more r.seq.toNat (Rc.sizeN r) = segC L m (j + 1) := by
  have := segN_next (id := 7) hL h
  have e : (segC L m j).more r.seq.toNat (Rc.sizeN r) = { (segN 7 L j).more r.seq.toNat (Rc.sizeN r) with safe := m } := rfl
  rw [e, this]
  rfl
theorem off_len {id : Nat} (L : List Rc.Rec) (j : Nat) : (bytesN11 id (L.take j)).length = Sg.offN L j := by rw [bytesN11_length]; rfl
/-- an append there -/
theorem appC {L : List Rc.Rec} (hL : Numb L) {m j : Nat} {r : Rc.Rec} (hm : m ≤ j) (h : L[j]? = some r) {s : FsP} (hl : Lone s (nameB 7) (fileC L m j)) (hq : 100000 ≤ s.quota) :
    (appG s (segC L m j) r).1 = 0 ∧ (appG s (segC L m j) r).2.1 = (7, Sg.offN L j) ∧ Lone (appG s (segC L m j) r).2.2.1 (nameB 7) (fileC L m (j + 1)) ∧ (appG s (segC L m j) r).2.2.1 = (stepF s (appendK (nameB 7) (Rc.runL r))).2 ∧ (appG s (segC L m j) r).2.2.2 = segC L m (j + 1) ∧ (appG s (segC L m j) r).2.2.1.quota = s.quota ∧ (appG s (segC L m j) r).2.2.1.steps = s.steps + 1 := by
  have hmy := hL.may r (List.mem_of_getElem? h)
  have hs := hL.num j r h
  have hj : j < L.length := (List.getElem?_eq_some_iff.1 h).1
  have hf := hL.few
  have ho := Sg.offN_le hL j
  have hz := Rc.may_size hmy
  have hfc := fileC_facts L m (j - m) (by omega)
  rw [show m + (j - m) = j by omega] at hfc
  have hlen : (fileC L m j).bytes.length = Sg.offN L j := by rw [hfc.1, off_len]
  have hap := hl.toN.append (mayN_name (by omega)) (b := Rc.runL r) run_ne (by rw [hlen, Rc.runL_length]; omega)
  have e1 : (segC L m j).id = 7 := rfl
  have e2 : (segC L m j).size = Sg.offN L j := rfl
  have e3 : (segC L m j).last = j := rfl
  unfold appG
  rw [if_neg (by rw [hmy, hs, e3]; simp; omega), if_neg (by rw [e2]; omega), e1, if_pos hap.1]
  refine ⟨rfl, by rw [e2], ?_, rfl, segC_more hL h, hap.2.2.2.1, hap.2.2.2.2⟩
  rw [fileC_next hm h]
  exact hl.by_step hap.2
/-- behind a crash it holds a beginning that has what was synced -/
theorem crashC {L : List Rc.Rec} {m : Nat} (hm : m ≤ L.length) {s : FsP} (hl : Lone s (nameB 7) (fileC L m L.length)) (picks : List Int) (hp : picks.any (· < 0) = false) :
    ∃ K, Sg.offN L m ≤ K ∧ K ≤ Sg.offN L L.length ∧ Lone (crashK s picks).2 (nameB 7) (FSt.new ((bytesN11 7 L).take K)) ∧ (crashK s picks).2.quota = s.quota := by
  obtain ⟨_, k, hk, h1, h2⟩ := hl.crash picks hp
  have hfc := fileC_facts L m (L.length - m) (by omega)
  rw [show m + (L.length - m) = L.length by omega, List.take_length] at hfc
  rw [hfc.2.1.settled hk, hfc.1, hfc.2.2, off_len] at h1
  have hlen := hfc.2.1.len
  rw [hfc.1, hfc.2.2, off_len] at hlen
  have e : (bytesN11 7 L).length = Sg.offN L L.length := by have := off_len (id := 7) L L.length; rwa [List.take_length] at this
  exact ⟨Sg.offN L m + k, by omega, by omega, h1, h2⟩
/-- what a scan tells of it -/
theorem cutC {L : List Rc.Rec} (hL : Numb L) {m K : Nat} (hm : m ≤ L.length) (h1 : Sg.offN L m ≤ K) (h2 : K ≤ Sg.offN L L.length) :
    ∃ i W, m ≤ i ∧ i ≤ L.length ∧ Sg.offN L i ≤ K ∧ (W = 0 ∨ W = 22) ∧ Sc.of 7 ((bytesN11 7 L).take K) = ⟨7, Sc.places 16 (L.take i), [], Sg.offN L i, W⟩ := by
  have hr := numb_runs hL
  have h16 := off_ge L m
  rw [off_end, Sc.endN_all (Nat.le_refl _)] at h2
  obtain ⟨i, E, W, g1, g2, g3, _, g4⟩ := Sc.of_cut 7 (by decide) L hL.up (by omega) K h2
  obtain ⟨rfl, hW⟩ := g4 (by omega)
  refine ⟨i, W, ?_, g1, ?_, ?_, by rw [bytes_lay, g3, off_end]⟩
  · rcases Nat.eq_zero_or_pos m with h0 | h0
    · omega
    · have := (g2 (m - 1) (by omega)).1 (by rw [show m - 1 + 1 = m by omega, ← off_end]; exact h1)
      omega
  · rw [off_end]
    rcases Nat.eq_zero_or_pos i with h0 | h0
    · subst h0
      rw [Sc.endN_zero]
      omega
    · have := (g2 (i - 1) (by omega)).2 (by omega)
      rwa [show i - 1 + 1 = i by omega] at this
  · rw [hW]
    split <;> simp
theorem take_off (L : List Rc.Rec) (i K : Nat) (h1 : Sg.offN L i ≤ K) : ((bytesN11 7 L).take K).take (Sg.offN L i) = Sc.layB 7 (L.take i) := by
  rw [List.take_take, Nat.min_eq_left h1, bytes_lay]
  have e : Sc.layB 7 L = Sc.layB 7 (L.take i) ++ Sc.runsL (L.drop i) := by
    unfold Sc.layB
    rw [List.append_assoc, ← Sc.runsL_append, List.take_append_drop]
  rw [e, List.take_left' (layB_take_length 7 L i)]
/-- the record that comes behind -/
def moreR (i : Nat) : Rc.Rec := ⟨((i + 1 : Nat) : Int), 1, [109, 111, 114, 101], [], 0, 0⟩
theorem more_may {i : Nat} (h : i ≤ 30) : Rc.mayB (moreR i) = true := by
  have : ∀ k : Fin 31, Rc.mayB (moreR k.1) = true := by decide +kernel
  exact this ⟨i, by omega⟩
theorem more_size (i : Nat) : Rc.sizeN (moreR i) = 29 := rfl
theorem more_up {L : List Rc.Rec} (hL : Numb L) {i : Nat} (hi : i ≤ L.length) : Numb L → Sc.Up 0 (L.take i ++ [moreR i]) := by
  intro _
  have hf := hL.few
  refine up_num _ 0 (fun r hr => ?_) (fun k r hr => ?_)
  · rcases List.mem_append.1 hr with h | h
    · exact hL.may r (List.mem_of_mem_take h)
    · simp at h
      subst h
      exact more_may (by omega)
  · rw [List.getElem?_append] at hr
    have hl : (L.take i).length = i := by rw [List.length_take]; omega
    rw [hl] at hr
    split at hr
    · rename_i hk
      rw [List.getElem?_take, if_pos hk] at hr
      have := hL.num k r hr
      omega
    · rename_i hk
      rw [List.getElem?_singleton] at hr
      split at hr
      · injection hr with hr
        subst hr
        have : k = i := by omega
        subst this
        show ((k + 1 : Nat) : Int) = 0 + ((k + 1 : Nat) : Int)
        omega
      · cases hr
/-- truncated to what was found -/
theorem truncC {s : FsP} {L : List Rc.Rec} {i K : Nat} (hl : LoneN s (nameB 7) (FSt.new ((bytesN11 7 L).take K))) (h1 : Sg.offN L i ≤ K) (h2 : K ≤ Sg.offN L L.length) :
    (stepF s (truncK (nameB 7) ((Sg.offN L i : Nat) : Int))).1 = 0 ∧ ∃ f : FSt, f.Ok ∧ f.bytes = Sc.layB 7 (L.take i) ∧ LoneN (stepF s (truncK (nameB 7) ((Sg.offN L i : Nat) : Int))).2 (nameB 7) f ∧ (stepF s (truncK (nameB 7) ((Sg.offN L i : Nat) : Int))).2.quota = s.quota ∧ (stepF s (truncK (nameB 7) ((Sg.offN L i : Nat) : Int))).2.steps = s.steps + 1 := by
  have e : (bytesN11 7 L).length = Sg.offN L L.length := by have := off_len (id := 7) L L.length; rwa [List.take_length] at this
  have hlen : (FSt.new ((bytesN11 7 L).take K)).bytes.length = K := by rw [FSt.new_bytes, List.length_take, e]; omega
  have ht := hl.trunc (mayN_name (by omega)) (Sg.offN L i) (by rw [hlen]; exact h1)
  rw [hlen] at ht
  refine ⟨ht.1, _, ?_, ?_, ht.2.1, ht.2.2.2.1, ht.2.2.2.2⟩
  · split
    · exact FSt.new_ok _
    · exact FSt.cutd_ok (FSt.new_ok _) (by rw [hlen]; omega)
  · split
    · rename_i hE
      rw [FSt.new_bytes, ← take_off L i K h1, hE, List.take_take, Nat.min_self]
    · rw [FSt.cutd_bytes (FSt.new_ok _), FSt.new_bytes, take_off L i K h1]
/-- the record behind, appended -/
theorem appM {s : FsP} {L : List Rc.Rec} (hL : Numb L) {i fi : Nat} {f : FSt} (hi : i ≤ L.length) (hl : LoneN s (nameB 7) f) (hb : f.bytes = Sc.layB 7 (L.take i)) (hq : 100000 ≤ s.quota) :
    (appG s ⟨7, Sg.offN L i, i, fi, i, i⟩ (moreR i)).1 = 0 ∧ (appG s ⟨7, Sg.offN L i, i, fi, i, i⟩ (moreR i)).2.1 = (7, Sg.offN L i) ∧ LoneN (appG s ⟨7, Sg.offN L i, i, fi, i, i⟩ (moreR i)).2.2.1 (nameB 7) (f.app (Rc.runL (moreR i))) := by
  have hf := hL.few
  have hm := more_may (i := i) (by omega)
  have ho := Sg.offN_le hL i
  have hlen : f.bytes.length = Sg.offN L i := by rw [hb, layB_take_length]
  have hap := hl.append (mayN_name (by omega)) (b := Rc.runL (moreR i)) run_ne (by rw [hlen, Rc.runL_length, more_size]; omega)
  unfold appG
  rw [if_neg (by rw [hm]; simp [moreR]; omega), if_neg (by rw [more_size]; show ¬ 16777216 < Sg.offN L i + 29; omega), if_pos hap.1]
  exact ⟨rfl, rfl, hap.2.1⟩
theorem lay_more (L : List Rc.Rec) (i : Nat) : Sc.layB 7 (L.take i) ++ Rc.runL (moreR i) = Sc.layB 7 (L.take i ++ [moreR i]) := by
  unfold Sc.layB
  rw [Sc.runsL_append, List.append_assoc]
  simp [Sc.runsL]
/-- and a scan of that -/
theorem ofM {L : List Rc.Rec} (hL : Numb L) {i : Nat} (hi : i ≤ L.length) : Sc.of 7 (Sc.layB 7 (L.take i) ++ Rc.runL (moreR i)) = ⟨7, Sc.places 16 (L.take i ++ [moreR i]), [], Sg.offN L i + 29, 0⟩ ∧ (Sc.places 16 (L.take i ++ [moreR i]))[i]? = some ⟨Sg.offN L i, 29, moreR i⟩ := by
  have hr := numb_runs (hL.take i)
  have hl : (L.take i).length = i := by rw [List.length_take]; omega
  have e : (Sc.runsL (L.take i ++ [moreR i])).length = (Sc.runsL (L.take i)).length + 29 := by
    rw [Sc.runsL_append, List.length_append]
    simp [Sc.runsL, Rc.runL_length, more_size]
  constructor
  · have := Sc.of_lay 7 (by decide) (L.take i ++ [moreR i]) [] (more_up hL hi hL) (by rw [e]; omega) (.inl rfl)
    rw [List.append_nil] at this
    rw [lay_more, this, e, off_end]
    rfl
  · have := Sc.places_at 16 (l := L.take i ++ [moreR i]) (i := i) (r := moreR i) (by rw [List.getElem?_append_right (by omega), hl, Nat.sub_self]; rfl)
    rw [this, List.take_left' hl, off_end]
    rfl
/-- the seal of what was found -/
theorem seal_take {L : List Rc.Rec} (h : Numb L) {i : Nat} (hi : i ≤ L.length) (E W : Nat) : Sc.seal_ ⟨7, Sc.places 16 (L.take i), [], E, W⟩ = ⟨7, E, i, if i = 0 then 0 else 1, i⟩ := by
  have hl : (L.take i).length = i := by rw [List.length_take]; omega
  have hn := h.take i
  have h1 : Sc.firstOf (Sc.places 16 (L.take i)) = if i = 0 then 0 else 1 := by
    rcases e : L.take i with _ | ⟨r, l⟩
    · rw [e] at hl
      rw [if_pos (by simpa using hl.symm)]
      rfl
    · have := hn.num 0 r (by rw [e]; rfl)
      rw [e] at hl
      show r.seq.toNat = _
      rw [if_neg (by simp at hl; omega)]
      omega
  have h2 : Sc.lastF (Sc.places 16 (L.take i)) = i := by
    rcases Nat.eq_zero_or_pos i with h0 | h0
    · subst h0
      rfl
    · have e := Sc.lastF_get2 hn.up (by intro e; rw [e] at hl; simp at hl; omega)
      obtain ⟨r, hr⟩ : ∃ r, (L.take i)[i - 1]? = some r := ⟨_, List.getElem?_eq_getElem (by omega)⟩
      rw [Sc.lastOf_all hr (by omega), hn.num _ r hr] at e
      omega
  unfold Sc.seal_
  simp only [h1, h2, Sc.places_length, hl, List.length_nil, Nat.add_zero]
end Go.Proofs.YtaicibmaogiibaaGreatDoor.Sg

/- SgKnP -/

/-
  Layer 11: what SegKnown's calls make, one behind the other (plain mathematics).
-/
set_option linter.unusedVariables false
set_option linter.unusedSimpArgs false
namespace Go.Proofs.YtaicibmaogiibaaGreatDoor.Sg
open Go Go.RowKit

theorem appG_inv {s : FsP} {q T : Nat} (h : FInv s q T) (x : S) (r : Rc.Rec) : FInv (appG s x r).2.2.1 q (T + (Rc.runL r).length) ∧ (appG s x r).2.2.1.steps ≤ s.steps + 1 := by
  have h1 := finv_app h (nameB x.id) (Rc.runL r)
  have h2 := stepF_steps s (appendK (nameB x.id) (Rc.runL r)) (fun t => onF_steps _ _ _)
  unfold appG
  split
  · exact ⟨h.mono (Nat.le_refl _) (by omega), by show s.steps ≤ _; omega⟩
  · split
    · exact ⟨h.mono (Nat.le_refl _) (by omega), by show s.steps ≤ _; omega⟩
    · split
      · exact ⟨h1, h2⟩
      · exact ⟨h1, h2⟩
end Go.Proofs.YtaicibmaogiibaaGreatDoor.Sg

