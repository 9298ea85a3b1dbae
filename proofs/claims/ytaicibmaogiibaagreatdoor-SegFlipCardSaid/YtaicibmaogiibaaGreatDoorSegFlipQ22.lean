/-
  SegFlip, part 22 of what the law's proof leans on: SgRead, SgBkP, SgOf, SgLay, SgKit, SgLoad, SgOfC, SgBkM.
-/
import Derived.Lib.SmallJoins
import Derived.Deep.QuietTactic
import Derived.Test.YtaicibmaogiibaaGreatDoorSegFlipQ21
import Derived.Test.YtaicibmaogiibaaGreatDoorSegFlipQ5
import Derived.Test.YtaicibmaogiibaaGreatDoorSegFlipQ18
import Derived.Test.YtaicibmaogiibaaGreatDoorSegFlipQ19
import Derived.Test.YtaicibmaogiibaaGreatDoorSegFlipQ14
import Derived.Test.YtaicibmaogiibaaGreatDoorSegFlipQ20
/- SgRead -/

/-
  Layer 11: Read.
-/
set_option linter.unusedVariables false
set_option linter.unusedSimpArgs false
namespace Go.Proofs.YtaicibmaogiibaaGreatDoor.Sg
open Go Go.RowKit

section
variable {w : World} {G A u q T B : Nat} {M R : Nat → Prop} {s : FsP} {x : S} {nm : ByteArray}
set_option maxRecDepth 100000 in
set_option maxHeartbeats 4000000 in
/-- a part of a file -/
theorem kreadat {i off cnt : Nat} (h : FsM w A u M R s) (hf : FInv s q T) (hT : T ≤ 1000000) (ho : s.off = false) (hn : nm.size ≤ maxLen) (h0 : nodeF s nm = (0, i)) (hle : off + cnt ≤ (s.file i).bytes.length) :
    Calls Tryz.prog 27 #[.pointer (some ⟨A, 0, none⟩), .string nm, .int .i64 (off : Int), .int .i64 (cnt : Int)] w fun e w' => ∃ r, e = .returned (.tuple #[r, .int .i64 0]) ∧ w'.ownsRow w.heap.size 5 1 r cnt (bvs (((s.file i).bytes.drop off).take cnt)) ∧ Below w.heap.size w w' := by
  obtain ⟨X, B, n, hv, K, g, MX, MF, ha, hn1, hn2, hn3, hn4, hn5⟩ := h.kfacts hf
  have HF := Lib.hid (kfind ha hn4 ho hn)
  have Ha := Lib.hid ha
  rw [h0] at HF
  simp only [if_true] at HF
  have hfin : findL s.dir.now nm = some i := by
    unfold nodeF at h0
    split at h0
    · cases h0
    · rename_i h1
      cases hf2 : findL s.dir.now nm with
      | none => rw [hf2] at h0; cases h0
      | some m => rw [hf2] at h0; injection h0 with _ h0; rw [h0]
  have hiK : i ∈ K := hn4 _ (findL_mem hfin)
  have HZ : Hid (∀ w1, Below w.heap.size w w1 → Calls Tryz.prog 76 #[.pointer (some ⟨g i, 0, none⟩), .int .i64 (off : Int), .int .i64 (cnt : Int)] w1 fun e w' => ∃ r, e = .returned (.tuple #[r, .int .i64 0]) ∧ w'.ownsRow w.heap.size 5 1 r cnt (bvs (((s.file i).bytes.drop off).take cnt)) ∧ Below w1.heap.size w1 w') := fun w1 hb => by
    have h9 := fread_m ((Ha.out.on hb).files i hiK) (Nat.le_trans (hn5 i hiK) (by omega)) off cnt hle
    refine h9.mono ?_
    rintro e w' ⟨r, rfl, ho, hb'⟩
    exact ⟨r, rfl, own_base ho hb.size, hb'⟩
  generalize g i = Fi at *
  generalize ((s.file i).bytes.drop off).take cnt = by_ at *
  clear h hf ha hn1 hn2 hn3 hn4 hn5 h0 hfin hle
  go_enter Tryz.func27, Tryz.ntmps27
  go_wp2_with (first
    | (go_at_call 65; refine HF.out.mono ?_; rintro e w1 ⟨rfl, hb1⟩; have HB1 := Lib.hid hb1; clear hb1)
    | (go_at_call 76; refine (HZ.out _ HB1.out).mono ?_; rintro e w2 ⟨r, rfl, ho2, hb2⟩; have HO2 := Lib.hid ho2; have HB2 := Lib.hid (HB1.out.trans (hb2.mono HB1.out.size)); clear hb2 ho2))
  go_ret2
  exact ⟨_, rfl, HO2.out, HB2.out⟩
/-- what is read at a byte of a segment's file -/
def readQ (b : List UInt8) (size off : Nat) : Rc.Rec × Nat × Nat := Rc.getQ ((b.drop off).take (min (size - off) 1113))
theorem RecV.none11 {w : World} {B : Nat} : RecV w B (recV 0 0 (.slice none 0 0) (.slice none 0 0) 0 0) Rc.none := ⟨_, _, rfl, ⟨none, 0, rfl, Nat.le_refl _, fun h => absurd rfl h⟩, ⟨none, 0, rfl, Nat.le_refl _, fun h => absurd rfl h⟩⟩
theorem newRec_keep {W0 W' W'' : World} {N : Nat → Prop} {rv : Value} {r : Rc.Rec} (h : NewRec W0 W' rv r) (hc : Chg N W' W'') (hN : ∀ i, N i → i < W0.heap.size) : RecV W'' W''.heap.size rv r := by
  rcases h with ⟨rfl, rfl⟩ | ⟨g1, g2, rfl, _, hg1, hg2, h1, h2⟩
  · exact RecV.none11
  · have k1 : RowAt W'' g1 r.key := (hc.block g1 h1.lt (fun e => by have := hN _ e; omega)).trans h1
    have k2 : RowAt W'' g2 r.val := (hc.block g2 h2.lt (fun e => by have := hN _ e; omega)).trans h2
    exact ⟨_, _, rfl, k1.bs k1.lt, k2.bs k2.lt⟩
set_option maxRecDepth 100000 in
set_option maxHeartbeats 16000000 in
theorem sread {off : Nat} {t : FSt} (h : SegIn w G A M R s x) (hx : Ctx B w) (hB : B ≤ w.heap.size) (hid : x.id < 4294967296) (hsz : x.size ≤ 1000000) (hf : FInv s q T) (hT : T ≤ 1000000) (hl : LoneN s (nameB x.id) t) (hmy : mayN (nameB x.id) = true) (ho1 : 16 ≤ off) (ho2 : off < x.size) (hlen : t.bytes.length = x.size) :
    Calls Tryz.prog 15 #[.pointer (some ⟨G, 0, none⟩), .agg #[.int .u32 (x.id : Int), .int .u32 (off : Int)]] w fun e w' => ∃ rv, e = .returned (.tuple #[rv, .int .i64 ((if (readQ t.bytes x.size off).2.2 = 0 then 0 else 36 : Nat) : Int)]) ∧ RecV w' w'.heap.size rv (if (readQ t.bytes x.size off).2.2 = 0 then (readQ t.bytes x.size off).1 else Rc.none) ∧ Below w.heap.size w w' := by
  obtain ⟨hm, hc, hG1, hG2⟩ := h
  obtain ⟨nm, hnm⟩ : ∃ nm, nm = nameB x.id := ⟨_, rfl⟩
  have hnsz : nm.size ≤ maxLen := by rw [hnm]; have := nameB_size x.id; unfold maxLen; omega
  obtain ⟨W, hW⟩ : ∃ W, W = (w.alloc (.cells #[.int .u32 (x.id : Int), .int .u32 (off : Int)] 49)).alloc (.cells #[.int .u64 0, .int .i64 0, .slice none 0 0, .slice none 0 0, .int .u32 0, .int .u32 0] 51) := ⟨_, rfl⟩
  have hb : Below w.heap.size w W := by rw [hW]; exact ((Below.refl _ _).alloc (Nat.le_refl _) _).alloc (by simp) _
  have hWs : W.heap.size = w.heap.size + 2 := by rw [hW]; simp
  have hi1 : W.heap[w.heap.size]? = some (.cells #[.int .u32 (x.id : Int), .int .u32 (off : Int)] 49 (0, 0)) := by
    rw [hW]
    exact ((((Below.refl _ _).alloc (Nat.le_refl _) _ : Below (w.alloc (.cells #[.int .u32 (x.id : Int), .int .u32 (off : Int)] 49)).heap.size _ _)).block w.heap.size (by simp)).trans (heap_alloc_new w _)
  have hi2 : W.heap[w.heap.size + 1]? = some (.cells #[.int .u64 0, .int .i64 0, .slice none 0 0, .slice none 0 0, .int .u32 0, .int .u32 0] 51 (0, 0)) := by
    rw [hW]
    have := heap_alloc_new (w.alloc (.cells #[.int .u32 (x.id : Int), .int .u32 (off : Int)] 49)) (.cells #[.int .u64 0, .int .i64 0, .slice none 0 0, .slice none 0 0, .int .u32 0, .int .u32 0] 51)
    rw [World.size_alloc] at this
    exact this
  have HM := Lib.hid (smade (hc.on hb))
  obtain ⟨J, hJ⟩ : ∃ J, J = min (x.size - off) 1113 := ⟨_, rfl⟩
  obtain ⟨b, hbd⟩ : ∃ b, b = (t.bytes.drop off).take J := ⟨_, rfl⟩
  have hbl : b.length = J := by rw [hbd, List.length_take, List.length_drop, hlen]; omega
  obtain ⟨D, hD⟩ : ∃ D, D = x.size - off := ⟨_, rfl⟩
  have hsub : IntKind.u32.wrap ((x.size : Int) - (off : Int)) = (D : Int) := by rw [IntWalk.u32_in _ (by omega)]; omega
  have hmin : min (D : Int) 1113 = (J : Int) := by omega
  have HJ := Lib.hid (show J ≤ 1113 by omega)
  have HWr := Lib.hid (show IntKind.i64.wrap (off : Int) = (off : Int) ∧ IntKind.i64.wrap (D : Int) = (D : Int) ∧ min (D : Int) 1113 = (J : Int) from ⟨IntWalk.i64_in _ (by omega), IntWalk.i64_in _ (by omega), hmin⟩)
  clear hmin
  obtain ⟨qr, hqr⟩ : ∃ qr, qr = readQ t.bytes x.size off := ⟨_, rfl⟩
  have hqb : Rc.getQ b = qr := by rw [hqr, hbd, hJ]; rfl
  rw [← hqr]
  have HNMc : Hid (∀ V, Below w.heap.size w V → Calls Tryz.prog 40 #[.pointer (some ⟨G, 0, none⟩)] V fun e w' => e = .returned (.string nm) ∧ Below V.heap.size V w') := Lib.hid fun V hb => by rw [hnm]; exact sname (hc.on hb) hid (hx.below (hb.mono hB)).std
  have HK : Hid (∀ V, Below w.heap.size w V → Calls Tryz.prog 27 #[.pointer (some ⟨A, 0, none⟩), .string nm, .int .i64 (off : Int), .int .i64 (J : Int)] V fun e w' => ∃ r, e = .returned (.tuple #[r, .int .i64 0]) ∧ w'.ownsRow V.heap.size 5 1 r J (bvs b) ∧ Below V.heap.size V w') := Lib.hid fun V hb => by
    have h1 : nodeF s nm = (0, 1) := by rw [hnm]; exact hl.node hmy
    have h2 := kreadat (off := off) (cnt := J) (hm.on hb) hf hT hl.on hnsz h1 (by rw [hl.file, hlen]; omega)
    rw [hl.file, ← hbd] at h2
    exact h2
  obtain ⟨bx, hbx⟩ : ∃ bx, bx = w.heap.size := ⟨_, rfl⟩
  have HBX := Lib.hid hbx
  rw [← hbx] at hi1 hi2 hWs
  have a0 := (hc.on hb).c0
  have a1 := (hc.on hb).c1
  have a2 := (hc.on hb).c2
  have l0 : W.cell? ⟨bx, 0, none⟩ = some (.int .u32 (x.id : Int)) := cell_of_row W bx 0 _ _ _ hi1
  have l1 : W.cell? ⟨bx, 1, none⟩ = some (.int .u32 (off : Int)) := cell_of_row W bx 1 _ _ _ hi1
  have HB := Lib.hid hb
  have HX := Lib.hid (And.intro hx hB)
  have HI := Lib.hid (And.intro hi1 (And.intro hi2 hWs))
  have HC := Lib.hid hc
  have HQB := Lib.hid (And.intro hqb hbl)
  have i1 : ¬ (off : Int) < 16 := by omega
  have i2 : ¬ (x.size : Int) ≤ (off : Int) := by omega
  clear hm hc hG1 hG2 hx hB hf hl hmy hlen hnm hnsz hqr hbd hb hi1 hi2 hWs hqb hbl hJ hD
  go_enter Tryz.func15, Tryz.ntmps15
  go_wp2_with fail
  rw [← hW, ← hbx]
  clear hW hbx
  refine HM.out.mono ?_
  rintro e w1 ⟨rfl, rfl⟩
  go_wp2_with fail
  go_quiet (fail)
  go_wp2_with fail
  have hHeld0 : ((W.drewN nq).cell? ⟨G, 0, none⟩ = some (.pointer (some ⟨A, 0, none⟩)) ∧ (W.drewN nq).cell? ⟨G, 2, none⟩ = some (.int .u32 (x.size : Int))) ∧ (W.drewN nq).cell? ⟨bx, 1, none⟩ = some (.int .u32 (off : Int)) := ⟨⟨a0, a2⟩, l1⟩
  have HBQ := Lib.hid (show Below w.heap.size w (W.drewN nq) from fbdrewN HB.out nq)
  have HSQ := Lib.hid (show (W.drewN nq).heap.size = bx + 2 ∧ (W.drewN nq).heap[bx + 1]? = some (.cells #[.int .u64 0, .int .i64 0, .slice none 0 0, .slice none 0 0, .int .u32 0, .int .u32 0] 51 (0, 0)) from ⟨HI.out.2.2, HI.out.2.1⟩)
  clear a0 a1 a2 l0 l1
  generalize W.drewN nq = Wq at *
  refine wp_region_noPanic ?_
  refine wp_region_held_drew (S := fun w' : World => (w'.cell? ⟨G, 0, none⟩ = some (.pointer (some ⟨A, 0, none⟩)) ∧ w'.cell? ⟨G, 2, none⟩ = some (.int .u32 (x.size : Int))) ∧ w'.cell? ⟨bx, 1, none⟩ = some (.int .u32 (off : Int))) (by kernel_rfl) hHeld0 (fun hHeld => ?_)
  have HB0 := Lib.hid (HBQ.out.drew)
  have HS0 := Lib.hid (show (World.drew Wq).heap.size = bx + 2 ∧ (World.drew Wq).heap[bx + 1]? = some (.cells #[.int .u64 0, .int .i64 0, .slice none 0 0, .slice none 0 0, .int .u32 0, .int .u32 0] 51 (0, 0)) from HSQ.out)
  generalize World.drew Wq = V at *
  refine wpAnyH_take (i := 0) (v := ?_) opAt_0 (by kernel_rfl) (by kernel_rfl) (by kernel_rfl) (fun _ _ _ h => h) (Or.inl ⟨by rfl, ?_⟩) hHeld ?_
  rotate_left
  · (intro w' hSw; obtain ⟨⟨k0, k2⟩, k1⟩ := hSw; go_simp; try with_reducible rfl)
  try simp only [Act.put, List.setIfInBounds_toArray, List.set_cons_zero, List.set_cons_succ]
  refine wpAnyH_take (i := 1) (v := ?_) opAt_1 (by kernel_rfl) (by kernel_rfl) (by kernel_rfl) (fun _ _ _ h => h) (Or.inl ⟨by rfl, ?_⟩) hHeld ?_
  rotate_left
  · (intro w' hSw; obtain ⟨⟨k0, k2⟩, k1⟩ := hSw; go_simp; try with_reducible rfl)
  try simp only [Act.put, List.setIfInBounds_toArray, List.set_cons_zero, List.set_cons_succ]
  refine wpAnyH_take (i := 2) (v := ?_) opAt_2 (by kernel_rfl) (by kernel_rfl) (by kernel_rfl) (fun _ _ _ h => h) (Or.inl ⟨by rfl, ?_⟩) hHeld ?_
  rotate_left
  · (intro w' hSw; obtain ⟨⟨k0, k2⟩, k1⟩ := hSw; go_simp; try with_reducible rfl)
  try simp only [Act.put, List.setIfInBounds_toArray, List.set_cons_zero, List.set_cons_succ]
  refine wpAnyH_take (i := 3) (v := ?_) opAt_3 (by kernel_rfl) (by kernel_rfl) (by kernel_rfl) (fun _ _ _ h => h) (Or.inl ⟨by rfl, ?_⟩) hHeld ?_
  rotate_left
  · (intro w' hSw; obtain ⟨⟨k0, k2⟩, k1⟩ := hSw; go_simp; try with_reducible rfl)
  try simp only [Act.put, List.setIfInBounds_toArray, List.set_cons_zero, List.set_cons_succ]
  refine wpAnyH_take (i := 4) (v := ?_) opAt_4 (by kernel_rfl) (by kernel_rfl) (by kernel_rfl) (fun _ _ _ h => h) (Or.inl ⟨by rfl, ?_⟩) hHeld ?_
  rotate_left
  · (intro w' hSw; obtain ⟨⟨k0, k2⟩, k1⟩ := hSw; go_simp; try with_reducible rfl)
  try simp only [Act.put, List.setIfInBounds_toArray, List.set_cons_zero, List.set_cons_succ]
  refine wpAnyH_take (i := 6) (v := ?_) opAt_6 (by kernel_rfl) (by kernel_rfl) (by kernel_rfl) (fun _ _ _ h => h) (Or.inl ⟨by rfl, ?_⟩) hHeld ?_
  rotate_left
  · (intro w' hSw; obtain ⟨⟨k0, k2⟩, k1⟩ := hSw; go_simp; try with_reducible rfl)
  try simp only [Act.put, List.setIfInBounds_toArray, List.set_cons_zero, List.set_cons_succ]
  refine wpAnyH_take (i := 7) (v := ?_) opAt_7 (by kernel_rfl) (by kernel_rfl) (by kernel_rfl) (fun _ _ _ h => h) (Or.inl ⟨by rfl, ?_⟩) hHeld ?_
  rotate_left
  · (intro w' hSw; obtain ⟨⟨k0, k2⟩, k1⟩ := hSw; go_simp; try with_reducible rfl)
  try simp only [Act.put, List.setIfInBounds_toArray, List.set_cons_zero, List.set_cons_succ]
  refine wpAnyH_take (i := 8) (v := ?_) opAt_8 (by kernel_rfl) (by kernel_rfl) (by kernel_rfl) (fun _ _ _ h => h) (Or.inl ⟨by rfl, ?_⟩) hHeld ?_
  rotate_left
  · (intro w' hSw; obtain ⟨⟨k0, k2⟩, k1⟩ := hSw; go_simp; try with_reducible rfl)
  try simp only [Act.put, List.setIfInBounds_toArray, List.set_cons_zero, List.set_cons_succ]
  refine wpAnyH_take (i := 9) (v := ?_) opAt_9 (by kernel_rfl) (by kernel_rfl) (by kernel_rfl) (fun _ _ _ h => h) (Or.inl ⟨by rfl, ?_⟩) hHeld ?_
  rotate_left
  · (intro w' hSw; obtain ⟨⟨k0, k2⟩, k1⟩ := hSw; go_simp; try with_reducible rfl)
  try simp only [Act.put, List.setIfInBounds_toArray, List.set_cons_zero, List.set_cons_succ]
  refine wpAnyH_take (i := 10) (v := ?_) opAt_10 (by kernel_rfl) (by kernel_rfl) (by kernel_rfl) (fun _ _ _ h => h) (Or.inl ⟨by rfl, ?_⟩) hHeld ?_
  rotate_left
  · (intro w' hSw; obtain ⟨⟨k0, k2⟩, k1⟩ := hSw; go_simp; try with_reducible rfl)
  try simp only [Act.put, List.setIfInBounds_toArray, List.set_cons_zero, List.set_cons_succ]
  refine wpAnyH_take (i := 11) (v := ?_) opAt_11 (by kernel_rfl) (by kernel_rfl) (by kernel_rfl) (fun _ _ _ h => h) (Or.inl ⟨by rfl, ?_⟩) hHeld ?_
  rotate_left
  · (intro w' hSw; obtain ⟨⟨k0, k2⟩, k1⟩ := hSw; go_simp; try with_reducible rfl)
  try simp only [Act.put, List.setIfInBounds_toArray, List.set_cons_zero, List.set_cons_succ]
  refine wpAnyH_take (i := 12) (v := ?_) opAt_12 (by kernel_rfl) (by kernel_rfl) (by kernel_rfl) (fun _ _ _ h => h) (Or.inl ⟨by rfl, ?_⟩) hHeld ?_
  rotate_left
  · (intro w' hSw; obtain ⟨⟨k0, k2⟩, k1⟩ := hSw; go_simp; try with_reducible rfl)
  try simp only [Act.put, List.setIfInBounds_toArray, List.set_cons_zero, List.set_cons_succ]
  refine wpAnyH_take (i := 13) (v := ?_) opAt_13 (by kernel_rfl) (by kernel_rfl) (by kernel_rfl) (fun _ _ _ h => h) (Or.inl ⟨by rfl, ?_⟩) hHeld ?_
  rotate_left
  · (intro w' hSw; obtain ⟨⟨k0, k2⟩, k1⟩ := hSw; go_simp; try with_reducible rfl)
  try simp only [Act.put, List.setIfInBounds_toArray, List.set_cons_zero, List.set_cons_succ]
  refine wpAnyH_take (i := 14) (v := ?_) opAt_14 (by kernel_rfl) (by kernel_rfl) (by kernel_rfl) (fun _ _ _ h => h) (Or.inl ⟨by rfl, ?_⟩) hHeld ?_
  rotate_left
  · (intro w' hSw; obtain ⟨⟨k0, k2⟩, k1⟩ := hSw; go_simp; try with_reducible rfl)
  try simp only [Act.put, List.setIfInBounds_toArray, List.set_cons_zero, List.set_cons_succ]
  refine wpAnyH_take (i := 15) (v := ?_) opAt_15 (by kernel_rfl) (by kernel_rfl) (by kernel_rfl) (fun _ _ _ h => h) (Or.inl ⟨by rfl, ?_⟩) hHeld ?_
  rotate_left
  · (intro w' hSw; obtain ⟨⟨k0, k2⟩, k1⟩ := hSw; go_simp; try with_reducible rfl)
  try simp only [Act.put, List.setIfInBounds_toArray, List.set_cons_zero, List.set_cons_succ]
  refine wpAnyH_take (i := 16) (v := ?_) opAt_16 (by kernel_rfl) (by kernel_rfl) (by kernel_rfl) (fun _ _ _ h => h) (Or.inl ⟨by rfl, ?_⟩) hHeld ?_
  rotate_left
  · (intro w' hSw; obtain ⟨⟨k0, k2⟩, k1⟩ := hSw; go_simp; try with_reducible rfl)
  try simp only [Act.put, List.setIfInBounds_toArray, List.set_cons_zero, List.set_cons_succ]
  refine wpAnyH_take (i := 17) (v := ?_) opAt_17 (by kernel_rfl) (by kernel_rfl) (by kernel_rfl) (fun _ _ _ h => h) (Or.inl ⟨by rfl, ?_⟩) hHeld ?_
  rotate_left
  · (intro w' hSw; obtain ⟨⟨k0, k2⟩, k1⟩ := hSw; go_simp; try with_reducible rfl)
  try simp only [Act.put, List.setIfInBounds_toArray, List.set_cons_zero, List.set_cons_succ]
  refine wpAnyH_take (i := 18) (v := ?_) opAt_18 (by kernel_rfl) (by kernel_rfl) (by kernel_rfl) (fun _ _ _ h => h) (Or.inl ⟨by rfl, ?_⟩) hHeld ?_
  rotate_left
  · (intro w' hSw; obtain ⟨⟨k0, k2⟩, k1⟩ := hSw; go_simp; try with_reducible rfl)
  try simp only [Act.put, List.setIfInBounds_toArray, List.set_cons_zero, List.set_cons_succ]
  refine wpAnyH_ready (rs := [5]) (by kernel_rfl) (by simp) ?_
  refine AllReadyH.cons rfl (fun K hK => ?_) AllReadyH.nil
  go_simp
  refine (HNMc.out _ HB0.out).mono ?_
  rintro e V1 ⟨rfl, hb⟩
  have HB1 := Lib.hid (HB0.out.trans (hb.mono HB0.out.size))
  have HV1 := Lib.hid hb
  have hHeld1 : (V1.cell? ⟨G, 0, none⟩ = some (.pointer (some ⟨A, 0, none⟩)) ∧ V1.cell? ⟨G, 2, none⟩ = some (.int .u32 (x.size : Int))) ∧ V1.cell? ⟨bx, 1, none⟩ = some (.int .u32 (off : Int)) := ⟨⟨(hb.cell (fblock_of_cell hHeld.1.1)).trans hHeld.1.1, (hb.cell (fblock_of_cell hHeld.1.2)).trans hHeld.1.2⟩, (hb.cell (fblock_of_cell hHeld.2)).trans hHeld.2⟩
  clear hb
  go_wp2_with fail
  refine hK.out _ _ hHeld1 (fun hHeld => ?_)
  clear hK K
  try simp only [Act.put, List.setIfInBounds_toArray, List.set_cons_zero, List.set_cons_succ]
  refine wpAnyH_ready (rs := [19]) (by kernel_rfl) (by simp) ?_
  refine AllReadyH.cons rfl (fun K hK => ?_) AllReadyH.nil
  go_simp
  rw [HWr.out.1, HWr.out.2.1, HWr.out.2.2]
  refine (HK.out _ HB1.out).mono ?_
  rintro e V2 ⟨row, rfl, hrow, hb⟩
  have HB2 := Lib.hid (HB1.out.trans (hb.mono HB1.out.size))
  have HV2 := Lib.hid (HV1.out.trans (hb.mono HV1.out.size))
  have HRow := Lib.hid hrow
  have hHeld1 : (V2.cell? ⟨G, 0, none⟩ = some (.pointer (some ⟨A, 0, none⟩)) ∧ V2.cell? ⟨G, 2, none⟩ = some (.int .u32 (x.size : Int))) ∧ V2.cell? ⟨bx, 1, none⟩ = some (.int .u32 (off : Int)) := ⟨⟨(hb.cell (fblock_of_cell hHeld.1.1)).trans hHeld.1.1, (hb.cell (fblock_of_cell hHeld.1.2)).trans hHeld.1.2⟩, (hb.cell (fblock_of_cell hHeld.2)).trans hHeld.2⟩
  clear hb hrow
  go_wp2_with fail
  refine hK.out _ _ hHeld1 (fun hHeld => ?_)
  clear hK K
  try simp only [Act.put, List.setIfInBounds_toArray, List.set_cons_zero, List.set_cons_succ]
  refine wpAnyH_take (i := 20) (v := ?_) opAt_20 (by kernel_rfl) (by kernel_rfl) (by kernel_rfl) (fun _ _ _ h => h) (Or.inl ⟨by rfl, ?_⟩) hHeld ?_
  rotate_left
  · (intro w' hSw; obtain ⟨⟨k0, k2⟩, k1⟩ := hSw; go_simp; try with_reducible rfl)
  try simp only [Act.put, List.setIfInBounds_toArray, List.set_cons_zero, List.set_cons_succ]
  refine wpAnyH_take (i := 21) (v := ?_) opAt_21 (by kernel_rfl) (by kernel_rfl) (by kernel_rfl) (fun _ _ _ h => h) (Or.inl ⟨by rfl, ?_⟩) hHeld ?_
  rotate_left
  · (intro w' hSw; obtain ⟨⟨k0, k2⟩, k1⟩ := hSw; go_simp; try with_reducible rfl)
  try simp only [Act.put, List.setIfInBounds_toArray, List.set_cons_zero, List.set_cons_succ]
  refine wpAnyH_take (i := 22) (v := ?_) opAt_22 (by kernel_rfl) (by kernel_rfl) (by kernel_rfl) (fun _ _ _ h => h) (Or.inl ⟨by rfl, ?_⟩) hHeld ?_
  rotate_left
  · (intro w' hSw; obtain ⟨⟨k0, k2⟩, k1⟩ := hSw; go_simp; try with_reducible rfl)
  try simp only [Act.put, List.setIfInBounds_toArray, List.set_cons_zero, List.set_cons_succ]
  refine wpAnyH_take (i := 23) (v := ?_) opAt_23 (by kernel_rfl) (by kernel_rfl) (by kernel_rfl) (fun _ _ _ h => h) (Or.inl ⟨by rfl, ?_⟩) hHeld ?_
  rotate_left
  · (intro w' hSw; obtain ⟨⟨k0, k2⟩, k1⟩ := hSw; go_simp; try with_reducible rfl)
  try simp only [Act.put, List.setIfInBounds_toArray, List.set_cons_zero, List.set_cons_succ]
  refine wpAnyH_take (i := 24) (v := ?_) opAt_24 (by kernel_rfl) (by kernel_rfl) (by kernel_rfl) (fun _ _ _ h => h) (Or.inl ⟨by rfl, ?_⟩) hHeld ?_
  rotate_left
  · (intro w' hSw; obtain ⟨⟨k0, k2⟩, k1⟩ := hSw; go_simp; try with_reducible rfl)
  try simp only [Act.put, List.setIfInBounds_toArray, List.set_cons_zero, List.set_cons_succ]
  refine wpAnyH_done (by kernel_rfl) ?_ _
  refine NoPanic.normal ?_
  have HBS := Lib.hid ((own_bsin HRow.out HQB.out.2.symm).bs)
  obtain ⟨Ar, cr, rfl, _, _, _⟩ := own_slice HRow.out
  have HX2 := Lib.hid ((HX.out.1.below (HB2.out.mono HX.out.2)).tab)
  have hS2 := (HV2.out.block (bx + 1) (by have := HS0.out.1; omega)).trans HS0.out.2
  have HS2 := Lib.hid hS2
  clear hHeld hHeld1 hHeld0 hS2
  obtain ⟨rq, nqq, eq⟩ := qr
  have HG := Lib.hid (rget_q (.slice Ar J cr) b V2.heap.size V2 HBS.out (Nat.le_refl _) (by rw [HQB.out.2]; have := HJ.out; omega) HX2.out rq nqq eq HQB.out.1)
  go_wp2_with fail
  refine HG.out.mono ?_
  rintro e V3 ⟨rv, rfl, hnr, hb3⟩
  obtain ⟨kv, vv, rfl, hk, hw⟩ := hnr.rec
  have hk0 := hk
  have hw0 := hw
  obtain ⟨K1, k1, rfl, _, _⟩ := hk0
  obtain ⟨K2, k2, rfl, _, _⟩ := hw0
  obtain ⟨n1, hn1⟩ : ∃ n1, n1 = rq.key.length := ⟨_, rfl⟩
  obtain ⟨n2, hn2⟩ : ∃ n2, n2 = rq.val.length := ⟨_, rfl⟩
  rw [← hn1] at hk hnr ⊢
  rw [← hn2] at hw hnr ⊢
  have HNR := Lib.hid hnr
  have HB3 := Lib.hid (HB2.out.trans (hb3.mono HB2.out.size))
  have hS3 := (hb3.block (bx + 1) (Array.getElem?_eq_some_iff.1 HS2.out).1).trans HS2.out
  obtain ⟨V4, hV4⟩ : ∃ V4, V4 = V3.alloc (.cells #[.int .u64 rq.seq, .int .i64 rq.kind, .slice K1 n1 k1, .slice K2 n2 k2, .int .u32 rq.seg, .int .u32 rq.off] 51) := ⟨_, rfl⟩
  have hb4 : Below V3.heap.size V3 V4 := by rw [hV4]; exact (Below.refl _ _).alloc (Nat.le_refl _) _
  have HB34 := Lib.hid hb4
  have hS4 := (hb4.block (bx + 1) (Array.getElem?_eq_some_iff.1 hS3).1).trans hS3
  have hN4 : V4.heap[V3.heap.size]? = some (.cells #[.int .u64 rq.seq, .int .i64 rq.kind, .slice K1 n1 k1, .slice K2 n2 k2, .int .u32 rq.seg, .int .u32 rq.off] 51 (0, 0)) := by rw [hV4]; exact heap_alloc_new V3 _
  have HBx4 := Lib.hid (HB3.out.trans (hb4.mono HB3.out.size))
  have HRV := Lib.hid (show RecV V4 V4.heap.size (recV rq.seq rq.kind (.slice K1 n1 k1) (.slice K2 n2 k2) rq.seg rq.off) rq from ⟨_, _, rfl, (hk.below hb4 (Nat.le_refl _)).mono hb4.size, (hw.below hb4 (Nat.le_refl _)).mono hb4.size⟩)
  obtain ⟨nb, hnb⟩ : ∃ nb, nb = V3.heap.size := ⟨_, rfl⟩
  rw [← hnb] at hN4
  obtain ⟨e0, e1, e2, e3, e4, e5⟩ := box6h hN4
  obtain ⟨f0, f1, f2, f3, f4, f5⟩ := box6h hS4
  obtain ⟨m0, m1, m2, m3, m4, m5⟩ := box6hf hS4
  have HS4 := Lib.hid hS4
  have hneq : nb ≠ bx + 1 := by have := (Array.getElem?_eq_some_iff.1 hS3).1; omega
  clear hk hw hn1 hn2 hb3 hS3 hb4 hS4 hN4 hnr e0 e1 e2 e3 e4 e5
  rw [hV4] at f0 f1 f2 f3 f4 f5 m0 m1 m2 m3 m4 m5
  have HV4 := Lib.hid hV4
  unfold recV
  by_cases he : eq = 0
  · subst he
    have hcast : ((0 : Nat) : Int) = 0 := rfl
    clear hV4
    go_wp2_with fail
    have hV4 := HV4.out
    have hS4 := HS4.out
    have hz := (Go.Joins.block_setCell (i := 5) (Go.Joins.block_setCell (i := 4) (Go.Joins.block_setCell (i := 3) (Go.Joins.block_setCell (i := 2) (Go.Joins.block_setCell (i := 1) (Go.Joins.block_setCell (i := 0) hS4 (.int .u64 rq.seq)) (.int .i64 rq.kind)) (.slice K1 n1 k1)) (.slice K2 n2 k2)) (.int .u32 rq.seg)) (.int .u32 rq.off))
    have hz : _ = some (Obj.cells #[.int .u64 rq.seq, .int .i64 rq.kind, .slice K1 n1 k1, .slice K2 n2 k2, .int .u32 rq.seg, .int .u32 rq.off] 51 (0, 0)) := hz
    obtain ⟨z0, z1, z2, z3, z4, z5⟩ := box6h hz
    have hbs : Below w.heap.size V4 _ := below6 (B := w.heap.size) (g := bx + 1) (Below.refl w.heap.size V4) (by rw [HBX.out]; omega) (.int .u64 rq.seq) (.int .i64 rq.kind) (.slice K1 n1 k1) (.slice K2 n2 k2) (.int .u32 rq.seg) (.int .u32 rq.off)
    rw [hV4] at z0 z1 z2 z3 z4 z5
    exact bodyPost_ret (v := .tuple #[recV rq.seq rq.kind (.slice K1 n1 k1) (.slice K2 n2 k2) rq.seg rq.off, .int .i64 0]) (by simp [results, Tryz.results15, go_sem, recV, z0, z1, z2, z3, z4, z5]) rfl ⟨recV rq.seq rq.kind (.slice K1 n1 k1) (.slice K2 n2 k2) rq.seg rq.off, by simp, by rw [← hV4]; exact newRec_keep HNR.out (((((((Chg.of_below (M := fun i => i = bx + 1) HB34.out).setCell (p := ⟨bx + 1, 0, none⟩) rfl _).setCell (p := ⟨bx + 1, 1, none⟩) rfl _).setCell (p := ⟨bx + 1, 2, none⟩) rfl _).setCell (p := ⟨bx + 1, 3, none⟩) rfl _).setCell (p := ⟨bx + 1, 4, none⟩) rfl _).setCell (p := ⟨bx + 1, 5, none⟩) rfl _) (fun i e => by have := (Array.getElem?_eq_some_iff.1 HS2.out).1; omega), by rw [← hV4]; exact HBx4.out.trans hbs⟩
  · have i0 : ¬ (eq : Int) = 0 := by omega
    clear hV4
    go_wp2_with fail
    have hV4 := HV4.out
    have hS4 := HS4.out
    have hz := (Go.Joins.block_setCell (i := 5) (Go.Joins.block_setCell (i := 4) (Go.Joins.block_setCell (i := 3) (Go.Joins.block_setCell (i := 2) (Go.Joins.block_setCell (i := 1) (Go.Joins.block_setCell (i := 0) hS4 (.int .u64 0)) (.int .i64 0)) (.slice none 0 0)) (.slice none 0 0)) (.int .u32 0)) (.int .u32 0))
    have hz : _ = some (Obj.cells #[.int .u64 0, .int .i64 0, .slice none 0 0, .slice none 0 0, .int .u32 0, .int .u32 0] 51 (0, 0)) := hz
    obtain ⟨z0, z1, z2, z3, z4, z5⟩ := box6h hz
    have hbs : Below w.heap.size V4 _ := below6 (B := w.heap.size) (g := bx + 1) (Below.refl w.heap.size V4) (by rw [HBX.out]; omega) (.int .u64 0) (.int .i64 0) (.slice none 0 0) (.slice none 0 0) (.int .u32 0) (.int .u32 0)
    rw [hV4] at z0 z1 z2 z3 z4 z5
    exact bodyPost_ret (v := .tuple #[recV 0 0 (.slice none 0 0) (.slice none 0 0) 0 0, .int .i64 36]) (by simp [results, Tryz.results15, go_sem, recV, z0, z1, z2, z3, z4, z5]) rfl ⟨_, rfl, RecV.none11, by rw [← hV4]; exact HBx4.out.trans hbs⟩
end
end Go.Proofs.YtaicibmaogiibaaGreatDoor.Sg

/- SgBkP -/

/-
  Layer 11: the numbered records of a segment, as scan's plain mathematics tells them: what is read at each place, whole, cut, or with a bit turned.
-/
set_option linter.unusedVariables false
set_option linter.unusedSimpArgs false
namespace Go.Proofs.YtaicibmaogiibaaGreatDoor.Sg
open Go Go.RowKit

theorem up_num : ∀ (L : List Rc.Rec) (a : Int), (∀ r ∈ L, Rc.mayB r = true) → (∀ (i : Nat) r, L[i]? = some r → r.seq = a + ((i + 1 : Nat) : Int)) → Sc.Up a L
  | [], _, _, _ => trivial
  | r :: L, a, hm, hn => by
    have h0 := hn 0 r rfl
    refine ⟨hm r (by simp), by omega, up_num L r.seq (fun x hx => hm x (by simp [hx])) (fun i x hx => ?_)⟩
    have := hn (i + 1) x (by simpa using hx)
    omega
theorem Numb.up {L : List Rc.Rec} (h : Numb L) : Sc.Up 0 L := up_num L 0 h.may (fun i r hr => by have := h.num i r hr; omega)
theorem runsL_flat : ∀ L : List Rc.Rec, Sc.runsL L = L.flatMap Rc.runL
  | [] => rfl
  | r :: L => by rw [Sc.runsL, runsL_flat L]; rfl
theorem bytes_lay (id : Nat) (L : List Rc.Rec) : bytesN11 id L = Sc.layB id L := by unfold bytesN11 Sc.layB; rw [runsL_flat]
theorem off_end (L : List Rc.Rec) (j : Nat) : offN L j = Sc.endN L j := by
  have h : ∀ l : List Rc.Rec, (Sc.runsL l).length = (l.map Rc.sizeN).sum := by
    intro l
    induction l with
    | nil => rfl
    | cons r l ih => rw [Sc.runsL, List.length_append, Rc.runL_length, ih]; simp
  unfold offN Sc.endN
  rw [h]
theorem numb_runs {L : List Rc.Rec} (h : Numb L) : (Sc.runsL L).length ≤ 33390 := by
  have h1 := offN_le h L.length
  have h2 := h.few
  rw [off_end, Sc.endN_all (Nat.le_refl _)] at h1
  omega
theorem read_parts {X R Y : List UInt8} {size off : Nat} (hX : X.length = off) (hR : R.length ≤ 1113) (hs : off + R.length ≤ size) : readQ (X ++ (R ++ Y)) size off = Rc.getQ (R ++ Y.take (min (size - off) 1113 - R.length)) := by
  unfold readQ
  rw [← hX, List.drop_left, List.take_append]
  congr 2
  exact List.take_of_length_le (by omega)
theorem runs_split {L : List Rc.Rec} {i : Nat} {r : Rc.Rec} (h : L[i]? = some r) : Sc.runsL L = Sc.runsL (L.take i) ++ (Rc.runL r ++ Sc.runsL (L.drop (i + 1))) := by
  have hlt : i < L.length := (List.getElem?_eq_some_iff.1 h).1
  have hg : L[i]'hlt = r := (List.getElem?_eq_some_iff.1 h).2
  have e : L = L.take i ++ r :: L.drop (i + 1) := by rw [← hg, ← List.drop_eq_getElem_cons hlt, List.take_append_drop]
  have e2 : Sc.runsL L = Sc.runsL (L.take i ++ r :: L.drop (i + 1)) := by rw [← e]
  rw [e2, Sc.runsL_append]
  rfl
theorem lay_split (id : Nat) {L : List Rc.Rec} {i : Nat} {r : Rc.Rec} (h : L[i]? = some r) : Sc.layB id L = Sc.layB id (L.take i) ++ (Rc.runL r ++ Sc.runsL (L.drop (i + 1))) := by
  unfold Sc.layB
  rw [runs_split h, List.append_assoc]
theorem off_lt {L : List Rc.Rec} {i : Nat} {r : Rc.Rec} (h : L[i]? = some r) : offN L i + Rc.sizeN r ≤ offN L L.length := by
  have hlt : i < L.length := (List.getElem?_eq_some_iff.1 h).1
  have := Sc.endN_mono L (i := i + 1) (j := L.length) hlt
  rw [off_end, off_end, ← Sc.endN_step h]
  exact this
theorem layB_take_length (id : Nat) (L : List Rc.Rec) (i : Nat) : (Sc.layB id (L.take i)).length = offN L i := by
  rw [Sc.layB_length, off_end]
  rfl
/-- each record is read as it was written, whatever the bytes ahead and behind -/
theorem read_own {L : List Rc.Rec} (h : Numb L) {i : Nat} {r : Rc.Rec} (hr : L[i]? = some r) {X Y : List UInt8} (hX : X.length = offN L i) : readQ (X ++ (Rc.runL r ++ Y)) (offN L L.length) (offN L i) = (r, Rc.sizeN r, 0) := by
  have hm := h.may r (List.mem_of_getElem? hr)
  have hz := Rc.may_size hm
  have ho := off_lt hr
  rw [read_parts hX (by rw [Rc.runL_length]; omega) (by rw [Rc.runL_length]; omega)]
  exact Rc.get_run hm _
/-- a scan that tells some of the records, each where it stands -/
def Some (L : List Rc.Rec) (s : Sc.S) : Prop := s.id = 7 ∧ s.found.length ≤ 30 ∧ s.passed.length ≤ 30 ∧ s.stop ≤ 100000 ∧ s.why ≤ 100 ∧ ∀ f ∈ s.found, ∃ i r, L[i]? = some r ∧ f = ⟨offN L i, Rc.sizeN r, r⟩
theorem places_mem {l : List Rc.Rec} {p : Nat} {f : Sc.Fd} (h : f ∈ Sc.places p l) : ∃ i r, l[i]? = some r ∧ f = ⟨p + (Sc.runsL (l.take i)).length, Rc.sizeN r, r⟩ := by
  obtain ⟨i, hi⟩ := List.getElem?_of_mem h
  have hl : i < l.length := by have := (List.getElem?_eq_some_iff.1 hi).1; rwa [Sc.places_length] at this
  have := Sc.places_at p (List.getElem?_eq_getElem hl)
  rw [this] at hi
  injection hi with hi
  exact ⟨i, _, List.getElem?_eq_getElem hl, hi.symm⟩
theorem take_mem {L : List Rc.Rec} {m : Nat} {f : Sc.Fd} (h : f ∈ Sc.places 16 (L.take m)) : ∃ i r, L[i]? = some r ∧ i < m ∧ f = ⟨offN L i, Rc.sizeN r, r⟩ := by
  obtain ⟨i, r, h1, h2⟩ := places_mem h
  rw [List.getElem?_take] at h1
  split at h1
  · rename_i hm
    refine ⟨i, r, h1, hm, ?_⟩
    rw [h2, off_end, Sc.endN, List.take_take, Nat.min_eq_left (by omega)]
  · cases h1
theorem drop_mem {L : List Rc.Rec} {m : Nat} {f : Sc.Fd} (h : f ∈ Sc.places (Sc.endN L m) (L.drop m)) : ∃ i r, L[i]? = some r ∧ f = ⟨offN L i, Rc.sizeN r, r⟩ := by
  obtain ⟨i, r, h1, h2⟩ := places_mem h
  rw [List.getElem?_drop] at h1
  refine ⟨m + i, r, h1, ?_⟩
  rw [h2, off_end]
  congr 1
  unfold Sc.endN
  rw [List.take_add, Sc.runsL_append, List.length_append]
  omega
/-- a bit of a byte -/
def turnB (c : UInt8) (q : Nat) : UInt8 := c ^^^ UInt8.ofNat (2 ^ q)
theorem one_bit : (1 : BitVec 32).getLsbD 0 = true := by decide
theorem set_split {X R Y : List UInt8} {k : Nat} {z : UInt8} (h1 : X.length ≤ k) (h2 : k < X.length + R.length) : (X ++ (R ++ Y)).set k z = X ++ (R.set (k - X.length) z ++ Y) := by
  rw [List.set_append_right _ _ h1, List.set_append_left _ _ (by omega)]
theorem get_split {X R Y : List UInt8} {k : Nat} {c : UInt8} (h1 : X.length ≤ k) (h2 : k < X.length + R.length) (h : (X ++ (R ++ Y))[k]? = some c) : R[k - X.length]? = some c := by
  rw [List.getElem?_append_right h1, List.getElem?_append_left (by omega)] at h
  exact h
/-- one bit turned: in the head nothing is told, and all is read; in a record the others are -/
theorem flip_any {L : List Rc.Rec} (h : Numb L) {k q : Nat} {c : UInt8} (hq : q < 8) (hc : (bytesN11 7 L)[k]? = some c) :
    (k < 16 ∧ Sc.of 7 ((bytesN11 7 L).set k (turnB c q)) = ⟨7, [], [], 0, 23⟩ ∧ ∀ (i : Nat) (r : Rc.Rec), L[i]? = some r → readQ ((bytesN11 7 L).set k (turnB c q)) (offN L L.length) (offN L i) = (r, Rc.sizeN r, 0)) ∨
    (16 ≤ k ∧ Some L (Sc.of 7 ((bytesN11 7 L).set k (turnB c q))) ∧ ∃ t, t < L.length ∧ ∀ (i : Nat) (r : Rc.Rec), L[i]? = some r → if i = t then (readQ ((bytesN11 7 L).set k (turnB c q)) (offN L L.length) (offN L i)).2.2 ≠ 0 else readQ ((bytesN11 7 L).set k (turnB c q)) (offN L L.length) (offN L i) = (r, Rc.sizeN r, 0)) := by
  have hlen : k < 16 + (Sc.runsL L).length := by
    have := (List.getElem?_eq_some_iff.1 hc).1
    rwa [bytes_lay, Sc.layB_length] at this
  rw [bytes_lay] at hc ⊢
  have hruns := numb_runs h
  rcases Nat.lt_or_ge k 16 with hk | hk
  · refine .inl ⟨hk, ?_⟩
    have e1 : (Sc.layB 7 L).set k (turnB c q) = (Hd.headL 1 7).set k (turnB c q) ++ Sc.runsL L := by
      unfold Sc.layB
      rw [List.set_append_left _ _ (by rw [Hd.headL_length]; exact hk)]
    have hg : (Hd.headL 1 7)[k]? = some c := by
      unfold Sc.layB at hc
      rwa [List.getElem?_append_left (by rw [Hd.headL_length]; exact hk)] at hc
    have ht : Cx.turned (Hd.headL 1 7) 1 (8 * k + q) 1 ((Hd.headL 1 7).set k (turnB c q)) := Cx.turned_bit (Cx.turned_zero _ _ _) (by omega) one_bit hg hq (by omega)
    rw [e1]
    refine ⟨Sc.of_headless 7 ht (by omega) (by omega) one_bit _, fun i r hr => ?_⟩
    rw [runs_split hr, ← List.append_assoc]
    refine read_own h hr ?_
    rw [List.length_append, List.length_set, Hd.headL_length, off_end]
    rfl
  · refine .inr ⟨hk, ?_⟩
    obtain ⟨T, hT, hi⟩ := Sc.runs_at L k
    have hT0 : 0 < T := by
      rcases Nat.eq_zero_or_pos L.length with h0 | h0
      · have : L = [] := List.length_eq_zero_iff.1 h0
        subst this
        simp [Sc.runsL] at hlen
        omega
      · exact (hi 0 h0).1 (by rw [Sc.endN_zero]; exact hk)
    obtain ⟨t, rfl⟩ : ∃ t, T = t + 1 := ⟨T - 1, by omega⟩
    have htl : t < L.length := by omega
    obtain ⟨r, hr⟩ : ∃ r, L[t]? = some r := ⟨_, List.getElem?_eq_getElem htl⟩
    have h1 : Sc.endN L t ≤ k := (hi t htl).2 (by omega)
    have h2 : k < Sc.endN L (t + 1) := by
      rcases Nat.lt_or_ge (t + 1) L.length with h3 | h3
      · have h4 : ¬ Sc.endN L (t + 1) ≤ k := fun e => by have := (hi (t + 1) h3).1 e; omega
        omega
      · rw [Sc.endN_all h3]; exact hlen
    have hm := h.may r (List.mem_of_getElem? hr)
    have hz := Rc.may_size hm
    rw [Sc.endN_step hr] at h2
    have hX : (Sc.layB 7 (L.take t)).length = Sc.endN L t := by rw [layB_take_length, off_end]
    rw [lay_split 7 hr] at hc ⊢
    have hg := get_split (by omega) (by rw [hX, Rc.runL_length]; exact h2) hc
    rw [hX] at hg
    rw [set_split (by omega) (by rw [hX, Rc.runL_length]; exact h2), hX]
    have hfirst : 8 * (k - Sc.endN L t) + q < 8 * Rc.sizeN r := by omega
    have htn : Rc.Turns (Rc.runL r) 1 (8 * (k - Sc.endN L t) + q) 1 ((Rc.runL r).set (k - Sc.endN L t) (turnB c q)) := (Rc.Turns.zero _ _ _).bit (by omega) one_bit hg hq (by omega)
    have hget := fun m => Rc.get_turned hm htn (by omega) (by omega) one_bit m
    obtain ⟨R', hR'⟩ : ∃ R', R' = (Rc.runL r).set (k - Sc.endN L t) (turnB c q) := ⟨_, rfl⟩
    rw [← hR'] at hget ⊢
    have hRl : R'.length = Rc.sizeN r := by rw [hR', List.length_set, Rc.runL_length]
    have e : L.take t ++ r :: L.drop (t + 1) = L := by
      have hg : L[t]'htl = r := (List.getElem?_eq_some_iff.1 hr).2
      rw [← hg, ← List.drop_eq_getElem_cons htl, List.take_append_drop]
    have hof := Sc.of_turned 7 (by decide) (L.take t) (L.drop (t + 1)) r (by rw [e]; exact h.up) (by rw [e]; omega) R' (if 8 * (k - Sc.endN L t) + q < 168 then 0 else Rc.sizeN r) hRl (by split <;> simp) hget
    refine ⟨?_, t, htl, fun i x hx => ?_⟩
    · rw [hof, e]
      have e3 : 16 + (Sc.runsL (L.take t)).length = Sc.endN L t := rfl
      have hst : Sc.endN L t ≤ 100000 := by
        have := Sc.endN_mono L (i := t) (j := L.length) (by omega)
        rw [Sc.endN_all (Nat.le_refl _)] at this
        omega
      have hfew := h.few
      by_cases h168 : 8 * (k - Sc.endN L t) + q < 168
      · rw [if_pos h168, if_pos rfl]
        refine ⟨rfl, by show (Sc.places 16 (L.take t)).length ≤ 30; rw [Sc.places_length, List.length_take]; omega, Nat.zero_le _, hst, by show 23 ≤ 100; omega, fun f hf => ?_⟩
        obtain ⟨i, x, h3, _, h4⟩ := take_mem hf
        exact ⟨i, x, h3, h4⟩
      · rw [if_neg h168, if_neg (by omega)]
        refine ⟨rfl, ?_, by show 1 ≤ 30; omega, by show 16 + (Sc.runsL L).length ≤ _; omega, by show 0 ≤ 100; omega, fun f hf => ?_⟩
        · show (Sc.places 16 (L.take t) ++ Sc.places (16 + (Sc.runsL (L.take t)).length + Rc.sizeN r) (L.drop (t + 1))).length ≤ 30
          rw [List.length_append, Sc.places_length, Sc.places_length, List.length_take, List.length_drop]
          omega
        · rcases List.mem_append.1 hf with hf | hf
          · obtain ⟨i, x, h3, _, h4⟩ := take_mem hf
            exact ⟨i, x, h3, h4⟩
          · rw [e3, ← Sc.endN_step hr] at hf
            exact drop_mem hf
    · rcases Nat.lt_trichotomy i t with h3 | h3 | h3
      · rw [if_neg (by omega)]
        have hx' : (L.take t)[i]? = some x := by rw [List.getElem?_take, if_pos h3]; exact hx
        rw [lay_split 7 hx', List.append_assoc, List.append_assoc]
        refine read_own h hx ?_
        rw [List.take_take, Nat.min_eq_left (by omega), layB_take_length]
      · subst h3
        rw [if_pos rfl]
        have hol : offN L i + R'.length ≤ offN L L.length := by rw [hRl]; exact off_lt hr
        rw [read_parts (by rw [hX, off_end]) (by omega) hol, hget]
        simp
      · rw [if_neg (by omega)]
        have hx' : (L.drop (t + 1))[i - (t + 1)]? = some x := by rw [List.getElem?_drop, show t + 1 + (i - (t + 1)) = i by omega]; exact hx
        rw [runs_split hx', ← List.append_assoc R', ← List.append_assoc (Sc.layB 7 (L.take t))]
        refine read_own h hx ?_
        rw [List.length_append, List.length_append, hX, hRl, off_end]
        have e5 : Sc.endN L i = Sc.endN L (t + 1) + (Sc.runsL ((L.drop (t + 1)).take (i - (t + 1)))).length := by
          have : i = (t + 1) + (i - (t + 1)) := by omega
          conv => lhs; rw [this]
          unfold Sc.endN
          rw [List.take_add, Sc.runsL_append, List.length_append]
          omega
        rw [e5, Sc.endN_step hr]
        omega
end Go.Proofs.YtaicibmaogiibaaGreatDoor.Sg

/- SgOf -/

/-
  Layer 11: Of; Read with a loc that may not be.
-/
set_option linter.unusedVariables false
set_option linter.unusedSimpArgs false
namespace Go.Proofs.YtaicibmaogiibaaGreatDoor.Sg
open Go Go.RowKit

section
set_option maxRecDepth 100000 in
set_option maxHeartbeats 4000000 in
/-- a segment of which the seal is known -/
theorem sof {A : Nat} (id size many first last : Nat) (w : World) (h1 : 1 ≤ id ∧ id ≤ 16777215) (h2 : 16 ≤ size ∧ size ≤ 16777216) :
    Calls Tryz.prog 11 #[.pointer (some ⟨A, 0, none⟩), (.agg #[.int .u32 (id : Int), .int .u32 (size : Int), .int .u32 (many : Int), .int .u64 (first : Int), .int .u64 (last : Int)])] w fun e w' => ∃ G, e = .returned (.tuple #[.pointer (some ⟨G, 0, none⟩), .int .i64 0]) ∧ w.heap.size ≤ G ∧ SegC w' G A ⟨id, size, many, first, last, last⟩ ∧ Below w.heap.size w w' := by
  have hb : Below w.heap.size w (w.alloc (.cells #[.int .u32 (id : Int), .int .u32 (size : Int), .int .u32 (many : Int), .int .u64 (first : Int), .int .u64 (last : Int)] 39)) := (Below.refl _ _).alloc (Nat.le_refl _) _
  have hbk := heap_alloc_new w (.cells #[.int .u32 (id : Int), .int .u32 (size : Int), .int .u32 (many : Int), .int .u64 (first : Int), .int .u64 (last : Int)] 39)
  have hsz1 : (w.alloc (.cells #[.int .u32 (id : Int), .int .u32 (size : Int), .int .u32 (many : Int), .int .u64 (first : Int), .int .u64 (last : Int)] 39)).heap.size = w.heap.size + 1 := by simp
  obtain ⟨W, hW⟩ : ∃ W, W = w.alloc (.cells #[.int .u32 (id : Int), .int .u32 (size : Int), .int .u32 (many : Int), .int .u64 (first : Int), .int .u64 (last : Int)] 39) := ⟨_, rfl⟩
  rw [← hW] at hb hbk hsz1
  obtain ⟨bx, hbx⟩ : ∃ bx, bx = w.heap.size := ⟨_, rfl⟩
  rw [← hbx] at hbk hsz1
  have x0 : W.cell? ⟨bx, 0, none⟩ = some (.int .u32 (id : Int)) := cell_of_row W bx 0 _ _ _ hbk
  have x1 : W.cell? ⟨bx, 1, none⟩ = some (.int .u32 (size : Int)) := cell_of_row W bx 1 _ _ _ hbk
  have x2 : W.cell? ⟨bx, 2, none⟩ = some (.int .u32 (many : Int)) := cell_of_row W bx 2 _ _ _ hbk
  have x3 : W.cell? ⟨bx, 3, none⟩ = some (.int .u64 (first : Int)) := cell_of_row W bx 3 _ _ _ hbk
  have x4 : W.cell? ⟨bx, 4, none⟩ = some (.int .u64 (last : Int)) := cell_of_row W bx 4 _ _ _ hbk
  have HB := Lib.hid hb
  have HBX := Lib.hid hbx
  have HS1 := Lib.hid hsz1
  clear hb hbk hsz1
  have hr := sready (some ⟨A, 0, none⟩) id W
  rw [if_neg (by simp), if_pos h1] at hr
  have i1 : ¬ (size : Int) < 16 := by omega
  have i2 : ¬ (16777216 : Int) < (size : Int) := by omega
  clear h1 h2
  have hc := SegC.new W A ⟨id, size, many, first, last, last⟩ 88
  have HS := Lib.hid (And.intro (show w.heap.size ≤ W.heap.size from HB.out.size) hc)
  clear hc
  go_enter Tryz.func11, Tryz.ntmps11
  go_wp2_with fail
  rw [← hW, ← hbx]
  clear hW hbx
  refine hr.mono ?_
  rintro e w1 ⟨rfl, rfl⟩
  clear hr
  go_wp2_with fail
  go_ret2
  exact ⟨W.heap.size, rfl, HS.out.1, HS.out.2, HB.out.alloc HB.out.size _⟩
end
end Go.Proofs.YtaicibmaogiibaaGreatDoor.Sg

/- SgLay -/

/-
  Layer 11: the law's laid, walked: a segment is created, and each record appended.
-/
set_option linter.unusedVariables false
set_option linter.unusedSimpArgs false
namespace Go.Proofs.YtaicibmaogiibaaGreatDoor.Sg
open Go Go.RowKit

/-- what stands while records are appended: j of them, vat their locs -/
def LayR (w W : World) (B G A id : Nat) (L : List Rc.Rec) (j : Nat) (vat : Value) : Prop :=
  ∃ M R s, SegIn W G A M R s (segN id L j) ∧ Lone s (nameB id) (fileN id L j) ∧ 100000 ≤ s.quota ∧ FInv s 5 (300 + 1113 * j) ∧ s.steps ≤ 5 + j ∧ W.ownsRow w.heap.size 49 2 vat j (locsN id L j) ∧ (∀ g, vat.ownBlock = some g → ¬ M g ∧ ¬ R g ∧ g ≠ G) ∧ Below B w W ∧ (∀ i, M i → B ≤ i) ∧ B ≤ G
theorem loc_info11 : (Tryz.prog.info? 49).map (fun i => (i.zero, i.size, i.bytes)) = some (some (.agg #[.int .u32 0, .int .u32 0]), 2, 8) := by kernel_rfl
theorem segN_fit {id : Nat} {L : List Rc.Rec} (hi : id ≤ 16777215) (hL : Numb L) {j : Nat} (hj : j ≤ 30) : (segN id L j).Fit := by
  have := offN_le hL j
  refine ⟨by show id < _; omega, by show offN L j < _; omega, by show j < _; omega, ?_, by show j < _; omega, by show 0 < _; omega⟩
  show (if j = 0 then 0 else 1) < _
  split <;> omega
set_option maxRecDepth 100000 in
set_option maxHeartbeats 16000000 in
theorem slay {w : World} {A B id qt : Nat} {M R : Nat → Prop} {L : List Rc.Rec} {v : Value} (hx : Ctx B w) (hB : B ≤ w.heap.size) (hMB : ∀ i, M i → B ≤ i) (hi : 1 ≤ id ∧ id ≤ 16777215) (h : FsM w A (FsP.new qt).used M R (FsP.new qt)) (hq : 100000 ≤ qt) (hv : Recs w B v L) (hL : Numb L) :
    Calls Tryz.prog 10 #[.pointer (some ⟨A, 0, none⟩), .int .u32 (id : Int), v] w fun e w' => ∃ G vat, e = .returned (.tuple #[.pointer (some ⟨G, 0, none⟩), vat]) ∧ LayR w w' B G A id L L.length vat := by
  obtain ⟨i0, hi0, hz0, hz1, hz2⟩ := info_parts loc_info11
  obtain ⟨Av, c, rfl, hlc, hcm, hrec⟩ := hv
  have hnew := createG_new (id := id) (q := qt) hi (by omega)
  have hinv := createG_inv (FInv.new qt) (by omega) id
  have HCr := Lib.hid (screate (id := id) hx hB hMB hi h (FInv.new qt) (by omega) (by omega) (by show 0 + 6 ≤ _; omega))
  obtain ⟨n, hn⟩ : ∃ n, n = L.length := ⟨_, rfl⟩
  have hn30 : n ≤ 30 := by rw [hn]; exact hL.few
  rw [← hn] at hlc ⊢
  have HN := Lib.hid hn
  have HR := Lib.hid hrec
  have HX := Lib.hid (And.intro hx (And.intro hB hMB))
  have HNw := Lib.hid (And.intro hnew hinv)
  have HI := Lib.hid hi
  have HL := Lib.hid hL
  have HQ := Lib.hid hq
  clear hrec hn hx hB hMB hnew hinv h hi hL hq
  go_enter Tryz.func10, Tryz.ntmps10
  go_wp2_with fail
  refine HCr.out.mono ?_
  rintro e W0 (⟨_, G, rfl, hG, hS⟩ | ⟨hne, _⟩)
  rotate_left
  · exact absurd HNw.out.1.1 hne
  obtain ⟨M2, R2, k1, k2, k3, k4, k5, k6, k7⟩ := hS
  have HLR : Hid (LayR w W0 B G A id L 0 (.slice none 0 0)) := Lib.hid ⟨M2, R2, _, ⟨k1, k5, k6, k7⟩, HNw.out.1.2.1, by rw [HNw.out.1.2.2]; exact HQ.out, HNw.out.2.1.mono (by omega) (by omega), by have := HNw.out.2.2; have h0 : (FsP.new qt).steps = 0 := rfl; omega, World.ownsRow_nil _ _ _ _, fun g hg => by simp [Value.ownBlock] at hg, k2.below HX.out.2.1 (fun i e => e.elim (HX.out.2.2 i) (fun e => by have := HX.out.2.1; omega)), fun i e => (k3 i e).elim (HX.out.2.2 i) (fun e => by have := HX.out.2.1; omega), by have := HX.out.2.1; omega⟩
  clear k1 k2 k3 k4 k5 k6 k7 HCr
  go_wp2_with fail
  go_loopw [10, 25] (fun va vi wr => ∃ (j : Nat), vi = .int .i64 j ∧ j ≤ n ∧ Hid (LayR w wr B G A id L j va)) (fun _ vi _ => n - (RowKit.intOf vi).toNat)
  case atStart => exact ⟨0, rfl, by omega, HLR⟩
  case round =>
    obtain ⟨j, rfl, hj, hh⟩ := hrel
    rename World => W
    clear HLR
    by_cases hjn : j < n
    · obtain ⟨M, R, s, k1, k2, k3, k4, k5, k6, k7, k8, k9, k10⟩ := hh.out
      clear hh
      have hjl : j < L.length := by rw [← HN.out]; exact hjn
      obtain ⟨r, hr⟩ : ∃ r, L[j]? = some r := ⟨_, List.getElem?_eq_getElem hjl⟩
      obtain ⟨b, o, rfl, hbB, kv, vv, e0, e1, e2, e3, e4, e5, hk, hw, hfit⟩ := HR.out j r hr
      have ha := appN HI.out HL.out hr k2 k3
      have hk0 := hk
      have hw0 := hw
      obtain ⟨K1, k1', rfl, _, _⟩ := hk0
      obtain ⟨K2, k2', rfl, _, _⟩ := hw0
      obtain ⟨n1, hn1⟩ : ∃ n1, n1 = r.key.length := ⟨_, rfl⟩
      obtain ⟨n2, hn2⟩ : ∃ n2, n2 = r.val.length := ⟨_, rfl⟩
      rw [← hn1] at hk e2
      rw [← hn2] at hw e3
      have x0 := (k8.cell (p := ⟨b, o + j * 6, none⟩) hbB).trans e0
      have x1 := (k8.cell (p := ⟨b, o + j * 6 + 1, none⟩) hbB).trans e1
      have x2 := (k8.cell (p := ⟨b, o + j * 6 + 2, none⟩) hbB).trans e2
      have x3 := (k8.cell (p := ⟨b, o + j * 6 + 3, none⟩) hbB).trans e3
      have x4 := (k8.cell (p := ⟨b, o + j * 6 + 4, none⟩) hbB).trans e4
      have x5 := (k8.cell (p := ⟨b, o + j * 6 + 5, none⟩) hbB).trans e5
      obtain ⟨Ao, co, rfl, q1, q2, _⟩ := own_slice k6
      obtain ⟨W1, hW1⟩ : ∃ W1, W1 = W.alloc (.cells #[.int .u64 r.seq, .int .i64 r.kind, .slice K1 n1 k1', .slice K2 n2 k2', .int .u32 r.seg, .int .u32 r.off] 51) := ⟨_, rfl⟩
      have hb1 : Below W.heap.size W W1 := by rw [hW1]; exact (Below.refl _ _).alloc (Nat.le_refl _) _
      have hBW : B ≤ W.heap.size := Nat.le_trans HX.out.2.1 k8.size
      have hb1B : Below B w W1 := k8.trans (hb1.mono hBW)
      have HA := Lib.hid (sappend (w := W1) (G := G) (A := A) (B := B) (Br := B) (x := segN id L j) (r := r) (v := recV r.seq r.kind (.slice K1 n1 k1') (.slice K2 n2 k2') r.seg r.off) (s := s) (M := M) (R := R) (q := 5) (T := 300 + 1113 * j) ⟨k1.1.on hb1, k1.2.1.on hb1, k1.2.2⟩ (HX.out.1.below hb1B) (Nat.le_trans hBW hb1.size) k9 (segN_fit HI.out.2 HL.out (by omega)) (by show j < 1000000; omega) ⟨_, _, rfl, hk.below hb1B (Nat.le_refl _), hw.below hb1B (Nat.le_refl _)⟩ (Nat.le_trans hBW hb1.size) hfit k4 (by omega) (by omega))
      rw [ha.1, ha.2.1] at HA
      have HF2 := Lib.hid (finv_app k4 (nameB id) (Rc.runL r))
      have HAp := Lib.hid ha
      have HB1 := Lib.hid hb1B
      have HO1 := Lib.hid (own_below k6 hb1 (Nat.le_refl _))
      have HOL := Lib.hid (show ∀ g, (Value.slice Ao j co).ownBlock = some g → g < W1.heap.size ∧ ¬ M g ∧ ¬ R g ∧ g ≠ G from fun g hg => ⟨Nat.lt_of_lt_of_le (k6.lt g hg).2 hb1.size, k7 g hg⟩)
      have HK := Lib.hid (And.intro k3 (And.intro k5 (And.intro k9 k10)))
      have HGl := Lib.hid (show G < W1.heap.size from Nat.lt_of_lt_of_le k1.2.1.lt hb1.size)
      have HW1 := Lib.hid (show w.heap.size ≤ W1.heap.size from Nat.le_trans k8.size hb1.size)
      have HRn := Lib.hid hr
      clear k1 k2 k3 k4 k5 k6 k7 k8 k9 k10 ha hk hw e0 e1 e2 e3 e4 e5 hfit hb1 hBW hb1B hjl hn1 hn2
      unfold recV at HA
      go_wp2_with fail
      rw [← hW1]
      clear hW1
      refine HA.out.mono ?_
      rintro e W2 ⟨rfl, M3, R3, j1, j2, j3, j4, j5, j6, j7⟩
      unfold locV
      obtain ⟨oj, hoj⟩ : ∃ oj, oj = offN L j := ⟨_, rfl⟩
      rw [show ((id, offN L j) : Nat × Nat).1 = id from rfl, show ((id, offN L j) : Nat × Nat).2 = offN L j from rfl, ← hoj, show ((0 : Nat) : Int) = 0 from rfl]
      have HOJ := Lib.hid hoj
      clear hoj
      have hO2 := j2.own HO1.out (fun g hg e => e.elim (HOL.out g hg).2.1 (HOL.out g hg).2.2.2)
      obtain ⟨W4, hW4⟩ : ∃ W4, W4 = (W2.alloc (.cells #[.int .u32 (id : Int), .int .u32 (oj : Int)] 49)).alloc (.cells #[.int .u32 (id : Int), .int .u32 (oj : Int)] 49) := ⟨_, rfl⟩
      have hb4 : Below W2.heap.size W2 W4 := by rw [hW4]; exact ((Below.refl _ _).alloc (Nat.le_refl _) _).alloc (by simp) _
      have HO4 := Lib.hid (own_below hO2 hb4 (Nat.le_refl _))
      have hs4 : W4.heap.size = W2.heap.size + 2 := by rw [hW4]; simp
      have hrd : Rd W4 (W2.heap.size + 2) (some ⟨W2.heap.size + 1, 0, none⟩) [.int .u32 (id : Int), .int .u32 (oj : Int)] := fun _ => ⟨W2.heap.size + 1, 0, rfl, by omega, fun q u hu => by
        have hh := heap_alloc_new (W2.alloc (.cells #[.int .u32 (id : Int), .int .u32 (oj : Int)] 49)) (.cells #[.int .u32 (id : Int), .int .u32 (oj : Int)] 49)
        rw [World.size_alloc, ← hW4] at hh
        rw [cell_of_row W4 (W2.heap.size + 1) (0 + q) _ _ _ hh]
        simpa using hu⟩
      have HRD := Lib.hid hrd
      have HS2 := Lib.hid (show W1.heap.size ≤ W2.heap.size from j2.size)
      have HJ := Lib.hid (And.intro j1 (And.intro j2 (And.intro j3 (And.intro j4 (And.intro j5 (And.intro j6 j7))))))
      have HB4 := Lib.hid hb4
      have HS4 := Lib.hid hs4
      clear hO2 hb4 hs4 hrd j1 j2 j3 j4 j5 j6 j7 x0 x1 x2 x3 x4 x5
      go_wp2_with (at_builtin; (try rw [← hW4]); (refine wpList_append_rd _ rfl _ _ 32 rfl w.heap.size 49 i0 (.agg #[.int .u32 0, .int .u32 0]) 2 8 Tryz.underlying32 hi0 hz0 hz1 hz2 rfl (by omega) (.slice Ao j co) j (locsN id L j) rfl HO4.out (W2.heap.size + 2) (some ⟨W2.heap.size + 1, 0, none⟩) 1 1 [.int .u32 (id : Int), .int .u32 (oj : Int)] rfl rfl HRD.out (by simp [Value.oneCell']) (by unfold maxLen; omega) (by omega) (by have := HW1.out; have := HS2.out; have := HS4.out; omega) ?_); intro v5 W5 hown5 hb5 hg5 hv5; (have HO5 := Lib.hid hown5); (have HB5 := Lib.hid hb5); (have HG5 := Lib.hid hg5); (have HV5 := Lib.hid hv5); clear hown5 hb5 hg5 hv5)
      obtain ⟨h1, h2, h3, h4, h5, h6, h7⟩ := HAp.out
      obtain ⟨j1, j2, j3, j4, j5, j6, j7⟩ := HJ.out
      have hjB : B ≤ W1.heap.size := Nat.le_trans HX.out.2.1 HB1.out.size
      have hg0 : ∀ g, (Value.slice Ao j co).ownBlock = some g → g < W1.heap.size ∧ ¬ M3 g ∧ ¬ R3 g ∧ g ≠ G := fun g hg => ⟨(HOL.out g hg).1, fun e => (j3 g e).elim (HOL.out g hg).2.1 (fun e => by have := (HOL.out g hg).1; omega), fun e => (j4 g e).elim (HOL.out g hg).2.2.1 (fun e => by have := (HOL.out g hg).1; omega), (HOL.out g hg).2.2.2⟩
      have hc45 : Chg (fun i => (Value.slice Ao j co).ownBlock = some i) W4 W5 := Chg.of_grown HG5.out (fun g hg => hg)
      have hseg : SegIn W5 G A M3 R3 _ _ := ⟨(j1.on HB4.out).chg hc45 (fun i e => ⟨(hg0 i e).2.1, (hg0 i e).2.2.1⟩), (j5.on HB4.out).chg hc45 (fun e => (hg0 G e).2.2.2 rfl), j6, j7⟩
      have hbW2 : Below B W1 W2 := j2.below hjB (fun i e => e.elim (HK.out.2.2.1 i) (fun e => by rw [e]; exact HK.out.2.2.2))
      have hbW4 : Below B W2 W4 := HB4.out.mono (Nat.le_trans hjB HS2.out)
      have hbW5 : Below B W4 W5 := HB5.out.mono HX.out.2.1
      refine ⟨⟨j + 1, by (first | rfl | (congr 1; omega)), by omega, Lib.hid ⟨M3, R3, _, by rw [h5] at hseg; exact hseg, h3, by rw [h6]; exact HK.out.1, ?_, by rw [h7]; have := HK.out.2.1; omega, by rw [locsN_next, ← HOJ.out]; exact HO5.out, fun g hg => ?_, ((HB1.out.trans hbW2).trans hbW4).trans hbW5, fun i e => (j3 i e).elim (HK.out.2.2.1 i) (fun e => by omega), HK.out.2.2.2⟩⟩, by simp [RowKit.intOf]; omega⟩
      · rw [h4]
        refine HF2.out.mono (Nat.le_refl _) ?_
        rw [Rc.runL_length]
        have := (Rc.may_size (HL.out.may r (List.mem_of_getElem? HRn.out))).2
        omega
      · rcases HV5.out with e | e
        · exact (hg0 g (e ▸ hg)).2
        · rw [e] at hg
          injection hg with hg
          subst hg
          have hm := (j1.on HB4.out).ml
          have hr := (j1.on HB4.out).rl
          have hG4 := (j5.on HB4.out).lt
          exact ⟨fun e => by have := hm _ e; omega, fun e => by have := hr _ e; omega, fun e => by omega⟩
    · have ejn : j = n := by omega
      subst ejn
      go_wp2_with fail
      go_ret2
      exact ⟨G, _, rfl, hh.out⟩
end Go.Proofs.YtaicibmaogiibaaGreatDoor.Sg

/- SgKit -/

/-
  Layer 11: numbered records in the call's own row are a slice of records; the file system's Quota and Flip.
-/
set_option linter.unusedVariables false
set_option linter.unusedSimpArgs false
namespace Go.Proofs.YtaicibmaogiibaaGreatDoor.Sg
open Go Go.RowKit

theorem addr_add0 (g k : Nat) : (⟨g, 0, none⟩ : Addr).add k = ⟨g, k, none⟩ := by
  unfold Addr.add
  split
  · rename_i h; rw [h]
  · simp
theorem rowT_get {t : List Tri} {i : Nat} {x : Tri} (h : t[i]? = some x) (k : Nat) (hk : k < 6) : (rowT t)[i * 6 + k]? = x.cells[k]? := by
  induction t generalizing i with
  | nil => simp at h
  | cons y r ih =>
    have hr : rowT (y :: r) = y.cells ++ rowT r := by simp [rowT]
    have hl : y.cells.length = 6 := rfl
    rw [hr]
    cases i with
    | zero =>
      simp at h
      subst h
      rw [List.getElem?_append_left (by omega)]
      congr 1
      omega
    | succ i =>
      rw [List.getElem?_append_right (by omega), ← ih (by simpa using h)]
      congr 1
      omega
/-- records in a row of the call's own -/
theorem recs_of_own {w : World} {base B : Nat} {v : Value} {t : List Tri} (h : w.ownsRow base 51 6 v t.length (rowT t)) (ht : ∀ x ∈ t, TriOk w B x) (hB : B ≤ w.heap.size) : Recs w w.heap.size v (t.map (·.1)) := by
  obtain ⟨A, c, rfl, hc, hm, hlt⟩ := own_slice h
  refine ⟨A, c, by rw [List.length_map], by rw [List.length_map]; exact hc, hm, fun i r hi => ?_⟩
  rw [List.getElem?_map] at hi
  cases hx : t[i]? with
  | none => rw [hx] at hi; cases hi
  | some x =>
    rw [hx] at hi
    injection hi with hi
    subst hi
    have hpos : 0 < t.length := by
      have := (List.getElem?_eq_some_iff.1 hx).1
      omega
    rcases h.2 with ⟨_, e⟩ | ⟨g, cap, cur, hv, hg, hcells, _⟩
    · omega
    · injection hv with hv1 _ hv2
      subst hv1
      have hcs := h.cells (g := g) rfl
      have hok := ht x (List.mem_of_getElem? hx)
      have hkc : ∀ k u, k < 6 → x.cells[k]? = some u → w.cell? ⟨g, 0 + i * 6 + k, none⟩ = some u := fun k u hk hu => by
        have := hcs (i * 6 + k) u (by rw [rowT_get hx k hk]; exact hu)
        rw [addr_add0] at this
        simpa using this
      exact ⟨g, 0, rfl, (hlt _ rfl).2, x.2.1, x.2.2, hkc 0 _ (by omega) rfl, hkc 1 _ (by omega) rfl, hkc 2 _ (by omega) rfl, hkc 3 _ (by omega) rfl, hkc 4 _ (by omega) rfl, hkc 5 _ (by omega) rfl, hok.key.mono hB, hok.val.mono hB, hok.fit⟩
section
variable {w : World} {A u q T n i : Nat} {M R : Nat → Prop} {s : FsP} {nm : ByteArray}
set_option maxRecDepth 100000 in
set_option maxHeartbeats 4000000 in
/-- a byte of a file that is safe is flipped -/
theorem kflip {x z : UInt8} {b : Int} (h : FsM w A u M R s) (hf : FInv s q T) (hT : T ≤ 1000000) (ho : s.off = false) (hn : nm.size ≤ maxLen) (h0 : nodeF s nm = (0, i)) (hd : (s.file i).deeds = []) (hx : (s.file i).safe[n]? = some x) (hz : bits .xor .u8 (x.toNat : Int) b = (z.toNat : Int)) :
    Calls Tryz.prog 23 #[.pointer (some ⟨A, 0, none⟩), .string nm, .int .i64 (n : Int), .int .u8 b] w fun e w' => e = .returned (.int .i64 0) ∧ FsMut w w' A u M R { s with file := upd s.file i (FSt.new ((s.file i).safe.set n z)) } := by
  obtain ⟨X, B, m, hv, K, g, MX, MF, ha, hn1, hn2, hn3, hn4, hn5⟩ := h.kfacts hf
  have HF := Lib.hid (kfind ha hn4 ho hn)
  have Ha := Lib.hid ha
  rw [h0] at HF
  simp only [if_true] at HF
  have hfin : findL s.dir.now nm = some i := by
    unfold nodeF at h0
    split at h0
    · cases h0
    · rename_i h1
      cases hf2 : findL s.dir.now nm with
      | none => rw [hf2] at h0; cases h0
      | some m => rw [hf2] at h0; injection h0 with _ h0; rw [h0]
  have hiK : i ∈ K := hn4 _ (findL_mem hfin)
  have HZ : Hid (∀ w1, Below w.heap.size w w1 → Calls Tryz.prog 66 #[.pointer (some ⟨g i, 0, none⟩), .int .i64 (n : Int), .int .u8 b] w1 fun e w' => e = .returned (.int .i64 0) ∧ FsMut w w' A u M R { s with file := upd s.file i (FSt.new ((s.file i).safe.set n z)) }) := Lib.hid fun w1 hb => by
    have h8 := Ha.out.on hb
    have h9 := fflip_at (h8.files i hiK) hd (Nat.le_trans (hn5 i hiK) (by omega)) n x z b hx hz
    refine h9.mono ?_
    rintro e w' ⟨rfl, hm⟩
    obtain ⟨MF', M', R', k1, k2, k3, k4⟩ := h8.file_mut hiK hm
    exact ⟨rfl, M', R', ⟨X, B, m, hv, K, g, MX, MF', k1, hn1, hn2, hn3⟩, ((Chg.of_below (M := M) hb).trans k2 (fun _ => .inl)).mono (fun _ => id), fun j e => (k3 j e).imp id (fun e => Nat.le_trans hb.size e), fun j e => (k4 j e).imp id (fun e => Nat.le_trans hb.size e)⟩
  generalize ({ s with file := upd s.file i (FSt.new ((s.file i).safe.set n z)) } : FsP) = t at *
  generalize g i = Fi at *
  clear h hf ha hn1 hn2 hn3 hn4 hn5 h0 hfin hiK hd hx hz
  go_enter Tryz.func23, Tryz.ntmps23
  go_wp2_with (first
    | (go_at_call 65; refine HF.out.mono ?_; rintro e w1 ⟨rfl, hb1⟩; have HB1 := Lib.hid hb1; clear hb1)
    | (go_at_call 66; refine (HZ.out _ HB1.out).mono ?_; rintro e w2 ⟨rfl, hm2⟩; have HM2 := Lib.hid hm2; clear hm2))
  go_ret
  exact ⟨rfl, HM2.out⟩
theorem FsC.set2 {X B qu st : Nat} {on : Bool} {hv : Value} (h : FsC w A X B qu u st on hv) (k : Nat) : FsC (w.setCell ⟨A, 2, none⟩ (.int .i64 (k : Int))) A X B k u st on hv := by
  obtain ⟨c0, c1, c2, c3, c4, c5, c6, f0, f1, f2, f3, f4, f5, f6⟩ := h
  refine ⟨?_, ?_, World.cell?_setCell_same _ _ _ c2, ?_, ?_, ?_, ?_, by rw [World.frozen?_setCell]; assumption, by rw [World.frozen?_setCell]; assumption, by rw [World.frozen?_setCell]; assumption, by rw [World.frozen?_setCell]; assumption, by rw [World.frozen?_setCell]; assumption, by rw [World.frozen?_setCell]; assumption, by rw [World.frozen?_setCell]; assumption⟩ <;>
    (rw [World.cell?_setCell_other _ _ _ _ (by intro e; injection e with e1 e2; omega)]; assumption)
end
end Go.Proofs.YtaicibmaogiibaaGreatDoor.Sg

/- SgLoad -/

/-
  Layer 11: Load, from what a scan of its bytes tells.
-/
set_option linter.unusedVariables false
set_option linter.unusedSimpArgs false
namespace Go.Proofs.YtaicibmaogiibaaGreatDoor.Sg
open Go Go.RowKit

theorem FqOk_base {w : World} {lo lo' : Nat} {x : Sc.Fq} (h : Sc.FqOk w lo x) (hl : lo' ≤ lo) : Sc.FqOk w lo' x := ⟨h.key.mono hl, h.val.mono hl⟩
/-- what package scan's Of has to keep -/
def OfC : Prop := ∀ (w : World) (v : Value) (b : List UInt8) (id : Nat), Bs w w.heap.size v b → b.length ≤ 100000 → id < 4294967296 → RTab w →
  Calls Tryz.prog 29 #[.int .u32 (id : Int), v] w fun e w' => ∃ rv, e = .returned rv ∧ Sc.ScanV 56 w' w.heap.size rv (Sc.of id b) ∧ Below w.heap.size w w'
section
variable {w : World} {A u q T B id : Nat} {M R : Nat → Prop} {s : FsP} {t : FSt}
set_option maxRecDepth 100000 in
set_option maxHeartbeats 4000000 in
theorem sload (hof : OfC) (hx : Ctx B w) (hB : B ≤ w.heap.size) (hi : 1 ≤ id ∧ id ≤ 16777215) (h : FsM w A u M R s) (hf : FInv s q T) (hT : T ≤ 1000000) (hl : LoneN s (nameB id) t) (hmy : mayN (nameB id) = true) (hlen : t.bytes.length ≤ 100000) :
    Calls Tryz.prog 13 #[.pointer (some ⟨A, 0, none⟩), .int .u32 (id : Int)] w fun e w' => ∃ rv, e = .returned (.tuple #[rv, .int .i64 0]) ∧ Sc.ScanV 56 w' w.heap.size rv (Sc.of id t.bytes) ∧ Below w.heap.size w w' := by
  obtain ⟨nm, hnm⟩ : ∃ nm, nm = nameB id := ⟨_, rfl⟩
  have hnsz : nm.size ≤ maxLen := by rw [hnm]; have := nameB_size id; unfold maxLen; omega
  obtain ⟨bx, hbx⟩ : ∃ bx, w.heap.size = bx := ⟨_, rfl⟩
  obtain ⟨W, hW⟩ : ∃ W, w.alloc (.cells #[.int .u32 0, .slice none 0 0, .slice none 0 0, .int .i64 0, .int .i64 0] 44) = W := ⟨_, rfl⟩
  have hb : Below w.heap.size w W := by rw [← hW]; exact (Below.refl _ _).alloc (Nat.le_refl _) _
  have hk : W.heap[bx]? = some (.cells #[.int .u32 0, .slice none 0 0, .slice none 0 0, .int .i64 0, .int .i64 0] 44 (0, 0)) := by rw [← hW, ← hbx]; exact heap_alloc_new w _
  have hr := sready (some ⟨A, 0, none⟩) id W
  rw [if_neg (by simp), if_pos hi] at hr
  obtain ⟨L, hL⟩ : ∃ L, L = t.bytes.length := ⟨_, rfl⟩
  obtain ⟨b, hbb⟩ : ∃ b, b = t.bytes := ⟨_, rfl⟩
  have h0 : nodeF s nm = (0, 1) := by rw [hnm]; exact hl.node hmy
  have HNm : Hid (∀ V, Below w.heap.size w V → Calls Tryz.prog 22 #[.int .u32 (id : Int)] V fun e w' => e = .returned (.string nm) ∧ Below V.heap.size V w') := Lib.hid fun V hb => by rw [hnm]; exact name_any id (by omega) V (hx.below (hb.mono hB)).std
  have HSz : Hid (∀ V, Below w.heap.size w V → Calls Tryz.prog 38 #[.pointer (some ⟨A, 0, none⟩), .string nm] V fun e w' => e = .returned (.tuple #[.int .i64 (L : Int), .int .i64 0]) ∧ Below V.heap.size V w') := Lib.hid fun V hb => by
    have h1 := ksize (nm := nm) (h.on hb) hf hT hl.on hnsz
    rw [h0] at h1
    simp only [if_true] at h1
    rw [hl.file, ← hL] at h1
    exact h1
  have HRd : Hid (∀ V, Below w.heap.size w V → Calls Tryz.prog 27 #[.pointer (some ⟨A, 0, none⟩), .string nm, .int .i64 0, .int .i64 (L : Int)] V fun e w' => ∃ r, e = .returned (.tuple #[r, .int .i64 0]) ∧ w'.ownsRow V.heap.size 5 1 r L (bvs b) ∧ Below V.heap.size V w') := Lib.hid fun V hb => by
    have h1 := kread (nm := nm) (L := L) (h.on hb) hf hT hl.on hnsz h0 (by rw [hl.file, hL])
    rw [hl.file, ← hbb] at h1
    exact h1
  have HB := Lib.hid hb
  have HK := Lib.hid hk
  have HBX := Lib.hid hbx
  have HOF := Lib.hid hof
  have HTab := Lib.hid (fun (V : World) (hb : Below w.heap.size w V) => (hx.below (hb.mono hB)).tab)
  have HLb := Lib.hid (show L = b.length ∧ b.length ≤ 100000 by rw [hL, hbb]; exact ⟨rfl, hlen⟩)
  have HI := Lib.hid (show id < 4294967296 by omega)
  rw [← hbb]
  clear hb hk h hf hl hmy hlen hL hbb h0 hnm hnsz hx hB hof hi
  go_enter Tryz.func13, Tryz.ntmps13
  go_wp2_with fail
  refine hr.mono ?_
  rintro e w1 ⟨rfl, rfl⟩
  clear hr hW
  go_wp2_with fail
  refine (HNm.out _ HB.out).mono ?_
  rintro e w1 ⟨rfl, hb1⟩
  have HB1 := Lib.hid (HB.out.trans (hb1.mono HB.out.size))
  have HK1 := Lib.hid ((hb1.block bx (Array.getElem?_eq_some_iff.1 HK.out).1).trans HK.out)
  clear hb1 HB HK
  go_wp2_with fail
  refine (HSz.out _ HB1.out).mono ?_
  rintro e w2 ⟨rfl, hb2⟩
  have HB2 := Lib.hid (HB1.out.trans (hb2.mono HB1.out.size))
  have HK2 := Lib.hid ((hb2.block bx (Array.getElem?_eq_some_iff.1 HK1.out).1).trans HK1.out)
  clear hb2 HB1 HK1
  go_wp2_with fail
  refine (HNm.out _ HB2.out).mono ?_
  rintro e w3 ⟨rfl, hb3⟩
  have HB3 := Lib.hid (HB2.out.trans (hb3.mono HB2.out.size))
  have HK3 := Lib.hid ((hb3.block bx (Array.getElem?_eq_some_iff.1 HK2.out).1).trans HK2.out)
  clear hb3 HB2 HK2
  go_wp2_with fail
  refine (HRd.out _ HB3.out).mono ?_
  rintro e w4 ⟨r, rfl, ho4, hb4⟩
  have HB4 := Lib.hid (HB3.out.trans (hb4.mono HB3.out.size))
  have HK4 := Lib.hid ((hb4.block bx (Array.getElem?_eq_some_iff.1 HK3.out).1).trans HK3.out)
  have HO4 := Lib.hid ho4
  have HB3s := Lib.hid HB4.out.size
  clear ho4 hb4 HB3 HK3
  have hbs : Bs w4 w4.heap.size r b := by
    have h1 := HO4.out
    obtain ⟨A', c', rfl, h2, _, _⟩ := own_slice h1
    refine ⟨A', c', by rw [HLb.out.1], by rw [← HLb.out.1]; exact h2, Rd.of_own h1⟩
  have HSc := Lib.hid (HOF.out w4 r b id hbs HLb.out.2 HI.out (HTab.out _ HB4.out))
  have y0 : w4.cell? ⟨bx, 0, none⟩ = some (.int .u32 0) := cell_of_row w4 bx 0 _ _ _ HK4.out
  have y1 : w4.cell? ⟨bx, 1, none⟩ = some (.slice none 0 0) := cell_of_row w4 bx 1 _ _ _ HK4.out
  clear hbs y0 y1
  go_wp2_with fail
  refine HSc.out.mono ?_
  rintro e w5 ⟨rv, rfl, hsc, hb5⟩
  have HB5 := Lib.hid (HB4.out.trans (hb5.mono HB4.out.size))
  have HK5 := Lib.hid ((hb5.block bx (Array.getElem?_eq_some_iff.1 HK4.out).1).trans HK4.out)
  clear hb5 HB4 HK4 HSc HO4
  obtain ⟨sc, hsd⟩ : ∃ sc, sc = Sc.of id b := ⟨_, rfl⟩
  rw [← hsd] at hsc
  have HSD := Lib.hid hsd
  obtain ⟨vf, vp, q, rfl, h1, h2, h3, h4⟩ := hsc
  obtain ⟨Af, cf, rfl, _, _, _⟩ := own_slice h2
  obtain ⟨Ap, cp, rfl, _, _, _⟩ := own_slice h4
  have HV := Lib.hid (And.intro h1 (And.intro h2 (And.intro h3 h4)))
  obtain ⟨nf, hnf⟩ : ∃ nf, q.length = nf := ⟨_, rfl⟩
  obtain ⟨np, hnp⟩ : ∃ np, sc.passed.length = np := ⟨_, rfl⟩
  obtain ⟨z1, hz1⟩ : ∃ z1, sc.id = z1 := ⟨_, rfl⟩
  obtain ⟨z2, hz2⟩ : ∃ z2, sc.stop = z2 := ⟨_, rfl⟩
  obtain ⟨z3, hz3⟩ : ∃ z3, sc.why = z3 := ⟨_, rfl⟩
  rw [hnf, hnp, hz1, hz2, hz3]
  have HZ := Lib.hid (And.intro hnf (And.intro hnp (And.intro hz1 (And.intro hz2 hz3))))
  clear h1 h2 h3 h4 hsd hnf hnp hz1 hz2 hz3
  have y0 : w5.cell? ⟨bx, 0, none⟩ = some (.int .u32 0) := cell_of_row w5 bx 0 _ _ _ HK5.out
  have y1 : w5.cell? ⟨bx, 1, none⟩ = some (.slice none 0 0) := cell_of_row w5 bx 1 _ _ _ HK5.out
  have y2 : w5.cell? ⟨bx, 2, none⟩ = some (.slice none 0 0) := cell_of_row w5 bx 2 _ _ _ HK5.out
  have y3 : w5.cell? ⟨bx, 3, none⟩ = some (.int .i64 0) := cell_of_row w5 bx 3 _ _ _ HK5.out
  have y4 : w5.cell? ⟨bx, 4, none⟩ = some (.int .i64 0) := cell_of_row w5 bx 4 _ _ _ HK5.out
  have f0 : w5.frozen? ⟨bx, 0, none⟩ = false := by simp [World.frozen?, HK5.out]
  have f1 : w5.frozen? ⟨bx, 1, none⟩ = false := by simp [World.frozen?, HK5.out]
  have f2 : w5.frozen? ⟨bx, 2, none⟩ = false := by simp [World.frozen?, HK5.out]
  have f3 : w5.frozen? ⟨bx, 3, none⟩ = false := by simp [World.frozen?, HK5.out]
  have f4 : w5.frozen? ⟨bx, 4, none⟩ = false := by simp [World.frozen?, HK5.out]
  go_wp2_with fail
  have h9 := Go.Joins.block_setCell (i := 4) (Go.Joins.block_setCell (i := 3) (Go.Joins.block_setCell (i := 2) (Go.Joins.block_setCell (i := 1) (Go.Joins.block_setCell (i := 0) HK5.out (.int .u32 (z1 : Int))) (.slice Af nf cf)) (.slice Ap np cp)) (.int .i64 (z2 : Int))) (.int .i64 (z3 : Int))
  have h9 : _ = some (Obj.cells #[.int .u32 (z1 : Int), .slice Af nf cf, .slice Ap np cp, .int .i64 (z2 : Int), .int .i64 (z3 : Int)] 44 (0, 0)) := h9
  have u0 := cell_of_row _ bx 0 _ _ _ h9
  have u1 := cell_of_row _ bx 1 _ _ _ h9
  have u2 := cell_of_row _ bx 2 _ _ _ h9
  have u3 := cell_of_row _ bx 3 _ _ _ h9
  have u4 := cell_of_row _ bx 4 _ _ _ h9
  have hc1 := ((((chg_set w5 bx 0 (.int .u32 (z1 : Int))).setCell (p := ⟨bx, 1, none⟩) rfl (.slice Af nf cf)).setCell (p := ⟨bx, 2, none⟩) rfl (.slice Ap np cp)).setCell (p := ⟨bx, 3, none⟩) rfl (.int .i64 (z2 : Int))).setCell (p := ⟨bx, 4, none⟩) rfl (.int .i64 (z3 : Int))
  have hty : Sc.Typed w5 44 (fun i => i = bx) := fun g e => by obtain rfl : g = bx := e; exact ⟨_, _, HK5.out⟩
  obtain ⟨h1, h2, h3, h4⟩ := HV.out
  obtain ⟨rfl, rfl, rfl, rfl, rfl⟩ := HZ.out
  have hlo : w.heap.size ≤ w4.heap.size := HB3s.out
  obtain rfl := HSD.out
  refine bodyPost_ret (v := .tuple #[.agg #[.int .u32 ((Sc.of id b).id : Int), .slice Af q.length cf, .slice Ap (Sc.of id b).passed.length cp, .int .i64 ((Sc.of id b).stop : Int), .int .i64 ((Sc.of id b).why : Int)], .int .i64 0]) (by simp [results, Tryz.results13, go_sem, u0, u1, u2, u3, u4]) rfl ⟨_, rfl, ⟨_, _, q, rfl, h1, hty.own (by decide) hc1 (own_base h2 hlo), fun x hx => (FqOk_base (h3 x hx) hlo).apart hty (by decide) hc1, hty.own (by decide) hc1 (own_base h4 hlo)⟩, ?_⟩
  exact HB5.out.trans (hc1.below HB5.out.size (fun i e => by have := HBX.out; omega))
end
end Go.Proofs.YtaicibmaogiibaaGreatDoor.Sg

/- SgOfC -/

/-
  Layer 11: package scan keeps what Load asks of it.
-/
set_option linter.unusedVariables false
namespace Go.Proofs.YtaicibmaogiibaaGreatDoor.Sg
open Go Go.RowKit
theorem ofC : OfC := fun w v b id h hl hi ht => Sc.sof v b id w h hl hi ht
end Go.Proofs.YtaicibmaogiibaaGreatDoor.Sg

/- SgBkM -/

/-
  Layer 11: what the laws SegBack, SegFlip, SegCrash share in memory: reads of numbered records, the rows of locs and records, what a scan found.
-/
set_option linter.unusedVariables false
set_option linter.unusedSimpArgs false
namespace Go.Proofs.YtaicibmaogiibaaGreatDoor.Sg
open Go Go.RowKit Go.Proofs.YtaicibmaogiibaaGreatDoor

theorem al11 (w : World) (o : Obj) : Below w.heap.size w (w.alloc o) := (Below.refl _ _).alloc (Nat.le_refl _) _
theorem bel11 {w w1 w2 : World} (h : Below w.heap.size w w1) (k : Below w1.heap.size w1 w2) : Below w.heap.size w w2 := h.trans (k.mono h.size)
theorem blk11 {w w' : World} {g : Nat} {o : Obj} (h : w.heap[g]? = some o) (hb : Below w.heap.size w w') : w'.heap[g]? = some o := (hb.block g (Array.getElem?_eq_some_iff.1 h).1).trans h
/-- a record that is told, as a value: its rows of bytes as slices -/
def RecT (w : World) (v : Value) (r : Rc.Rec) : Prop := ∃ A1 n1 c1 A2 n2 c2, v = recV r.seq r.kind (.slice A1 n1 c1) (.slice A2 n2 c2) r.seg r.off ∧ RecV w w.heap.size v r
theorem recT_of {w : World} {v : Value} {r : Rc.Rec} (h : RecV w w.heap.size v r) : RecT w v r := by
  obtain ⟨kv, vv, rfl, h1, h2⟩ := h
  obtain ⟨A1, c1, rfl, _⟩ := id h1
  obtain ⟨A2, c2, rfl, _⟩ := id h2
  exact ⟨A1, _, c1, A2, _, c2, rfl, _, _, rfl, h1, h2⟩
section
variable {w : World} {G A q T B : Nat} {M R : Nat → Prop} {s : FsP} {x : S} {L : List Rc.Rec} {f : FSt}
theorem off_ge (L : List Rc.Rec) (j : Nat) : 16 ≤ offN L j := by unfold offN; omega
theorem rd_num (h : SegIn w G A M R s x) (hx : Ctx B w) (hB : B ≤ w.heap.size) (hi : 1 ≤ x.id ∧ x.id ≤ 16777215) (hL : Numb L) (hsz : x.size = offN L L.length) (hf : FInv s q T) (hT : T ≤ 1000000) (hl : LoneN s (nameB x.id) f) (hlen : f.bytes.length = x.size) {i : Nat} {r : Rc.Rec} (hr : L[i]? = some r) (hq : readQ f.bytes x.size (offN L i) = (r, Rc.sizeN r, 0)) :
    Calls Tryz.prog 15 #[.pointer (some ⟨G, 0, none⟩), .agg #[.int .u32 (x.id : Int), .int .u32 (offN L i : Int)]] w fun e w' => ∃ rv, e = .returned (.tuple #[rv, .int .i64 0]) ∧ RecT w' rv r ∧ Below w.heap.size w w' := by
  have h1 := off_lt hr
  have h2 := Rc.may_size (hL.may r (List.mem_of_getElem? hr))
  have h3 := off_ge L i
  have h4 := offN_le hL L.length
  have h5 := hL.few
  refine (sread h hx hB (by omega) (by omega) hf hT hl (mayN_name hi) h3 (by omega) hlen).mono ?_
  rw [hq]
  rintro e w' ⟨rv, rfl, h, hb⟩
  exact ⟨rv, rfl, recT_of h, hb⟩
theorem rd_bad (h : SegIn w G A M R s x) (hx : Ctx B w) (hB : B ≤ w.heap.size) (hi : 1 ≤ x.id ∧ x.id ≤ 16777215) (hL : Numb L) (hsz : x.size = offN L L.length) (hf : FInv s q T) (hT : T ≤ 1000000) (hl : LoneN s (nameB x.id) f) (hlen : f.bytes.length = x.size) {i : Nat} {r : Rc.Rec} (hr : L[i]? = some r) (hq : (readQ f.bytes x.size (offN L i)).2.2 ≠ 0) :
    Calls Tryz.prog 15 #[.pointer (some ⟨G, 0, none⟩), .agg #[.int .u32 (x.id : Int), .int .u32 (offN L i : Int)]] w fun e w' => ∃ rv, e = .returned (.tuple #[rv, .int .i64 36]) ∧ RecT w' rv Rc.none ∧ Below w.heap.size w w' := by
  have h1 := off_lt hr
  have h2 := Rc.may_size (hL.may r (List.mem_of_getElem? hr))
  have h3 := off_ge L i
  have h4 := offN_le hL L.length
  have h5 := hL.few
  refine (sread h hx hB (by omega) (by omega) hf hT hl (mayN_name hi) h3 (by omega) hlen).mono ?_
  rw [if_neg hq]
  rintro e w' ⟨rv, rfl, h, hb⟩
  rw [if_neg hq] at h
  exact ⟨rv, rfl, recT_of h, hb⟩
/-- a loc of the row -/
theorem locs_get (id : Nat) (L : List Rc.Rec) : ∀ {n j : Nat}, j < n → (locsN id L n)[j * 2]? = some (.int .u32 (id : Int)) ∧ (locsN id L n)[j * 2 + 1]? = some (.int .u32 (offN L j : Int))
  | n + 1, j, h => by
    have hl : ∀ n, (locsN id L n).length = n * 2 := by
      intro n
      induction n with
      | zero => rfl
      | succ n ih => rw [locsN_next, List.length_append, ih]; simp; omega
    rw [locsN_next]
    by_cases hj : j < n
    · have := locs_get id L hj
      rw [List.getElem?_append_left (by rw [hl]; omega), List.getElem?_append_left (by rw [hl]; omega)]
      exact this
    · obtain rfl : j = n := by omega
      rw [List.getElem?_append_right (by rw [hl]; omega), List.getElem?_append_right (by rw [hl]; omega), hl]
      exact ⟨by simp, by rw [show j * 2 + 1 - j * 2 = 1 by omega]; simp⟩
theorem loc_cells {base n c g : Nat} {id j : Nat} (h : w.ownsRow base 49 2 (.slice (some ⟨g, 0, none⟩) n c) n (locsN id L n)) (hj : j < n) : w.cell? ⟨g, j * 2, none⟩ = some (.int .u32 (id : Int)) ∧ w.cell? ⟨g, j * 2 + 1, none⟩ = some (.int .u32 (offN L j : Int)) := by
  obtain ⟨h0, h1⟩ := locs_get id L hj
  have t0 := h.cells (g := g) rfl (j * 2) _ h0
  have t1 := h.cells (g := g) rfl (j * 2 + 1) _ h1
  rw [addr_add0] at t0 t1
  exact ⟨t0, t1⟩
theorem recs_below {B C : Nat} {w w' : World} {v : Value} {l : List Rc.Rec} (h : Recs w B v l) (hb : Below C w w') (hC : B ≤ C) : Recs w' B v l := by
  obtain ⟨A, c, rfl, h1, h2, h3⟩ := h
  refine ⟨A, c, rfl, h1, h2, fun i r hr => ?_⟩
  obtain ⟨b, o, e, hbB, kv, vv, e0, e1, e2, e3, e4, e5, hk, hv, hf⟩ := h3 i r hr
  have hc : ∀ (k : Nat) {u : Value}, w.cell? ⟨b, k, none⟩ = some u → w'.cell? ⟨b, k, none⟩ = some u := fun k u hu => (hb.cell (p := ⟨b, k, none⟩) (by show b < C; omega)).trans hu
  exact ⟨b, o, e, hbB, kv, vv, hc _ e0, hc _ e1, hc _ e2, hc _ e3, hc _ e4, hc _ e5, hk.below hb hC, hv.below hb hC, hf⟩
/-- a box of a record, loaded -/
theorem box6 {g : Nat} {a0 a1 a2 a3 a4 a5 : Value} {T : TypeId} (h : w.heap[g]? = some (.cells #[a0, a1, a2, a3, a4, a5] T (0, 0))) : w.cell? ⟨g, 0, none⟩ = some a0 ∧ w.cell? ⟨g, 1, none⟩ = some a1 ∧ w.cell? ⟨g, 2, none⟩ = some a2 ∧ w.cell? ⟨g, 3, none⟩ = some a3 ∧ w.cell? ⟨g, 4, none⟩ = some a4 ∧ w.cell? ⟨g, 5, none⟩ = some a5 :=
  ⟨cell_of_row w g 0 _ _ _ h, cell_of_row w g 1 _ _ _ h, cell_of_row w g 2 _ _ _ h, cell_of_row w g 3 _ _ _ h, cell_of_row w g 4 _ _ _ h, cell_of_row w g 5 _ _ _ h⟩
theorem same_own (r : Rc.Rec) : Rc.sameB r r = true := by unfold Rc.sameB; simp
/-- Same of a record with itself -/
theorem same_t {v v' : Value} {r : Rc.Rec} (h : RecV w w.heap.size v r) (h' : RecV w w.heap.size v' r) :
    Calls Tryz.prog 16 #[v, v'] w fun e w' => e = .returned (.bool true) ∧ Below w.heap.size w w' := by
  have := rsame_b v v' r r w.heap.size w h h' (Nat.le_refl _)
  rwa [same_own] at this
theorem found_cells11 {id lo n cf : Nat} {A : Option Addr} {q : List Sc.Fq} {fs : List Sc.Fd} (ho : w.ownsRow lo 56 9 (.slice A n cf) n (Sc.rowF id q)) (hf : ∀ x ∈ q, Sc.FqOk w lo x) (hq : q.map (·.1) = fs) (hn : 0 < n) {j : Nat} {f : Sc.Fd} (hj : fs[j]? = some f) :
    ∃ g Ak nk ck Av nv cv, A = some ⟨g, 0, none⟩ ∧ lo ≤ g ∧ w.cell? ⟨g, j * 9, none⟩ = some (.int .u32 (id : Int)) ∧ w.cell? ⟨g, j * 9 + 1, none⟩ = some (.int .u32 (f.off : Int)) ∧ w.cell? ⟨g, j * 9 + 2, none⟩ = some (.int .i64 (f.size : Int)) ∧ w.cell? ⟨g, j * 9 + 3, none⟩ = some (.int .u64 f.r.seq) ∧ w.cell? ⟨g, j * 9 + 4, none⟩ = some (.int .i64 f.r.kind) ∧
      w.cell? ⟨g, j * 9 + 5, none⟩ = some (.slice Ak nk ck) ∧ w.cell? ⟨g, j * 9 + 6, none⟩ = some (.slice Av nv cv) ∧ w.cell? ⟨g, j * 9 + 7, none⟩ = some (.int .u32 f.r.seg) ∧ w.cell? ⟨g, j * 9 + 8, none⟩ = some (.int .u32 f.r.off) ∧ Bs w w.heap.size (.slice Ak nk ck) f.r.key ∧ Bs w w.heap.size (.slice Av nv cv) f.r.val := by
  obtain ⟨g, rfl, hg⟩ := Sc.own_at ho hn
  obtain ⟨xq, hxq⟩ : ∃ x, q[j]? = some x := by
    subst hq
    rw [List.getElem?_map] at hj
    rcases h : q[j]? with _ | x
    · rw [h] at hj; cases hj
    · exact ⟨x, rfl⟩
  have hx1 : xq.1 = f := by
    have h1 : (q.map (·.1))[j]? = some xq.1 := by rw [List.getElem?_map, hxq]; rfl
    rw [hq] at h1
    exact Option.some.inj (h1.symm.trans hj)
  have hfq := hf xq (List.mem_of_getElem? hxq)
  obtain ⟨fd, kv, vv⟩ := xq
  have hx1 : fd = f := hx1
  subst hx1
  have h5 := hfq.key
  have h6 := hfq.val
  dsimp only at h5 h6
  obtain ⟨Ak, nk, ck, rfl⟩ : ∃ A n c, kv = .slice A n c := by rcases h5 with ⟨h1, _⟩ | ⟨g, h1, _⟩ <;> exact ⟨_, _, _, h1⟩
  obtain ⟨Av, nv, cv, rfl⟩ : ∃ A n c, vv = .slice A n c := by rcases h6 with ⟨h1, _⟩ | ⟨g, h1, _⟩ <;> exact ⟨_, _, _, h1⟩
  have F := fun k (hk : k < 9) => Sc.rowF_get (id := id) hxq k hk
  have c0 := ho.cells (g := g) rfl (j * 9) _ (F 0 (by decide))
  have c1 := ho.cells (g := g) rfl (j * 9 + 1) _ (F 1 (by decide))
  have c2 := ho.cells (g := g) rfl (j * 9 + 2) _ (F 2 (by decide))
  have c3 := ho.cells (g := g) rfl (j * 9 + 3) _ (F 3 (by decide))
  have c4 := ho.cells (g := g) rfl (j * 9 + 4) _ (F 4 (by decide))
  have c5 := ho.cells (g := g) rfl (j * 9 + 5) _ (F 5 (by decide))
  have c6 := ho.cells (g := g) rfl (j * 9 + 6) _ (F 6 (by decide))
  have c7 := ho.cells (g := g) rfl (j * 9 + 7) _ (F 7 (by decide))
  have c8 := ho.cells (g := g) rfl (j * 9 + 8) _ (F 8 (by decide))
  rw [Sc.addr_add1] at c0 c1 c2 c3 c4 c5 c6 c7 c8
  exact ⟨g, Ak, nk, ck, Av, nv, cv, rfl, hg, c0, c1, c2, c3, c4, c5, c6, c7, c8, h5.bs, h6.bs⟩
/-- a sync of a segment of numbered records -/
theorem sync_num {id n : Nat} (hi : 1 ≤ id ∧ id ≤ 16777215) (hl : Lone s (nameB id) (fileN id L n)) (hn : L.length ≤ n) (hf : FInv s q T) :
    (syncG s (segN id L n)).1 = 0 ∧ Lone (syncG s (segN id L n)).2.1 (nameB id) (FSt.new (bytesN11 id L)) ∧ (syncG s (segN id L n)).2.2 = { segN id L n with safe := n } ∧ (syncG s (segN id L n)).2.1.quota = s.quota ∧ FInv (syncG s (segN id L n)).2.1 (q + 1) (T + 60) ∧ (syncG s (segN id L n)).2.1.steps = s.steps + 1 := by
  have h1 := hl.toN.sync (mayN_name hi)
  have hp := (fileN_bytes id L n).2.1
  have hb := (fileN_bytes id L n).1
  rw [List.take_of_length_le hn] at hb
  rw [hp.synced, hb] at h1
  have hfi : FInv (stepF s (syncK (nameB id))).2 (q + 1) (T + 60) := by
    refine hf.step (Nat.le_succ _) (Nat.le_add_right _ _) (fun h0 => ?_)
    exact (h0.onF_ (nameB id) 0 (fun t ht => syncT_ok t ht)).mono (Nat.le_succ _) (by omega)
  have e1 : (segN id L n).id = id := rfl
  unfold syncG
  rw [e1, if_pos h1.1]
  exact ⟨rfl, hl.by_step h1.2, rfl, h1.2.2.2.1, hfi, h1.2.2.2.2⟩
end
end Go.Proofs.YtaicibmaogiibaaGreatDoor.Sg

