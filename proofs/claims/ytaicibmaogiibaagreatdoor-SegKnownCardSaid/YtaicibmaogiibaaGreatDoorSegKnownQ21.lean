/-
  SegKnown, part 21 of what the law's proof leans on: SgWakes, SgNum, SgLone, SgFill, SgKnP, SgRead, SgOf, SgKit, SgNil, SgLoad, SgNone, SgOfC.
-/
import Derived.Test.YtaicibmaogiibaaGreatDoorSegKnownQ20
import Derived.Lib.SmallJoins
import Derived.Test.YtaicibmaogiibaaGreatDoorRows
import Derived.WalkKit
import Derived.ProofKit
import Derived.OpenShut
import Derived.ChangeOld
import Derived.Below
import Derived.SizedLaws
import Derived.Deep.Slices
import Derived.Test.YtaicibmaogiibaaGreatDoorSegKnownQ1
import Derived.Test.YtaicibmaogiibaaGreatDoorSegKnownQ5
import Derived.Test.YtaicibmaogiibaaGreatDoorSegKnownQ3
import Derived.Test.YtaicibmaogiibaaGreatDoorSegKnownQ18
import Derived.Deep.QuietTactic
import Derived.Test.YtaicibmaogiibaaGreatDoorSegKnownQ14
import Derived.Test.YtaicibmaogiibaaGreatDoorSegKnownQ19
/- SgWakes -/

/-
  Layer 11: what the law's examples make.
-/
set_option linter.unusedVariables false
set_option linter.unusedSimpArgs false
namespace Go.Proofs.YtaicibmaogiibaaGreatDoor.Sg
open Go Go.RowKit

def wk0 : FsP := FsP.new 1000
def wr : Rc.Rec := ⟨1, 1, [97, 98, 99], [], 0, 0⟩
def wk1 : FsP := (createG wk0 1).2
def wx1 : S := ⟨1, 16, 0, 0, 0, 0⟩
theorem wc1 : (createG wk0 1).1 = 0 := by kernel_rfl
theorem wmay : Rc.mayB wr = true := by decide +kernel
theorem wapp : (appG wk1 wx1 wr).1 = 0 ∧ (appG wk1 wx1 wr).2.1 = (1, 16) ∧ (appG wk1 wx1 wr).2.2.2 = ⟨1, 44, 1, 1, 1, 0⟩ := by
  have h : (stepF wk1 (appendK (nameB 1) (Rc.runL wr))).1 = 0 := by kernel_rfl
  unfold appG
  rw [if_neg (by rw [wmay]; decide), if_neg (by decide), show wx1.id = 1 from rfl, if_pos h]
  exact ⟨rfl, rfl, rfl⟩
theorem wid1 : refId [115, 101, 103, 45, 48, 48, 48, 48, 102, 102] = (255, true) := by decide +kernel
theorem wid2 : refId [115, 101, 103, 45, 48, 48, 48, 48, 70, 70] = (0, false) := by decide +kernel
theorem wn1 : nameB 1 = ⟨#[115, 101, 103, 45, 48, 48, 48, 48, 48, 49]⟩ := by decide +kernel
theorem wn2 : nameB 255 = ⟨#[115, 101, 103, 45, 48, 48, 48, 48, 102, 102]⟩ := by decide +kernel
theorem removeK_steps (n : ByteArray) (s : FsP) : (removeK n s).2.steps = s.steps := rfl
theorem runM_inv (n : ByteArray) (id : Nat) : ∀ (k i : Nat) {s : FsP} {q T : Nat}, FInv s q T → q + k ≤ 900 → FInv (runM n id i k s).2 (q + k + 1) (T + 60 * (k + 1)) ∧ (runM n id i k s).2.steps ≤ s.steps + k + 1
  | 0, i, s, q, T, h, hq => ⟨h.mono (by omega) (by omega), by show s.steps ≤ _; omega⟩
  | k + 1, i, s, q, T, h, hq => by
    have h1 := finv_mk h (by omega) n id i
    have h2 := stepF_steps s (mkK n id i) (mkK_steps n id i)
    rw [runM]
    split
    · have := runM_inv n id k (i + 1) h1 (by omega)
      exact ⟨this.1.mono (by omega) (by omega), by omega⟩
    · split
      · exact ⟨h1.mono (by omega) (by omega), by show (stepF s (mkK n id i)).2.steps ≤ _; omega⟩
      · have h3 : FInv (stepF (stepF s (mkK n id i)).2 (removeK n)).2 (q + 1 + 1) (T + 60 + 60) := finv_step h1 (by omega) (fun t ht => (finv_remove ht (by omega) n).mono (Nat.le_refl _) (by omega))
        have h4 := stepF_steps (stepF s (mkK n id i)).2 (removeK n) (removeK_steps n)
        exact ⟨h3.mono (by omega) (by omega), by show (stepF (stepF s (mkK n id i)).2 (removeK n)).2.steps ≤ _; omega⟩
theorem createG_inv {s : FsP} {q T : Nat} (h : FInv s q T) (hq : q ≤ 800) (id : Nat) : FInv (createG s id).2 (q + 5) (T + 300) ∧ (createG s id).2.steps ≤ s.steps + 5 := by
  have := runM_inv (nameB id) id 4 0 h (by omega)
  exact ⟨this.1, this.2⟩
theorem bytes_bs {w : World} {B : Nat} (l : List UInt8) (C : Array Value) (hC : C = (bvs l).toArray) (e : TypeId) (fr : Nat × Nat) (g n : Nat) (hn : n = l.length) (hg : w.heap[g]? = some (.cells C e fr)) (hB : g < B) : Bs w B (.slice (some ⟨g, 0, none⟩) n n) l := by
  subst hC hn
  exact ⟨_, _, rfl, Nat.le_refl _, fun _ => ⟨g, 0, rfl, hB, fun j u hu => by
    rw [Nat.zero_add, cell_of_row w g j _ _ _ hg]
    simpa using hu⟩⟩
set_option maxRecDepth 100000 in
set_option maxHeartbeats 16000000 in
theorem swakes (w : World) (hx : Ctx w.heap.size w) : Calls Tryz.prog 9 #[] w fun e w' => e = .returned (.bool true) ∧ Below w.heap.size w w' := by
  have HI1 := Lib.hid (id_any ⟨#[115, 101, 103, 45, 48, 48, 48, 48, 102, 102]⟩ (by decide) w hx.std)
  rw [show (⟨#[115, 101, 103, 45, 48, 48, 48, 48, 102, 102]⟩ : ByteArray).data.toList = [115, 101, 103, 45, 48, 48, 48, 48, 102, 102] from rfl, wid1] at HI1
  have HX := Lib.hid hx
  clear hx
  go_enter Tryz.func9, Tryz.ntmps9
  go_wp2_with fail
  refine HI1.out.mono ?_
  rintro e w1 ⟨rfl, hb1⟩
  have HB1 := Lib.hid hb1
  have HI2 := Lib.hid (id_any ⟨#[115, 101, 103, 45, 48, 48, 48, 48, 70, 70]⟩ (by decide) w1 (HX.out.below hb1).std)
  rw [show (⟨#[115, 101, 103, 45, 48, 48, 48, 48, 70, 70]⟩ : ByteArray).data.toList = [115, 101, 103, 45, 48, 48, 48, 48, 70, 70] from rfl, wid2] at HI2
  clear hb1
  go_wp2_with fail
  refine HI2.out.mono ?_
  rintro e w2 ⟨rfl, hb2⟩
  have HB2 := Lib.hid (HB1.out.trans (hb2.mono HB1.out.size))
  have HN := Lib.hid (knew w2 1000 (by omega))
  clear hb2
  go_wp2_with fail
  refine HN.out.mono ?_
  rintro e w3 ⟨A, M, rfl, hm, hb3, hM⟩
  have HB3 := Lib.hid (HB2.out.trans (hb3.mono HB2.out.size))
  have HMB := Lib.hid (show ∀ i, M i → w.heap.size ≤ i from fun i hi => Nat.le_trans HB2.out.size (hM i hi))
  have HCr := Lib.hid (screate (id := 1) (HX.out.below HB3.out) HB3.out.size HMB.out (by omega) hm (FInv.new 1000) (by omega) (by omega) (by decide))
  clear hb3 hM hm
  go_wp2_with fail
  refine HCr.out.mono ?_
  rintro e w4 (⟨_, G, rfl, hG, hS⟩ | ⟨hne, _⟩)
  rotate_left
  · exact absurd wc1 hne
  obtain ⟨M2, R2, k1, k2, k3, k4, k5, k6, k7⟩ := hS
  have hb4 : Below w.heap.size w w4 := HB3.out.trans (k2.below HB3.out.size (fun i hi => hi.elim (HMB.out i) (fun e => by rw [e]; exact Nat.le_trans HB3.out.size hG)))
  have HB4 := Lib.hid hb4
  have HS : Hid (SegIn w4 G A M2 R2 wk1 wx1) := Lib.hid ⟨k1, k5, k6, k7⟩
  have HM2 := Lib.hid (show ∀ i, M2 i → w.heap.size ≤ i from fun i hi => (k3 i hi).elim (HMB.out i) (fun e => Nat.le_trans HB3.out.size e))
  have hGw := Lib.hid (show w.heap.size ≤ G from Nat.le_trans HB3.out.size hG)
  have hI := createG_inv (FInv.new 1000) (by omega) 1
  obtain ⟨W5, hW5⟩ : ∃ W5, W5 = w4.alloc (.cells #[.int .u8 97, .int .u8 98, .int .u8 99] 5 (3, 4)) := ⟨_, rfl⟩
  have hb5 : Below w4.heap.size w4 W5 := by rw [hW5]; exact (Below.refl _ _).alloc (Nat.le_refl _) _
  have hbk : W5.heap[w4.heap.size]? = some (.cells #[.int .u8 97, .int .u8 98, .int .u8 99] 5 (3, 4)) := by rw [hW5]; exact heap_alloc_new w4 _
  have h55 := bytes_bs [97, 98, 99] _ rfl 5 (3, 4) w4.heap.size 3 rfl hbk (Nat.lt_succ_self _)
  have hsz5 : W5.heap.size = w4.heap.size + 1 := by rw [hW5]; simp
  have kc := Lib.run_convert_bytes_const (P := Tryz.prog) w4 47 5 #[.int .u8 97, .int .u8 98, .int .u8 99] 3 3 Tryz.underlying47 Tryz.underlying5
  have HA := Lib.hid (sappend (x := wx1) (r := wr) (v := recV 1 1 (.slice (some ⟨w4.heap.size, 0, none⟩) 3 3) (.slice none 0 0) 0 0) (Br := w4.heap.size + 1) (s := wk1) (M := M2) (R := R2) (w := W5) (B := w.heap.size) (q := 5) (T := 300) ⟨HS.out.1.on hb5, HS.out.2.1.on hb5, HS.out.2.2⟩ (HX.out.below (HB4.out.trans (hb5.mono HB4.out.size))) (Nat.le_trans HB4.out.size hb5.size) HM2.out ⟨by decide, by decide, by decide, by decide, by decide, by decide⟩ (by decide) ⟨_, _, rfl, h55, ⟨none, 0, rfl, Nat.le_refl _, fun h => absurd rfl h⟩⟩ (by omega) (Rc.fit_may wmay) (show FInv wk1 5 300 from hI.1.mono (by omega) (by omega)) (by omega) (by have := hI.2; show wk1.steps + 1 ≤ _; have h0 : (FsP.new 1000).steps = 0 := rfl; have e : wk1 = (createG (FsP.new 1000) 1).2 := rfl; rw [e]; omega))
  rw [wapp.1, wapp.2.1, wapp.2.2] at HA
  have HB5 := Lib.hid (HB4.out.trans (hb5.mono HB4.out.size))
  clear k1 k2 k3 k4 k5 k6 k7 hb4 hI hb5 hbk h55
  go_wp2_with fail
  rw [← hW5]
  clear hW5 kc
  refine HA.out.mono ?_
  rintro e w6 ⟨rfl, hS6⟩
  obtain ⟨M3, R3, j1, j2, j3, j4, j5, j6, j7⟩ := hS6
  have HB6 := Lib.hid (HB5.out.trans (j2.below HB5.out.size (fun i hi => hi.elim (HM2.out i) (fun e => by rw [e]; exact hGw.out))))
  have HC6 := Lib.hid j5
  clear j1 j2 j3 j4 j5 j6 j7 HA
  unfold locV
  obtain ⟨W7, hW7⟩ : ∃ W7, W7 = w6.alloc (.cells #[.int .u32 1, .int .u32 16] 49) := ⟨_, rfl⟩
  have hb7 : Below w6.heap.size w6 W7 := by rw [hW7]; exact (Below.refl _ _).alloc (Nat.le_refl _) _
  have hb7' := HB6.out.trans (hb7.mono HB6.out.size)
  have hlk : W7.heap[w6.heap.size]? = some (.cells #[.int .u32 1, .int .u32 16] 49 (0, 0)) := by rw [hW7]; exact heap_alloc_new w6 _
  have HN1 := Lib.hid (name_any 1 (by omega) W7 (HX.out.below hb7').std)
  rw [wn1] at HN1
  have HL := Lib.hid hlk
  have HB7 := Lib.hid hb7'
  have HC7 := Lib.hid (HC6.out.on hb7)
  clear hb7 hb7' hlk
  go_wp2_with fail
  rw [← hW7]
  clear hW7
  refine HN1.out.mono ?_
  rintro e w8 ⟨rfl, hb8⟩
  have HB8 := Lib.hid (HB7.out.trans (hb8.mono HB7.out.size))
  have HC8 := Lib.hid (HC7.out.on hb8)
  have HL8 := Lib.hid ((hb8.block w6.heap.size (Array.getElem?_eq_some_iff.1 HL.out).1).trans HL.out)
  have HN2 := Lib.hid (name_any 255 (by omega) w8 (HX.out.below HB8.out).std)
  rw [wn2] at HN2
  clear hb8
  go_wp2_with fail
  refine HN2.out.mono ?_
  rintro e w9 ⟨rfl, hb9⟩
  have HB9 := Lib.hid (HB8.out.trans (hb9.mono HB8.out.size))
  have HL9 := (hb9.block w6.heap.size (Array.getElem?_eq_some_iff.1 HL8.out).1).trans HL8.out
  have HSe := Lib.hid (sseal (HC8.out.on hb9))
  have c0 : w9.cell? ⟨w6.heap.size, 0, none⟩ = some (.int .u32 1) := cell_of_row w9 _ 0 _ _ _ HL9
  have c1 : w9.cell? ⟨w6.heap.size, 1, none⟩ = some (.int .u32 16) := cell_of_row w9 _ 1 _ _ _ HL9
  clear hb9 HL9
  obtain ⟨gl, hgl⟩ : ∃ gl, gl = w6.heap.size := ⟨_, rfl⟩
  rw [← hgl] at c0 c1 ⊢
  clear hgl
  go_wp2_with fail
  refine HSe.out.mono ?_
  rintro e w10 ⟨rfl, hb10⟩
  have HB10 := Lib.hid (HB9.out.trans (hb10.mono HB9.out.size))
  clear hb10 c0 c1
  unfold S.seal
  have hfd : ∀ w : World, (Instr.field 39 (.agg #[.int .u32 1, .int .u32 44, .int .u32 1, .int .u64 1, .int .u64 1]) 1).run Tryz.prog w = .ok (.int .u32 44) w := fun _ => by kernel_rfl
  go_wp2_with fail
  go_ret
  exact ⟨rfl, HB10.out⟩
end Go.Proofs.YtaicibmaogiibaaGreatDoor.Sg

/- SgNum -/

/-
  Layer 11: the law's records, numbered anew.
-/
set_option linter.unusedVariables false
set_option linter.unusedSimpArgs false
namespace Go.Proofs.YtaicibmaogiibaaGreatDoor.Sg
open Go Go.RowKit

/-- a record, and its two slices -/
abbrev Tri := Rc.Rec × Value × Value
def Tri.cells (x : Tri) : List Value := [.int .u64 x.1.seq, .int .i64 x.1.kind, x.2.1, x.2.2, .int .u32 x.1.seg, .int .u32 x.1.off]
def Tri.val (x : Tri) : Value := recV x.1.seq x.1.kind x.2.1 x.2.2 x.1.seg x.1.off
structure TriOk (w : World) (B : Nat) (x : Tri) : Prop where
  key : Bs w B x.2.1 x.1.key
  val : Bs w B x.2.2 x.1.val
  fit : Rc.Fit x.1
theorem TriOk.below {w w' : World} {B C : Nat} {x : Tri} (h : TriOk w B x) (hb : Below C w w') (hC : B ≤ C) : TriOk w' B x := ⟨h.key.below hb hC, h.val.below hb hC, h.fit⟩
end Go.Proofs.YtaicibmaogiibaaGreatDoor.Sg

/- SgLone -/

/-
  Layer 11: a file system with one file, whose name is safe: what is done with it, as plain mathematics. A file to which was only appended; behind a crash it holds a beginning.
-/
set_option linter.unusedVariables false
set_option linter.unusedSimpArgs false
namespace Go.Proofs.YtaicibmaogiibaaGreatDoor.Sg
open Go Go.RowKit

/-- a file to which was only appended since it was safe -/
structure Pure (t : FSt) : Prop where
  ok : t.Ok
  len : t.bytes.length = t.safe.length + t.loose
  beh : ∀ k, k ≤ t.loose → t.behind k = t.bytes.take (t.safe.length + k)
theorem Pure.new (b : List UInt8) : Pure (FSt.new b) := ⟨FSt.new_ok b, by rw [FSt.new_bytes]; simp [FSt.new, FSt.loose, unitsL], fun k hk => by
  have h0 : k = 0 := by simp [FSt.new, FSt.loose, unitsL] at hk; exact hk
  subst h0
  rw [FSt.new_bytes]
  simp [FSt.new, FSt.behind, settleL]⟩
theorem app_safe (t : FSt) (r : List UInt8) : (t.app r).safe = t.safe := rfl
theorem Pure.app {t : FSt} (h : Pure t) {r : List UInt8} (hr : r ≠ []) : Pure (t.app r) := by
  refine ⟨FSt.app_ok h.ok hr, ?_, fun k hk => ?_⟩
  · rw [FSt.app_bytes, FSt.app_loose, List.length_append, h.len, app_safe]; omega
  · rw [FSt.app_bytes, app_safe]
    rw [FSt.app_loose] at hk
    rcases Nat.lt_or_ge t.loose k with h1 | h1
    · obtain ⟨m, rfl⟩ : ∃ m, k = t.loose + m := ⟨k - t.loose, by omega⟩
      have e1 : t.bytes.take (t.safe.length + (t.loose + m)) = t.bytes := List.take_of_length_le (by rw [h.len]; omega)
      have e2 : t.safe.length + (t.loose + m) - t.bytes.length = m := by rw [h.len]; omega
      rw [FSt.app_more h.ok r m, List.take_append, e1, e2]
    · rw [FSt.app_behind t r h1, h.beh k h1, List.take_append_of_le_length (by rw [h.len]; omega)]
theorem Pure.settled {t : FSt} (h : Pure t) {k : Nat} (hk : k ≤ t.loose) : t.settled k = FSt.new (t.bytes.take (t.safe.length + k)) := by
  unfold FSt.settled
  rw [h.beh k hk]
/-- one file -/
structure LoneN (s : FsP) (n : ByteArray) (t : FSt) : Prop where
  on : s.off = false
  fuse : s.fuse = none
  now : s.dir.now = [(n, 1)]
  file : s.file 1 = t
section
variable {s : FsP} {n : ByteArray} {t : FSt}
theorem LoneN.begin (h : LoneN s n t) : beginF s = (0, { s with steps := s.steps + 1, fuse := none }) := beginF_ok h.on h.fuse
theorem LoneN.step (h : LoneN s n t) (k : FsP → Nat × FsP) : stepF s k = k { s with steps := s.steps + 1, fuse := none } := by
  unfold stepF
  rw [h.begin, if_pos rfl]
theorem LoneN.stepped (h : LoneN s n t) : LoneN { s with steps := s.steps + 1, fuse := none } n t := ⟨h.on, rfl, h.now, h.file⟩
theorem find_one (n : ByteArray) (i : Nat) : findL [(n, i)] n = some i := by simp [findL]
theorem LoneN.node (h : LoneN s n t) (hn : mayN n = true) : nodeF s n = (0, 1) := by
  unfold nodeF
  rw [if_neg (by rw [hn]; decide), h.now, find_one]
theorem LoneN.onF (h : LoneN s n t) (hn : mayN n = true) (k : FSt → Nat × FSt) : onF s n k = ((k t).1, { s with file := upd s.file 1 (k t).2 }) := by
  unfold Go.Proofs.YtaicibmaogiibaaGreatDoor.onF
  rw [h.node hn, if_pos rfl, h.file]
theorem LoneN.used (h : LoneN s n t) : s.used = t.bytes.length := by
  unfold FsP.used usedL
  rw [h.now]
  simp [h.file]
theorem LoneN.upd (h : LoneN s n t) (t' : FSt) : LoneN { s with file := upd s.file 1 t' } n t' := ⟨h.on, h.fuse, h.now, by show Go.Proofs.YtaicibmaogiibaaGreatDoor.upd s.file 1 t' 1 = t'; exact upd_same _ _ _⟩
/-- behind a step on its file -/
def StepN (s s' : FsP) (n : ByteArray) (t : FSt) : Prop := LoneN s' n t ∧ s'.dir = s.dir ∧ s'.quota = s.quota ∧ s'.steps = s.steps + 1
theorem LoneN.append (h : LoneN s n t) (hn : mayN n = true) {b : List UInt8} (hb : b ≠ []) (hq : t.bytes.length + b.length ≤ s.quota) :
    (stepF s (appendK n b)).1 = 0 ∧ StepN s (stepF s (appendK n b)).2 n (t.app b) := by
  rw [h.step]
  have h1 := h.stepped
  unfold appendK
  rw [h1.onF hn, h1.used]
  unfold appT
  rw [if_neg (by show ¬ s.quota < _; omega), if_neg hb]
  exact ⟨rfl, h1.upd _, rfl, rfl, rfl⟩
end
/-- one file, safe as a name -/
structure Lone (s : FsP) (n : ByteArray) (t : FSt) : Prop where
  toN : LoneN s n t
  safe : s.dir.safe = [(n, 1)]
  deeds : s.dir.deeds = []
section
variable {s : FsP} {n : ByteArray} {t : FSt}
theorem Lone.of_dir {s' : FsP} {t' : FSt} (h1 : s'.off = false) (h2 : s'.fuse = none) (h3 : s'.dir.safe = [(n, 1)]) (h4 : s'.dir.deeds = []) (h5 : s'.file 1 = t') : Lone s' n t' := ⟨⟨h1, h2, by unfold PSt.now; rw [h3, h4]; rfl, h5⟩, h3, h4⟩
theorem Lone.crash (h : Lone s n t) (picks : List Int) (hp : picks.any (· < 0) = false) : (crashK s picks).1 = 0 ∧ ∃ k, k ≤ t.loose ∧ Lone (crashK s picks).2 n (t.settled k) ∧ (crashK s picks).2.quota = s.quota := by
  unfold crashK
  rw [if_neg (by rw [hp]; decide)]
  refine ⟨rfl, pickAt picks 1 % (t.loose + 1), by have := Nat.mod_lt (pickAt picks 1) (show 0 < t.loose + 1 by omega); omega, ?_, rfl⟩
  have hd : (crashD s picks).safe = [(n, 1)] := by
    unfold crashD PSt.settle
    rw [h.deeds, h.safe]
    simp [doAll]
  refine Lone.of_dir rfl rfl hd rfl ?_
  show crashT picks (inosL (crashD s picks).safe) s.file 1 = _
  rw [hd]
  unfold crashT
  have hin : (1 : Nat) ∈ inosL [(n, 1)] := by simp [inosL]
  rw [if_pos hin, h.toN.file]
  have hix : (inosL [(n, 1)]).idxOf 1 = 0 := by simp [inosL]
  rw [hix]
end
theorem mayN_name {id : Nat} (h : 1 ≤ id ∧ id ≤ 16777215) : mayN (nameB id) = true := by
  have hs : (nameB id).size = 10 := by
    show (nameL id).toArray.size = 10
    rw [List.size_toArray, nameL_len h]
  have hok : ∀ k, k < 16 → okB (dg16 k) = true := by
    have : ∀ k : Fin 16, okB (dg16 k.1) = true := by decide +kernel
    exact fun k hk => this ⟨k, hk⟩
  have hall : ∀ (k n : Nat), (hexK k n).all okB = true := by
    intro k n
    induction k with
    | zero => rfl
    | succ k ih => rw [hexK, List.all_cons, hok _ (Nat.mod_lt _ (by omega)), ih]; rfl
  unfold mayN
  rw [hs]
  have hl : (nameB id).data.toList = pre ++ hexK 6 id := by
    show (nameL id).toArray.toList = _
    unfold nameL
    rw [if_pos h]
  rw [hl, List.all_append, hall]
  decide +kernel
end Go.Proofs.YtaicibmaogiibaaGreatDoor.Sg

/- SgFill -/

/-
  Layer 11: the law's segment in which records stand.
-/
set_option linter.unusedVariables false
set_option linter.unusedSimpArgs false
namespace Go.Proofs.YtaicibmaogiibaaGreatDoor.Sg
open Go Go.RowKit

/-- records numbered 1, 2, .., that may be -/
structure Numb (L : List Rc.Rec) : Prop where
  may : ∀ r ∈ L, Rc.mayB r = true
  num : ∀ (i : Nat) r, L[i]? = some r → r.seq = ((i + 1 : Nat) : Int)
  few : L.length ≤ 30
theorem Numb.take {L : List Rc.Rec} (h : Numb L) (n : Nat) : Numb (L.take n) := by
  refine ⟨fun r hr => h.may r (List.mem_of_mem_take hr), fun i r hr => ?_, by rw [List.length_take]; have := h.few; omega⟩
  rw [List.getElem?_take] at hr
  split at hr
  · exact h.num i r hr
  · cases hr
/-- where the j-th record stands -/
def offN (L : List Rc.Rec) (j : Nat) : Nat := 16 + ((L.take j).map Rc.sizeN).sum
theorem finv_app {s : FsP} {q T : Nat} (h : FInv s q T) (n : ByteArray) (b : List UInt8) : FInv (stepF s (appendK n b)).2 q (T + b.length) :=
  h.step (Nat.le_refl _) (Nat.le_add_right _ _) (fun h0 => h0.onF_ n b.length (fun t ht => appT_ok _ _ _ t ht))
end Go.Proofs.YtaicibmaogiibaaGreatDoor.Sg

/- SgKnP -/

/-
  Layer 11: what SegKnown's calls make, one behind the other (plain mathematics).
-/
set_option linter.unusedVariables false
set_option linter.unusedSimpArgs false
namespace Go.Proofs.YtaicibmaogiibaaGreatDoor.Sg
open Go Go.RowKit

def sk0 : FsP := FsP.new 20
def sk1 : FsP := (createG sk0 5).2
def sk2 : FsP := (createG sk1 5).2
def sk3 : FsP := (createG sk2 6).2
def kr0 : Rc.Rec := ⟨1, 1, [97], [], 0, 0⟩
def kr1 : Rc.Rec := ⟨0, 1, [97], [], 0, 0⟩
def kr2 : Rc.Rec := ⟨4, 1, [97], [118], 0, 0⟩
def kr3 : Rc.Rec := ⟨4, 2, [97], [], 0, 0⟩
def sx0 : S := ⟨5, 16, 0, 0, 0, 0⟩
def sx1 : S := ⟨5, 43, 1, 4, 4, 0⟩
def sk4 : FsP := (appG sk3 sx0 kr0).2.2.1
def sk5 : FsP := { sk4 with quota := 1000 }
def sk6 : FsP := (appG sk5 sx0 kr2).2.2.1
theorem kc1 : (createG sk0 5).1 = 0 := by kernel_rfl
theorem kc2 : (createG sk1 5).1 = 9 := by kernel_rfl
theorem kc3 : (createG sk2 6).1 = 21 := by kernel_rfl
theorem kl3 : sk3.off = false := by kernel_rfl
theorem kn3 : namesL sk3.dir.now = [nameB 5] := by kernel_rfl
theorem kw5 : nameB 5 = ⟨#[115, 101, 103, 45, 48, 48, 48, 48, 48, 53]⟩ := by decide +kernel
theorem kw0 : nameB 0 = ⟨#[]⟩ := by decide +kernel
theorem kwm : nameB 16777215 = ⟨#[115, 101, 103, 45, 102, 102, 102, 102, 102, 102]⟩ := by decide +kernel
theorem km0 : Rc.mayB kr0 = true := by decide +kernel
theorem km1 : Rc.mayB kr1 = false := by decide +kernel
theorem km2 : Rc.mayB kr2 = true := by decide +kernel
theorem km3 : Rc.mayB kr3 = true := by decide +kernel
theorem ka0 : (appG sk3 sx0 kr0).1 = 21 ∧ (appG sk3 sx0 kr0).2.1 = (0, 0) ∧ (appG sk3 sx0 kr0).2.2.2 = sx0 := by
  have h : (stepF sk3 (appendK (nameB 5) (Rc.runL kr0))).1 = 21 := by kernel_rfl
  unfold appG
  rw [if_neg (by rw [km0]; decide), if_neg (by decide), show sx0.id = 5 from rfl, if_neg (by rw [h]; decide), h]
  exact ⟨rfl, rfl, rfl⟩
theorem ka1 : appG sk5 sx0 kr1 = (1, (0, 0), sk5, sx0) := by
  unfold appG
  rw [if_pos (.inl km1)]
theorem ka2 : (appG sk5 sx0 kr2).1 = 0 ∧ (appG sk5 sx0 kr2).2.1 = (5, 16) ∧ (appG sk5 sx0 kr2).2.2.2 = sx1 := by
  have h : (stepF sk5 (appendK (nameB 5) (Rc.runL kr2))).1 = 0 := by kernel_rfl
  unfold appG
  rw [if_neg (by rw [km2]; decide), if_neg (by decide), show sx0.id = 5 from rfl, if_pos h]
  exact ⟨rfl, rfl, rfl⟩
theorem ka3 (s : FsP) : appG s sx1 kr3 = (1, (0, 0), s, sx1) := by
  unfold appG
  rw [if_pos (.inr (by decide))]
theorem ka1p : (appG sk5 sx0 kr1).1 = 1 ∧ (appG sk5 sx0 kr1).2.1 = (0, 0) ∧ (appG sk5 sx0 kr1).2.2.1 = sk5 ∧ (appG sk5 sx0 kr1).2.2.2 = sx0 := by rw [ka1]; exact ⟨rfl, rfl, rfl, rfl⟩
theorem ka3p (s : FsP) : (appG s sx1 kr3).1 = 1 ∧ (appG s sx1 kr3).2.1 = (0, 0) ∧ (appG s sx1 kr3).2.2.1 = s ∧ (appG s sx1 kr3).2.2.2 = sx1 := by rw [ka3]; exact ⟨rfl, rfl, rfl, rfl⟩
theorem klone : LoneN sk6 (nameB 5) (sk6.file 1) := ⟨by kernel_rfl, by kernel_rfl, by kernel_rfl, rfl⟩
theorem kbytes : (sk6.file 1).bytes = Sc.layB 5 [kr2] := by kernel_rfl
theorem kof : Sc.of 5 (sk6.file 1).bytes = ⟨5, [⟨16, 27, kr2⟩], [], 43, 0⟩ := by
  have := Sc.of_lay 5 (by decide) [kr2] [] ⟨km2, by decide, trivial⟩ (by decide +kernel) (.inl rfl)
  rw [List.append_nil] at this
  rw [kbytes, this]
  rfl
/-- what stands of files, step by step -/
theorem kf1 : FInv sk1 5 300 ∧ sk1.steps ≤ 5 := by
  have h := createG_inv (FInv.new 20) (by omega) 5
  have h0 : (FsP.new 20).steps = 0 := rfl
  exact ⟨h.1.mono (by omega) (by omega), by show (createG (FsP.new 20) 5).2.steps ≤ 5; omega⟩
theorem kf2 : FInv sk2 10 600 ∧ sk2.steps ≤ 10 := by
  have h := createG_inv kf1.1 (by omega) 5
  have h1 := kf1.2
  exact ⟨h.1, by show (createG sk1 5).2.steps ≤ 10; omega⟩
theorem kf3 : FInv sk3 15 900 ∧ sk3.steps ≤ 15 := by
  have h := createG_inv kf2.1 (by omega) 6
  have h1 := kf2.2
  exact ⟨h.1, by show (createG sk2 6).2.steps ≤ 15; omega⟩
theorem appG_inv {s : FsP} {q T : Nat} (h : FInv s q T) (x : S) (r : Rc.Rec) : FInv (appG s x r).2.2.1 q (T + (Rc.runL r).length) ∧ (appG s x r).2.2.1.steps ≤ s.steps + 1 := by
  have h1 := finv_app h (nameB x.id) (Rc.runL r)
  have h2 := stepF_steps s (appendK (nameB x.id) (Rc.runL r)) (fun t => onF_steps _ _ _)
  unfold appG
  split
  · exact ⟨h.mono (Nat.le_refl _) (by omega), by show s.steps ≤ _; omega⟩
  · split
    · exact ⟨h.mono (Nat.le_refl _) (by omega), by show s.steps ≤ _; omega⟩
    · split
      · exact ⟨h1, h2⟩
      · exact ⟨h1, h2⟩
theorem kf4 : FInv sk4 15 1000 ∧ sk4.steps ≤ 16 := by
  have h := appG_inv kf3.1 sx0 kr0
  have h1 := kf3.2
  have h2 : (Rc.runL kr0).length ≤ 100 := by rw [Rc.runL_length]; decide
  exact ⟨h.1.mono (by omega) (by omega), by show (appG sk3 sx0 kr0).2.2.1.steps ≤ 16; omega⟩
theorem kf5 : FInv sk5 15 1000 ∧ sk5.steps ≤ 16 := ⟨kf4.1.same rfl rfl, kf4.2⟩
theorem kf6 : FInv sk6 15 1100 ∧ sk6.steps ≤ 17 := by
  have h := appG_inv kf5.1 sx0 kr2
  have h1 := kf5.2
  have h2 : (Rc.runL kr2).length ≤ 100 := by rw [Rc.runL_length]; decide
  exact ⟨h.1.mono (by omega) (by omega), by show (appG sk5 sx0 kr2).2.2.1.steps ≤ 17; omega⟩
theorem knode6 : nodeF sk6 (nameB 5) = (0, 1) := klone.node (mayN_name (by omega))
theorem khead : ((sk6.file 1).bytes.drop 0).take 16 = Hd.headL 1 5 := by
  rw [kbytes, List.drop_zero]
  unfold Sc.layB
  rw [List.take_left' (Hd.headL_length 1 5)]
theorem kpre : ([104, 111, 117, 114, 98, 107, 49] : List UInt8) <+: Hd.headL 1 5 := ⟨(Hd.headL 1 5).drop 7, by kernel_rfl⟩
theorem klen6 : (sk6.file 1).bytes.length = 43 := by rw [kbytes, Sc.layB_length]; decide +kernel
theorem kload5 : nodeF sk0 (nameB 5) = (6, 0) := by
  unfold nodeF
  rw [mayN_name (by omega)]
  rfl
theorem kseal_val : (Sc.seal_ ⟨5, [⟨16, 27, kr2⟩], [], 43, 0⟩).val = .agg #[.int .u32 5, .int .u32 43, .int .u32 1, .int .u64 4, .int .u64 4] := rfl
theorem kseal_pos : ∀ f ∈ (Sc.S.found ⟨5, [⟨16, 27, kr2⟩], [], 43, 0⟩), 0 ≤ f.r.seq := fun f hf => by
  have h : f = ⟨16, 27, kr2⟩ := by simpa using hf
  rw [h]
  decide
end Go.Proofs.YtaicibmaogiibaaGreatDoor.Sg

/- SgRead -/

/-
  Layer 11: Read.
-/
set_option linter.unusedVariables false
set_option linter.unusedSimpArgs false
namespace Go.Proofs.YtaicibmaogiibaaGreatDoor.Sg
open Go Go.RowKit

section
variable {w : World} {G A u q T B : Nat} {M R : Nat → Prop} {s : FsP} {x : S} {nm : ByteArray}
set_option maxRecDepth 100000 in
set_option maxHeartbeats 4000000 in
/-- a part of a file -/
theorem kreadat {i off cnt : Nat} (h : FsM w A u M R s) (hf : FInv s q T) (hT : T ≤ 1000000) (ho : s.off = false) (hn : nm.size ≤ maxLen) (h0 : nodeF s nm = (0, i)) (hle : off + cnt ≤ (s.file i).bytes.length) :
    Calls Tryz.prog 27 #[.pointer (some ⟨A, 0, none⟩), .string nm, .int .i64 (off : Int), .int .i64 (cnt : Int)] w fun e w' => ∃ r, e = .returned (.tuple #[r, .int .i64 0]) ∧ w'.ownsRow w.heap.size 5 1 r cnt (bvs (((s.file i).bytes.drop off).take cnt)) ∧ Below w.heap.size w w' := by
  obtain ⟨X, B, n, hv, K, g, MX, MF, ha, hn1, hn2, hn3, hn4, hn5⟩ := h.kfacts hf
  have HF := Lib.hid (kfind ha hn4 ho hn)
  have Ha := Lib.hid ha
  rw [h0] at HF
  simp only [if_true] at HF
  have hfin : findL s.dir.now nm = some i := by
    unfold nodeF at h0
    split at h0
    · cases h0
    · rename_i h1
      cases hf2 : findL s.dir.now nm with
      | none => rw [hf2] at h0; cases h0
      | some m => rw [hf2] at h0; injection h0 with _ h0; rw [h0]
  have hiK : i ∈ K := hn4 _ (findL_mem hfin)
  have HZ : Hid (∀ w1, Below w.heap.size w w1 → Calls Tryz.prog 76 #[.pointer (some ⟨g i, 0, none⟩), .int .i64 (off : Int), .int .i64 (cnt : Int)] w1 fun e w' => ∃ r, e = .returned (.tuple #[r, .int .i64 0]) ∧ w'.ownsRow w.heap.size 5 1 r cnt (bvs (((s.file i).bytes.drop off).take cnt)) ∧ Below w1.heap.size w1 w') := fun w1 hb => by
    have h9 := fread_m ((Ha.out.on hb).files i hiK) (Nat.le_trans (hn5 i hiK) (by omega)) off cnt hle
    refine h9.mono ?_
    rintro e w' ⟨r, rfl, ho, hb'⟩
    exact ⟨r, rfl, own_base ho hb.size, hb'⟩
  generalize g i = Fi at *
  generalize ((s.file i).bytes.drop off).take cnt = by_ at *
  clear h hf ha hn1 hn2 hn3 hn4 hn5 h0 hfin hle
  go_enter Tryz.func27, Tryz.ntmps27
  go_wp2_with (first
    | (go_at_call 65; refine HF.out.mono ?_; rintro e w1 ⟨rfl, hb1⟩; have HB1 := Lib.hid hb1; clear hb1)
    | (go_at_call 76; refine (HZ.out _ HB1.out).mono ?_; rintro e w2 ⟨r, rfl, ho2, hb2⟩; have HO2 := Lib.hid ho2; have HB2 := Lib.hid (HB1.out.trans (hb2.mono HB1.out.size)); clear hb2 ho2))
  go_ret2
  exact ⟨_, rfl, HO2.out, HB2.out⟩
end
end Go.Proofs.YtaicibmaogiibaaGreatDoor.Sg

/- SgOf -/

/-
  Layer 11: Of; Read with a loc that may not be.
-/
set_option linter.unusedVariables false
set_option linter.unusedSimpArgs false
namespace Go.Proofs.YtaicibmaogiibaaGreatDoor.Sg
open Go Go.RowKit

section
set_option maxRecDepth 100000 in
set_option maxHeartbeats 4000000 in
/-- a segment of which the seal is known -/
theorem sof {A : Nat} (id size many first last : Nat) (w : World) (h1 : 1 ≤ id ∧ id ≤ 16777215) (h2 : 16 ≤ size ∧ size ≤ 16777216) :
    Calls Tryz.prog 11 #[.pointer (some ⟨A, 0, none⟩), (.agg #[.int .u32 (id : Int), .int .u32 (size : Int), .int .u32 (many : Int), .int .u64 (first : Int), .int .u64 (last : Int)])] w fun e w' => ∃ G, e = .returned (.tuple #[.pointer (some ⟨G, 0, none⟩), .int .i64 0]) ∧ w.heap.size ≤ G ∧ SegC w' G A ⟨id, size, many, first, last, last⟩ ∧ Below w.heap.size w w' := by
  have hb : Below w.heap.size w (w.alloc (.cells #[.int .u32 (id : Int), .int .u32 (size : Int), .int .u32 (many : Int), .int .u64 (first : Int), .int .u64 (last : Int)] 39)) := (Below.refl _ _).alloc (Nat.le_refl _) _
  have hbk := heap_alloc_new w (.cells #[.int .u32 (id : Int), .int .u32 (size : Int), .int .u32 (many : Int), .int .u64 (first : Int), .int .u64 (last : Int)] 39)
  have hsz1 : (w.alloc (.cells #[.int .u32 (id : Int), .int .u32 (size : Int), .int .u32 (many : Int), .int .u64 (first : Int), .int .u64 (last : Int)] 39)).heap.size = w.heap.size + 1 := by simp
  obtain ⟨W, hW⟩ : ∃ W, W = w.alloc (.cells #[.int .u32 (id : Int), .int .u32 (size : Int), .int .u32 (many : Int), .int .u64 (first : Int), .int .u64 (last : Int)] 39) := ⟨_, rfl⟩
  rw [← hW] at hb hbk hsz1
  obtain ⟨bx, hbx⟩ : ∃ bx, bx = w.heap.size := ⟨_, rfl⟩
  rw [← hbx] at hbk hsz1
  have x0 : W.cell? ⟨bx, 0, none⟩ = some (.int .u32 (id : Int)) := cell_of_row W bx 0 _ _ _ hbk
  have x1 : W.cell? ⟨bx, 1, none⟩ = some (.int .u32 (size : Int)) := cell_of_row W bx 1 _ _ _ hbk
  have x2 : W.cell? ⟨bx, 2, none⟩ = some (.int .u32 (many : Int)) := cell_of_row W bx 2 _ _ _ hbk
  have x3 : W.cell? ⟨bx, 3, none⟩ = some (.int .u64 (first : Int)) := cell_of_row W bx 3 _ _ _ hbk
  have x4 : W.cell? ⟨bx, 4, none⟩ = some (.int .u64 (last : Int)) := cell_of_row W bx 4 _ _ _ hbk
  have HB := Lib.hid hb
  have HBX := Lib.hid hbx
  have HS1 := Lib.hid hsz1
  clear hb hbk hsz1
  have hr := sready (some ⟨A, 0, none⟩) id W
  rw [if_neg (by simp), if_pos h1] at hr
  have i1 : ¬ (size : Int) < 16 := by omega
  have i2 : ¬ (16777216 : Int) < (size : Int) := by omega
  clear h1 h2
  have hc := SegC.new W A ⟨id, size, many, first, last, last⟩ 88
  have HS := Lib.hid (And.intro (show w.heap.size ≤ W.heap.size from HB.out.size) hc)
  clear hc
  go_enter Tryz.func11, Tryz.ntmps11
  go_wp2_with fail
  rw [← hW, ← hbx]
  clear hW hbx
  refine hr.mono ?_
  rintro e w1 ⟨rfl, rfl⟩
  clear hr
  go_wp2_with fail
  go_ret2
  exact ⟨W.heap.size, rfl, HS.out.1, HS.out.2, HB.out.alloc HB.out.size _⟩
set_option maxRecDepth 100000 in
set_option maxHeartbeats 4000000 in
theorem sof_arg {A : Nat} (id size many first last : Nat) (w : World) (h : ¬ (1 ≤ id ∧ id ≤ 16777215 ∧ 16 ≤ size ∧ size ≤ 16777216)) :
    Calls Tryz.prog 11 #[.pointer (some ⟨A, 0, none⟩), (.agg #[.int .u32 (id : Int), .int .u32 (size : Int), .int .u32 (many : Int), .int .u64 (first : Int), .int .u64 (last : Int)])] w fun e w' => e = .returned (.tuple #[.pointer none, .int .i64 1]) ∧ Below w.heap.size w w' := by
  have hb : Below w.heap.size w (w.alloc (.cells #[.int .u32 (id : Int), .int .u32 (size : Int), .int .u32 (many : Int), .int .u64 (first : Int), .int .u64 (last : Int)] 39)) := (Below.refl _ _).alloc (Nat.le_refl _) _
  have hbk := heap_alloc_new w (.cells #[.int .u32 (id : Int), .int .u32 (size : Int), .int .u32 (many : Int), .int .u64 (first : Int), .int .u64 (last : Int)] 39)
  have hsz1 : (w.alloc (.cells #[.int .u32 (id : Int), .int .u32 (size : Int), .int .u32 (many : Int), .int .u64 (first : Int), .int .u64 (last : Int)] 39)).heap.size = w.heap.size + 1 := by simp
  obtain ⟨W, hW⟩ : ∃ W, W = w.alloc (.cells #[.int .u32 (id : Int), .int .u32 (size : Int), .int .u32 (many : Int), .int .u64 (first : Int), .int .u64 (last : Int)] 39) := ⟨_, rfl⟩
  rw [← hW] at hb hbk hsz1
  obtain ⟨bx, hbx⟩ : ∃ bx, bx = w.heap.size := ⟨_, rfl⟩
  rw [← hbx] at hbk hsz1
  have x0 : W.cell? ⟨bx, 0, none⟩ = some (.int .u32 (id : Int)) := cell_of_row W bx 0 _ _ _ hbk
  have x1 : W.cell? ⟨bx, 1, none⟩ = some (.int .u32 (size : Int)) := cell_of_row W bx 1 _ _ _ hbk
  have x2 : W.cell? ⟨bx, 2, none⟩ = some (.int .u32 (many : Int)) := cell_of_row W bx 2 _ _ _ hbk
  have x3 : W.cell? ⟨bx, 3, none⟩ = some (.int .u64 (first : Int)) := cell_of_row W bx 3 _ _ _ hbk
  have x4 : W.cell? ⟨bx, 4, none⟩ = some (.int .u64 (last : Int)) := cell_of_row W bx 4 _ _ _ hbk
  have HB := Lib.hid hb
  have HBX := Lib.hid hbx
  have HS1 := Lib.hid hsz1
  clear hb hbk hsz1
  have hr := sready (some ⟨A, 0, none⟩) id W
  rw [if_neg (by simp)] at hr
  by_cases h1 : 1 ≤ id ∧ id ≤ 16777215
  · rw [if_pos h1] at hr
    by_cases h2 : size < 16
    · have i1 : (size : Int) < 16 := by omega
      clear h h1 h2
      go_enter Tryz.func11, Tryz.ntmps11
      go_wp2_with fail
      rw [← hW, ← hbx]
      clear hW hbx
      refine hr.mono ?_
      rintro e w1 ⟨rfl, rfl⟩
      clear hr
      go_wp2_with fail
      go_ret2
      exact ⟨rfl, HB.out⟩
    · have i1 : ¬ (size : Int) < 16 := by omega
      have i2 : (16777216 : Int) < (size : Int) := by omega
      clear h h1 h2
      go_enter Tryz.func11, Tryz.ntmps11
      go_wp2_with fail
      rw [← hW, ← hbx]
      clear hW hbx
      refine hr.mono ?_
      rintro e w1 ⟨rfl, rfl⟩
      clear hr
      go_wp2_with fail
      go_ret2
      exact ⟨rfl, HB.out⟩
  · rw [if_neg h1] at hr
    clear h h1
    go_enter Tryz.func11, Tryz.ntmps11
    go_wp2_with fail
    rw [← hW, ← hbx]
    clear hW hbx
    refine hr.mono ?_
    rintro e w1 ⟨rfl, rfl⟩
    clear hr
    go_wp2_with fail
    go_ret2
    exact ⟨rfl, HB.out⟩
set_option maxRecDepth 100000 in
set_option maxHeartbeats 4000000 in
theorem sof_nil (id size many first last : Nat) (w : World) :
    Calls Tryz.prog 11 #[.pointer none, (.agg #[.int .u32 (id : Int), .int .u32 (size : Int), .int .u32 (many : Int), .int .u64 (first : Int), .int .u64 (last : Int)])] w fun e w' => e = .returned (.tuple #[.pointer none, .int .i64 2]) ∧ Below w.heap.size w w' := by
  have hb : Below w.heap.size w (w.alloc (.cells #[.int .u32 (id : Int), .int .u32 (size : Int), .int .u32 (many : Int), .int .u64 (first : Int), .int .u64 (last : Int)] 39)) := (Below.refl _ _).alloc (Nat.le_refl _) _
  have hbk := heap_alloc_new w (.cells #[.int .u32 (id : Int), .int .u32 (size : Int), .int .u32 (many : Int), .int .u64 (first : Int), .int .u64 (last : Int)] 39)
  have hsz1 : (w.alloc (.cells #[.int .u32 (id : Int), .int .u32 (size : Int), .int .u32 (many : Int), .int .u64 (first : Int), .int .u64 (last : Int)] 39)).heap.size = w.heap.size + 1 := by simp
  obtain ⟨W, hW⟩ : ∃ W, W = w.alloc (.cells #[.int .u32 (id : Int), .int .u32 (size : Int), .int .u32 (many : Int), .int .u64 (first : Int), .int .u64 (last : Int)] 39) := ⟨_, rfl⟩
  rw [← hW] at hb hbk hsz1
  obtain ⟨bx, hbx⟩ : ∃ bx, bx = w.heap.size := ⟨_, rfl⟩
  rw [← hbx] at hbk hsz1
  have x0 : W.cell? ⟨bx, 0, none⟩ = some (.int .u32 (id : Int)) := cell_of_row W bx 0 _ _ _ hbk
  have x1 : W.cell? ⟨bx, 1, none⟩ = some (.int .u32 (size : Int)) := cell_of_row W bx 1 _ _ _ hbk
  have x2 : W.cell? ⟨bx, 2, none⟩ = some (.int .u32 (many : Int)) := cell_of_row W bx 2 _ _ _ hbk
  have x3 : W.cell? ⟨bx, 3, none⟩ = some (.int .u64 (first : Int)) := cell_of_row W bx 3 _ _ _ hbk
  have x4 : W.cell? ⟨bx, 4, none⟩ = some (.int .u64 (last : Int)) := cell_of_row W bx 4 _ _ _ hbk
  have HB := Lib.hid hb
  have HBX := Lib.hid hbx
  have HS1 := Lib.hid hsz1
  clear hb hbk hsz1
  have hr := sready none id W
  rw [if_pos rfl] at hr
  go_enter Tryz.func11, Tryz.ntmps11
  go_wp2_with fail
  rw [← hW, ← hbx]
  clear hW hbx
  refine hr.mono ?_
  rintro e w1 ⟨rfl, rfl⟩
  clear hr
  go_wp2_with fail
  go_ret2
  exact ⟨rfl, HB.out⟩
set_option maxRecDepth 100000 in
set_option maxHeartbeats 4000000 in
theorem sread_nil (w : World) (i off : Nat) :
    Calls Tryz.prog 15 #[.pointer none, .agg #[.int .u32 (i : Int), .int .u32 (off : Int)]] w fun e w' => e = .returned (.tuple #[recV 0 0 (.slice none 0 0) (.slice none 0 0) 0 0, .int .i64 2]) ∧ Below w.heap.size w w' := by
  obtain ⟨W, hW⟩ : ∃ W, W = (w.alloc (.cells #[.int .u32 (i : Int), .int .u32 (off : Int)] 49)).alloc (.cells #[.int .u64 0, .int .i64 0, .slice none 0 0, .slice none 0 0, .int .u32 0, .int .u32 0] 51) := ⟨_, rfl⟩
  have hb : Below w.heap.size w W := by rw [hW]; exact ((Below.refl _ _).alloc (Nat.le_refl _) _).alloc (by simp) _
  have hi2 : W.heap[w.heap.size + 1]? = some (.cells #[.int .u64 0, .int .i64 0, .slice none 0 0, .slice none 0 0, .int .u32 0, .int .u32 0] 51 (0, 0)) := by
    rw [hW]
    have := heap_alloc_new (w.alloc (.cells #[.int .u32 (i : Int), .int .u32 (off : Int)] 49)) (.cells #[.int .u64 0, .int .i64 0, .slice none 0 0, .slice none 0 0, .int .u32 0, .int .u32 0] 51)
    rw [World.size_alloc] at this
    exact this
  have HM := Lib.hid (smade_nil W)
  obtain ⟨bx, hbx⟩ : ∃ bx, bx = w.heap.size := ⟨_, rfl⟩
  have HBX := Lib.hid hbx
  rw [← hbx] at hi2
  have HB := Lib.hid hb
  have HI2 := Lib.hid hi2
  obtain ⟨e0, e1, e2, e3, e4, e5⟩ := box6h hi2
  obtain ⟨m0, m1, m2, m3, m4, m5⟩ := box6hf hi2
  clear hb hi2
  go_enter Tryz.func15, Tryz.ntmps15
  go_wp2_with fail
  rw [← hW, ← hbx]
  clear hW hbx
  refine HM.out.mono ?_
  rintro e w1 ⟨rfl, rfl⟩
  go_wp2_with fail
  have hz := (Go.Joins.block_setCell (i := 5) (Go.Joins.block_setCell (i := 4) (Go.Joins.block_setCell (i := 3) (Go.Joins.block_setCell (i := 2) (Go.Joins.block_setCell (i := 1) (Go.Joins.block_setCell (i := 0) HI2.out (.int .u64 0)) (.int .i64 0)) (.slice none 0 0)) (.slice none 0 0)) (.int .u32 0)) (.int .u32 0))
  have hz : _ = some (Obj.cells #[.int .u64 0, .int .i64 0, .slice none 0 0, .slice none 0 0, .int .u32 0, .int .u32 0] 51 (0, 0)) := hz
  obtain ⟨z0, z1, z2, z3, z4, z5⟩ := box6h hz
  have hbs : Below w.heap.size W _ := below6 (B := w.heap.size) (g := bx + 1) (Below.refl w.heap.size W) (by rw [HBX.out]; omega) (.int .u64 0) (.int .i64 0) (.slice none 0 0) (.slice none 0 0) (.int .u32 0) (.int .u32 0)
  exact bodyPost_ret (v := .tuple #[recV 0 0 (.slice none 0 0) (.slice none 0 0) 0 0, .int .i64 2]) (by simp [results, Tryz.results15, go_sem, recV, z0, z1, z2, z3, z4, z5]) rfl ⟨rfl, HB.out.trans hbs⟩
set_option maxRecDepth 100000 in
set_option maxHeartbeats 4000000 in
theorem ssync_nil (w : World) : Calls Tryz.prog 17 #[.pointer none] w fun e w' => e = .returned (.int .i64 2) ∧ w = w' := by
  have HM := Lib.hid (smade_nil w)
  go_enter Tryz.func17, Tryz.ntmps17
  go_wp2_with fail
  refine HM.out.mono ?_
  rintro e w1 ⟨rfl, rfl⟩
  go_wp2_with fail
  go_ret
  exact ⟨rfl, rfl⟩
set_option maxRecDepth 100000 in
set_option maxHeartbeats 4000000 in
theorem sappend_nil (w : World) (q k : Int) (kv vv : Value) (sg off : Int) :
    Calls Tryz.prog 19 #[.pointer none, recV q k kv vv sg off] w fun e w' => e = .returned (.tuple #[.agg #[.int .u32 0, .int .u32 0], .int .i64 2]) ∧ Below w.heap.size w w' := by
  obtain ⟨W, hW⟩ : ∃ W, W = (w.alloc (.cells #[.int .u64 q, .int .i64 k, kv, vv, .int .u32 sg, .int .u32 off] 51)).alloc (.cells #[.int .u32 0, .int .u32 0] 49) := ⟨_, rfl⟩
  have hb : Below w.heap.size w W := by rw [hW]; exact ((Below.refl _ _).alloc (Nat.le_refl _) _).alloc (by simp) _
  have hl1 : W.heap[w.heap.size + 1]? = some (.cells #[.int .u32 0, .int .u32 0] 49 (0, 0)) := by
    rw [hW]
    have := heap_alloc_new (w.alloc (.cells #[.int .u64 q, .int .i64 k, kv, vv, .int .u32 sg, .int .u32 off] 51)) (.cells #[.int .u32 0, .int .u32 0] 49)
    rw [World.size_alloc] at this
    exact this
  have HM := Lib.hid (smade_nil W)
  obtain ⟨bx, hbx⟩ : ∃ bx, bx = w.heap.size := ⟨_, rfl⟩
  have HBX := Lib.hid hbx
  rw [← hbx] at hl1
  have l0 : W.cell? ⟨bx + 1, 0, none⟩ = some (.int .u32 0) := cell_of_row W (bx + 1) 0 _ _ _ hl1
  have l1 : W.cell? ⟨bx + 1, 1, none⟩ = some (.int .u32 0) := cell_of_row W (bx + 1) 1 _ _ _ hl1
  have m0 : W.frozen? ⟨bx + 1, 0, none⟩ = false := by simp [World.frozen?, hl1]
  have m1 : W.frozen? ⟨bx + 1, 1, none⟩ = false := by simp [World.frozen?, hl1]
  have HB := Lib.hid hb
  clear hb hl1
  unfold recV
  go_enter Tryz.func19, Tryz.ntmps19
  go_wp2_with fail
  rw [← hW, ← hbx]
  clear hW hbx
  refine HM.out.mono ?_
  rintro e w1 ⟨rfl, rfl⟩
  go_wp2_with fail
  have g2 := get2n l0 l1 (.int .u32 0) (.int .u32 0)
  have g3 := World.cell?_setCell_same W ⟨bx + 1, 0, none⟩ (.int .u32 0) l0
  have hf := fin2 (l := bx + 1) HB.out 0 (by rw [HBX.out]; omega) (.int .u32 0) (.int .u32 0)
  exact bodyPost_ret (v := .tuple #[.agg #[.int .u32 0, .int .u32 0], .int .i64 2]) (by simp [results, Tryz.results19, go_sem, g2.1, g2.2, g3]) rfl ⟨rfl, hf⟩
end
end Go.Proofs.YtaicibmaogiibaaGreatDoor.Sg

/- SgKit -/

/-
  Layer 11: numbered records in the call's own row are a slice of records; the file system's Quota and Flip.
-/
set_option linter.unusedVariables false
set_option linter.unusedSimpArgs false
namespace Go.Proofs.YtaicibmaogiibaaGreatDoor.Sg
open Go Go.RowKit

theorem addr_add0 (g k : Nat) : (⟨g, 0, none⟩ : Addr).add k = ⟨g, k, none⟩ := by
  unfold Addr.add
  split
  · rename_i h; rw [h]
  · simp
section
variable {w : World} {A u q T n i : Nat} {M R : Nat → Prop} {s : FsP} {nm : ByteArray}
theorem FsC.set2 {X B qu st : Nat} {on : Bool} {hv : Value} (h : FsC w A X B qu u st on hv) (k : Nat) : FsC (w.setCell ⟨A, 2, none⟩ (.int .i64 (k : Int))) A X B k u st on hv := by
  obtain ⟨c0, c1, c2, c3, c4, c5, c6, f0, f1, f2, f3, f4, f5, f6⟩ := h
  refine ⟨?_, ?_, World.cell?_setCell_same _ _ _ c2, ?_, ?_, ?_, ?_, by rw [World.frozen?_setCell]; assumption, by rw [World.frozen?_setCell]; assumption, by rw [World.frozen?_setCell]; assumption, by rw [World.frozen?_setCell]; assumption, by rw [World.frozen?_setCell]; assumption, by rw [World.frozen?_setCell]; assumption, by rw [World.frozen?_setCell]; assumption⟩ <;>
    (rw [World.cell?_setCell_other _ _ _ _ (by intro e; injection e with e1 e2; omega)]; assumption)
set_option maxRecDepth 100000 in
set_option maxHeartbeats 4000000 in
theorem kquota (h : FsM w A u M R s) (k : Nat) (hk : k ≤ 1073741824) :
    Calls Tryz.prog 26 #[.pointer (some ⟨A, 0, none⟩), .int .i64 (k : Int)] w fun e w' => e = .returned (.int .i64 0) ∧ FsMut w w' A u M R { s with quota := k } := by
  obtain ⟨X, B, m, hv, K, g, MX, MF, ha, hn1, hn2, hn3⟩ := h
  have HM := Lib.hid (kmade ha.cells)
  have hq := kmayq w (k : Int)
  rw [decide_eq_true (by omega)] at hq
  have HQ := Lib.hid hq
  have c2 := ha.cells.c2
  have f2 := ha.cells.f2
  have HR : Hid (FsMut w (w.setCell ⟨A, 2, none⟩ (.int .i64 (k : Int))) A u M R { s with quota := k }) := Lib.hid ⟨M, R, ⟨X, B, m, hv, K, g, MX, MF, ha.cell_set 2 _ (s' := { s with quota := k }) (FsC.set2 ha.cells k) rfl rfl ha.hold ha.hvf, hn1, hn2, hn3⟩, (chg_set w A 2 _).mono (fun i e => e ▸ ha.mA), fun _ => .inl, fun _ => .inl⟩
  clear ha hn1 hn2 hn3 hq
  go_enter Tryz.func26, Tryz.ntmps26
  go_wp2_with (first
    | (go_at_call 47; refine HM.out.mono ?_; rintro e w1 ⟨rfl, rfl⟩)
    | (go_at_call 32; refine HQ.out.mono ?_; rintro e w2 ⟨rfl, rfl⟩))
  go_ret
  exact ⟨rfl, HR.out⟩
end
end Go.Proofs.YtaicibmaogiibaaGreatDoor.Sg

/- SgNil -/

/-
  Layer 11: Create and Load where there can be no segment.
-/
set_option linter.unusedVariables false
set_option linter.unusedSimpArgs false
namespace Go.Proofs.YtaicibmaogiibaaGreatDoor.Sg
open Go Go.RowKit

section
set_option maxRecDepth 100000 in
set_option maxHeartbeats 4000000 in
theorem screate_no (A : Option Addr) (id : Nat) (c : Nat) (w : World) (hc : c = (if A = none then 2 else if 1 ≤ id ∧ id ≤ 16777215 then 0 else 1)) (h0 : c ≠ 0) :
    Calls Tryz.prog 24 #[.pointer A, .int .u32 (id : Int)] w fun e w' => e = .returned (.tuple #[.pointer none, .int .i64 (c : Int)]) ∧ Below w.heap.size w w' := by
  obtain ⟨bx, hbx⟩ : ∃ bx, w.heap.size = bx := ⟨_, rfl⟩
  obtain ⟨W, hW⟩ : ∃ W, W = (w.alloc (.cells #[.pointer A] 26)).alloc (.cells #[.int .u32 (id : Int)] 23) := ⟨_, rfl⟩
  have hb : Below w.heap.size w W := by rw [hW]; exact ((Below.refl _ _).alloc (Nat.le_refl _) _).alloc (by simp) _
  have c0 : W.cell? ⟨bx, 0, none⟩ = some (.pointer A) := by rw [hW, ← hbx]; exact cell_al (box_new _ _ _ _ rfl) _
  have c1 : W.cell? ⟨bx + 1, 0, none⟩ = some (.int .u32 (id : Int)) := by rw [hW, ← hbx]; exact box_new _ _ _ _ (by simp)
  have hr := sready A id W
  rw [← hc] at hr
  have HB := Lib.hid hb
  have i0 : ¬ (c : Int) = 0 := by omega
  clear hb hc h0
  go_enter Tryz.func24, Tryz.ntmps24
  go_wp2_with fail
  rw [← hW]
  refine hr.mono ?_
  rintro e w1 ⟨rfl, rfl⟩
  clear hr hW
  go_wp2_with fail
  go_ret2
  exact ⟨rfl, HB.out⟩
set_option maxRecDepth 100000 in
set_option maxHeartbeats 4000000 in
theorem sload_no (A : Option Addr) (id : Nat) (c : Nat) (w : World) (hc : c = (if A = none then 2 else if 1 ≤ id ∧ id ≤ 16777215 then 0 else 1)) (h0 : c ≠ 0) :
    Calls Tryz.prog 13 #[.pointer A, .int .u32 (id : Int)] w fun e w' => e = .returned (.tuple #[.agg #[.int .u32 0, .slice none 0 0, .slice none 0 0, .int .i64 0, .int .i64 0], .int .i64 (c : Int)]) ∧ Below w.heap.size w w' := by
  obtain ⟨bx, hbx⟩ : ∃ bx, w.heap.size = bx := ⟨_, rfl⟩
  obtain ⟨W, hW⟩ : ∃ W, w.alloc (.cells #[.int .u32 0, .slice none 0 0, .slice none 0 0, .int .i64 0, .int .i64 0] 44) = W := ⟨_, rfl⟩
  have hb : Below w.heap.size w W := by rw [← hW]; exact (Below.refl _ _).alloc (Nat.le_refl _) _
  have hk : W.heap[bx]? = some (.cells #[.int .u32 0, .slice none 0 0, .slice none 0 0, .int .i64 0, .int .i64 0] 44 (0, 0)) := by rw [← hW, ← hbx]; exact heap_alloc_new w _
  have y0 : W.cell? ⟨bx, 0, none⟩ = some (.int .u32 0) := cell_of_row W bx 0 _ _ _ hk
  have y1 : W.cell? ⟨bx, 1, none⟩ = some (.slice none 0 0) := cell_of_row W bx 1 _ _ _ hk
  have y2 : W.cell? ⟨bx, 2, none⟩ = some (.slice none 0 0) := cell_of_row W bx 2 _ _ _ hk
  have y3 : W.cell? ⟨bx, 3, none⟩ = some (.int .i64 0) := cell_of_row W bx 3 _ _ _ hk
  have y4 : W.cell? ⟨bx, 4, none⟩ = some (.int .i64 0) := cell_of_row W bx 4 _ _ _ hk
  have f0 : W.frozen? ⟨bx, 0, none⟩ = false := by simp [World.frozen?, hk]
  have f1 : W.frozen? ⟨bx, 1, none⟩ = false := by simp [World.frozen?, hk]
  have f2 : W.frozen? ⟨bx, 2, none⟩ = false := by simp [World.frozen?, hk]
  have f3 : W.frozen? ⟨bx, 3, none⟩ = false := by simp [World.frozen?, hk]
  have f4 : W.frozen? ⟨bx, 4, none⟩ = false := by simp [World.frozen?, hk]
  have hr := sready A id W
  rw [← hc] at hr
  have HB := Lib.hid hb
  have HK := Lib.hid hk
  have HBX := Lib.hid hbx
  have i0 : ¬ (c : Int) = 0 := by omega
  clear hb hk hc h0
  go_enter Tryz.func13, Tryz.ntmps13
  go_wp2_with fail
  refine hr.mono ?_
  rintro e w1 ⟨rfl, rfl⟩
  clear hr
  go_wp2_with fail
  have h9 := Go.Joins.block_setCell (i := 4) (Go.Joins.block_setCell (i := 3) (Go.Joins.block_setCell (i := 2) (Go.Joins.block_setCell (i := 1) (Go.Joins.block_setCell (i := 0) HK.out (.int .u32 0)) (.slice none 0 0)) (.slice none 0 0)) (.int .i64 0)) (.int .i64 0)
  have h9 : _ = some (Obj.cells #[.int .u32 0, .slice none 0 0, .slice none 0 0, .int .i64 0, .int .i64 0] 44 (0, 0)) := h9
  have z0 := cell_of_row _ bx 0 _ _ _ h9
  have z1 := cell_of_row _ bx 1 _ _ _ h9
  have z2 := cell_of_row _ bx 2 _ _ _ h9
  have z3 := cell_of_row _ bx 3 _ _ _ h9
  have z4 := cell_of_row _ bx 4 _ _ _ h9
  refine bodyPost_ret (v := .tuple #[.agg #[.int .u32 0, .slice none 0 0, .slice none 0 0, .int .i64 0, .int .i64 0], .int .i64 (c : Int)]) (by simp [results, Tryz.results13, go_sem, z0, z1, z2, z3, z4]) rfl ⟨rfl, ?_⟩
  have hc1 := ((((chg_set W bx 0 (.int .u32 0)).setCell (p := ⟨bx, 1, none⟩) rfl (.slice none 0 0)).setCell (p := ⟨bx, 2, none⟩) rfl (.slice none 0 0)).setCell (p := ⟨bx, 3, none⟩) rfl (.int .i64 0)).setCell (p := ⟨bx, 4, none⟩) rfl (.int .i64 0)
  exact HB.out.trans (hc1.below HB.out.size (fun i e => by have := HBX.out; omega))
end
end Go.Proofs.YtaicibmaogiibaaGreatDoor.Sg

/- SgLoad -/

/-
  Layer 11: Load, from what a scan of its bytes tells.
-/
set_option linter.unusedVariables false
set_option linter.unusedSimpArgs false
namespace Go.Proofs.YtaicibmaogiibaaGreatDoor.Sg
open Go Go.RowKit

theorem FqOk_base {w : World} {lo lo' : Nat} {x : Sc.Fq} (h : Sc.FqOk w lo x) (hl : lo' ≤ lo) : Sc.FqOk w lo' x := ⟨h.key.mono hl, h.val.mono hl⟩
/-- what package scan's Of has to keep -/
def OfC : Prop := ∀ (w : World) (v : Value) (b : List UInt8) (id : Nat), Bs w w.heap.size v b → b.length ≤ 100000 → id < 4294967296 → RTab w →
  Calls Tryz.prog 29 #[.int .u32 (id : Int), v] w fun e w' => ∃ rv, e = .returned rv ∧ Sc.ScanV 56 w' w.heap.size rv (Sc.of id b) ∧ Below w.heap.size w w'
section
variable {w : World} {A u q T B id : Nat} {M R : Nat → Prop} {s : FsP} {t : FSt}
set_option maxRecDepth 100000 in
set_option maxHeartbeats 4000000 in
theorem sload (hof : OfC) (hx : Ctx B w) (hB : B ≤ w.heap.size) (hi : 1 ≤ id ∧ id ≤ 16777215) (h : FsM w A u M R s) (hf : FInv s q T) (hT : T ≤ 1000000) (hl : LoneN s (nameB id) t) (hmy : mayN (nameB id) = true) (hlen : t.bytes.length ≤ 100000) :
    Calls Tryz.prog 13 #[.pointer (some ⟨A, 0, none⟩), .int .u32 (id : Int)] w fun e w' => ∃ rv, e = .returned (.tuple #[rv, .int .i64 0]) ∧ Sc.ScanV 56 w' w.heap.size rv (Sc.of id t.bytes) ∧ Below w.heap.size w w' := by
  obtain ⟨nm, hnm⟩ : ∃ nm, nm = nameB id := ⟨_, rfl⟩
  have hnsz : nm.size ≤ maxLen := by rw [hnm]; have := nameB_size id; unfold maxLen; omega
  obtain ⟨bx, hbx⟩ : ∃ bx, w.heap.size = bx := ⟨_, rfl⟩
  obtain ⟨W, hW⟩ : ∃ W, w.alloc (.cells #[.int .u32 0, .slice none 0 0, .slice none 0 0, .int .i64 0, .int .i64 0] 44) = W := ⟨_, rfl⟩
  have hb : Below w.heap.size w W := by rw [← hW]; exact (Below.refl _ _).alloc (Nat.le_refl _) _
  have hk : W.heap[bx]? = some (.cells #[.int .u32 0, .slice none 0 0, .slice none 0 0, .int .i64 0, .int .i64 0] 44 (0, 0)) := by rw [← hW, ← hbx]; exact heap_alloc_new w _
  have hr := sready (some ⟨A, 0, none⟩) id W
  rw [if_neg (by simp), if_pos hi] at hr
  obtain ⟨L, hL⟩ : ∃ L, L = t.bytes.length := ⟨_, rfl⟩
  obtain ⟨b, hbb⟩ : ∃ b, b = t.bytes := ⟨_, rfl⟩
  have h0 : nodeF s nm = (0, 1) := by rw [hnm]; exact hl.node hmy
  have HNm : Hid (∀ V, Below w.heap.size w V → Calls Tryz.prog 22 #[.int .u32 (id : Int)] V fun e w' => e = .returned (.string nm) ∧ Below V.heap.size V w') := Lib.hid fun V hb => by rw [hnm]; exact name_any id (by omega) V (hx.below (hb.mono hB)).std
  have HSz : Hid (∀ V, Below w.heap.size w V → Calls Tryz.prog 38 #[.pointer (some ⟨A, 0, none⟩), .string nm] V fun e w' => e = .returned (.tuple #[.int .i64 (L : Int), .int .i64 0]) ∧ Below V.heap.size V w') := Lib.hid fun V hb => by
    have h1 := ksize (nm := nm) (h.on hb) hf hT hl.on hnsz
    rw [h0] at h1
    simp only [if_true] at h1
    rw [hl.file, ← hL] at h1
    exact h1
  have HRd : Hid (∀ V, Below w.heap.size w V → Calls Tryz.prog 27 #[.pointer (some ⟨A, 0, none⟩), .string nm, .int .i64 0, .int .i64 (L : Int)] V fun e w' => ∃ r, e = .returned (.tuple #[r, .int .i64 0]) ∧ w'.ownsRow V.heap.size 5 1 r L (bvs b) ∧ Below V.heap.size V w') := Lib.hid fun V hb => by
    have h1 := kread (nm := nm) (L := L) (h.on hb) hf hT hl.on hnsz h0 (by rw [hl.file, hL])
    rw [hl.file, ← hbb] at h1
    exact h1
  have HB := Lib.hid hb
  have HK := Lib.hid hk
  have HBX := Lib.hid hbx
  have HOF := Lib.hid hof
  have HTab := Lib.hid (fun (V : World) (hb : Below w.heap.size w V) => (hx.below (hb.mono hB)).tab)
  have HLb := Lib.hid (show L = b.length ∧ b.length ≤ 100000 by rw [hL, hbb]; exact ⟨rfl, hlen⟩)
  have HI := Lib.hid (show id < 4294967296 by omega)
  rw [← hbb]
  clear hb hk h hf hl hmy hlen hL hbb h0 hnm hnsz hx hB hof hi
  go_enter Tryz.func13, Tryz.ntmps13
  go_wp2_with fail
  refine hr.mono ?_
  rintro e w1 ⟨rfl, rfl⟩
  clear hr hW
  go_wp2_with fail
  refine (HNm.out _ HB.out).mono ?_
  rintro e w1 ⟨rfl, hb1⟩
  have HB1 := Lib.hid (HB.out.trans (hb1.mono HB.out.size))
  have HK1 := Lib.hid ((hb1.block bx (Array.getElem?_eq_some_iff.1 HK.out).1).trans HK.out)
  clear hb1 HB HK
  go_wp2_with fail
  refine (HSz.out _ HB1.out).mono ?_
  rintro e w2 ⟨rfl, hb2⟩
  have HB2 := Lib.hid (HB1.out.trans (hb2.mono HB1.out.size))
  have HK2 := Lib.hid ((hb2.block bx (Array.getElem?_eq_some_iff.1 HK1.out).1).trans HK1.out)
  clear hb2 HB1 HK1
  go_wp2_with fail
  refine (HNm.out _ HB2.out).mono ?_
  rintro e w3 ⟨rfl, hb3⟩
  have HB3 := Lib.hid (HB2.out.trans (hb3.mono HB2.out.size))
  have HK3 := Lib.hid ((hb3.block bx (Array.getElem?_eq_some_iff.1 HK2.out).1).trans HK2.out)
  clear hb3 HB2 HK2
  go_wp2_with fail
  refine (HRd.out _ HB3.out).mono ?_
  rintro e w4 ⟨r, rfl, ho4, hb4⟩
  have HB4 := Lib.hid (HB3.out.trans (hb4.mono HB3.out.size))
  have HK4 := Lib.hid ((hb4.block bx (Array.getElem?_eq_some_iff.1 HK3.out).1).trans HK3.out)
  have HO4 := Lib.hid ho4
  have HB3s := Lib.hid HB4.out.size
  clear ho4 hb4 HB3 HK3
  have hbs : Bs w4 w4.heap.size r b := by
    have h1 := HO4.out
    obtain ⟨A', c', rfl, h2, _, _⟩ := own_slice h1
    refine ⟨A', c', by rw [HLb.out.1], by rw [← HLb.out.1]; exact h2, Rd.of_own h1⟩
  have HSc := Lib.hid (HOF.out w4 r b id hbs HLb.out.2 HI.out (HTab.out _ HB4.out))
  have y0 : w4.cell? ⟨bx, 0, none⟩ = some (.int .u32 0) := cell_of_row w4 bx 0 _ _ _ HK4.out
  have y1 : w4.cell? ⟨bx, 1, none⟩ = some (.slice none 0 0) := cell_of_row w4 bx 1 _ _ _ HK4.out
  clear hbs y0 y1
  go_wp2_with fail
  refine HSc.out.mono ?_
  rintro e w5 ⟨rv, rfl, hsc, hb5⟩
  have HB5 := Lib.hid (HB4.out.trans (hb5.mono HB4.out.size))
  have HK5 := Lib.hid ((hb5.block bx (Array.getElem?_eq_some_iff.1 HK4.out).1).trans HK4.out)
  clear hb5 HB4 HK4 HSc HO4
  obtain ⟨sc, hsd⟩ : ∃ sc, sc = Sc.of id b := ⟨_, rfl⟩
  rw [← hsd] at hsc
  have HSD := Lib.hid hsd
  obtain ⟨vf, vp, q, rfl, h1, h2, h3, h4⟩ := hsc
  obtain ⟨Af, cf, rfl, _, _, _⟩ := own_slice h2
  obtain ⟨Ap, cp, rfl, _, _, _⟩ := own_slice h4
  have HV := Lib.hid (And.intro h1 (And.intro h2 (And.intro h3 h4)))
  obtain ⟨nf, hnf⟩ : ∃ nf, q.length = nf := ⟨_, rfl⟩
  obtain ⟨np, hnp⟩ : ∃ np, sc.passed.length = np := ⟨_, rfl⟩
  obtain ⟨z1, hz1⟩ : ∃ z1, sc.id = z1 := ⟨_, rfl⟩
  obtain ⟨z2, hz2⟩ : ∃ z2, sc.stop = z2 := ⟨_, rfl⟩
  obtain ⟨z3, hz3⟩ : ∃ z3, sc.why = z3 := ⟨_, rfl⟩
  rw [hnf, hnp, hz1, hz2, hz3]
  have HZ := Lib.hid (And.intro hnf (And.intro hnp (And.intro hz1 (And.intro hz2 hz3))))
  clear h1 h2 h3 h4 hsd hnf hnp hz1 hz2 hz3
  have y0 : w5.cell? ⟨bx, 0, none⟩ = some (.int .u32 0) := cell_of_row w5 bx 0 _ _ _ HK5.out
  have y1 : w5.cell? ⟨bx, 1, none⟩ = some (.slice none 0 0) := cell_of_row w5 bx 1 _ _ _ HK5.out
  have y2 : w5.cell? ⟨bx, 2, none⟩ = some (.slice none 0 0) := cell_of_row w5 bx 2 _ _ _ HK5.out
  have y3 : w5.cell? ⟨bx, 3, none⟩ = some (.int .i64 0) := cell_of_row w5 bx 3 _ _ _ HK5.out
  have y4 : w5.cell? ⟨bx, 4, none⟩ = some (.int .i64 0) := cell_of_row w5 bx 4 _ _ _ HK5.out
  have f0 : w5.frozen? ⟨bx, 0, none⟩ = false := by simp [World.frozen?, HK5.out]
  have f1 : w5.frozen? ⟨bx, 1, none⟩ = false := by simp [World.frozen?, HK5.out]
  have f2 : w5.frozen? ⟨bx, 2, none⟩ = false := by simp [World.frozen?, HK5.out]
  have f3 : w5.frozen? ⟨bx, 3, none⟩ = false := by simp [World.frozen?, HK5.out]
  have f4 : w5.frozen? ⟨bx, 4, none⟩ = false := by simp [World.frozen?, HK5.out]
  go_wp2_with fail
  have h9 := Go.Joins.block_setCell (i := 4) (Go.Joins.block_setCell (i := 3) (Go.Joins.block_setCell (i := 2) (Go.Joins.block_setCell (i := 1) (Go.Joins.block_setCell (i := 0) HK5.out (.int .u32 (z1 : Int))) (.slice Af nf cf)) (.slice Ap np cp)) (.int .i64 (z2 : Int))) (.int .i64 (z3 : Int))
  have h9 : _ = some (Obj.cells #[.int .u32 (z1 : Int), .slice Af nf cf, .slice Ap np cp, .int .i64 (z2 : Int), .int .i64 (z3 : Int)] 44 (0, 0)) := h9
  have u0 := cell_of_row _ bx 0 _ _ _ h9
  have u1 := cell_of_row _ bx 1 _ _ _ h9
  have u2 := cell_of_row _ bx 2 _ _ _ h9
  have u3 := cell_of_row _ bx 3 _ _ _ h9
  have u4 := cell_of_row _ bx 4 _ _ _ h9
  have hc1 := ((((chg_set w5 bx 0 (.int .u32 (z1 : Int))).setCell (p := ⟨bx, 1, none⟩) rfl (.slice Af nf cf)).setCell (p := ⟨bx, 2, none⟩) rfl (.slice Ap np cp)).setCell (p := ⟨bx, 3, none⟩) rfl (.int .i64 (z2 : Int))).setCell (p := ⟨bx, 4, none⟩) rfl (.int .i64 (z3 : Int))
  have hty : Sc.Typed w5 44 (fun i => i = bx) := fun g e => by obtain rfl : g = bx := e; exact ⟨_, _, HK5.out⟩
  obtain ⟨h1, h2, h3, h4⟩ := HV.out
  obtain ⟨rfl, rfl, rfl, rfl, rfl⟩ := HZ.out
  have hlo : w.heap.size ≤ w4.heap.size := HB3s.out
  obtain rfl := HSD.out
  refine bodyPost_ret (v := .tuple #[.agg #[.int .u32 ((Sc.of id b).id : Int), .slice Af q.length cf, .slice Ap (Sc.of id b).passed.length cp, .int .i64 ((Sc.of id b).stop : Int), .int .i64 ((Sc.of id b).why : Int)], .int .i64 0]) (by simp [results, Tryz.results13, go_sem, u0, u1, u2, u3, u4]) rfl ⟨_, rfl, ⟨_, _, q, rfl, h1, hty.own (by decide) hc1 (own_base h2 hlo), fun x hx => (FqOk_base (h3 x hx) hlo).apart hty (by decide) hc1, hty.own (by decide) hc1 (own_base h4 hlo)⟩, ?_⟩
  exact HB5.out.trans (hc1.below HB5.out.size (fun i e => by have := HBX.out; omega))
end
end Go.Proofs.YtaicibmaogiibaaGreatDoor.Sg

/- SgNone -/

/-
  Layer 11: Load of a file that is not there.
-/
set_option linter.unusedVariables false
set_option linter.unusedSimpArgs false
namespace Go.Proofs.YtaicibmaogiibaaGreatDoor.Sg
open Go Go.RowKit

section
variable {w : World} {A u q T B id : Nat} {M R : Nat → Prop} {s : FsP} {nm : ByteArray}
set_option maxRecDepth 100000 in
set_option maxHeartbeats 4000000 in
theorem kreadat_no {c i : Nat} (h : FsM w A u M R s) (hf : FInv s q T) (ho : s.off = false) (hn : nm.size ≤ maxLen) (h0 : nodeF s nm = (c, i)) (hc : c ≠ 0) (x y : Int) :
    Calls Tryz.prog 27 #[.pointer (some ⟨A, 0, none⟩), .string nm, .int .i64 x, .int .i64 y] w fun e w' => e = .returned (.tuple #[.slice none 0 0, .int .i64 (c : Int)]) ∧ Below w.heap.size w w' := by
  obtain ⟨X, B, n, hv, K, g, MX, MF, ha, hn1, hn2, hn3, hn4, hn5⟩ := h.kfacts hf
  have HF := Lib.hid (kfind ha hn4 ho hn)
  rw [h0] at HF
  simp only [if_neg hc] at HF
  have i0 : ¬ (c : Int) = 0 := by omega
  clear h hf ha hn1 hn2 hn3 hn4 hn5 h0 hc
  go_enter Tryz.func27, Tryz.ntmps27
  go_wp2_with (go_at_call 65; refine HF.out.mono ?_; rintro e w1 ⟨rfl, hb1⟩; have HB1 := Lib.hid hb1; clear hb1)
  go_ret2
  exact ⟨rfl, HB1.out⟩
set_option maxRecDepth 100000 in
set_option maxHeartbeats 4000000 in
theorem sload_none {c i : Nat} (hx : Ctx B w) (hB : B ≤ w.heap.size) (hi : 1 ≤ id ∧ id ≤ 16777215) (h : FsM w A u M R s) (hf : FInv s q T) (hT : T ≤ 1000000) (ho : s.off = false) (h0 : nodeF s (nameB id) = (c, i)) (hc : c ≠ 0) :
    Calls Tryz.prog 13 #[.pointer (some ⟨A, 0, none⟩), .int .u32 (id : Int)] w fun e w' => e = .returned (.tuple #[.agg #[.int .u32 0, .slice none 0 0, .slice none 0 0, .int .i64 0, .int .i64 0], .int .i64 (c : Int)]) ∧ Below w.heap.size w w' := by
  obtain ⟨nm, hnm⟩ : ∃ nm, nm = nameB id := ⟨_, rfl⟩
  have hnsz : nm.size ≤ maxLen := by rw [hnm]; have := nameB_size id; unfold maxLen; omega
  rw [← hnm] at h0
  obtain ⟨bx, hbx⟩ : ∃ bx, w.heap.size = bx := ⟨_, rfl⟩
  obtain ⟨W, hW⟩ : ∃ W, w.alloc (.cells #[.int .u32 0, .slice none 0 0, .slice none 0 0, .int .i64 0, .int .i64 0] 44) = W := ⟨_, rfl⟩
  have hb : Below w.heap.size w W := by rw [← hW]; exact (Below.refl _ _).alloc (Nat.le_refl _) _
  have hk : W.heap[bx]? = some (.cells #[.int .u32 0, .slice none 0 0, .slice none 0 0, .int .i64 0, .int .i64 0] 44 (0, 0)) := by rw [← hW, ← hbx]; exact heap_alloc_new w _
  have hr := sready (some ⟨A, 0, none⟩) id W
  rw [if_neg (by simp), if_pos hi] at hr
  have HNm : Hid (∀ V, Below w.heap.size w V → Calls Tryz.prog 22 #[.int .u32 (id : Int)] V fun e w' => e = .returned (.string nm) ∧ Below V.heap.size V w') := Lib.hid fun V hb => by rw [hnm]; exact name_any id (by omega) V (hx.below (hb.mono hB)).std
  have HSz : Hid (∀ V, Below w.heap.size w V → Calls Tryz.prog 38 #[.pointer (some ⟨A, 0, none⟩), .string nm] V fun e w' => e = .returned (.tuple #[.int .i64 0, .int .i64 (c : Int)]) ∧ Below V.heap.size V w') := Lib.hid fun V hb => by
    have h1 := ksize (nm := nm) (h.on hb) hf hT ho hnsz
    rw [h0] at h1
    simp only [if_neg hc] at h1
    exact h1
  have HRd : Hid (∀ V, Below w.heap.size w V → Calls Tryz.prog 27 #[.pointer (some ⟨A, 0, none⟩), .string nm, .int .i64 0, .int .i64 0] V fun e w' => e = .returned (.tuple #[.slice none 0 0, .int .i64 (c : Int)]) ∧ Below V.heap.size V w') := Lib.hid fun V hb => kreadat_no (h.on hb) hf ho hnsz h0 hc 0 0
  have i0 : ¬ (c : Int) = 0 := by omega
  have HB := Lib.hid hb
  have HK := Lib.hid hk
  have HBX := Lib.hid hbx
  clear hb hk h hf h0 hnm hnsz hx hB hi hc
  go_enter Tryz.func13, Tryz.ntmps13
  go_wp2_with fail
  refine hr.mono ?_
  rintro e w1 ⟨rfl, rfl⟩
  clear hr hW
  go_wp2_with fail
  refine (HNm.out _ HB.out).mono ?_
  rintro e w1 ⟨rfl, hb1⟩
  have HB1 := Lib.hid (HB.out.trans (hb1.mono HB.out.size))
  have HK1 := Lib.hid ((hb1.block bx (Array.getElem?_eq_some_iff.1 HK.out).1).trans HK.out)
  clear hb1 HB HK
  go_wp2_with fail
  refine (HSz.out _ HB1.out).mono ?_
  rintro e w2 ⟨rfl, hb2⟩
  have HB2 := Lib.hid (HB1.out.trans (hb2.mono HB1.out.size))
  have HK2 := Lib.hid ((hb2.block bx (Array.getElem?_eq_some_iff.1 HK1.out).1).trans HK1.out)
  clear hb2 HB1 HK1
  go_wp2_with fail
  refine (HNm.out _ HB2.out).mono ?_
  rintro e w3 ⟨rfl, hb3⟩
  have HB3 := Lib.hid (HB2.out.trans (hb3.mono HB2.out.size))
  have HK3 := Lib.hid ((hb3.block bx (Array.getElem?_eq_some_iff.1 HK2.out).1).trans HK2.out)
  clear hb3 HB2 HK2
  go_wp2_with fail
  refine (HRd.out _ HB3.out).mono ?_
  rintro e W4 ⟨rfl, hb4⟩
  have HB4 := Lib.hid (HB3.out.trans (hb4.mono HB3.out.size))
  have HK4 := Lib.hid ((hb4.block bx (Array.getElem?_eq_some_iff.1 HK3.out).1).trans HK3.out)
  clear hb4 HB3 HK3
  have y0 : W4.cell? ⟨bx, 0, none⟩ = some (.int .u32 0) := cell_of_row W4 bx 0 _ _ _ HK4.out
  have y1 : W4.cell? ⟨bx, 1, none⟩ = some (.slice none 0 0) := cell_of_row W4 bx 1 _ _ _ HK4.out
  have y2 : W4.cell? ⟨bx, 2, none⟩ = some (.slice none 0 0) := cell_of_row W4 bx 2 _ _ _ HK4.out
  have y3 : W4.cell? ⟨bx, 3, none⟩ = some (.int .i64 0) := cell_of_row W4 bx 3 _ _ _ HK4.out
  have y4 : W4.cell? ⟨bx, 4, none⟩ = some (.int .i64 0) := cell_of_row W4 bx 4 _ _ _ HK4.out
  have f0 : W4.frozen? ⟨bx, 0, none⟩ = false := by simp [World.frozen?, HK4.out]
  have f1 : W4.frozen? ⟨bx, 1, none⟩ = false := by simp [World.frozen?, HK4.out]
  have f2 : W4.frozen? ⟨bx, 2, none⟩ = false := by simp [World.frozen?, HK4.out]
  have f3 : W4.frozen? ⟨bx, 3, none⟩ = false := by simp [World.frozen?, HK4.out]
  have f4 : W4.frozen? ⟨bx, 4, none⟩ = false := by simp [World.frozen?, HK4.out]
  go_wp2_with fail
  have h9 := Go.Joins.block_setCell (i := 4) (Go.Joins.block_setCell (i := 3) (Go.Joins.block_setCell (i := 2) (Go.Joins.block_setCell (i := 1) (Go.Joins.block_setCell (i := 0) HK4.out (.int .u32 0)) (.slice none 0 0)) (.slice none 0 0)) (.int .i64 0)) (.int .i64 0)
  have h9 : _ = some (Obj.cells #[.int .u32 0, .slice none 0 0, .slice none 0 0, .int .i64 0, .int .i64 0] 44 (0, 0)) := h9
  have z0 := cell_of_row _ bx 0 _ _ _ h9
  have z1 := cell_of_row _ bx 1 _ _ _ h9
  have z2 := cell_of_row _ bx 2 _ _ _ h9
  have z3 := cell_of_row _ bx 3 _ _ _ h9
  have z4 := cell_of_row _ bx 4 _ _ _ h9
  refine bodyPost_ret (v := .tuple #[.agg #[.int .u32 0, .slice none 0 0, .slice none 0 0, .int .i64 0, .int .i64 0], .int .i64 (c : Int)]) (by simp [results, Tryz.results13, go_sem, z0, z1, z2, z3, z4]) rfl ⟨rfl, ?_⟩
  have hc1 := ((((chg_set W4 bx 0 (.int .u32 0)).setCell (p := ⟨bx, 1, none⟩) rfl (.slice none 0 0)).setCell (p := ⟨bx, 2, none⟩) rfl (.slice none 0 0)).setCell (p := ⟨bx, 3, none⟩) rfl (.int .i64 0)).setCell (p := ⟨bx, 4, none⟩) rfl (.int .i64 0)
  exact HB4.out.trans (hc1.below HB4.out.size (fun i e => by have := HBX.out; omega))
end
end Go.Proofs.YtaicibmaogiibaaGreatDoor.Sg

/- SgOfC -/

/-
  Layer 11: package scan keeps what Load asks of it.
-/
set_option linter.unusedVariables false
namespace Go.Proofs.YtaicibmaogiibaaGreatDoor.Sg
open Go Go.RowKit
theorem ofC : OfC := fun w v b id h hl hi ht => Sc.sof v b id w h hl hi ht
end Go.Proofs.YtaicibmaogiibaaGreatDoor.Sg

