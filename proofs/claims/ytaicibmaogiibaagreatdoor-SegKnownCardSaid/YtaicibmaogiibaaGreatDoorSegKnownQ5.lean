/-
  SegKnown, part 5 of what the law's proof leans on: RcBlank, RcGet, RcIn, RcKnows, RcFew.
-/
import Derived.Test.YtaicibmaogiibaaGreatDoorSegKnownQ3
import Derived.Test.YtaicibmaogiibaaGreatDoorSegKnownQ4
import Derived.Lib.SlBytesConst
import Derived.BigRegion
import Derived.RegionTactic
import Derived.Test.YtaicibmaogiibaaGreatDoorSegKnownQ2
import Derived.Test.YtaicibmaogiibaaGreatDoorSegKnownQ1
/- RcBlank -/

/-
  Layer 8: the walk of blank.
-/
set_option linter.unusedVariables false
set_option linter.unusedSimpArgs false
namespace Go.Proofs.YtaicibmaogiibaaGreatDoor
open Go.RowKit

theorem two_rows (w W1 : World) (n m s : Nat) (hW : Below w.heap.size w W1) (hs : W1.heap.size = s) :
    RowAt (((W1.alloc (.cells (zer n) 5)).alloc (.cells (zer m) 5)).drew) s (List.replicate n 0) ∧
    RowAt (((W1.alloc (.cells (zer n) 5)).alloc (.cells (zer m) 5)).drew) (s + 1) (List.replicate m 0) ∧
    Below w.heap.size w (((W1.alloc (.cells (zer n) 5)).alloc (.cells (zer m) 5)).drew) := by
  subst hs
  have h1 := RowAt.new W1 n
  have h2 := RowAt.new (W1.alloc (.cells (zer n) 5)) m
  have e : (W1.alloc (.cells (zer n) 5)).heap.size = W1.heap.size + 1 := by simp
  have b2 := (bnew (W1.alloc (.cells (zer n) 5)) (.cells (zer m) 5)).drew
  rw [e] at h2
  exact ⟨h1.on b2, h2, (balloc (balloc hW _) _).drew⟩
set_option maxRecDepth 100000 in
set_option maxHeartbeats 4000000 in
theorem blank_any (a0 a1 a2 a3 a4 a5 : Nat) (w : World) (h1 : a1 ≤ 255) (h2 : a2 ≤ 65535) (h0 : a0 ≤ 255) (h4 : a4 < 16777216) (h5 : a5 < 4294967296) (h3 : a3 < 18446744073709551616) :
    Calls Tryz.prog 87 #[.agg #[.int .u64 (a0 : Int), .int .u64 (a1 : Int), .int .u64 (a2 : Int), .int .u64 (a3 : Int), .int .u64 (a4 : Int), .int .u64 (a5 : Int)]] w fun e w' =>
      ∃ g1 g2, e = .returned (recV a3 a0 (.slice (some ⟨g1, 0, none⟩) a1 a1) (.slice (some ⟨g2, 0, none⟩) a2 a2) a4 a5) ∧ g1 ≠ g2 ∧ w.heap.size ≤ g1 ∧ w.heap.size ≤ g2 ∧
        RowAt w' g1 (List.replicate a1 0) ∧ RowAt w' g2 (List.replicate a2 0) ∧ Below w.heap.size w w' := by
  have m1 := run_make_b .u64 .u64 a1 (by omega)
  have m2 := run_make_b .u64 .u64 a2 (by omega)
  go_enter Tryz.func87, Tryz.ntmps87
  go_wp2_with fail
  go_region
  all_goals go_wp2_with fail
  · obtain ⟨o1, o2, ob⟩ := two_rows w _ a1 a2 (w.heap.size + 1 + 1) (balloc (bnew w _) _) (by simp)
    exact bodyPost_ret (v := recV a3 a0 (.slice (some ⟨w.heap.size + 1 + 1, 0, none⟩) a1 a1) (.slice (some ⟨w.heap.size + 1 + 1 + 1, 0, none⟩) a2 a2) a4 a5) (by simp [results, Tryz.results87, go_sem, recV]) rfl ⟨_, _, rfl, by omega, by omega, by omega, o1, o2, ob⟩
  · obtain ⟨o1, o2, ob⟩ := two_rows w _ a2 a1 (w.heap.size + 1 + 1) (balloc (bnew w _) _) (by simp)
    exact bodyPost_ret (v := recV a3 a0 (.slice (some ⟨w.heap.size + 1 + 1 + 1, 0, none⟩) a1 a1) (.slice (some ⟨w.heap.size + 1 + 1, 0, none⟩) a2 a2) a4 a5) (by simp [results, Tryz.results87, go_sem, recV]) rfl ⟨_, _, rfl, by omega, by omega, by omega, o2, o1, ob⟩
end Go.Proofs.YtaicibmaogiibaaGreatDoor

/- RcGet -/

/-
  Layer 8: the walk of Get.
-/
set_option linter.unusedVariables false
set_option linter.unusedSimpArgs false
namespace Go.Proofs.YtaicibmaogiibaaGreatDoor
open Go.RowKit

/-- 's[:k]' -/
theorem cut_take {A : Option Addr} {m c : Nat} {l : List UInt8} {B : Nat} {w : World} (h : Bs w B (.slice A m c) l) (k : Nat) (z : Int) (hz : z = k) (hk : k ≤ l.length) : ∃ A' m' c', (∀ w, (Instr.sliceAt 47 (.slice A m c) none (some (.int .i64 z)) none).run Tryz.prog w = .ok (.slice A' m' c') w) ∧ (∀ w' B', Bs w' B' (.slice A m c) l → Bs w' B' (.slice A' m' c') (l.take k)) := by
  subst hz
  obtain ⟨A2, c2, e, hc, _⟩ := h
  injection e with e1 e2 e3
  subst e1 e2 e3
  obtain ⟨A', c', h1, h2, h3⟩ := kcut_h A l.length c k hk hc
  refine ⟨_, _, _, h1, ?_⟩
  rintro w' B' ⟨A2, c2, e2, _, hr2⟩
  injection e2 with e3 e4 e5
  subst e3
  exact ⟨A', c', by rw [List.length_take]; congr 1; omega, by rw [List.length_take]; omega, h3 w' B' l rfl hr2⟩
/-- 's[i:k]' -/
theorem cut_mid {A : Option Addr} {m c : Nat} {l : List UInt8} {B : Nat} {w : World} (h : Bs w B (.slice A m c) l) (i k : Nat) (y z : Int) (hy : y = i) (hz : z = k) (hik : i ≤ k) (hk : k ≤ l.length) : ∃ A' m' c', (∀ w, (Instr.sliceAt 47 (.slice A m c) (some (.int .i64 y)) (some (.int .i64 z)) none).run Tryz.prog w = .ok (.slice A' m' c') w) ∧ (∀ w' B', Bs w' B' (.slice A m c) l → Bs w' B' (.slice A' m' c') ((l.drop i).take (k - i))) := by
  subst hz hy
  obtain ⟨A2, c2, e, hc, _⟩ := h
  injection e with e1 e2 e3
  subst e1 e2 e3
  obtain ⟨A', c', h1, h2, h3⟩ := cut_lh A l.length c i k (k - i) (by omega) (by omega)
  refine ⟨_, _, _, h1, ?_⟩
  rintro w' B' ⟨A2, c2, e2, hc2, hr2⟩
  injection e2 with e3 e4 e5
  subst e3
  have hl : ((l.drop i).take (k - i)).length = k - i := by rw [List.length_take, List.length_drop]; omega
  exact ⟨A', c', by rw [hl], by rw [hl]; exact h2, h3 w' B' l hc hr2⟩

/-- the record told, in new memory -/
def NewRec (w w' : World) (rv : Value) (r : Rc.Rec) : Prop :=
  (rv = recV 0 0 (.slice none 0 0) (.slice none 0 0) 0 0 ∧ r = Rc.none) ∨
  ∃ g1 g2, rv = recV r.seq r.kind (.slice (some ⟨g1, 0, none⟩) r.key.length r.key.length) (.slice (some ⟨g2, 0, none⟩) r.val.length r.val.length) r.seg r.off ∧ g1 ≠ g2 ∧ w.heap.size ≤ g1 ∧ w.heap.size ≤ g2 ∧ RowAt w' g1 r.key ∧ RowAt w' g2 r.val
theorem below6 {B g : Nat} {w0 w : World} (hb : Below B w0 w) (hg : B ≤ g) (x0 x1 x2 x3 x4 x5 : Value) :
    Below B w0 ((((((w.setCell ⟨g, 0, none⟩ x0).setCell ⟨g, 1, none⟩ x1).setCell ⟨g, 2, none⟩ x2).setCell ⟨g, 3, none⟩ x3).setCell ⟨g, 4, none⟩ x4).setCell ⟨g, 5, none⟩ x5) :=
  (((((hb.setCell hg _).setCell hg _).setCell hg _).setCell hg _).setCell hg _).setCell hg _

theorem get_short (v : Value) (l : List UInt8) (B : Nat) (w : World) (h : Bs w B v l) (hl : l.length < 21) :
    Calls Tryz.prog 41 #[v] w fun e w' => ∃ rv, e = .returned (.tuple #[rv, .int .i64 0, .int .i64 22]) ∧ NewRec w w' rv Rc.none ∧ Below w.heap.size w w' := by
  obtain ⟨A, c, rfl, _, _⟩ := h
  go_enter Tryz.func41, Tryz.ntmps41
  go_wp2_with fail
  exact bodyPost_ret (v := .tuple #[recV 0 0 (.slice none 0 0) (.slice none 0 0) 0 0, .int .i64 0, .int .i64 22]) (by simp [results, Tryz.results41, go_sem, recV]) rfl ⟨_, rfl, .inl ⟨rfl, rfl⟩, bnew w _⟩
set_option maxRecDepth 100000 in
set_option maxHeartbeats 4000000 in
theorem get_bad (v : Value) (l : List UInt8) (B : Nat) (w : World) (h : Bs w B v l) (hB : B ≤ w.heap.size) (hl : 21 ≤ l.length) (hm : l.length ≤ 140737488355328) (ht : RTab w) (hr : Cx.right (l.take 21) = false) :
    Calls Tryz.prog 41 #[v] w fun e w' => ∃ rv, e = .returned (.tuple #[rv, .int .i64 0, .int .i64 23]) ∧ NewRec w w' rv Rc.none ∧ Below w.heap.size w w' := by
  obtain ⟨A, c, rfl, _, _⟩ := id h
  obtain ⟨A1, m1, c1, cut1, s1⟩ := cut_take h 21 21 rfl hl
  have b0 := bnew w (.cells #[.int .u64 0, .int .i64 0, .slice none 0 0, .slice none 0 0, .int .u32 0, .int .u32 0] 51)
  have hs := s1 _ _ (h.below b0 hB)
  have hc := Crc.right_b _ _ _ _ hs (ht.on b0).1 (by rw [List.length_take]; omega)
  rw [hr] at hc
  have HC := Lib.hid hc
  clear hc hs s1 hr ht h
  generalize l.length = n at *
  go_enter Tryz.func41, Tryz.ntmps41
  go_wp2_with fail
  refine HC.out.mono ?_
  rintro e w1 ⟨rfl, rfl⟩
  go_wp2_with fail
  exact bodyPost_ret (v := .tuple #[recV 0 0 (.slice none 0 0) (.slice none 0 0) 0 0, .int .i64 0, .int .i64 23]) (by simp [results, Tryz.results41, go_sem, recV]) rfl ⟨_, rfl, .inl ⟨rfl, rfl⟩, b0⟩
theorem RowAt.set6 {w : World} {g b : Nat} {l : List UInt8} (h : RowAt w g l) (hg : g ≠ b) (x0 x1 x2 x3 x4 x5 : Value) :
    RowAt ((((((w.setCell ⟨b, 0, none⟩ x0).setCell ⟨b, 1, none⟩ x1).setCell ⟨b, 2, none⟩ x2).setCell ⟨b, 3, none⟩ x3).setCell ⟨b, 4, none⟩ x4).setCell ⟨b, 5, none⟩ x5) g l := by
  unfold RowAt
  rw [Below.heap_setCell _ _ _ _ hg, Below.heap_setCell _ _ _ _ hg, Below.heap_setCell _ _ _ _ hg, Below.heap_setCell _ _ _ _ hg, Below.heap_setCell _ _ _ _ hg, Below.heap_setCell _ _ _ _ hg]
  exact h
theorem full_rest (l : List UInt8) (a1 a2 s : Nat) (hs : s = 25 + a1 + a2) (hl : s ≤ l.length) :
    ((l.drop 21).take (s - 21)).take a1 = (l.drop 21).take a1 ∧ (((l.drop 21).take (s - 21)).drop a1).take a2 = (l.drop (21 + a1)).take a2 ∧ ((l.drop 21).take a1).length = a1 ∧ ((l.drop (21 + a1)).take a2).length = a2 := by
  refine ⟨?_, ?_, ?_, ?_⟩
  · rw [List.take_take, Nat.min_eq_left (by omega)]
  · rw [List.drop_take, List.take_take, List.drop_drop, Nat.min_eq_left (by omega)]
  · rw [List.length_take, List.length_drop]; omega
  · rw [List.length_take, List.length_drop]; omega
theorem RowAt.bs' {w : World} {g B n : Nat} {l : List UInt8} (h : RowAt w g l) (hg : g < B) (hn : l.length = n) : Bs w B (.slice (some ⟨g, 0, none⟩) n n) l := by
  subst hn
  exact h.bs hg
theorem Rc.getQ_may {l : List UInt8} (h : 21 ≤ l.length) (hr : Cx.right (l.take 21) = true) (hm : Rc.mayB (Rc.rdR l) = false) : Rc.getQ l = (Rc.none, 0, 23) := by
  unfold Rc.getQ
  rw [if_neg (by omega), hr, if_neg (by simp), if_pos hm]
theorem Rc.getQ_torn {l : List UInt8} (h : 21 ≤ l.length) (hr : Cx.right (l.take 21) = true) (hm : Rc.mayB (Rc.rdR l) = true) (hs : l.length < Rc.sizeN (Rc.rdR l)) : Rc.getQ l = (Rc.none, 0, 22) := by
  unfold Rc.getQ
  rw [if_neg (by omega), hr, if_neg (by simp), hm, if_neg (by simp), if_pos hs]
theorem Rc.getQ_wrong {l : List UInt8} (h : 21 ≤ l.length) (hr : Cx.right (l.take 21) = true) (hm : Rc.mayB (Rc.rdR l) = true) (hs : ¬ l.length < Rc.sizeN (Rc.rdR l)) (hw : Cx.right (l.take (Rc.sizeN (Rc.rdR l))) = false) : Rc.getQ l = (Rc.none, Rc.sizeN (Rc.rdR l), 23) := by
  unfold Rc.getQ
  rw [if_neg (by omega), hr, if_neg (by simp), hm, if_neg (by simp), if_neg hs, if_pos hw]
theorem Rc.getQ_full {l : List UInt8} (h : 21 ≤ l.length) (hr : Cx.right (l.take 21) = true) (hm : Rc.mayB (Rc.rdR l) = true) (hs : ¬ l.length < Rc.sizeN (Rc.rdR l)) (hw : Cx.right (l.take (Rc.sizeN (Rc.rdR l))) = true) : Rc.getQ l = (Rc.full l, Rc.sizeN (Rc.rdR l), 0) := by
  unfold Rc.getQ
  rw [if_neg (by omega), hr, if_neg (by simp), hm, if_neg (by simp), if_neg hs, hw, if_neg (by simp)]
theorem Rc.fieldN_lt (l : List UInt8) (o n m : Nat) (h : 2 ^ (8 * n) = m) : Rc.fieldN l o n < m := by
  subst h
  exact Px.rdN_lt _ _
set_option maxRecDepth 100000 in
set_option maxHeartbeats 8000000 in
theorem get_rest (v : Value) (l : List UInt8) (B : Nat) (w : World) (h : Bs w B v l) (hB : B ≤ w.heap.size) (hl : 21 ≤ l.length) (hm : l.length ≤ 140737488355328) (ht : RTab w) (hr : Cx.right (l.take 21) = true) :
    Calls Tryz.prog 41 #[v] w fun e w' => ∃ rv, e = .returned (.tuple #[rv, .int .i64 ((Rc.getQ l).2.1 : Nat), .int .i64 ((Rc.getQ l).2.2 : Nat)]) ∧ NewRec w w' rv (Rc.getQ l).1 ∧ Below w.heap.size w w' := by
  obtain ⟨A, c, rfl, _, _⟩ := id h
  obtain ⟨A1, m1, c1, cut1, s1⟩ := cut_take h 21 21 rfl hl
  have b0 := bnew w (.cells #[.int .u64 0, .int .i64 0, .slice none 0 0, .slice none 0 0, .int .u32 0, .int .u32 0] 51)
  have hs := s1 _ _ (h.below b0 hB)
  have hc := Crc.right_b _ _ _ _ hs (ht.on b0).1 (by rw [List.length_take]; omega)
  rw [hr] at hc
  have HC := Lib.hid hc
  have H := Lib.hid h
  have HT := Lib.hid ht
  have HRd := Lib.hid (rread_b _ l B _ (h.below b0 hB) (Nat.le_trans hB b0.size) hl hm (ht.on b0).2)
  have q0 := Rc.fieldN_lt l 0 1 256 rfl
  have q1 := Rc.fieldN_lt l 1 1 256 rfl
  have q2 := Rc.fieldN_lt l 2 2 65536 rfl
  have q3 := Rc.fieldN_lt l 4 6 281474976710656 rfl
  have q4 := Rc.fieldN_lt l 10 3 16777216 rfl
  have q5 := Rc.fieldN_lt l 13 4 4294967296 rfl
  have hq : Hid (Rc.rdR l = { seq := (Rc.fieldN l 4 6 : Nat), kind := (Rc.fieldN l 0 1 : Nat), key := List.replicate (Rc.fieldN l 1 1) 0, val := List.replicate (Rc.fieldN l 2 2) 0, seg := (Rc.fieldN l 10 3 : Nat), off := (Rc.fieldN l 13 4 : Nat) }) := Lib.hid rfl
  have hfull : Hid (Rc.full l = { Rc.rdR l with key := (l.drop 21).take (Rc.fieldN l 1 1), val := (l.drop (21 + Rc.fieldN l 1 1)).take (Rc.fieldN l 2 2) }) := Lib.hid rfl
  have HR := Lib.hid hr
  clear hc hs s1 hr ht h
  unfold toldV at HRd
  generalize Rc.fieldN l 0 1 = a0 at *
  generalize Rc.fieldN l 1 1 = a1 at *
  generalize Rc.fieldN l 2 2 = a2 at *
  generalize Rc.fieldN l 4 6 = a3 at *
  generalize Rc.fieldN l 10 3 = a4 at *
  generalize Rc.fieldN l 13 4 = a5 at *
  generalize hn : l.length = n at *
  have HN := Lib.hid hn
  clear hn
  obtain ⟨q, Hq⟩ : ∃ q, Hid (q = Rc.getQ l) := ⟨_, Lib.hid rfl⟩
  rw [← Hq.out]
  have Hl := Lib.hid hl
  have HB := Lib.hid b0
  go_enter Tryz.func41, Tryz.ntmps41
  go_wp2_with fail
  refine HC.out.mono ?_
  rintro e w1 ⟨rfl, rfl⟩
  go_wp2_with fail
  refine HRd.out.mono ?_
  rintro e w1 ⟨rfl, b1⟩
  go_wp2_with fail
  refine (blank_any a0 a1 a2 a3 a4 a5 w1 (by omega) (by omega) (by omega) (by omega) (by omega) (by omega)).mono ?_
  rintro e w2 ⟨g1, g2, rfl, hg12, hg1, hg2, r1, r2, b2⟩
  unfold recV
  go_wp2_with fail
  have hb2 := bstep (bstep HB.out b1) b2
  have b12 := bstep b1 b2
  have hz1 := b1.size
  simp only [World.size_alloc] at hz1
  have HZ1 := Lib.hid hz1
  clear hz1
  simp only [World.size_alloc] at b12
  have b3 := bnew w2 (.cells #[.int .u64 (a3 : Int), .int .i64 (a0 : Int), .slice (some ⟨g1, 0, none⟩) a1 a1, .slice (some ⟨g2, 0, none⟩) a2 a2, .int .u32 (a4 : Int), .int .u32 (a5 : Int)] 51)
  have hb3 := bstep hb2 b3
  have b13 := b12.trans (b3.mono (by have := b12.size; simpa using this))
  have k1 := r1.on b3
  have k2 := r2.on b3
  have f0 : Rc.Fit ⟨a3, a0, List.replicate a1 0, List.replicate a2 0, a4, a5⟩ := by
    constructor <;> simp <;> omega
  have rV : RecV (w2.alloc (.cells #[.int .u64 (a3 : Int), .int .i64 (a0 : Int), .slice (some ⟨g1, 0, none⟩) a1 a1, .slice (some ⟨g2, 0, none⟩) a2 a2, .int .u32 (a4 : Int), .int .u32 (a5 : Int)] 51)) (w2.alloc (.cells #[.int .u64 (a3 : Int), .int .i64 (a0 : Int), .slice (some ⟨g1, 0, none⟩) a1 a1, .slice (some ⟨g2, 0, none⟩) a2 a2, .int .u32 (a4 : Int), .int .u32 (a5 : Int)] 51)).heap.size (recV a3 a0 (.slice (some ⟨g1, 0, none⟩) a1 a1) (.slice (some ⟨g2, 0, none⟩) a2 a2) a4 a5) ⟨a3, a0, List.replicate a1 0, List.replicate a2 0, a4, a5⟩ :=
    ⟨_, _, rfl, k1.bs' k1.lt (by simp), k2.bs' k2.lt (by simp)⟩
  have hmay := rmay_b _ _ _ _ rV (Nat.le_refl _) f0
  have HV := Lib.hid rV
  have HF := Lib.hid f0
  rw [← hq.out] at hmay
  have HG12 := Lib.hid hg12
  have HG1 := Lib.hid hg1
  have HG2 := Lib.hid hg2
  have R1 := Lib.hid r1
  have R2 := Lib.hid r2
  have B3 := Lib.hid b3
  have HB3 := Lib.hid hb3
  have B13 := Lib.hid b13
  have HB2 := Lib.hid hb2
  clear b1 b2 hb2 b12 b3 hb3 b13 k1 k2 f0 rV hg12 hg1 hg2 r1 r2 HRd HC
  unfold recV at hmay
  cases hmm : Rc.mayB (Rc.rdR l)
  · rw [hmm] at hmay
    have hqq := Lib.hid (Hq.out.trans (Rc.getQ_may (by rw [HN.out]; exact Hl.out) HR.out hmm))
    clear hmm
    refine hmay.mono ?_
    rintro e w4 ⟨rfl, b4⟩
    have b14 := B13.out.trans (b4.mono (by have := B13.out.size; simpa using this))
    have hb4 := bstep HB3.out b4
    obtain ⟨c0, c1, c2, c3, c4, c5⟩ := box6 b14 (by omega)
    obtain ⟨d0, d1, d2, d3, d4, d5⟩ := box6f b14 (by omega)
    clear b4 b14
    go_wp2_with fail
    exact bodyPost_ret (v := .tuple #[recV 0 0 (.slice none 0 0) (.slice none 0 0) 0 0, .int .i64 0, .int .i64 23]) (by simp [results, Tryz.results41, go_sem, recV, c0, c1, c2, c3, c4, c5]) rfl ⟨_, by rw [hqq.out]; rfl, by rw [hqq.out]; exact .inl ⟨rfl, rfl⟩, below6 hb4 (Nat.le_refl _) _ _ _ _ _ _⟩
  · rw [hmm] at hmay
    refine hmay.mono ?_
    rintro e w4 ⟨rfl, b4⟩
    have RV4 := HV.out.on b4
    have hsize := rsize_b _ _ _ w4 RV4 (by simp; omega) (by simp; omega)
    rw [← hq.out] at hsize
    have hsz : Hid (Rc.sizeN (Rc.rdR l) = 25 + a1 + a2) := Lib.hid (by rw [hq.out]; simp [Rc.sizeN])
    have hszL : 25 ≤ Rc.sizeN (Rc.rdR l) := by rw [hsz.out]; omega
    have hszU : Rc.sizeN (Rc.rdR l) ≤ 100000 := by rw [hsz.out]; omega
    have Hmm := Lib.hid hmm
    have hq1 := @Rc.getQ_torn l
    have hq2 := @Rc.getQ_wrong l
    have hq3 := @Rc.getQ_full l
    generalize Rc.sizeN (Rc.rdR l) = sz at *
    have HQ1 := Lib.hid hq1
    have HQ2 := Lib.hid hq2
    have HQ3 := Lib.hid hq3
    clear hq1 hq2 hq3 hmm
    have hb4 := bstep HB3.out b4
    have X4 := (b4.block w2.heap.size (by simp)).trans (heap_alloc_new w2 (.cells #[.int .u64 (a3 : Int), .int .i64 (a0 : Int), .slice (some ⟨g1, 0, none⟩) a1 a1, .slice (some ⟨g2, 0, none⟩) a2 a2, .int .u32 (a4 : Int), .int .u32 (a5 : Int)] 51))
    have b14 := B13.out.trans (b4.mono (by have := B13.out.size; simpa using this))
    have Y4 := (b14.block w.heap.size (by omega)).trans (heap_alloc_new w (.cells #[.int .u64 0, .int .i64 0, .slice none 0 0, .slice none 0 0, .int .u32 0, .int .u32 0] 51))
    obtain ⟨e0, e1, e2, e3, e4, e5⟩ := box6h X4
    have HX4 := Lib.hid X4
    have HY4 := Lib.hid Y4
    have HB4 := Lib.hid hb4
    have B4 := Lib.hid b4
    clear b4 b14 hb4 X4 Y4
    go_wp2_with fail
    clear e0 e1 e2 e3 e4 e5
    refine hsize.mono ?_
    rintro e w5 ⟨rfl, b5⟩
    have X5 := Lib.hid ((b5.block w2.heap.size (by have := HX4.out; exact (Array.getElem?_eq_some_iff.1 this).1)).trans HX4.out)
    have Y5 := Lib.hid ((b5.block w.heap.size (by have := HY4.out; exact (Array.getElem?_eq_some_iff.1 this).1)).trans HY4.out)
    have hb5 := bstep HB4.out b5
    have k1 := Lib.hid (((R1.out.on B3.out).on B4.out).on b5)
    have k2 := Lib.hid (((R2.out.on B3.out).on B4.out).on b5)
    have HB5 := Lib.hid hb5
    clear b5 hb5 hsize hmay RV4
    by_cases hlt : n < sz
    · have hqq := Lib.hid (Hq.out.trans (HQ1.out (by rw [HN.out]; exact Hl.out) HR.out Hmm.out (by rw [HN.out]; exact hlt)))
      obtain ⟨c0, c1, c2, c3, c4, c5⟩ := box6h Y5.out
      obtain ⟨d0, d1, d2, d3, d4, d5⟩ := box6hf Y5.out
      go_wp2_with fail
      exact bodyPost_ret (v := .tuple #[recV 0 0 (.slice none 0 0) (.slice none 0 0) 0 0, .int .i64 0, .int .i64 22]) (by simp [results, Tryz.results41, go_sem, recV, c0, c1, c2, c3, c4, c5]) rfl ⟨_, by rw [hqq.out]; rfl, by rw [hqq.out]; exact .inl ⟨rfl, rfl⟩, below6 HB5.out (Nat.le_refl _) _ _ _ _ _ _⟩
    · have hge : sz ≤ n := by omega
      obtain ⟨A3, m3, c3, cut3, s3⟩ := cut_take H.out sz sz rfl (by rw [HN.out]; exact hge)
      have hs3 := s3 _ _ (H.out.below HB5.out hB)
      have hc3 := Crc.right_b _ _ _ _ hs3 (HT.out.on HB5.out).1 (by rw [List.length_take]; omega)
      cases hw : Cx.right (l.take sz)
      · rw [hw] at hc3
        have hqq := Lib.hid (Hq.out.trans (HQ2.out (by rw [HN.out]; exact Hl.out) HR.out Hmm.out (by rw [HN.out]; exact hlt) hw))
        obtain ⟨c0, c1, c2, c3, c4, c5⟩ := box6h Y5.out
        obtain ⟨d0, d1, d2, d3, d4, d5⟩ := box6hf Y5.out
        have HC3 := Lib.hid hc3
        clear hc3 hw s3 hs3
        go_wp2_with fail
        refine HC3.out.mono ?_
        rintro e w6 ⟨rfl, rfl⟩
        go_wp2_with fail
        exact bodyPost_ret (v := .tuple #[recV 0 0 (.slice none 0 0) (.slice none 0 0) 0 0, .int .i64 (sz : Int), .int .i64 23]) (by simp [results, Tryz.results41, go_sem, recV, c0, c1, c2, c3, c4, c5]) rfl ⟨_, by rw [hqq.out]; rfl, by rw [hqq.out]; exact .inl ⟨rfl, rfl⟩, below6 HB5.out (Nat.le_refl _) _ _ _ _ _ _⟩
      · rw [hw] at hc3
        have hqq := Lib.hid (Hq.out.trans (HQ3.out (by rw [HN.out]; exact Hl.out) HR.out Hmm.out (by rw [HN.out]; exact hlt) hw))
        obtain ⟨A5, m5, c5, cut5, s5⟩ := cut_mid H.out 21 sz 21 sz rfl rfl (by omega) (by rw [HN.out]; exact hge)
        have hs5 := s5 _ _ (H.out.below HB5.out hB)
        obtain ⟨e0, e1, e2, e3, e4, e5⟩ := box6h X5.out
        have HC3 := Lib.hid hc3
        have hC1 : w.heap.size < g1 := by have := HG1.out; have := HZ1.out; omega
        have hC2 : w.heap.size < g2 := by have := HG2.out; have := HZ1.out; omega
        have hD1 := R1.out.lt
        have hD2 := R2.out.lt
        have hfl := fill_any a3 a0 a4 a5 g1 g2 a1 a2 _ _ _ _ B w.heap.size w5.drew hs5 (by rw [List.length_take, List.length_drop, HN.out]; have := hsz.out; omega) (by rw [List.length_take, List.length_drop, HN.out]; omega) k1.out k2.out (by simp) (by simp) HG12.out hB HB5.out.size (Nat.le_of_lt hC1) (Nat.le_of_lt hC2)
        unfold recV at hfl
        have HFl := Lib.hid hfl
        clear hc3 hw s3 hs3 s5 hs5 hfl
        go_wp2_with fail
        refine HC3.out.mono ?_
        rintro e w6 ⟨rfl, rfl⟩
        go_wp2_with fail
        clear e0 e1 e2 e3 e4 e5
        obtain ⟨e0, e1, e2, e3, e4, e5⟩ := box6h X5.out
        go_region_with (go_at_call 90; refine HFl.out.mono ?_; rintro e w7 ⟨⟨u, rfl⟩, r7, r8, o7, b7⟩)
        all_goals
          have X7 := (o7 w2.heap.size (Array.getElem?_eq_some_iff.1 X5.out).1 (by omega) (by omega)).trans X5.out
          have Y7 := (o7 w.heap.size (Array.getElem?_eq_some_iff.1 Y5.out).1 (by omega) (by omega)).trans Y5.out
          obtain ⟨x0, x1, x2, x3, x4, x5⟩ := box6h X7
          obtain ⟨c0, c1', c2, c3', c4, c5'⟩ := box6h Y7
          obtain ⟨d0, d1, d2, d3, d4, d5⟩ := box6hf Y7
          have hb7 := HB5.out.drew.trans b7
          obtain ⟨u1, u2, u3, u4⟩ := full_rest l a1 a2 sz hsz.out (by rw [HN.out]; exact hge)
          have hF : Rc.full l = ⟨a3, a0, (l.drop 21).take a1, (l.drop (21 + a1)).take a2, a4, a5⟩ := by rw [hfull.out, hq.out]
          have HV1 : Hid (recV a3 a0 (.slice (some ⟨g1, 0, none⟩) a1 a1) (.slice (some ⟨g2, 0, none⟩) a2 a2) a4 a5 = recV (Rc.full l).seq (Rc.full l).kind (.slice (some ⟨g1, 0, none⟩) (Rc.full l).key.length (Rc.full l).key.length) (.slice (some ⟨g2, 0, none⟩) (Rc.full l).val.length (Rc.full l).val.length) (Rc.full l).seg (Rc.full l).off) := Lib.hid (by rw [hF]; dsimp only; rw [u3, u4])
          have H7 := Lib.hid (show RowAt w7 g1 (Rc.full l).key by rw [hF]; dsimp only; rw [← u1]; exact r7)
          have H8 := Lib.hid (show RowAt w7 g2 (Rc.full l).val by rw [hF]; dsimp only; rw [← u2]; exact r8)
          clear u1 u2 u3 u4 hF
          clear X7 Y7 o7 b7 r7 r8
          go_wp2_with fail
          exact bodyPost_ret (v := .tuple #[recV a3 a0 (.slice (some ⟨g1, 0, none⟩) a1 a1) (.slice (some ⟨g2, 0, none⟩) a2 a2) a4 a5, .int .i64 (sz : Int), .int .i64 0]) (by simp [results, Tryz.results41, go_sem, recV, c0, c1', c2, c3', c4, c5']) rfl ⟨_, by rw [hqq.out]; rfl, by rw [hqq.out]; exact .inr ⟨g1, g2, HV1.out, HG12.out, by omega, by omega, H7.out.set6 (by omega) _ _ _ _ _ _, H8.out.set6 (by omega) _ _ _ _ _ _⟩, below6 hb7 (Nat.le_refl _) _ _ _ _ _ _⟩
theorem rget_b (v : Value) (l : List UInt8) (B : Nat) (w : World) (h : Bs w B v l) (hB : B ≤ w.heap.size) (hm : l.length ≤ 140737488355328) (ht : RTab w) :
    Calls Tryz.prog 41 #[v] w fun e w' => ∃ rv, e = .returned (.tuple #[rv, .int .i64 ((Rc.getQ l).2.1 : Nat), .int .i64 ((Rc.getQ l).2.2 : Nat)]) ∧ NewRec w w' rv (Rc.getQ l).1 ∧ Below w.heap.size w w' := by
  by_cases hl : l.length < 21
  · have e : Rc.getQ l = (Rc.none, 0, 22) := by unfold Rc.getQ; rw [if_pos hl]
    rw [e]
    exact get_short v l B w h hl
  · cases hr : Cx.right (l.take 21)
    · have e : Rc.getQ l = (Rc.none, 0, 23) := by unfold Rc.getQ; rw [if_neg hl, if_pos hr]
      rw [e]
      exact get_bad v l B w h hB (by omega) hm ht hr
    · exact get_rest v l B w h hB (by omega) hm ht hr
theorem rget_q (v : Value) (l : List UInt8) (B : Nat) (w : World) (h : Bs w B v l) (hB : B ≤ w.heap.size) (hm : l.length ≤ 140737488355328) (ht : RTab w) (q : Rc.Rec) (n e : Nat) (hq : Rc.getQ l = (q, n, e)) :
    Calls Tryz.prog 41 #[v] w fun x w' => ∃ rv, x = .returned (.tuple #[rv, .int .i64 (n : Int), .int .i64 (e : Int)]) ∧ NewRec w w' rv q ∧ Below w.heap.size w w' := by
  have := rget_b v l B w h hB hm ht
  rw [hq] at this
  exact this
end Go.Proofs.YtaicibmaogiibaaGreatDoor

/- RcIn -/

/-
  Layer 8: bytes, and a record, in memory from a place on, each row a block of its own.
-/
set_option linter.unusedVariables false
set_option linter.unusedSimpArgs false
namespace Go.Proofs.YtaicibmaogiibaaGreatDoor
open Go Go.RowKit

/-- a slice that reads as these bytes, in memory from `lo` on -/
def RowIn (w : World) (lo : Nat) (v : Value) (l : List UInt8) : Prop := (v = .slice none 0 0 ∧ l = []) ∨ ∃ g, v = .slice (some ⟨g, 0, none⟩) l.length l.length ∧ lo ≤ g ∧ RowAt w g l
section
variable {w w' : World} {lo lo' : Nat} {v : Value} {l : List UInt8}
theorem RowIn.bs (h : RowIn w lo v l) : Bs w w.heap.size v l := by
  rcases h with ⟨rfl, rfl⟩ | ⟨g, rfl, _, h⟩
  · exact ⟨none, 0, rfl, Nat.le_refl _, fun h => absurd rfl h⟩
  · exact h.bs h.lt
theorem RowIn.on (h : RowIn w lo v l) (hb : Below w.heap.size w w') : RowIn w' lo v l := by
  rcases h with ⟨rfl, rfl⟩ | ⟨g, rfl, h1, h⟩
  · exact .inl ⟨rfl, rfl⟩
  · exact .inr ⟨g, rfl, h1, h.on hb⟩
theorem RowIn.mono (h : RowIn w lo v l) (hl : lo' ≤ lo) : RowIn w lo' v l := by
  rcases h with ⟨rfl, rfl⟩ | ⟨g, rfl, h1, h⟩
  · exact .inl ⟨rfl, rfl⟩
  · exact .inr ⟨g, rfl, Nat.le_trans hl h1, h⟩
end
def RecIn (w : World) (lo : Nat) (rv : Value) (r : Rc.Rec) : Prop := ∃ kv vv, rv = recV r.seq r.kind kv vv r.seg r.off ∧ RowIn w lo kv r.key ∧ RowIn w lo vv r.val
theorem RecIn.none_ {w : World} {lo : Nat} : RecIn w lo (recV 0 0 (.slice none 0 0) (.slice none 0 0) 0 0) Rc.none := ⟨_, _, rfl, .inl ⟨rfl, rfl⟩, .inl ⟨rfl, rfl⟩⟩
end Go.Proofs.YtaicibmaogiibaaGreatDoor

/- RcKnows -/

/-
  Layer 8: the chapter's rows ('plain', 'knows').
-/
set_option linter.unusedVariables false
set_option linter.unusedSimpArgs false
namespace Go.Proofs.YtaicibmaogiibaaGreatDoor
open Go.RowKit

def Rc.plain : Rc.Rec := ⟨1, 1, [107], [118], 0, 0⟩
/-- a slice literal whose block bears a mark -/
theorem bs_newM (w : World) (l : List UInt8) (e : TypeId) (fr : Nat × Nat) : Bs (w.alloc (.cells (bvs l).toArray e fr)) (w.heap.size + 1) (.slice (some ⟨w.heap.size, 0, none⟩) l.length l.length) l := by
  refine ⟨_, _, rfl, Nat.le_refl _, fun _ => ⟨w.heap.size, 0, rfl, by omega, fun j u hu => ?_⟩⟩
  rw [Nat.zero_add, cell_of_row (w.alloc (.cells (bvs l).toArray e fr)) w.heap.size j _ e fr (heap_alloc_new w _)]
  simpa using hu
end Go.Proofs.YtaicibmaogiibaaGreatDoor

/- RcFew -/

/-
  Layer 8: the walks of the laws' own few and made (records brought into bounds).
-/
set_option linter.unusedVariables false
set_option linter.unusedSimpArgs false
namespace Go.Proofs.YtaicibmaogiibaaGreatDoor
open Go.RowKit

def Rc.few (r : Rc.Rec) : Rc.Rec := { r with key := r.key.take 80, val := r.val.take 1100 }
end Go.Proofs.YtaicibmaogiibaaGreatDoor

