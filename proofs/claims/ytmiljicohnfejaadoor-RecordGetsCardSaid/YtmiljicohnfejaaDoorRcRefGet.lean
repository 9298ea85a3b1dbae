
/-
  Layer 8, the document's answer: the walks of number and Get.
-/
import Derived.Test.YtmiljicohnfejaaDoorRcRefSame
set_option linter.unusedVariables false
set_option linter.unusedSimpArgs false
namespace Go.Proofs.YtmiljicohnfejaaDoor
open Go.RowKit

/-- a number's bytes from place i on -/
def Rc.hiN (l : List UInt8) (i : Nat) : Nat → Nat
  | 0 => 0
  | d + 1 => Rc.hiN l (i + 1) d * 256 + (l.getD i 0).toNat
theorem Rc.hiN_rd (l : List UInt8) (i d : Nat) : Px.rdN l (i + d) = Px.rdN l i + 2 ^ (8 * i) * Rc.hiN l i d := by
  induction d generalizing i with
  | zero => simp [Rc.hiN]
  | succ d ih =>
    have := ih (i + 1)
    rw [show i + 1 + d = i + (d + 1) by omega] at this
    rw [this, Rc.hiN]
    have e : Px.rdN l (i + 1) = Px.rdN l i + (l.getD i 0).toNat * 2 ^ (8 * i) := rfl
    rw [e, show 8 * (i + 1) = 8 * i + 8 by omega, Nat.pow_add]
    generalize 2 ^ (8 * i) = P
    generalize Rc.hiN l (i + 1) d = X
    generalize (l.getD i 0).toNat = y
    have h1 : P * 2 ^ 8 * X = P * (X * 256) := by rw [Nat.mul_assoc, Nat.mul_comm (2 ^ 8) X]
    rw [h1, Nat.mul_add, Nat.mul_comm P y]
    omega
theorem Rc.hiN_all (l : List UInt8) (d : Nat) : Rc.hiN l 0 d = Px.rdN l d := by
  have := Rc.hiN_rd l 0 d
  simp [Px.rdN] at this
  omega
theorem Rc.hiN_lt (l : List UInt8) (i d : Nat) : Rc.hiN l i d < 256 ^ d := by
  induction d generalizing i with
  | zero => simp [Rc.hiN]
  | succ d ih =>
    have h1 := ih (i + 1)
    have h2 := UInt8.toNat_lt (l.getD i 0)
    rw [Rc.hiN, Nat.pow_succ]
    omega
set_option maxRecDepth 100000 in
theorem number_any (A : Option Addr) (l : List UInt8) (c B at_ k : Nat) (w : World) (h : Bs w B (.slice A l.length c) l) (hk0 : 1 ≤ k) (hk : k ≤ 8) (hl : at_ + k ≤ l.length) (hm : l.length ≤ 140737488355328) :
    Calls Tryd.prog 49 #[.slice A l.length c, .int .i64 (at_ : Int), .int .i64 (k : Int)] w fun e w' => e = .returned (.int .u64 ((Rc.fieldN l at_ k : Nat) : Int)) ∧ w = w' := by
  obtain ⟨hr, _⟩ := bs_rd h
  obtain ⟨b, o, rfl, hb, hc⟩ := hr (by intro e; have := congrArg List.length e; rw [bvs_length] at this; simp at this; subst this; simp at hl; omega)
  have hcx : ∀ j, j < k → w.cell? ⟨b, o + (at_ + j), none⟩ = some (.int .u8 (((l.drop at_).getD j 0).toNat : Int)) := fun j hj => by
    refine hc (at_ + j) _ ?_
    rw [bvs_get _ _ (by omega)]
    simp [bv, List.getD_eq_getElem?_getD, List.getElem?_drop, List.getElem?_eq_getElem (show at_ + j < l.length by omega)]
  have Hcx := Lib.hid hcx
  have hf : Hid (Rc.fieldN l at_ k = Rc.hiN (l.drop at_) 0 k) := Lib.hid (by rw [Rc.hiN_all]; rfl)
  clear hcx hc hr h
  generalize l.drop at_ = t at *
  generalize hn : l.length = n at *
  go_enter Tryd.func49, Tryd.ntmps49
  go_wp2_with fail
  go_loopg [7, 8] k (fun q y i wr => w = wr ∧ ∃ (j : Nat), q ≤ k ∧ j = k - q ∧ i = .int .i64 ((q : Int) - 1) ∧ y = .int .u64 ((Rc.hiN t q j : Nat) : Int))
  case atStart => exact ⟨rfl, 0, by omega, by omega, rfl, rfl⟩
  case round =>
    obtain ⟨rfl, j, hq, hj, rfl, rfl⟩ := hrel
    rcases gk with _ | q
    · have e : k = j := by omega
      subst e
      have t1 : decide ((0 : Int) ≤ ((0 : Nat) : Int) - 1) = false := by simp
      go_wp2_with fail
      go_ret
      exact ⟨ret_int (by rw [hf.out]), rfl⟩
    · have t1 : (0 : Int) ≤ (((q + 1 : Nat) : Int) - 1) := by omega
      have hcell := Hcx.out q (by omega)
      have hlt := Rc.hiN_lt t (q + 1) j
      have h7 : 256 ^ j ≤ 256 ^ 7 := Nat.pow_le_pow_right (by omega) (by omega)
      have hs : Hid (Rc.hiN t q (j + 1) = Rc.hiN t (q + 1) j * 256 + (t.getD q 0).toNat) := Lib.hid rfl
      have hy := UInt8.toNat_lt (t.getD q 0)
      have hz : Rc.hiN t (q + 1) j < 72057594037927936 := Nat.lt_of_lt_of_le hlt (by simpa using h7)
      clear hlt h7
      generalize Rc.hiN t (q + 1) j = z at *
      generalize (t.getD q 0).toNat = y at *
      go_wp2_with fail
      go_roundg q
      case measure => omega
      case rel => exact ⟨rfl, j + 1, by omega, by omega, by go_num, by rw [hs.out]; simp⟩
theorem alloc3g (w : World) (a b c : Obj) : (((w.alloc a).alloc b).alloc c).heap[w.heap.size]? = some a ∧ (((w.alloc a).alloc b).alloc c).heap[w.heap.size + 1]? = some b ∧ (((w.alloc a).alloc b).alloc c).heap[w.heap.size + 1 + 1]? = some c ∧ Below w.heap.size w (((w.alloc a).alloc b).alloc c) := by
  have e1 : (w.alloc a).heap.size = w.heap.size + 1 := World.size_alloc _ _
  have e2 : ((w.alloc a).alloc b).heap.size = w.heap.size + 1 + 1 := by rw [World.size_alloc, e1]
  refine ⟨?_, ?_, ?_, balloc (balloc (bnew w a) b) c⟩
  · exact ((bnew _ c).block _ (by omega)).trans (((bnew _ b).block _ (by omega)).trans (heap_alloc_new w a))
  · exact ((bnew _ c).block _ (by omega)).trans (by rw [← e1]; exact heap_alloc_new _ b)
  · rw [← e2]; exact heap_alloc_new _ c
/-- a row of n zeros, the first i of them overwritten -/
def cpL (s : List UInt8) (n i : Nat) : List UInt8 := s.take i ++ List.replicate (n - i) 0
theorem cpL_zero (s : List UInt8) (n : Nat) : cpL s n 0 = List.replicate n 0 := by simp [cpL]
theorem cpL_all (s : List UInt8) (n : Nat) : cpL s n n = s.take n := by simp [cpL]
theorem cpL_len (s : List UInt8) (n i : Nat) (h : i ≤ n) (hs : n ≤ s.length) : (cpL s n i).length = n := by simp [cpL]; omega
theorem cpL_set (s : List UInt8) (n i : Nat) (x : UInt8) (h : i < n) (hs : n ≤ s.length) (hx : s[i]? = some x) : (cpL s n i).set i x = cpL s n (i + 1) := by
  unfold cpL
  have hl : (s.take i).length = i := by rw [List.length_take]; omega
  rw [List.set_append_right i x (by omega), hl, Nat.sub_self, show n - i = (n - (i + 1)) + 1 by omega, List.replicate_succ, List.set_cons_zero]
  rw [List.take_add_one, hx]
  simp
theorem RowAt.put {w : World} {g : Nat} {l : List UInt8} (h : RowAt w g l) (i : Nat) (x : UInt8) : RowAt (w.setCell ⟨g, i, none⟩ (.int .u8 (x.toNat : Int))) g (l.set i x) := by
  have := set1 (i := i) h (.int .u8 (x.toNat : Int))
  unfold RowAt
  rw [this, bvs_set]
  simp [bv]
theorem RowAt.cell {w : World} {g : Nat} {l : List UInt8} (h : RowAt w g l) (i : Nat) (hi : i < l.length) : ∃ y : UInt8, w.cell? ⟨g, i, none⟩ = some (.int .u8 (y.toNat : Int)) ∧ w.frozen? ⟨g, i, none⟩ = false := by
  refine ⟨l[i], ?_, by simp [World.frozen?, show w.heap[g]? = _ from h]⟩
  rw [cell_of_row w g i _ _ _ h]
  simp [bvs, bv, hi]
set_option maxRecDepth 100000 in
set_option maxHeartbeats 8000000 in
theorem rget8_short (v : Value) (l : List UInt8) (B : Nat) (w : World) (h : Bs w B v l) (hl : l.length < 21) :
    Calls Tryd.prog 19 #[v] w fun e w' => ∃ rv, e = .returned (.tuple #[rv, .int .i64 0, .int .i64 22]) ∧ RecV w' w'.heap.size rv Rc.none ∧ Below w.heap.size w w' := by
  obtain ⟨A, c, rfl, _, _⟩ := h
  go_enter Tryd.func19, Tryd.ntmps19
  go_wp2_with fail
  exact bodyPost_ret (v := .tuple #[recV 0 0 (.slice none 0 0) (.slice none 0 0) 0 0, .int .i64 0, .int .i64 22]) (by simp [results, Tryd.results19, go_sem, recV]) rfl ⟨_, rfl, RecV.none_, balloc (bnew w _) _⟩
set_option maxRecDepth 100000 in
set_option maxHeartbeats 16000000 in
theorem rget8_rest (v : Value) (l : List UInt8) (B : Nat) (w : World) (h : Bs w B v l) (hB : B ≤ w.heap.size) (hl : 21 ≤ l.length) (hm : l.length ≤ 100000) :
    Calls Tryd.prog 19 #[v] w fun e w' => ∃ rv, e = .returned (.tuple #[rv, .int .i64 ((Rc.getQ l).2.1 : Nat), .int .i64 ((Rc.getQ l).2.2 : Nat)]) ∧ RecV w' w'.heap.size rv (Rc.getQ l).1 ∧ Below w.heap.size w w' := by
  obtain ⟨A, c, rfl, _, _⟩ := id h
  obtain ⟨A1, m1, c1, cut1, s1⟩ := cut_take h 21 21 rfl hl
  have b0 := balloc (bnew w (.cells #[.int .u64 0, .int .i64 0, .slice none 0 0, .slice none 0 0, .int .u32 0, .int .u32 0] 28)) (.cells #[.int .u64 0, .int .i64 0, .slice none 0 0, .slice none 0 0, .int .u32 0, .int .u32 0] 28)
  have hs := s1 _ _ (h.below b0 hB)
  have hc := Crc.rright_b _ _ _ _ hs (Nat.le_trans hB b0.size) (by rw [List.length_take]; omega)
  have HC := Lib.hid hc
  have H := Lib.hid h
  have q0 := Rc.fieldN_lt l 0 1 256 rfl
  have q1 := Rc.fieldN_lt l 1 1 256 rfl
  have q2 := Rc.fieldN_lt l 2 2 65536 rfl
  have q3 := Rc.fieldN_lt l 4 6 281474976710656 rfl
  have q4 := Rc.fieldN_lt l 10 3 16777216 rfl
  have q5 := Rc.fieldN_lt l 13 4 4294967296 rfl
  have hq : Hid (Rc.rdR l = { seq := (Rc.fieldN l 4 6 : Nat), kind := (Rc.fieldN l 0 1 : Nat), key := List.replicate (Rc.fieldN l 1 1) 0, val := List.replicate (Rc.fieldN l 2 2) 0, seg := (Rc.fieldN l 10 3 : Nat), off := (Rc.fieldN l 13 4 : Nat) }) := Lib.hid rfl
  have hfull : Hid (Rc.full l = { Rc.rdR l with key := (l.drop 21).take (Rc.fieldN l 1 1), val := (l.drop (21 + Rc.fieldN l 1 1)).take (Rc.fieldN l 2 2) }) := Lib.hid rfl
  have hn0 := Lib.hid (fun w (h : Bs w B (.slice A l.length c) l) => number_any A l c B 0 1 w h (by omega) (by omega) (by omega) (by omega))
  have hn1 := Lib.hid (fun w (h : Bs w B (.slice A l.length c) l) => number_any A l c B 1 1 w h (by omega) (by omega) (by omega) (by omega))
  have hn2 := Lib.hid (fun w (h : Bs w B (.slice A l.length c) l) => number_any A l c B 2 2 w h (by omega) (by omega) (by omega) (by omega))
  have hn3 := Lib.hid (fun w (h : Bs w B (.slice A l.length c) l) => number_any A l c B 4 6 w h (by omega) (by omega) (by omega) (by omega))
  have hn4 := Lib.hid (fun w (h : Bs w B (.slice A l.length c) l) => number_any A l c B 10 3 w h (by omega) (by omega) (by omega) (by omega))
  have hn5 := Lib.hid (fun w (h : Bs w B (.slice A l.length c) l) => number_any A l c B 13 4 w h (by omega) (by omega) (by omega) (by omega))
  clear hc hs s1 h
  generalize Rc.fieldN l 0 1 = a0 at *
  generalize Rc.fieldN l 1 1 = a1 at *
  generalize Rc.fieldN l 2 2 = a2 at *
  generalize Rc.fieldN l 4 6 = a3 at *
  generalize Rc.fieldN l 10 3 = a4 at *
  generalize Rc.fieldN l 13 4 = a5 at *
  generalize hn : l.length = n at *
  have HN := Lib.hid hn
  clear hn
  obtain ⟨q, Hq⟩ : ∃ q, Hid (q = Rc.getQ l) := ⟨_, Lib.hid rfl⟩
  rw [← Hq.out]
  have Hl := Lib.hid hl
  have HB := Lib.hid b0
  have X2 := Lib.hid (((bnew (w.alloc (.cells #[.int .u64 0, .int .i64 0, .slice none 0 0, .slice none 0 0, .int .u32 0, .int .u32 0] 28)) (.cells #[.int .u64 0, .int .i64 0, .slice none 0 0, .slice none 0 0, .int .u32 0, .int .u32 0] 28)).block w.heap.size (by simp)).trans (heap_alloc_new w (.cells #[.int .u64 0, .int .i64 0, .slice none 0 0, .slice none 0 0, .int .u32 0, .int .u32 0] 28)))
  have x5 := heap_alloc_new (w.alloc (.cells #[.int .u64 0, .int .i64 0, .slice none 0 0, .slice none 0 0, .int .u32 0, .int .u32 0] 28)) (.cells #[.int .u64 0, .int .i64 0, .slice none 0 0, .slice none 0 0, .int .u32 0, .int .u32 0] 28)
  rw [World.size_alloc] at x5
  have X5 := Lib.hid x5
  have hzz := b0.size
  clear b0 x5
  go_enter Tryd.func19, Tryd.ntmps19
  go_wp2_with fail
  refine HC.out.mono ?_
  rintro e w1 ⟨rfl, b1⟩
  have hx2 := (b1.block w.heap.size (by simp; omega)).trans X2.out
  have hx5 := (b1.block (w.heap.size + 1) (by simp)).trans X5.out
  have HB1 := Lib.hid (bstep HB.out b1)
  have hz1 := b1.size
  simp only [World.size_alloc] at hz1
  clear b1 HC X2 X5
  cases hr : Cx.right (l.take 21)
  · have hqq := Lib.hid (Hq.out.trans (show Rc.getQ l = (Rc.none, 0, 23) by unfold Rc.getQ; rw [if_neg (by rw [HN.out]; have := Hl.out; omega), if_pos hr]))
    obtain ⟨e0, e1, e2, e3, e4, e5⟩ := box6h hx5
    obtain ⟨c0, c1, c2, c3, c4, c5⟩ := box6h hx2
    obtain ⟨d0, d1, d2, d3, d4, d5⟩ := box6hf hx2
    clear hr
    go_wp2_with fail
    exact bodyPost_ret (v := .tuple #[recV 0 0 (.slice none 0 0) (.slice none 0 0) 0 0, .int .i64 0, .int .i64 23]) (by simp [results, Tryd.results19, go_sem, recV, c0, c1, c2, c3, c4, c5]) rfl ⟨_, by rw [hqq.out]; rfl, by rw [hqq.out]; exact RecV.none_, below6 HB1.out (Nat.le_refl _) _ _ _ _ _ _⟩
  · have HR := Lib.hid hr
    clear hr
    have mk1 := run_make_b .i64 .i64 a1 (by omega)
    have mk2 := run_make_b .i64 .i64 a2 (by omega)
    have HX2 := Lib.hid hx2
    have HX5 := Lib.hid hx5
    clear hx2 hx5
    go_wp2_with fail
    refine (hn0.out _ (H.out.below (HB1.out.trans ((bnew w1 _).mono HB1.out.size)) hB)).mono ?_
    rintro e ww ⟨rfl, rfl⟩
    go_wp2_with fail
    refine (hn1.out _ (H.out.below (HB1.out.trans ((bnew w1 _).mono HB1.out.size)) hB)).mono ?_
    rintro e ww ⟨rfl, rfl⟩
    go_wp2_with fail
    refine (hn2.out _ (H.out.below (HB1.out.trans ((bnew w1 _).mono HB1.out.size)) hB)).mono ?_
    rintro e ww ⟨rfl, rfl⟩
    go_wp2_with fail
    refine (hn3.out _ (H.out.below (HB1.out.trans ((bnew w1 _).mono HB1.out.size)) hB)).mono ?_
    rintro e ww ⟨rfl, rfl⟩
    go_wp2_with fail
    refine (hn4.out _ (H.out.below (HB1.out.trans ((bnew w1 _).mono HB1.out.size)) hB)).mono ?_
    rintro e ww ⟨rfl, rfl⟩
    go_wp2_with fail
    refine (hn5.out _ (H.out.below (HB1.out.trans ((bnew w1 _).mono HB1.out.size)) hB)).mono ?_
    rintro e ww ⟨rfl, rfl⟩
    go_wp2_with fail
    obtain ⟨al1, al2, al3, al4⟩ := alloc3g w1 (.cells #[.int .u64 (a3 : Int), .int .i64 (a0 : Int), .slice (some ⟨w1.heap.size + 1, 0, none⟩) a1 a1, .slice (some ⟨w1.heap.size + 1 + 1, 0, none⟩) a2 a2, .int .u32 (a4 : Int), .int .u32 (a5 : Int)] 28) (.cells (zer a1) 5) (.cells (zer a2) 5)
    have K1 : RowAt (((w1.alloc (.cells #[.int .u64 (a3 : Int), .int .i64 (a0 : Int), .slice (some ⟨w1.heap.size + 1, 0, none⟩) a1 a1, .slice (some ⟨w1.heap.size + 1 + 1, 0, none⟩) a2 a2, .int .u32 (a4 : Int), .int .u32 (a5 : Int)] 28)).alloc (.cells (zer a1) 5)).alloc (.cells (zer a2) 5)) (w1.heap.size + 1) (List.replicate a1 0) := al2
    have K2 : RowAt (((w1.alloc (.cells #[.int .u64 (a3 : Int), .int .i64 (a0 : Int), .slice (some ⟨w1.heap.size + 1, 0, none⟩) a1 a1, .slice (some ⟨w1.heap.size + 1 + 1, 0, none⟩) a2 a2, .int .u32 (a4 : Int), .int .u32 (a5 : Int)] 28)).alloc (.cells (zer a1) 5)).alloc (.cells (zer a2) 5)) (w1.heap.size + 1 + 1) (List.replicate a2 0) := al3
    have f0 : Rc.Fit ⟨a3, a0, List.replicate a1 0, List.replicate a2 0, a4, a5⟩ := by
      constructor <;> simp <;> omega
    have rV : RecV (((w1.alloc (.cells #[.int .u64 (a3 : Int), .int .i64 (a0 : Int), .slice (some ⟨w1.heap.size + 1, 0, none⟩) a1 a1, .slice (some ⟨w1.heap.size + 1 + 1, 0, none⟩) a2 a2, .int .u32 (a4 : Int), .int .u32 (a5 : Int)] 28)).alloc (.cells (zer a1) 5)).alloc (.cells (zer a2) 5)) (((w1.alloc (.cells #[.int .u64 (a3 : Int), .int .i64 (a0 : Int), .slice (some ⟨w1.heap.size + 1, 0, none⟩) a1 a1, .slice (some ⟨w1.heap.size + 1 + 1, 0, none⟩) a2 a2, .int .u32 (a4 : Int), .int .u32 (a5 : Int)] 28)).alloc (.cells (zer a1) 5)).alloc (.cells (zer a2) 5)).heap.size (recV a3 a0 (.slice (some ⟨w1.heap.size + 1, 0, none⟩) a1 a1) (.slice (some ⟨w1.heap.size + 1 + 1, 0, none⟩) a2 a2) a4 a5) ⟨a3, a0, List.replicate a1 0, List.replicate a2 0, a4, a5⟩ :=
      ⟨_, _, rfl, K1.bs' K1.lt (by simp), K2.bs' K2.lt (by simp)⟩
    have hmay := ref8may _ _ _ _ rV (Nat.le_refl _) f0
    rw [← hq.out] at hmay
    unfold recV at hmay
    have HMAY := Lib.hid hmay
    have hx2 := (al4.block w.heap.size (by omega)).trans HX2.out
    have hx5 := (al4.block (w.heap.size + 1) (by omega)).trans HX5.out
    have hB3 := bstep HB1.out al4
    clear hmay mk1 mk2 f0 rV hn0 hn1 hn2 hn3 hn4 hn5 al4 al2 al3
    generalize (((w1.alloc (.cells #[.int .u64 (a3 : Int), .int .i64 (a0 : Int), .slice (some ⟨w1.heap.size + 1, 0, none⟩) a1 a1, .slice (some ⟨w1.heap.size + 1 + 1, 0, none⟩) a2 a2, .int .u32 (a4 : Int), .int .u32 (a5 : Int)] 28)).alloc (.cells (zer a1) 5)).alloc (.cells (zer a2) 5)) = W3 at *
    refine HMAY.out.mono ?_
    rintro e w4 ⟨rfl, b4⟩
    have Y6 := Lib.hid ((b4.block w1.heap.size (Array.getElem?_eq_some_iff.1 al1).1).trans al1)
    have Y2 := Lib.hid ((b4.block w.heap.size (Array.getElem?_eq_some_iff.1 hx2).1).trans hx2)
    have Y5 := Lib.hid ((b4.block (w.heap.size + 1) (Array.getElem?_eq_some_iff.1 hx5).1).trans hx5)
    have YK := Lib.hid (K1.on b4)
    have YV := Lib.hid (K2.on b4)
    have HB4 := Lib.hid (bstep hB3 b4)
    clear b4 al1 hx2 hx5 K1 K2 hB3 HMAY HX2 HX5
    cases hmm : Rc.mayB (Rc.rdR l)
    · have hqq := Lib.hid (Hq.out.trans (Rc.getQ_may (by rw [HN.out]; exact Hl.out) HR.out hmm))
      obtain ⟨e0, e1, e2, e3, e4, e5⟩ := box6h Y5.out
      obtain ⟨c0, c1, c2, c3, c4, c5⟩ := box6h Y2.out
      obtain ⟨d0, d1, d2, d3, d4, d5⟩ := box6hf Y2.out
      clear hmm
      go_wp2_with fail
      exact bodyPost_ret (v := .tuple #[recV 0 0 (.slice none 0 0) (.slice none 0 0) 0 0, .int .i64 0, .int .i64 23]) (by simp [results, Tryd.results19, go_sem, recV, c0, c1, c2, c3, c4, c5]) rfl ⟨_, by rw [hqq.out]; rfl, by rw [hqq.out]; exact RecV.none_, below6 HB4.out (Nat.le_refl _) _ _ _ _ _ _⟩
    · have hsz : Hid (Rc.sizeN (Rc.rdR l) = 25 + a1 + a2) := Lib.hid (by rw [hq.out]; simp [Rc.sizeN])
      obtain ⟨sz, hszv⟩ : ∃ sz, sz = 25 + a1 + a2 := ⟨_, rfl⟩
      have hsv : (21 : Int) + (a1 : Int) + (a2 : Int) + 4 = (sz : Int) := by omega
      have hszL : 25 ≤ sz := by omega
      have hszU : sz ≤ 70000 := by omega
      have HSZ := Lib.hid hszv
      have HSE : Hid (Rc.sizeN (Rc.rdR l) = sz) := Lib.hid (by rw [hsz.out, hszv])
      have Hmm := Lib.hid hmm
      clear hszv hmm hsz
      by_cases hlt : n < sz
      · have hqq := Lib.hid (Hq.out.trans (Rc.getQ_torn (by rw [HN.out]; exact Hl.out) HR.out Hmm.out (by rw [HN.out, HSE.out]; exact hlt)))
        obtain ⟨e0, e1, e2, e3, e4, e5⟩ := box6h Y5.out
        obtain ⟨c0, c1, c2, c3, c4, c5⟩ := box6h Y2.out
        obtain ⟨d0, d1, d2, d3, d4, d5⟩ := box6hf Y2.out
        go_wp2_with fail
        exact bodyPost_ret (v := .tuple #[recV 0 0 (.slice none 0 0) (.slice none 0 0) 0 0, .int .i64 0, .int .i64 22]) (by simp [results, Tryd.results19, go_sem, recV, c0, c1, c2, c3, c4, c5]) rfl ⟨_, by rw [hqq.out]; rfl, by rw [hqq.out]; exact RecV.none_, below6 HB4.out (Nat.le_refl _) _ _ _ _ _ _⟩
      · have hge : sz ≤ n := by omega
        have hltn : decide (n < sz) = false := by simp; omega
        obtain ⟨A3, m3, c3', cut3, s3⟩ := cut_take H.out sz sz rfl (by rw [HN.out]; exact hge)
        have hs3 := s3 _ _ (H.out.below HB4.out hB)
        have hc3 := Crc.rright_b _ _ _ _ hs3 (Nat.le_trans hB HB4.out.size) (by rw [List.length_take]; omega)
        have HC3 := Lib.hid hc3
        clear s3 hs3 hc3
        go_wp2_with fail
        refine HC3.out.mono ?_
        rintro e w5 ⟨rfl, b5⟩
        have Z6 := Lib.hid ((b5.block w1.heap.size (Array.getElem?_eq_some_iff.1 Y6.out).1).trans Y6.out)
        have Z2 := Lib.hid ((b5.block w.heap.size (Array.getElem?_eq_some_iff.1 Y2.out).1).trans Y2.out)
        have Z5 := Lib.hid ((b5.block (w.heap.size + 1) (Array.getElem?_eq_some_iff.1 Y5.out).1).trans Y5.out)
        have ZK := Lib.hid (YK.out.on b5)
        have ZV := Lib.hid (YV.out.on b5)
        have HB5 := Lib.hid (bstep HB4.out b5)
        clear b5 HC3 Y6 Y2 Y5 YK YV
        cases hw : Cx.right (l.take sz)
        · have hqq := Lib.hid (Hq.out.trans (Rc.getQ_wrong (by rw [HN.out]; exact Hl.out) HR.out Hmm.out (by rw [HN.out, HSE.out]; exact hlt) (by rw [HSE.out]; exact hw)))
          rw [HSE.out] at hqq
          obtain ⟨e0, e1, e2, e3, e4, e5⟩ := box6h Z5.out
          obtain ⟨c0, c1, c2, c3, c4, c5⟩ := box6h Z2.out
          obtain ⟨d0, d1, d2, d3, d4, d5⟩ := box6hf Z2.out
          clear hw
          go_wp2_with fail
          exact bodyPost_ret (v := .tuple #[recV 0 0 (.slice none 0 0) (.slice none 0 0) 0 0, .int .i64 (sz : Int), .int .i64 23]) (by simp [results, Tryd.results19, go_sem, recV, c0, c1, c2, c3, c4, c5]) rfl ⟨_, by rw [hqq.out]; rfl, by rw [hqq.out]; exact RecV.none_, below6 HB5.out (Nat.le_refl _) _ _ _ _ _ _⟩
        · have hqq := Lib.hid (Hq.out.trans (Rc.getQ_full (by rw [HN.out]; exact Hl.out) HR.out Hmm.out (by rw [HN.out, HSE.out]; exact hlt) (by rw [HSE.out]; exact hw)))
          rw [HSE.out] at hqq
          clear hw
          go_wp2_with fail
          obtain ⟨hrd, hAl⟩ := bs_rd H.out
          obtain ⟨bb, oo, rfl, hbb, hcel⟩ := hrd (by intro e; have := congrArg List.length e; rw [bvs_length, List.length_nil] at this; omega)
          have HCEL := Lib.hid (show ∀ i x, l[i]? = some x → ∀ W, Below w.heap.size w W → W.cell? ⟨bb, oo + i, none⟩ = some (.int .u8 ((x : UInt8).toNat : Int)) from fun i x hx W hW => (hW.cell (p := ⟨bb, oo + i, none⟩) (Nat.lt_of_lt_of_le hbb hB)).trans (hcel i _ (by simp [bvs, hx, bv])))
          have HS := HSZ.out
          have HD1 := Lib.hid (show (l.drop 21).length = n - 21 by rw [List.length_drop, HN.out])
          have HD2 := Lib.hid (show (l.drop (21 + a1)).length = n - (21 + a1) by rw [List.length_drop, HN.out])
          have hs1 : 25 + a1 + a2 ≤ n := by omega
          clear hrd hcel hAl HS
          go_loopg [10] a1 (fun k i wr => ∃ j : Nat, j + k = a1 ∧ i = .int .i64 j ∧ RowAt wr (w1.heap.size + 1) (cpL (l.drop 21) a1 j) ∧ (∀ kk, kk ≠ w1.heap.size + 1 → wr.heap[kk]? = w5.heap[kk]?) ∧ Below w.heap.size w wr)
          case atStart => exact ⟨0, by omega, rfl, by rw [cpL_zero]; exact ZK.out, fun _ _ => rfl, HB5.out⟩
          case round =>
            obtain ⟨j, hj, rfl, hrow, hoth, hb⟩ := hrel
            have HRow := Lib.hid hrow
            have HOth := Lib.hid hoth
            have HBr := Lib.hid hb
            clear hrow hoth hb
            obtain ⟨e0, e1, e2, e3, e4, e5⟩ := box6h ((HOth.out w1.heap.size (by omega)).trans Z6.out)
            by_cases hlt2 : j < a1
            · obtain ⟨x, hx⟩ : ∃ x, (l.drop 21)[j]? = some x := ⟨_, List.getElem?_eq_getElem (by rw [HD1.out]; omega)⟩
              have hsrc := HCEL.out (21 + j) x (by rw [← List.getElem?_drop]; exact hx) wr HBr.out
              obtain ⟨y, hy, hfr⟩ := HRow.out.cell j (by rw [cpL_len _ _ _ (by omega) (by rw [HD1.out]; omega)]; exact hlt2)
              have hbn : 21 + j < n := by omega
              have Hx := Lib.hid hx
              clear hx
              go_wp2_with fail
              go_region
              go_wp2_with fail
              go_roundg (gk - 1)
              case measure => omega
              case rel =>
                have h1 := HRow.out.put j x
                rw [cpL_set _ _ _ _ hlt2 (by rw [HD1.out]; omega) Hx.out] at h1
                exact ⟨j + 1, by omega, by go_num, h1, fun kk hkk => (Below.heap_setCell wr ⟨w1.heap.size + 1, j, none⟩ _ kk hkk).trans (HOth.out kk hkk), (HBr.out.setCell (p := ⟨w1.heap.size + 1, j, none⟩) (by show w.heap.size ≤ w1.heap.size + 1; omega) _).drew⟩
            · obtain rfl : a1 = j := by omega
              obtain ⟨wA, hwA⟩ : ∃ wA, wA = wr := ⟨_, rfl⟩
              subst hwA
              have ZV1 := Lib.hid (show RowAt wA (w1.heap.size + 1 + 1) (List.replicate a2 0) from (HOth.out (w1.heap.size + 1 + 1) (by omega)).trans ZV.out)
              have Z61 := Lib.hid ((HOth.out w1.heap.size (by omega)).trans Z6.out)
              have Z21 := Lib.hid ((HOth.out w.heap.size (by omega)).trans Z2.out)
              go_wp2_with fail
              clear e0 e1 e2 e3 e4 e5
              go_loopg [11] a2 (fun k i wr => ∃ j : Nat, j + k = a2 ∧ i = .int .i64 j ∧ RowAt wr (w1.heap.size + 1 + 1) (cpL (l.drop (21 + a1)) a2 j) ∧ (∀ kk, kk ≠ w1.heap.size + 1 + 1 → wr.heap[kk]? = wA.heap[kk]?) ∧ Below w.heap.size w wr)
              case atStart => exact ⟨0, by omega, rfl, by rw [cpL_zero]; exact ZV1.out, fun _ _ => rfl, HBr.out⟩
              case round =>
                obtain ⟨j, hj2, rfl, hrow, hoth, hb⟩ := hrel
                have HRow2 := Lib.hid hrow
                have HOth2 := Lib.hid hoth
                have HBr2 := Lib.hid hb
                clear hrow hoth hb
                obtain ⟨e0, e1, e2, e3, e4, e5⟩ := box6h ((HOth2.out w1.heap.size (by omega)).trans Z61.out)
                by_cases hlt3 : j < a2
                · obtain ⟨x, hx⟩ : ∃ x, (l.drop (21 + a1))[j]? = some x := ⟨_, List.getElem?_eq_getElem (by rw [HD2.out]; omega)⟩
                  have hsrc := HCEL.out (21 + a1 + j) x (by rw [← List.getElem?_drop]; exact hx) wr HBr2.out
                  obtain ⟨y, hy, hfr⟩ := HRow2.out.cell j (by rw [cpL_len _ _ _ (by omega) (by rw [HD2.out]; omega)]; exact hlt3)
                  have hbn : 21 + a1 + j < n := by omega
                  have Hx := Lib.hid hx
                  clear hx
                  go_wp2_with fail
                  go_region
                  go_wp2_with fail
                  go_roundg (gk - 1)
                  case measure => omega
                  case rel =>
                    have h1 := HRow2.out.put j x
                    rw [cpL_set _ _ _ _ hlt3 (by rw [HD2.out]; omega) Hx.out] at h1
                    exact ⟨j + 1, by omega, by go_num, h1, fun kk hkk => (Below.heap_setCell wr ⟨w1.heap.size + 1 + 1, j, none⟩ _ kk hkk).trans (HOth2.out kk hkk), (HBr2.out.setCell (p := ⟨w1.heap.size + 1 + 1, j, none⟩) (by show w.heap.size ≤ w1.heap.size + 1 + 1; omega) _).drew⟩
                · obtain rfl : a2 = j := by omega
                  have hk1 := (HOth2.out (w1.heap.size + 1) (by omega)).trans (show wA.heap[w1.heap.size + 1]? = _ from HRow.out)
                  have hx2 := (HOth2.out w.heap.size (by omega)).trans Z21.out
                  obtain ⟨c0, c1, c2, c3, c4, c5⟩ := box6h hx2
                  obtain ⟨d0, d1, d2, d3, d4, d5⟩ := box6hf hx2
                  have hF : Rc.full l = ⟨a3, a0, (l.drop 21).take a1, (l.drop (21 + a1)).take a2, a4, a5⟩ := by rw [hfull.out, hq.out]
                  have l1 : ((l.drop 21).take a1).length = a1 := by rw [List.length_take, HD1.out]; omega
                  have l2 : ((l.drop (21 + a1)).take a2).length = a2 := by rw [List.length_take, HD2.out]; omega
                  have R1 := Lib.hid (show RowAt wr (w1.heap.size + 1) ((l.drop 21).take a1) by have h := hk1; rw [cpL_all] at h; exact h)
                  have R2 := Lib.hid (show RowAt wr (w1.heap.size + 1 + 1) ((l.drop (21 + a1)).take a2) by have h := HRow2.out; rw [cpL_all] at h; exact h)
                  have HF := Lib.hid hF
                  have L1 := Lib.hid l1
                  have L2 := Lib.hid l2
                  clear hk1 hx2 hF l1 l2
                  go_wp2_with fail
                  exact bodyPost_ret (v := .tuple #[recV a3 a0 (.slice (some ⟨w1.heap.size + 1, 0, none⟩) a1 a1) (.slice (some ⟨w1.heap.size + 1 + 1, 0, none⟩) a2 a2) a4 a5, .int .i64 (sz : Int), .int .i64 0]) (by simp [results, Tryd.results19, go_sem, recV, c0, c1, c2, c3, c4, c5]) rfl ⟨_, by rw [hqq.out]; rfl, by
                    rw [hqq.out]
                    show RecV _ _ _ (Rc.full l)
                    rw [HF.out]
                    have r1 := R1.out.set6 (b := w.heap.size) (by omega) (.int .u64 (a3 : Int)) (.int .i64 (a0 : Int)) (.slice (some ⟨w1.heap.size + 1, 0, none⟩) a1 a1) (.slice (some ⟨w1.heap.size + 1 + 1, 0, none⟩) a2 a2) (.int .u32 (a4 : Int)) (.int .u32 (a5 : Int))
                    have r2 := R2.out.set6 (b := w.heap.size) (by omega) (.int .u64 (a3 : Int)) (.int .i64 (a0 : Int)) (.slice (some ⟨w1.heap.size + 1, 0, none⟩) a1 a1) (.slice (some ⟨w1.heap.size + 1 + 1, 0, none⟩) a2 a2) (.int .u32 (a4 : Int)) (.int .u32 (a5 : Int))
                    exact ⟨_, _, rfl, r1.bs' r1.lt L1.out, r2.bs' r2.lt L2.out⟩, below6 HBr2.out (Nat.le_refl _) _ _ _ _ _ _⟩
/-- the document's answer, at whatever bytes; the head is not right: see there -/
theorem rget8_b (v : Value) (l : List UInt8) (B : Nat) (w : World) (h : Bs w B v l) (hB : B ≤ w.heap.size) (hm : l.length ≤ 100000) (q : Rc.Rec) (n e : Nat) (hq : Rc.getQ l = (q, n, e)) :
    Calls Tryd.prog 19 #[v] w fun x w' => ∃ rv, x = .returned (.tuple #[rv, .int .i64 (n : Int), .int .i64 (e : Int)]) ∧ RecV w' w'.heap.size rv q ∧ Below w.heap.size w w' := by
  by_cases hl : l.length < 21
  · have e1 : Rc.getQ l = (Rc.none, 0, 22) := by unfold Rc.getQ; rw [if_pos hl]
    rw [e1] at hq
    obtain ⟨rfl, h2⟩ := Prod.mk.inj hq
    obtain ⟨rfl, rfl⟩ := Prod.mk.inj h2
    exact rget8_short v l B w h hl
  · have := rget8_rest v l B w h hB (by omega) hm
    rw [hq] at this
    exact this
end Go.Proofs.YtmiljicohnfejaaDoor
