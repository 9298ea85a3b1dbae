
/-
  Layer 8, plain mathematics: records as runs, what bytes begin with, turned bits.
-/
import Derived.Test.YtmiljicohnfejaaDoorLxPlain
import Derived.Test.YtmiljicohnfejaaDoorCxRun
set_option linter.unusedVariables false
set_option linter.unusedSimpArgs false
namespace Go.Proofs.YtmiljicohnfejaaDoor.Rc
open Go.RowKit

/-- a version of a key -/
structure Rec where
  seq : Int
  kind : Int
  key : List UInt8
  val : List UInt8
  seg : Int
  off : Int

theorem Rec.ext' {a b : Rec} (h1 : a.seq = b.seq) (h2 : a.kind = b.kind) (h3 : a.key = b.key) (h4 : a.val = b.val) (h5 : a.seg = b.seg) (h6 : a.off = b.off) : a = b := by
  cases a; cases b; simp_all

def none : Rec := ⟨0, 0, [], [], 0, 0⟩
/-- the kind, and the value that it may have -/
def kindB (r : Rec) : Bool := decide (r.kind = 1 ∧ r.val.length ≤ 1024) || decide (r.kind = 2 ∧ r.val.length = 0)
def mayB (r : Rec) : Bool := decide (1 ≤ r.seq ∧ r.seq ≤ 1099511627776) && decide (1 ≤ r.key.length ∧ r.key.length ≤ 64) && Lx.mayB r.seg r.off && kindB r
def sizeN (r : Rec) : Nat := 25 + r.key.length + r.val.length
def sameB (a b : Rec) : Bool := decide (a.seq = b.seq ∧ a.kind = b.kind ∧ a.seg = b.seg ∧ a.off = b.off) && (a.key == b.key) && (a.val == b.val)
theorem sameB_self (a : Rec) : sameB a a = true := by simp [sameB]
theorem sameB_iff {a b : Rec} : sameB a b = true ↔ a = b := by
  constructor
  · intro h
    simp [sameB] at h
    exact Rec.ext' h.1.1.1 h.1.1.2.1 h.1.2 h.2 h.1.1.2.2.1 h.1.1.2.2.2
  · rintro rfl
    exact sameB_self _

/-- what a head tells, and in how many bytes -/
def told (r : Rec) : List (Nat × Nat) := [(r.kind.toNat, 1), (r.key.length, 1), (r.val.length, 2), (r.seq.toNat, 6), (r.seg.toNat, 3), (r.off.toNat, 4)]
def rowL (l : List (Nat × Nat)) : List UInt8 := l.flatMap fun p => Px.leL p.1 p.2
theorem rowL_snoc (l : List (Nat × Nat)) (p : Nat × Nat) : rowL (l ++ [p]) = rowL l ++ Px.leL p.1 p.2 := by simp [rowL]
def headL (r : Rec) : List UInt8 := rowL (told r)
theorem headL_eq (r : Rec) : headL r = Px.leL r.kind.toNat 1 ++ (Px.leL r.key.length 1 ++ (Px.leL r.val.length 2 ++ (Px.leL r.seq.toNat 6 ++ (Px.leL r.seg.toNat 3 ++ Px.leL r.off.toNat 4)))) := by
  simp [headL, rowL, told]
theorem headL_length (r : Rec) : (headL r).length = 17 := by
  rw [headL_eq]; simp [Px.leL_length]
/-- its run -/
def runL (r : Rec) : List UInt8 := Cx.cover (Cx.cover (headL r) ++ r.key ++ r.val)
theorem runL_length (r : Rec) : (runL r).length = sizeN r := by
  simp [runL, Cx.cover_length, headL_length, sizeN]; omega

/-- as a head tells it -/
def rdR (b : List UInt8) : Rec :=
  { seq := (Px.rdN (b.drop 4) 6 : Nat), kind := (Px.rdN b 1 : Nat), key := List.replicate (Px.rdN (b.drop 1) 1) 0, val := List.replicate (Px.rdN (b.drop 2) 2) 0,
    seg := (Px.rdN (b.drop 10) 3 : Nat), off := (Px.rdN (b.drop 13) 4 : Nat) }
/-- with its key and its value -/
def full (b : List UInt8) : Rec :=
  { rdR b with key := (b.drop 21).take (Px.rdN (b.drop 1) 1), val := (b.drop (21 + Px.rdN (b.drop 1) 1)).take (Px.rdN (b.drop 2) 2) }
/-- what bytes begin with: the record, how many bytes, the error's number -/
def getQ (b : List UInt8) : Rec × Nat × Nat :=
  if b.length < 21 then (none, 0, 22)
  else if Cx.right (b.take 21) = false then (none, 0, 23)
  else if mayB (rdR b) = false then (none, 0, 23)
  else if b.length < sizeN (rdR b) then (none, 0, 22)
  else if Cx.right (b.take (sizeN (rdR b))) = false then (none, sizeN (rdR b), 23)
  else (full b, sizeN (rdR b), 0)

/-- as long, and nothing in it -/
def blank (r : Rec) : Rec := { r with key := List.replicate r.key.length 0, val := List.replicate r.val.length 0 }
theorem mayB_blank (r : Rec) : mayB (blank r) = mayB r := by
  unfold mayB kindB
  rw [show (blank r).key.length = r.key.length by simp [blank], show (blank r).val.length = r.val.length by simp [blank]]
  rfl
theorem sizeN_blank (r : Rec) : sizeN (blank r) = sizeN r := by simp [sizeN, blank]

theorem may_bounds {r : Rec} (h : mayB r = true) : 1 ≤ r.seq ∧ r.seq ≤ 1099511627776 ∧ 1 ≤ r.key.length ∧ r.key.length ≤ 64 ∧ 0 ≤ r.seg ∧ r.seg ≤ 16777215 ∧ 0 ≤ r.off ∧ r.off ≤ 16777216 ∧
    1 ≤ r.kind ∧ r.kind ≤ 2 ∧ r.val.length ≤ 1024 := by
  simp only [mayB, kindB, Lx.mayB, Lx.noneB, Lx.standsB, Bool.and_eq_true, Bool.or_eq_true, decide_eq_true_eq] at h
  omega
theorem may_size {r : Rec} (h : mayB r = true) : 26 ≤ sizeN r ∧ sizeN r ≤ 1113 := by
  have := may_bounds h
  unfold sizeN
  omega

theorem rd_head {r : Rec} (h : mayB r = true) (m : List UInt8) : rdR (headL r ++ m) = blank r := by
  obtain ⟨h1, h2, h3, h4, h5, h6, h7, h8, h9, h10, h11⟩ := may_bounds h
  have e := headL_eq r
  have hl := Px.leL_length
  have d1 : (headL r ++ m).drop 1 = Px.leL r.key.length 1 ++ (Px.leL r.val.length 2 ++ (Px.leL r.seq.toNat 6 ++ (Px.leL r.seg.toNat 3 ++ (Px.leL r.off.toNat 4 ++ m)))) := by
    rw [e]; simp only [List.append_assoc]; exact List.drop_left' (hl _ _)
  have d2 : (headL r ++ m).drop 2 = Px.leL r.val.length 2 ++ (Px.leL r.seq.toNat 6 ++ (Px.leL r.seg.toNat 3 ++ (Px.leL r.off.toNat 4 ++ m))) := by
    rw [show 2 = 1 + 1 by rfl, ← List.drop_drop, d1]; exact List.drop_left' (hl _ _)
  have d4 : (headL r ++ m).drop 4 = Px.leL r.seq.toNat 6 ++ (Px.leL r.seg.toNat 3 ++ (Px.leL r.off.toNat 4 ++ m)) := by
    rw [show 4 = 2 + 2 by rfl, ← List.drop_drop, d2]; exact List.drop_left' (hl _ _)
  have d10 : (headL r ++ m).drop 10 = Px.leL r.seg.toNat 3 ++ (Px.leL r.off.toNat 4 ++ m) := by
    rw [show 10 = 4 + 6 by rfl, ← List.drop_drop, d4]; exact List.drop_left' (hl _ _)
  have d13 : (headL r ++ m).drop 13 = Px.leL r.off.toNat 4 ++ m := by
    rw [show 13 = 10 + 3 by rfl, ← List.drop_drop, d10]; exact List.drop_left' (hl _ _)
  have d0 : headL r ++ m = Px.leL r.kind.toNat 1 ++ (Px.leL r.key.length 1 ++ (Px.leL r.val.length 2 ++ (Px.leL r.seq.toNat 6 ++ (Px.leL r.seg.toNat 3 ++ (Px.leL r.off.toNat 4 ++ m))))) := by
    rw [e]; simp only [List.append_assoc]
  have r0 : Px.rdN (headL r ++ m) 1 = r.kind.toNat := by rw [d0]; exact Px.rdN_fix _ _ _ (Nat.div_eq_of_lt (by simp; omega))
  apply Rec.ext'
  · show ((Px.rdN ((headL r ++ m).drop 4) 6 : Nat) : Int) = r.seq
    rw [d4, Px.rdN_fix _ _ _ (Nat.div_eq_of_lt (by simp; omega))]; omega
  · show ((Px.rdN (headL r ++ m) 1 : Nat) : Int) = r.kind
    rw [r0]; omega
  · show List.replicate (Px.rdN ((headL r ++ m).drop 1) 1) 0 = List.replicate r.key.length 0
    rw [d1, Px.rdN_fix _ _ _ (Nat.div_eq_of_lt (by simp; omega))]
  · show List.replicate (Px.rdN ((headL r ++ m).drop 2) 2) 0 = List.replicate r.val.length 0
    rw [d2, Px.rdN_fix _ _ _ (Nat.div_eq_of_lt (by simp; omega))]
  · show ((Px.rdN ((headL r ++ m).drop 10) 3 : Nat) : Int) = r.seg
    rw [d10, Px.rdN_fix _ _ _ (Nat.div_eq_of_lt (by simp; omega))]; omega
  · show ((Px.rdN ((headL r ++ m).drop 13) 4 : Nat) : Int) = r.off
    rw [d13, Px.rdN_fix _ _ _ (Nat.div_eq_of_lt (by simp; omega))]; omega
theorem rd_lens {r : Rec} (h : mayB r = true) (m : List UInt8) : Px.rdN ((headL r ++ m).drop 1) 1 = r.key.length ∧ Px.rdN ((headL r ++ m).drop 2) 2 = r.val.length := by
  have e := rd_head h m
  have e1 := congrArg (fun r => r.key.length) e
  have e2 := congrArg (fun r => r.val.length) e
  simp [rdR, blank] at e1 e2
  simp [e1, e2]

/-- behind the head -/
def tailL (r : Rec) : List UInt8 := Cx.leL (Cx.sum (headL r)).toNat 4 ++ (r.key ++ (r.val ++ Cx.leL (Cx.sum (Cx.cover (headL r) ++ r.key ++ r.val)).toNat 4))
theorem runL_parts (r : Rec) : runL r = headL r ++ tailL r := by simp [runL, tailL, Cx.cover]
theorem runL_cover (r : Rec) : runL r = Cx.cover (headL r) ++ (r.key ++ (r.val ++ Cx.leL (Cx.sum (Cx.cover (headL r) ++ r.key ++ r.val)).toNat 4)) := by simp [runL, Cx.cover]
theorem cover_head_length (r : Rec) : (Cx.cover (headL r)).length = 21 := by rw [Cx.cover_length, headL_length]

theorem take_head (r : Rec) (k : Nat) (m : List UInt8) (h : 21 ≤ k) : ((runL r).take k ++ m).take 21 = Cx.cover (headL r) := by
  rw [List.take_append_of_le_length (by rw [List.length_take, runL_length]; unfold sizeN; omega), List.take_take, Nat.min_eq_left h, runL_cover]
  exact List.take_left' (cover_head_length r)
theorem take_head' (r : Rec) (m : List UInt8) : (runL r ++ m).take 21 = Cx.cover (headL r) := by
  have := take_head r (runL r).length m (by rw [runL_length]; unfold sizeN; omega)
  rwa [List.take_length] at this
theorem rd_run {r : Rec} (h : mayB r = true) (m : List UInt8) : rdR (runL r ++ m) = blank r := by
  rw [runL_parts, List.append_assoc]; exact rd_head h _
theorem rd_run_take {r : Rec} (h : mayB r = true) (k : Nat) (hk : 21 ≤ k) : rdR ((runL r).take k) = blank r := by
  rw [runL_parts, List.take_append, List.take_of_length_le (by rw [headL_length]; omega)]
  exact rd_head h _
theorem full_run {r : Rec} (h : mayB r = true) (m : List UInt8) : full (runL r ++ m) = r := by
  obtain ⟨l1, l2⟩ := rd_lens h (tailL r ++ m)
  have e : runL r ++ m = headL r ++ (tailL r ++ m) := by rw [runL_parts, List.append_assoc]
  have hd : (runL r ++ m).drop 21 = r.key ++ (r.val ++ (Cx.leL (Cx.sum (Cx.cover (headL r) ++ r.key ++ r.val)).toNat 4 ++ m)) := by
    rw [runL_cover]; simp only [List.append_assoc]; exact List.drop_left' (cover_head_length r)
  have hrd := rd_run h m
  rw [← e] at l1 l2
  unfold full
  rw [l1, l2, hrd, ← List.drop_drop, hd, List.drop_left' rfl, List.take_left' rfl, List.take_left' rfl]
  rfl
/-- a run, whatever stands behind -/
theorem get_run {r : Rec} (h : mayB r = true) (m : List UInt8) : getQ (runL r ++ m) = (r, sizeN r, 0) := by
  have hs := may_size h
  have hl : (runL r ++ m).length = sizeN r + m.length := by rw [List.length_append, runL_length]
  unfold getQ
  rw [rd_run h, mayB_blank, h, sizeN_blank, take_head' r m, Cx.right_cover, full_run h, hl, List.take_left' (runL_length r), if_neg (by omega), if_neg (by simp), if_neg (by simp), if_neg (by omega)]
  rw [show Cx.right (runL r) = true from Cx.right_cover _, if_neg (by simp)]
/-- a beginning of it -/
theorem get_torn {r : Rec} (h : mayB r = true) (k : Nat) (hk : k < sizeN r) : getQ ((runL r).take k) = (none, 0, 22) := by
  have hs := may_size h
  have hl : ((runL r).take k).length = k := by rw [List.length_take, runL_length]; omega
  unfold getQ
  rw [hl]
  by_cases h21 : k < 21
  · rw [if_pos h21]
  · have ht := take_head r k [] (by omega)
    rw [List.append_nil] at ht
    rw [if_neg h21, ht, Cx.right_cover, if_neg (by simp), rd_run_take h k (by omega), mayB_blank, h, if_neg (by simp), sizeN_blank, if_pos hk]

/-- the run is turned, bit by bit, beginning at 'first': the whole, and its head -/
def Turns (R : List UInt8) (b : BitVec 32) (first k : Nat) (l : List UInt8) : Prop :=
  Cx.turned R b first k l ∧ (first < 168 → ∃ k', k' ≤ k ∧ (0 < k → 0 < k') ∧ (first + k ≤ 168 → k' = k) ∧ Cx.turned (R.take 21) b first k' (l.take 21)) ∧ (168 ≤ first → l.take 21 = R.take 21)
theorem Turns.zero (R : List UInt8) (b : BitVec 32) (first : Nat) : Turns R b first 0 R :=
  ⟨Cx.turned_zero R b first, fun _ => ⟨0, by omega, by omega, by omega, Cx.turned_zero _ b first⟩, fun _ => rfl⟩
theorem Turns.same {R l : List UInt8} {b : BitVec 32} {first k : Nat} (h : Turns R b first k l) (hk : k < 32) (hb : b.getLsbD k = false) : Turns R b first (k + 1) l := by
  refine ⟨Cx.turned_same h.1 hk hb, fun hf => ?_, h.2.2⟩
  obtain ⟨k', h1, h2, h3, h4⟩ := h.2.1 hf
  by_cases hc : first + k < 168
  · have e := h3 (by omega)
    subst e
    exact ⟨k' + 1, by omega, by omega, by omega, Cx.turned_same h4 hk hb⟩
  · exact ⟨k', by omega, fun _ => h2 (by omega), by omega, h4⟩
theorem Turns.bit {R l : List UInt8} {b : BitVec 32} {first k p q : Nat} {c : UInt8} (h : Turns R b first k l) (hk : k < 32) (hb : b.getLsbD k = true) (hp : l[p]? = some c) (hq : q < 8) (hf : first + k = 8 * p + q) :
    Turns R b first (k + 1) (l.set p (c ^^^ UInt8.ofNat (2 ^ q))) := by
  have hset : (l.set p (c ^^^ UInt8.ofNat (2 ^ q))).take 21 = if p < 21 then (l.take 21).set p (c ^^^ UInt8.ofNat (2 ^ q)) else l.take 21 := by
    split
    · rw [List.take_set]
    · rw [List.take_set, List.set_eq_of_length_le (by rw [List.length_take]; omega)]
  refine ⟨Cx.turned_bit h.1 hk hb hp hq hf, fun hf1 => ?_, fun hf1 => ?_⟩
  · obtain ⟨k', h1, h2, h3, h4⟩ := h.2.1 hf1
    by_cases hc : first + k < 168
    · have e := h3 (by omega)
      subst e
      rw [hset, if_pos (by omega)]
      exact ⟨k' + 1, by omega, by omega, by omega, Cx.turned_bit h4 hk hb (by rw [List.getElem?_take, if_pos (by omega)]; exact hp) hq hf⟩
    · rw [hset, if_neg (by omega)]
      exact ⟨k', by omega, fun _ => h2 (by omega), by omega, h4⟩
  · rw [hset, if_neg (by omega)]
    exact h.2.2 hf1
/-- of a run of which bits are turned nothing is told but that it is bad -/
theorem get_turned {r : Rec} {b : BitVec 32} {first k : Nat} {l : List UInt8} (h : mayB r = true) (ht : Turns (runL r) b first k l) (hk : k ≤ 32) (h0 : 0 < k) (hb : b.getLsbD 0 = true) (m : List UInt8) :
    getQ (l ++ m) = (none, if first < 168 then 0 else sizeN r, 23) := by
  have hs := may_size h
  have hll : l.length = sizeN r := by rw [ht.1.1, runL_length]
  have hl : (l ++ m).length = sizeN r + m.length := by rw [List.length_append, hll]
  have hh : (runL r).take 21 = Cx.cover (headL r) := by
    have := take_head' r []
    rwa [List.append_nil] at this
  have ht21 : (l ++ m).take 21 = l.take 21 := List.take_append_of_le_length (by omega)
  unfold getQ
  rw [hl, if_neg (by omega), ht21]
  by_cases hf : first < 168
  · obtain ⟨k', h1, h2, _, h4⟩ := ht.2.1 hf
    rw [hh] at h4
    have := Cx.turned_wrong h4 (by rw [cover_head_length]; omega) (Cx.right_cover _) (by omega) (h2 h0) hb
    rw [if_pos this, if_pos hf]
  · have e := ht.2.2 (by omega)
    rw [hh] at e
    have hw := Cx.turned_wrong ht.1 (by rw [runL_length]; omega) (Cx.right_cover _) hk h0 hb
    have hr : rdR (l ++ m) = blank r := by
      have e2 : l ++ m = headL r ++ (Cx.leL (Cx.sum (headL r)).toNat 4 ++ (l.drop 21 ++ m)) := by
        rw [← List.append_assoc, ← List.append_assoc]
        have : headL r ++ Cx.leL (Cx.sum (headL r)).toNat 4 = l.take 21 := e.symm
        rw [this, List.take_append_drop]
      rw [e2]
      exact rd_head h _
    rw [e, Cx.right_cover, if_neg (by simp), hr, mayB_blank, h, if_neg (by simp), sizeN_blank, if_neg (by omega), List.take_left' hll, if_pos hw, if_neg hf]
end Go.Proofs.YtmiljicohnfejaaDoor.Rc
