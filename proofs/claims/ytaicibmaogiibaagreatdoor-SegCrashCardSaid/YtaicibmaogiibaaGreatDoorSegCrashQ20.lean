/-
  SegCrash, part 20 of what the law's proof leans on: ScPlain, ScLost, ScCut, ScMem, ScOk, ScRSeal, ScLast, ScLaidS, ScLand, ScKnP.
-/
import Derived.Test.YtaicibmaogiibaaGreatDoorSegCrashQ3
import Derived.Test.YtaicibmaogiibaaGreatDoorSegCrashQ2
import Derived.Test.YtaicibmaogiibaaGreatDoorSegCrashQ5
import Derived.Test.YtaicibmaogiibaaGreatDoorSegCrashQ1
import Derived.Lib.SmallJoins
import Derived.Deep.OwnRows
import Derived.Deep.RegionHeldLaw
import Derived.Deep.QuietTactic
import Derived.Lib.SlBytesConst
import Derived.Test.YtaicibmaogiibaaGreatDoorSegCrashQ6
import Derived.Test.YtaicibmaogiibaaGreatDoorSegCrashQ7
/- ScPlain -/

/-
  Layer 12, plain mathematics: a scan of a segment's bytes, as the document has it; runs that were laid one behind the other, cut or with more behind them.
-/
set_option linter.unusedVariables false
set_option linter.unusedSimpArgs false
namespace Go.Proofs.YtaicibmaogiibaaGreatDoor.Sc
open Go.RowKit

/-- a record that was found: where, how long its run is -/
structure Fd where
  off : Nat
  size : Nat
  r : Rc.Rec
structure S where
  id : Nat
  found : List Fd
  passed : List Nat
  stop : Nat
  why : Nat
/-- from a place on: the last number, what was found, what was passed over -/
def go (id : Nat) (b : List UInt8) : Nat → Nat → Int → List Fd → List Nat → S
  | 0, p, _, fs, ps => ⟨id, fs, ps, p, 0⟩
  | k + 1, p, last, fs, ps =>
    if p < b.length then
      if 16777216 < p then ⟨id, fs, ps, p, 23⟩
      else if (Rc.getQ (b.drop p)).2.2 = 22 then ⟨id, fs, ps, p, 22⟩
      else if (Rc.getQ (b.drop p)).2.2 = 0 then
        if (Rc.getQ (b.drop p)).1.seq ≤ last then ⟨id, fs, ps, p, 23⟩
        else go id b k (p + (Rc.getQ (b.drop p)).2.1) (Rc.getQ (b.drop p)).1.seq (fs ++ [⟨p, (Rc.getQ (b.drop p)).2.1, (Rc.getQ (b.drop p)).1⟩]) ps
      else if (Rc.getQ (b.drop p)).2.1 = 0 then ⟨id, fs, ps, p, 23⟩
      else go id b k (p + (Rc.getQ (b.drop p)).2.1) last fs (ps ++ [p])
    else ⟨id, fs, ps, p, 0⟩
def of (id : Nat) (b : List UInt8) : S := if Hd.checkN b 1 id = 0 then go id b (b.length + 1) 16 0 [] [] else ⟨id, [], [], 0, Hd.checkN b 1 id⟩

theorem get_size {b r z : _} (h : Rc.getQ b = (r, z, 0)) : 0 < z ∧ z ≤ b.length := by
  unfold Rc.getQ at h
  split at h
  · cases h
  split at h
  · cases h
  split at h
  · cases h
  split at h
  · cases h
  split at h
  · cases h
  · rename_i h1 h2 h3 h4 h5
    injection h with _ h
    injection h with h _
    subst h
    refine ⟨by unfold Rc.sizeN; omega, by omega⟩
/-- runs one behind the other -/
def runsL : List Rc.Rec → List UInt8
  | [] => []
  | r :: l => Rc.runL r ++ runsL l
theorem runsL_append : ∀ l m : List Rc.Rec, runsL (l ++ m) = runsL l ++ runsL m
  | [], m => rfl
  | r :: l, m => by simp [runsL, runsL_append l m]
/-- records that may be, of rising numbers above a -/
def Up : Int → List Rc.Rec → Prop
  | _, [] => True
  | a, r :: l => Rc.mayB r = true ∧ a < r.seq ∧ Up r.seq l
def lastOf : Int → List Rc.Rec → Int
  | a, [] => a
  | _, r :: l => lastOf r.seq l
/-- where they stand -/
def places : Nat → List Rc.Rec → List Fd
  | _, [] => []
  | p, r :: l => ⟨p, Rc.sizeN r, r⟩ :: places (p + Rc.sizeN r) l
theorem places_length : ∀ (l : List Rc.Rec) (p : Nat), (places p l).length = l.length
  | [], _ => rfl
  | r :: l, p => by simp [places, places_length l]
theorem Up.take : ∀ {l : List Rc.Rec} {a : Int} (i : Nat), Up a l → Up a (l.take i)
  | [], _, _, _ => by simp [Up]
  | r :: l, a, 0, h => trivial
  | r :: l, a, i + 1, h => ⟨h.1, h.2.1, Up.take i h.2.2⟩
theorem Up.may : ∀ {l : List Rc.Rec} {a : Int}, Up a l → ∀ r ∈ l, Rc.mayB r = true
  | [], _, _, r, hr => by cases hr
  | x :: l, a, h, r, hr => by
    rcases List.mem_cons.1 hr with rfl | hr
    · exact h.1
    · exact Up.may h.2.2 r hr
theorem runs_len : ∀ l : List Rc.Rec, l.length ≤ (runsL l).length
  | [] => Nat.le_refl _
  | r :: l => by
    have := runs_len l
    simp only [runsL, List.length_append, Rc.runL_length, List.length_cons]
    unfold Rc.sizeN
    omega
/-- all that was laid is found, whatever stands behind -/
theorem go_runs (id : Nat) (m : List UInt8) : ∀ (l : List Rc.Rec) (pre : List UInt8) (last : Int) (fs : List Fd) (ps : List Nat) (k : Nat), Up last l → pre.length + (runsL l).length ≤ 16777216 + 1 →
    go id (pre ++ (runsL l ++ m)) (k + l.length) pre.length last fs ps = go id (pre ++ (runsL l ++ m)) k (pre.length + (runsL l).length) (lastOf last l) (fs ++ places pre.length l) ps
  | [], pre, last, fs, ps, k, _, _ => by simp [runsL, places, lastOf]
  | r :: l, pre, last, fs, ps, k, h, hm => by
    have hs := Rc.may_size h.1
    have e : (pre ++ (runsL (r :: l) ++ m)).drop pre.length = Rc.runL r ++ (runsL l ++ m) := by
      rw [List.drop_left' rfl]
      simp [runsL]
    have e2 : pre ++ (runsL (r :: l) ++ m) = (pre ++ Rc.runL r) ++ (runsL l ++ m) := by simp [runsL]
    have hlen : (runsL (r :: l)).length = Rc.sizeN r + (runsL l).length := by simp [runsL, Rc.runL_length]
    have hp : (pre ++ Rc.runL r).length = pre.length + Rc.sizeN r := by simp [Rc.runL_length]
    have ih := go_runs id m l (pre ++ Rc.runL r) r.seq (fs ++ [⟨pre.length, Rc.sizeN r, r⟩]) ps k h.2.2 (by rw [hp]; omega)
    rw [show k + (r :: l).length = (k + l.length) + 1 by simp; omega]
    rw [hp, ← e2] at ih
    conv => lhs; unfold go
    rw [e, Rc.get_run h.1, if_pos (by rw [List.length_append, List.length_append, hlen]; omega), if_neg (by omega), if_neg (by simp), if_pos rfl, if_neg (by have := h.2.1; simp only; omega)]
    rw [ih, hlen]
    simp [places, lastOf, Nat.add_assoc]
/-- a cut ahead of the end: whole runs, and a beginning of one -/
theorem cut_runs : ∀ (l : List Rc.Rec) (k : Nat), k ≤ (runsL l).length → ∃ i t, i ≤ l.length ∧ (runsL l).take k = runsL (l.take i) ++ t ∧ (t = [] ∨ ∃ r j, l[i]? = some r ∧ 0 < j ∧ j < Rc.sizeN r ∧ t = (Rc.runL r).take j)
  | [], k, h => ⟨0, [], Nat.le_refl _, by simp [runsL], .inl rfl⟩
  | r :: l, k, h => by
    by_cases hk : k < Rc.sizeN r
    · refine ⟨0, (Rc.runL r).take k, Nat.zero_le _, ?_, ?_⟩
      · simp only [runsL, List.take_zero, List.nil_append]
        rw [List.take_append_of_le_length (by rw [Rc.runL_length]; omega)]
      · by_cases h0 : k = 0
        · exact .inl (by rw [h0, List.take_zero])
        · exact .inr ⟨r, k, rfl, by omega, hk, rfl⟩
    · obtain ⟨i, t, h1, h2, h3⟩ := cut_runs l (k - Rc.sizeN r) (by simp [runsL, Rc.runL_length] at h; omega)
      refine ⟨i + 1, t, by simp; omega, ?_, h3⟩
      simp only [runsL, List.take_succ_cons, List.append_assoc]
      rw [← h2, List.take_append, Rc.runL_length, List.take_of_length_le (by rw [Rc.runL_length]; omega)]
/-- a segment's bytes -/
def layB (id : Nat) (l : List Rc.Rec) : List UInt8 := Hd.headL 1 id ++ runsL l
theorem layB_length (id : Nat) (l : List Rc.Rec) : (layB id l).length = 16 + (runsL l).length := by simp [layB, Hd.headL_length]
/-- the whole of it, or the first of them and a beginning of the next one -/
theorem of_lay (id : Nat) (hid : Hd.mayB ((1 : Nat) : Int) id = true) (l : List Rc.Rec) (t : List UInt8) (h : Up 0 l) (hm : 16 + (runsL l).length ≤ 16777216) (ht : t = [] ∨ ∃ r j, Rc.mayB r = true ∧ 0 < j ∧ j < Rc.sizeN r ∧ t = (Rc.runL r).take j) :
    of id (layB id l ++ t) = ⟨id, places 16 l, [], 16 + (runsL l).length, if t = [] then 0 else 22⟩ := by
  have hc : Hd.checkN (layB id l ++ t) 1 id = 0 := by
    unfold layB
    rw [List.append_assoc, Hd.check_head hid, if_pos ⟨rfl, rfl⟩]
  unfold of
  rw [if_pos hc]
  have hl := runs_len l
  have e : layB id l ++ t = Hd.headL 1 id ++ (runsL l ++ t) := by unfold layB; simp
  have hlen : (layB id l ++ t).length = 16 + (runsL l).length + t.length := by rw [List.length_append, layB_length]
  obtain ⟨k, hk⟩ : ∃ k, (layB id l ++ t).length + 1 = (k + 1) + l.length := ⟨(layB id l ++ t).length - l.length, by rw [hlen]; omega⟩
  rw [hk]
  have g := go_runs id t l (Hd.headL 1 id) 0 [] [] (k + 1) h (by rw [Hd.headL_length]; omega)
  rw [← e, Hd.headL_length, List.nil_append] at g
  rw [g]
  unfold go
  rcases ht with rfl | ⟨r, j, hr, h0, hj, rfl⟩
  · rw [if_neg (by rw [hlen]; simp), if_pos rfl]
  · have hd : (layB id l ++ (Rc.runL r).take j).drop (16 + (runsL l).length) = (Rc.runL r).take j := List.drop_left' (layB_length id l)
    have hne : (Rc.runL r).take j ≠ [] := by
      intro e0
      have := congrArg List.length e0
      rw [List.length_take, Rc.runL_length, List.length_nil] at this
      omega
    rw [hd, Rc.get_torn hr j hj, if_pos (by rw [hlen, List.length_take, Rc.runL_length]; omega), if_neg (by omega), if_pos rfl, if_neg hne]
/-- cut within the head -/
theorem of_short (id : Nat) {b : List UInt8} (h : b.length < 16) : of id b = ⟨id, [], [], 0, 22⟩ := by
  have hc : Hd.checkN b 1 id = 22 := by
    unfold Hd.checkN
    rw [Hd.get_short h]
    simp
  unfold of
  rw [hc, if_neg (by simp)]
theorem Up.weak : ∀ {l : List Rc.Rec} {a b : Int}, Up a l → b ≤ a → Up b l
  | [], _, _, _, _ => trivial
  | r :: l, a, b, h, hb => ⟨h.1, by have := h.2.1; omega, h.2.2⟩
theorem Up.append : ∀ {l m : List Rc.Rec} {a : Int}, Up a (l ++ m) → Up a l ∧ Up (lastOf a l) m
  | [], m, a, h => ⟨trivial, h⟩
  | r :: l, m, a, h => by
    obtain ⟨h1, h2, h3⟩ := h
    have := Up.append h3
    exact ⟨⟨h1, h2, this.1⟩, this.2⟩
/-- bits are turned within one run: it is passed over, or, if they are in its head, the scan stops there -/
theorem of_turned (id : Nat) (hid : Hd.mayB ((1 : Nat) : Int) id = true) (l1 l2 : List Rc.Rec) (r : Rc.Rec) (h : Up 0 (l1 ++ r :: l2)) (hm : 16 + (runsL (l1 ++ r :: l2)).length ≤ 16777216)
    (t : List UInt8) (z : Nat) (ht : t.length = Rc.sizeN r) (hz : z = 0 ∨ z = Rc.sizeN r) (hg : ∀ m, Rc.getQ (t ++ m) = (Rc.none, z, 23)) :
    of id (layB id l1 ++ (t ++ runsL l2)) = if z = 0 then ⟨id, places 16 l1, [], 16 + (runsL l1).length, 23⟩
      else ⟨id, places 16 l1 ++ places (16 + (runsL l1).length + Rc.sizeN r) l2, [16 + (runsL l1).length], 16 + (runsL (l1 ++ r :: l2)).length, 0⟩ := by
  obtain ⟨u1, u2⟩ := h.append
  have hr := u2.1
  have hs := Rc.may_size hr
  have hll : (runsL (l1 ++ r :: l2)).length = (runsL l1).length + (Rc.sizeN r + (runsL l2).length) := by
    rw [runsL_append]
    simp [runsL, Rc.runL_length]
  have hc : Hd.checkN (layB id l1 ++ (t ++ runsL l2)) 1 id = 0 := by
    unfold layB
    rw [List.append_assoc, Hd.check_head hid, if_pos ⟨rfl, rfl⟩]
  unfold of
  rw [if_pos hc]
  have hl1 := runs_len l1
  have hl2 := runs_len l2
  have e : layB id l1 ++ (t ++ runsL l2) = Hd.headL 1 id ++ (runsL l1 ++ (t ++ runsL l2)) := by unfold layB; simp
  have hlen : (layB id l1 ++ (t ++ runsL l2)).length = 16 + (runsL l1).length + (Rc.sizeN r + (runsL l2).length) := by rw [List.length_append, layB_length, List.length_append, ht]
  obtain ⟨k, hk⟩ : ∃ k, (layB id l1 ++ (t ++ runsL l2)).length + 1 = ((k + 1 + l2.length) + 1) + l1.length := ⟨(layB id l1 ++ (t ++ runsL l2)).length - 1 - l2.length - l1.length, by rw [hlen]; omega⟩
  rw [hk]
  have g := go_runs id (t ++ runsL l2) l1 (Hd.headL 1 id) 0 [] [] ((k + 1 + l2.length) + 1) u1 (by rw [Hd.headL_length]; omega)
  rw [← e, Hd.headL_length, List.nil_append] at g
  rw [g]
  have hd : (layB id l1 ++ (t ++ runsL l2)).drop (16 + (runsL l1).length) = t ++ runsL l2 := List.drop_left' (layB_length id l1)
  conv => lhs; unfold go
  rw [hd, hg, if_pos (by rw [hlen]; omega), if_neg (by omega), if_neg (by simp), if_neg (by simp)]
  rcases hz with rfl | rfl
  · rw [if_pos rfl, if_pos rfl]
  · rw [if_neg (by simp only; omega), if_neg (by omega)]
    have e2 : layB id l1 ++ (t ++ runsL l2) = (layB id l1 ++ t) ++ (runsL l2 ++ []) := by simp
    have hp : (layB id l1 ++ t).length = 16 + (runsL l1).length + Rc.sizeN r := by rw [List.length_append, layB_length, ht]
    have g2 := go_runs id [] l2 (layB id l1 ++ t) (lastOf 0 l1) (places 16 l1) ([] ++ [16 + (runsL l1).length]) (k + 1) (u2.2.2.weak (by have := u2.2.1; omega)) (by rw [hp]; omega)
    rw [← e2, hp] at g2
    simp only
    rw [g2]
    unfold go
    rw [if_neg (by rw [hlen]; omega), hll]
    simp [Nat.add_assoc]
/-- the seal of a scan -/
def firstOf : List Fd → Nat
  | [] => 0
  | f :: _ => f.r.seq.toNat
def lastF : List Fd → Nat
  | [] => 0
  | f :: l => if l.isEmpty then f.r.seq.toNat else lastF l
/-- a seal as numbers: id, size, how many, first, last -/
structure Sl where
  id : Nat
  size : Nat
  many : Nat
  first : Nat
  last : Nat
def seal_ (s : S) : Sl := ⟨s.id, s.stop, s.found.length + s.passed.length, firstOf s.found, lastF s.found⟩
end Go.Proofs.YtaicibmaogiibaaGreatDoor.Sc

/- ScLost -/

/-
  Layer 12, plain mathematics: what may be lost where one run was turned, or where more stands behind what the seal's scan came to.
-/
set_option linter.unusedVariables false
set_option linter.unusedSimpArgs false
namespace Go.Proofs.YtaicibmaogiibaaGreatDoor.Sc
open Go.RowKit

theorem size_pos (r : Rc.Rec) : 0 < Rc.sizeN r := by unfold Rc.sizeN; omega
theorem lastOf_ge : ∀ {l : List Rc.Rec} {a : Int}, Up a l → a ≤ lastOf a l
  | [], a, _ => Int.le_refl _
  | r :: l, a, h => Int.le_trans (Int.le_of_lt h.2.1) (lastOf_ge h.2.2)
theorem lastOf_append : ∀ (l m : List Rc.Rec) (a : Int), lastOf a (l ++ m) = lastOf (lastOf a l) m
  | [], m, a => rfl
  | r :: l, m, a => lastOf_append l m _
theorem lastF_places : ∀ (l : List Rc.Rec) (p : Nat) (a : Int), l ≠ [] → lastF (places p l) = (lastOf a l).toNat
  | [], _, _, h => absurd rfl h
  | [r], p, a, _ => by simp [places, lastF, lastOf]
  | r :: x :: l, p, a, _ => by
    have := lastF_places (x :: l) (p + Rc.sizeN r) r.seq (by simp)
    simp only [places, lastF, List.isEmpty_cons, Bool.false_eq_true, if_false, lastOf] at this ⊢
    exact this
end Go.Proofs.YtaicibmaogiibaaGreatDoor.Sc

/- ScCut -/

/-
  Layer 12, plain mathematics: a segment's bytes cut anywhere.
-/
set_option linter.unusedVariables false
set_option linter.unusedSimpArgs false
namespace Go.Proofs.YtaicibmaogiibaaGreatDoor.Sc
open Go.RowKit

/-- where the i first runs end -/
def endN (l : List Rc.Rec) (i : Nat) : Nat := 16 + (runsL (l.take i)).length
theorem endN_zero (l : List Rc.Rec) : endN l 0 = 16 := by simp [endN, runsL]
theorem endN_step {l : List Rc.Rec} {i : Nat} {r : Rc.Rec} (h : l[i]? = some r) : endN l (i + 1) = endN l i + Rc.sizeN r := by
  unfold endN
  rw [List.take_add_one, h, runsL_append]
  simp [runsL, Rc.runL_length]
  omega
theorem endN_all {l : List Rc.Rec} {i : Nat} (h : l.length ≤ i) : endN l i = 16 + (runsL l).length := by unfold endN; rw [List.take_of_length_le h]
theorem endN_mono (l : List Rc.Rec) {i j : Nat} (h : i ≤ j) : endN l i ≤ endN l j := by
  induction j with
  | zero => obtain rfl : i = 0 := by omega
            exact Nat.le_refl _
  | succ j ih =>
    by_cases e : i = j + 1
    · subst e; exact Nat.le_refl _
    · refine Nat.le_trans (ih (by omega)) ?_
      by_cases hj : j < l.length
      · rw [endN_step (List.getElem?_eq_getElem hj)]
        omega
      · rw [endN_all (by omega), endN_all (by omega)]
        exact Nat.le_refl _
theorem places_at : ∀ {l : List Rc.Rec} {i : Nat} {r : Rc.Rec} (p : Nat), l[i]? = some r → (places p l)[i]? = some ⟨p + (runsL (l.take i)).length, Rc.sizeN r, r⟩
  | [], i, r, p, h => by simp at h
  | x :: l, 0, r, p, h => by
    simp at h
    subst h
    simp [places, runsL]
  | x :: l, i + 1, r, p, h => by
    have := places_at (l := l) (p + Rc.sizeN x) (show l[i]? = some r by simpa using h)
    simp only [places, List.getElem?_cons_succ, this, List.take_succ_cons, runsL, List.length_append, Rc.runL_length]
    congr 2
    omega
/-- a cut anywhere: how many whole runs, how far, why it stops -/
theorem of_cut (id : Nat) (hid : Hd.mayB ((1 : Nat) : Int) id = true) (l : List Rc.Rec) (h : Up 0 l) (hm : 16 + (runsL l).length ≤ 16777216) (k : Nat) (hk : k ≤ 16 + (runsL l).length) :
    ∃ i E W, i ≤ l.length ∧ (∀ j, j < l.length → (endN l (j + 1) ≤ k ↔ j < i)) ∧ of id ((layB id l).take k) = ⟨id, places 16 (l.take i), [], E, W⟩ ∧ (k < 16 → i = 0 ∧ E = 0 ∧ W = 22) ∧ (16 ≤ k → E = endN l i ∧ W = if k = E then 0 else 22) := by
  by_cases h16 : k < 16
  · refine ⟨0, 0, 22, Nat.zero_le _, fun j hj => ?_, ?_, fun _ => ⟨rfl, rfl, rfl⟩, fun h => absurd h (by omega)⟩
    · have := endN_mono l (i := 0) (j := j + 1) (Nat.zero_le _)
      rw [endN_zero] at this
      constructor <;> intro h <;> omega
    · rw [of_short id (by rw [List.length_take]; omega)]
      simp [places]
  · obtain ⟨i, t, h1, h2, h3⟩ := cut_runs l (k - 16) (by omega)
    have hlen := congrArg List.length h2
    rw [List.length_take, List.length_append] at hlen
    have hE : endN l i + t.length = k := by unfold endN; omega
    have hb : (layB id l).take k = layB id (l.take i) ++ t := by
      unfold layB
      rw [List.take_append, Hd.headL_length, h2, List.take_of_length_le (by rw [Hd.headL_length]; omega), List.append_assoc]
    have ht : t = [] ∨ ∃ r j, Rc.mayB r = true ∧ 0 < j ∧ j < Rc.sizeN r ∧ t = (Rc.runL r).take j := by
      rcases h3 with h3 | ⟨r, j, h3, h4⟩
      · exact .inl h3
      · exact .inr ⟨r, j, h.may r (List.mem_of_getElem? h3), h4⟩
    have hl2 : (runsL (l.take i)).length ≤ (runsL l).length := by
      have := endN_mono l (i := i) (j := l.length) h1
      rw [endN_all (Nat.le_refl _)] at this
      unfold endN at this
      omega
    refine ⟨i, endN l i, if t = [] then 0 else 22, h1, fun j hj => ?_, ?_, fun h => absurd h h16, fun _ => ⟨rfl, ?_⟩⟩
    · constructor
      · intro hle
        apply Classical.byContradiction
        intro hn
        have h5 := endN_mono l (i := i + 1) (j := j + 1) (by omega)
        rw [endN_step (List.getElem?_eq_getElem (show i < l.length by omega))] at h5
        have hp := size_pos (l[i]'(by omega))
        rcases h3 with rfl | ⟨r, x, h6, h7, h8, rfl⟩
        · rw [List.length_nil] at hE
          omega
        · rw [List.getElem?_eq_getElem (show i < l.length by omega)] at h6
          injection h6 with h6
          rw [h6] at h5
          rw [List.length_take, Rc.runL_length] at hE
          omega
      · intro hlt
        have := endN_mono l (i := j + 1) (j := i) (by omega)
        omega
    · rw [hb]
      exact of_lay id hid (l.take i) t (h.take i) (by omega) ht
    · by_cases e : t = []
      · rw [if_pos e, if_pos (by rw [e, List.length_nil] at hE; omega)]
      · have : 0 < t.length := List.length_pos_iff.2 e
        rw [if_neg e, if_neg (by omega)]
end Go.Proofs.YtaicibmaogiibaaGreatDoor.Sc

/- ScMem -/

/-
  Layer 12: scans in memory.
-/
set_option linter.unusedVariables false
set_option linter.unusedSimpArgs false
namespace Go.Proofs.YtaicibmaogiibaaGreatDoor.Sc
open Go Go.RowKit

/-- a record that was found, and the slices that are its key and its value -/
abbrev Fq := Fd × Value × Value
def Fq.cells (id : Nat) (x : Fq) : List Value := [.int .u32 (id : Int), .int .u32 (x.1.off : Int), .int .i64 (x.1.size : Int), .int .u64 x.1.r.seq, .int .i64 x.1.r.kind, x.2.1, x.2.2, .int .u32 x.1.r.seg, .int .u32 x.1.r.off]
def rowF (id : Nat) (l : List Fq) : List Value := l.flatMap (Fq.cells id)
theorem rowF_snoc (id : Nat) (l : List Fq) (x : Fq) : rowF id (l ++ [x]) = rowF id l ++ Fq.cells id x := by simp [rowF]
theorem rowF_get {id : Nat} {t : List Fq} {i : Nat} {x : Fq} (h : t[i]? = some x) (k : Nat) (hk : k < 9) : (rowF id t)[i * 9 + k]? = (Fq.cells id x)[k]? := by
  induction t generalizing i with
  | nil => simp at h
  | cons y r ih =>
    have hr : rowF id (y :: r) = Fq.cells id y ++ rowF id r := by simp [rowF]
    have hl : (Fq.cells id y).length = 9 := rfl
    rw [hr]
    cases i with
    | zero =>
      simp at h
      subst h
      rw [List.getElem?_append_left (by omega)]
      congr 1
      omega
    | succ i =>
      rw [List.getElem?_append_right (by omega), ← ih (by simpa using h)]
      congr 1
      omega
structure FqOk (w : World) (lo : Nat) (x : Fq) : Prop where
  key : RowIn w lo x.2.1 x.1.r.key
  val : RowIn w lo x.2.2 x.1.r.val
theorem FqOk.on {w w' : World} {lo : Nat} {x : Fq} (h : FqOk w lo x) (hb : Below w.heap.size w w') : FqOk w' lo x := ⟨h.key.on hb, h.val.on hb⟩
theorem chg1 (w : World) (A o : Nat) (val : Value) : Chg (fun i => i = A) w (w.setCell ⟨A, o, none⟩ val) := (Chg.refl (M := fun i => i = A) (w := w)).setCell (p := ⟨A, o, none⟩) rfl _
/-- blocks of type T -/
def Typed (w : World) (T : TypeId) (N : Nat → Prop) : Prop := ∀ g, N g → ∃ arr z, w.heap[g]? = some (.cells arr T z)
section
variable {w w' : World} {N : Nat → Prop} {T T' : TypeId} {lo : Nat} {v : Value}
theorem Typed.row {l : List UInt8} (hg : Typed w T N) (hT : T ≠ 5) (hc : Chg N w w') (h : RowIn w lo v l) : RowIn w' lo v l := by
  rcases h with ⟨rfl, rfl⟩ | ⟨g, rfl, h1, h⟩
  · exact .inl ⟨rfl, rfl⟩
  · refine .inr ⟨g, rfl, h1, (hc.block g h.lt (fun hN => ?_)).trans h⟩
    obtain ⟨arr, z, e⟩ := hg g hN
    rw [show w.heap[g]? = _ from h] at e
    injection e with e
    injection e with _ e _
    exact hT e.symm
theorem FqOk.apart {x : Fq} (hg : Typed w T N) (hT : T ≠ 5) (hc : Chg N w w') (h : FqOk w lo x) : FqOk w' lo x := ⟨hg.row hT hc h.key, hg.row hT hc h.val⟩
theorem Typed.keep {k : Nat} {arr : Array Value} {z : Nat × Nat} (hg : Typed w T N) (hc : Chg N w w') (h : w.heap[k]? = some (.cells arr T' z)) (hT : T ≠ T') : w'.heap[k]? = some (.cells arr T' z) := by
  refine (hc.block k (Array.getElem?_eq_some_iff.1 h).1 (fun hN => ?_)).trans h
  obtain ⟨arr2, z2, e⟩ := hg k hN
  rw [h] at e
  injection e with e
  injection e with _ e _
  exact hT e.symm
theorem own_typed {base size n : Nat} {e : TypeId} {xs : List Value} (h : w.ownsRow base e size v n xs) : Typed w e (fun g => v.ownBlock = some g) := by
  rcases h.2 with ⟨rfl, _⟩ | ⟨g, cap, cur, rfl, _, hc, _⟩
  · intro g hg; cases hg
  · intro g' hg'
    injection hg' with hg'
    subst hg'
    exact ⟨cur, (0, 0), hc⟩
theorem Typed.own {base size n : Nat} {e : TypeId} {xs : List Value} (hg : Typed w T N) (hT : e ≠ T) (hc : Chg N w w') (h : w.ownsRow base e size v n xs) : w'.ownsRow base e size v n xs :=
  hc.own h (fun g hv hN => by
    obtain ⟨arr, z, h1⟩ := hg g hN
    obtain ⟨arr2, z2, h2⟩ := own_typed h g hv
    rw [h1] at h2
    injection h2 with h2
    injection h2 with _ h2 _
    exact hT h2.symm)
end
/-- the value v is the scan s, in memory from `lo` on; T the type of a record found -/
def ScanV (T : TypeId) (w : World) (lo : Nat) (v : Value) (s : S) : Prop :=
  ∃ vf vp, ∃ q : List Fq, v = .agg #[.int .u32 (s.id : Int), vf, vp, .int .i64 (s.stop : Int), .int .i64 (s.why : Int)] ∧ q.map (·.1) = s.found ∧ w.ownsRow lo T 9 vf q.length (rowF s.id q) ∧ (∀ x ∈ q, FqOk w lo x) ∧
    w.ownsRow lo 3 1 vp s.passed.length (s.passed.map fun n : Nat => Value.int .i64 (n : Int))
theorem ScanV.on {T : TypeId} {w w' : World} {lo : Nat} {v : Value} {s : S} (h : ScanV T w lo v s) (hb : Below w.heap.size w w') : ScanV T w' lo v s := by
  obtain ⟨vf, vp, q, h1, h2, h3, h4, h5⟩ := h
  exact ⟨vf, vp, q, h1, h2, own_below h3 hb (Nat.le_refl _), fun x hx => (h4 x hx).on hb, own_below h5 hb (Nat.le_refl _)⟩
end Go.Proofs.YtaicibmaogiibaaGreatDoor.Sc

/- ScOk -/

/-
  Layer 12, plain mathematics: what every scan keeps.
-/
set_option linter.unusedVariables false
set_option linter.unusedSimpArgs false
namespace Go.Proofs.YtaicibmaogiibaaGreatDoor.Sc
open Go.RowKit

theorem get_any {b : List UInt8} {r : Rc.Rec} {z e : Nat} (h : Rc.getQ b = (r, z, e)) : (e = 0 ∨ e = 22 ∨ e = 23) ∧ (e ≠ 22 → z ≠ 0 → z ≤ b.length) ∧ (e = 0 → z ≠ 0) := by
  have h2 : e = 0 → z ≠ 0 := fun e0 => by subst e0; have := (get_size h).1; omega
  refine ⟨?_, ?_, h2⟩ <;>
  (unfold Rc.getQ at h
   split at h
   · cases h; omega
   split at h
   · cases h; omega
   split at h
   · cases h; omega
   split at h
   · cases h; omega
   split at h
   · cases h; omega
   · cases h; omega)
/-- numbers from 0 up, an end within the bytes, no more told than bytes passed -/
structure Ok (b : List UInt8) (s : S) : Prop where
  pos : ∀ f ∈ s.found, 0 ≤ f.r.seq
  stop : s.stop ≤ b.length + 16
  few : s.found.length + s.passed.length ≤ s.stop
end Go.Proofs.YtaicibmaogiibaaGreatDoor.Sc

/- ScRSeal -/

/-
  Layer 12: the document's own Seal.
-/
set_option linter.unusedVariables false
set_option linter.unusedSimpArgs false
namespace Go.Proofs.YtaicibmaogiibaaGreatDoor.Sc
open Go Go.RowKit

section
variable {w : World} {g : Nat} {a0 a1 a2 a3 a4 : Value} {T : TypeId}
theorem rw5 (h : w.heap[g]? = some (.cells #[a0, a1, a2, a3, a4] T (0, 0))) : w.cell? ⟨g, 0, none⟩ = some a0 ∧ w.cell? ⟨g, 1, none⟩ = some a1 ∧ w.cell? ⟨g, 2, none⟩ = some a2 ∧ w.cell? ⟨g, 3, none⟩ = some a3 ∧ w.cell? ⟨g, 4, none⟩ = some a4 :=
  ⟨cell_of_row w g 0 _ _ _ h, cell_of_row w g 1 _ _ _ h, cell_of_row w g 2 _ _ _ h, cell_of_row w g 3 _ _ _ h, cell_of_row w g 4 _ _ _ h⟩
theorem rw5f (h : w.heap[g]? = some (.cells #[a0, a1, a2, a3, a4] T (0, 0))) : w.frozen? ⟨g, 0, none⟩ = false ∧ w.frozen? ⟨g, 1, none⟩ = false ∧ w.frozen? ⟨g, 2, none⟩ = false ∧ w.frozen? ⟨g, 3, none⟩ = false ∧ w.frozen? ⟨g, 4, none⟩ = false := by
  refine ⟨?_, ?_, ?_, ?_, ?_⟩ <;> simp [World.frozen?, h]
end
def Sl.val (x : Sl) : Value := .agg #[.int .u32 (x.id : Int), .int .u32 (x.size : Int), .int .u32 (x.many : Int), .int .u64 (x.first : Int), .int .u64 (x.last : Int)]
theorem lastF_snoc (l : List Fd) (f : Fd) : lastF (l ++ [f]) = f.r.seq.toNat := by
  induction l with
  | nil => rfl
  | cons x r ih =>
    show (if (r ++ [f]).isEmpty then _ else lastF (r ++ [f])) = _
    rw [if_neg (by simp), ih]
theorem addr_add1 (g k : Nat) : (⟨g, 0, none⟩ : Addr).add k = ⟨g, k, none⟩ := by
  unfold Addr.add
  split
  · rename_i h; rw [h]
  · simp
/-- a found record's cells -/
theorem found_cell {T : TypeId} {w : World} {lo g c id : Nat} {q : List Fq} {m : Nat} (h : w.ownsRow lo T 9 (.slice (some ⟨g, 0, none⟩) m c) m (rowF id q)) {i : Nat} {x : Fq} (hx : q[i]? = some x) (k : Nat) (hk : k < 9) : w.cell? ⟨g, i * 9 + k, none⟩ = (Fq.cells id x)[k]? := by
  have hl : k < (Fq.cells id x).length := hk
  have h1 := h.cells (g := g) rfl (i * 9 + k) ((Fq.cells id x)[k]'hl) (by rw [rowF_get hx k hk]; exact List.getElem?_eq_getElem hl)
  rw [addr_add1] at h1
  rw [h1]
  exact (List.getElem?_eq_getElem hl).symm
end Go.Proofs.YtaicibmaogiibaaGreatDoor.Sc

/- ScLast -/

/-
  Layer 12: the landed scan: last, Seal.
-/
set_option linter.unusedVariables false
set_option linter.unusedSimpArgs false
namespace Go.Proofs.YtaicibmaogiibaaGreatDoor.Sc
open Go Go.RowKit

theorem lastF_get {l : List Fd} {i : Nat} {f : Fd} (h : l[i]? = some f) (hl : l.length = i + 1) : lastF l = f.r.seq.toNat := by
  have : l = l.take i ++ [f] := by
    have h1 : l.take (i + 1) = l := List.take_of_length_le (by omega)
    rw [List.take_add_one, h] at h1
    exact h1.symm
  rw [this, lastF_snoc]
/-- the block B holds the scan s -/
def ScanB (w : World) (lo B : Nat) (s : S) : Prop :=
  ∃ Af nf cf Ap np cp, ∃ q : List Fq, w.heap[B]? = some (.cells #[.int .u32 (s.id : Int), .slice Af nf cf, .slice Ap np cp, .int .i64 (s.stop : Int), .int .i64 (s.why : Int)] 44 (0, 0)) ∧ q.map (·.1) = s.found ∧ q.length = nf ∧ s.passed.length = np ∧
    w.ownsRow lo 56 9 (.slice Af nf cf) nf (rowF s.id q) ∧ (∀ x ∈ q, FqOk w lo x) ∧ w.ownsRow lo 3 1 (.slice Ap np cp) np (s.passed.map fun n : Nat => Value.int .i64 (n : Int))
theorem ScanV.open {T : TypeId} {w : World} {lo : Nat} {v : Value} {s : S} (h : ScanV T w lo v s) : ∃ Af nf cf Ap np cp, ∃ q : List Fq, v = .agg #[.int .u32 (s.id : Int), .slice Af nf cf, .slice Ap np cp, .int .i64 (s.stop : Int), .int .i64 (s.why : Int)] ∧ q.map (·.1) = s.found ∧ q.length = nf ∧ s.passed.length = np ∧ s.found.length = nf ∧
    nf ≤ cf ∧ cf ≤ maxLen ∧ np ≤ cp ∧ cp ≤ maxLen ∧
    w.ownsRow lo T 9 (.slice Af nf cf) nf (rowF s.id q) ∧ (∀ x ∈ q, FqOk w lo x) ∧ w.ownsRow lo 3 1 (.slice Ap np cp) np (s.passed.map fun n : Nat => Value.int .i64 (n : Int)) := by
  obtain ⟨vf, vp, q, rfl, h1, h2, h3, h4⟩ := h
  obtain ⟨Af, cf, rfl, e1, e2, _⟩ := own_slice h2
  obtain ⟨Ap, cp, rfl, e3, e4, _⟩ := own_slice h4
  exact ⟨Af, _, cf, Ap, _, cp, q, rfl, h1, rfl, rfl, by rw [← h1, List.length_map], e1, e2, e3, e4, h2, h3, h4⟩
/-- a block's address where a row of some length begins -/
theorem own_at {w : World} {lo size n c : Nat} {e : TypeId} {A : Option Addr} {xs : List Value} (h : w.ownsRow lo e size (.slice A n c) n xs) (hn : 0 < n) : ∃ g, A = some ⟨g, 0, none⟩ ∧ lo ≤ g := by
  rcases h.2 with ⟨e, e2⟩ | ⟨g, cap, cur, e, hg, _⟩
  · omega
  · injection e with e _ _
    exact ⟨g, e, hg⟩
set_option maxRecDepth 100000 in
set_option maxHeartbeats 8000000 in
theorem slast {w : World} {lo : Nat} {v : Value} {s : S} (h : ScanV 56 w lo v s) (hm : s.found.length ≤ 1000000) (hpos : ∀ f ∈ s.found, 0 ≤ f.r.seq) :
    Calls Tryz.prog 39 #[v] w fun e w' => e = .returned (.int .u64 (lastF s.found : Int)) ∧ Below w.heap.size w w' := by
  obtain ⟨Af, n, cf, Ap, np, cp, q, rfl, h1, hq, hp, hfl, e1, e2, e3, e4, h2, h3, h4⟩ := h.open
  obtain ⟨bx, hbx⟩ : ∃ bx, w.heap.size = bx := ⟨_, rfl⟩
  obtain ⟨W, hW⟩ : ∃ W, w.alloc (.cells #[.int .u32 (s.id : Int), .slice Af n cf, .slice Ap np cp, .int .i64 (s.stop : Int), .int .i64 (s.why : Int)] 44) = W := ⟨_, rfl⟩
  have hb : Below w.heap.size w W := by rw [← hW]; exact (Below.refl _ _).alloc (Nat.le_refl _) _
  have hk : W.heap[bx]? = some (.cells #[.int .u32 (s.id : Int), .slice Af n cf, .slice Ap np cp, .int .i64 (s.stop : Int), .int .i64 (s.why : Int)] 44 (0, 0)) := by rw [← hW, ← hbx]; exact heap_alloc_new w _
  obtain ⟨y0, y1, y2, y3, y4⟩ := rw5 hk
  have hO := own_below h2 hb (Nat.le_refl _)
  have HB := Lib.hid hb
  rw [hfl] at hm
  by_cases hn : n = 0
  · have hl : lastF s.found = 0 := by
      have : s.found = [] := List.length_eq_zero_iff.1 (by rw [hfl, hn])
      rw [this]; rfl
    rw [hl]
    subst hn
    clear h h1 hq hp hfl h2 h3 h4 hb hk hO hpos hl e3 e4
    generalize s.id = i0 at *
    generalize s.stop = i3 at *
    generalize s.why = i4 at *
    go_enter Tryz.func39, Tryz.ntmps39
    go_wp2_with fail
    go_ret
    exact ⟨rfl, HB.out⟩
  · obtain ⟨m, rfl⟩ : ∃ m, n = m + 1 := ⟨n - 1, by omega⟩
    obtain ⟨g, rfl, hg⟩ := own_at h2 (by omega)
    obtain ⟨x, hx⟩ : ∃ x, q[m]? = some x := ⟨_, List.getElem?_eq_getElem (by omega)⟩
    have hc : W.cell? ⟨g, m * 9 + 3, none⟩ = some (.int .u64 x.1.r.seq) := found_cell hO hx 3 (by omega)
    have hf : s.found[m]? = some x.1 := by rw [← h1, List.getElem?_map, hx]; rfl
    have hsq := hpos x.1 (List.mem_of_getElem? hf)
    obtain ⟨sq, hsq2⟩ : ∃ sq : Nat, x.1.r.seq = (sq : Int) := ⟨x.1.r.seq.toNat, by omega⟩
    rw [hsq2] at hc
    have hl : lastF s.found = sq := by rw [lastF_get hf hfl, hsq2]; rfl
    rw [hl]
    clear h h1 hq hp hfl h2 h3 h4 hb hk hO hpos hl hx hf hsq hsq2 e3 e4 hn
    generalize s.id = i0 at *
    generalize s.stop = i3 at *
    generalize s.why = i4 at *
    have j0 : ¬ ((m : Int) + 1) = 0 := by omega
    have j1 : ((m : Int) + 1) - 1 = (m : Int) := by omega
    go_enter Tryz.func39, Tryz.ntmps39
    go_wp2_with fail
    go_ret
    exact ⟨rfl, HB.out⟩
end Go.Proofs.YtaicibmaogiibaaGreatDoor.Sc

/- ScLaidS -/

/-
  Layer 12: the laws' own bytes: a head, and plain runs of some numbers.
-/
set_option linter.unusedVariables false
set_option linter.unusedSimpArgs false
namespace Go.Proofs.YtaicibmaogiibaaGreatDoor.Sc
open Go Go.RowKit

/-- the plain record of a number -/
def kv (n : Nat) : Rc.Rec := ⟨n, 1, [107], [118], 0, 0⟩
end Go.Proofs.YtaicibmaogiibaaGreatDoor.Sc

/- ScLand -/

/-
  Layer 12, plain mathematics: what may be lost, as the landed code goes along: what was found and what was passed over, in the order of their bytes. That it tells the same as the document's way.
-/
set_option linter.unusedVariables false
set_option linter.unusedSimpArgs false
namespace Go.Proofs.YtaicibmaogiibaaGreatDoor.Sc
open Go.RowKit

theorem get_seq {b : List UInt8} {r : Rc.Rec} {z : Nat} (h : Rc.getQ b = (r, z, 0)) : 1 ≤ r.seq ∧ r.seq ≤ 1099511627776 := by
  unfold Rc.getQ at h
  split at h
  · cases h
  split at h
  · cases h
  split at h
  · cases h
  rename_i h1 h2 h3
  split at h
  · cases h
  split at h
  · cases h
  injection h with h _
  subst h
  have hm : Rc.mayB (Rc.rdR b) = true := by simpa using h3
  have := Rc.may_bounds hm
  exact ⟨this.1, this.2.1⟩
end Go.Proofs.YtaicibmaogiibaaGreatDoor.Sc

/- ScKnP -/

/-
  Layer 12, plain mathematics: the chapter's rows.
-/
set_option linter.unusedVariables false
set_option linter.unusedSimpArgs false
namespace Go.Proofs.YtaicibmaogiibaaGreatDoor.Sc
open Go Go.RowKit

def kn : List UInt8 := layB 3 ([1, 2, 5].map kv)
end Go.Proofs.YtaicibmaogiibaaGreatDoor.Sc

