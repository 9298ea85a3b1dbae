/-
  SegKnown, part 18 of what the law's proof leans on: ScPlain, ScMem, ScRSeal, ScLast, ScOk, ScLand, ScTake.
-/
import Derived.Test.YtaicibmaogiibaaGreatDoorSegKnownQ3
import Derived.Test.YtaicibmaogiibaaGreatDoorSegKnownQ2
import Derived.Test.YtaicibmaogiibaaGreatDoorSegKnownQ5
import Derived.Test.YtaicibmaogiibaaGreatDoorSegKnownQ1
import Derived.Lib.SmallJoins
import Derived.Deep.QuietTactic
import Derived.Test.YtaicibmaogiibaaGreatDoorSegKnownQ6
/- ScPlain -/

/-
  Layer 12, plain mathematics: a scan of a segment's bytes, as the document has it; runs that were laid one behind the other, cut or with more behind them.
-/
set_option linter.unusedVariables false
set_option linter.unusedSimpArgs false
namespace Go.Proofs.YtaicibmaogiibaaGreatDoor.Sc
open Go.RowKit

/-- a record that was found: where, how long its run is -/
structure Fd where
  off : Nat
  size : Nat
  r : Rc.Rec
structure S where
  id : Nat
  found : List Fd
  passed : List Nat
  stop : Nat
  why : Nat
/-- from a place on: the last number, what was found, what was passed over -/
def go (id : Nat) (b : List UInt8) : Nat → Nat → Int → List Fd → List Nat → S
  | 0, p, _, fs, ps => ⟨id, fs, ps, p, 0⟩
  | k + 1, p, last, fs, ps =>
    if p < b.length then
      if 16777216 < p then ⟨id, fs, ps, p, 23⟩
      else if (Rc.getQ (b.drop p)).2.2 = 22 then ⟨id, fs, ps, p, 22⟩
      else if (Rc.getQ (b.drop p)).2.2 = 0 then
        if (Rc.getQ (b.drop p)).1.seq ≤ last then ⟨id, fs, ps, p, 23⟩
        else go id b k (p + (Rc.getQ (b.drop p)).2.1) (Rc.getQ (b.drop p)).1.seq (fs ++ [⟨p, (Rc.getQ (b.drop p)).2.1, (Rc.getQ (b.drop p)).1⟩]) ps
      else if (Rc.getQ (b.drop p)).2.1 = 0 then ⟨id, fs, ps, p, 23⟩
      else go id b k (p + (Rc.getQ (b.drop p)).2.1) last fs (ps ++ [p])
    else ⟨id, fs, ps, p, 0⟩
def of (id : Nat) (b : List UInt8) : S := if Hd.checkN b 1 id = 0 then go id b (b.length + 1) 16 0 [] [] else ⟨id, [], [], 0, Hd.checkN b 1 id⟩

theorem get_size {b r z : _} (h : Rc.getQ b = (r, z, 0)) : 0 < z ∧ z ≤ b.length := by
  unfold Rc.getQ at h
  split at h
  · cases h
  split at h
  · cases h
  split at h
  · cases h
  split at h
  · cases h
  split at h
  · cases h
  · rename_i h1 h2 h3 h4 h5
    injection h with _ h
    injection h with h _
    subst h
    refine ⟨by unfold Rc.sizeN; omega, by omega⟩
/-- runs one behind the other -/
def runsL : List Rc.Rec → List UInt8
  | [] => []
  | r :: l => Rc.runL r ++ runsL l
theorem runsL_append : ∀ l m : List Rc.Rec, runsL (l ++ m) = runsL l ++ runsL m
  | [], m => rfl
  | r :: l, m => by simp [runsL, runsL_append l m]
/-- records that may be, of rising numbers above a -/
def Up : Int → List Rc.Rec → Prop
  | _, [] => True
  | a, r :: l => Rc.mayB r = true ∧ a < r.seq ∧ Up r.seq l
def lastOf : Int → List Rc.Rec → Int
  | a, [] => a
  | _, r :: l => lastOf r.seq l
/-- where they stand -/
def places : Nat → List Rc.Rec → List Fd
  | _, [] => []
  | p, r :: l => ⟨p, Rc.sizeN r, r⟩ :: places (p + Rc.sizeN r) l
theorem Up.take : ∀ {l : List Rc.Rec} {a : Int} (i : Nat), Up a l → Up a (l.take i)
  | [], _, _, _ => by simp [Up]
  | r :: l, a, 0, h => trivial
  | r :: l, a, i + 1, h => ⟨h.1, h.2.1, Up.take i h.2.2⟩
theorem Up.may : ∀ {l : List Rc.Rec} {a : Int}, Up a l → ∀ r ∈ l, Rc.mayB r = true
  | [], _, _, r, hr => by cases hr
  | x :: l, a, h, r, hr => by
    rcases List.mem_cons.1 hr with rfl | hr
    · exact h.1
    · exact Up.may h.2.2 r hr
theorem runs_len : ∀ l : List Rc.Rec, l.length ≤ (runsL l).length
  | [] => Nat.le_refl _
  | r :: l => by
    have := runs_len l
    simp only [runsL, List.length_append, Rc.runL_length, List.length_cons]
    unfold Rc.sizeN
    omega
/-- all that was laid is found, whatever stands behind -/
theorem go_runs (id : Nat) (m : List UInt8) : ∀ (l : List Rc.Rec) (pre : List UInt8) (last : Int) (fs : List Fd) (ps : List Nat) (k : Nat), Up last l → pre.length + (runsL l).length ≤ 16777216 + 1 →
    go id (pre ++ (runsL l ++ m)) (k + l.length) pre.length last fs ps = go id (pre ++ (runsL l ++ m)) k (pre.length + (runsL l).length) (lastOf last l) (fs ++ places pre.length l) ps
  | [], pre, last, fs, ps, k, _, _ => by simp [runsL, places, lastOf]
  | r :: l, pre, last, fs, ps, k, h, hm => by
    have hs := Rc.may_size h.1
    have e : (pre ++ (runsL (r :: l) ++ m)).drop pre.length = Rc.runL r ++ (runsL l ++ m) := by
      rw [List.drop_left' rfl]
      simp [runsL]
    have e2 : pre ++ (runsL (r :: l) ++ m) = (pre ++ Rc.runL r) ++ (runsL l ++ m) := by simp [runsL]
    have hlen : (runsL (r :: l)).length = Rc.sizeN r + (runsL l).length := by simp [runsL, Rc.runL_length]
    have hp : (pre ++ Rc.runL r).length = pre.length + Rc.sizeN r := by simp [Rc.runL_length]
    have ih := go_runs id m l (pre ++ Rc.runL r) r.seq (fs ++ [⟨pre.length, Rc.sizeN r, r⟩]) ps k h.2.2 (by rw [hp]; omega)
    rw [show k + (r :: l).length = (k + l.length) + 1 by simp; omega]
    rw [hp, ← e2] at ih
    conv => lhs; unfold go
    rw [e, Rc.get_run h.1, if_pos (by rw [List.length_append, List.length_append, hlen]; omega), if_neg (by omega), if_neg (by simp), if_pos rfl, if_neg (by have := h.2.1; simp only; omega)]
    rw [ih, hlen]
    simp [places, lastOf, Nat.add_assoc]
/-- a segment's bytes -/
def layB (id : Nat) (l : List Rc.Rec) : List UInt8 := Hd.headL 1 id ++ runsL l
theorem layB_length (id : Nat) (l : List Rc.Rec) : (layB id l).length = 16 + (runsL l).length := by simp [layB, Hd.headL_length]
/-- the whole of it, or the first of them and a beginning of the next one -/
theorem of_lay (id : Nat) (hid : Hd.mayB ((1 : Nat) : Int) id = true) (l : List Rc.Rec) (t : List UInt8) (h : Up 0 l) (hm : 16 + (runsL l).length ≤ 16777216) (ht : t = [] ∨ ∃ r j, Rc.mayB r = true ∧ 0 < j ∧ j < Rc.sizeN r ∧ t = (Rc.runL r).take j) :
    of id (layB id l ++ t) = ⟨id, places 16 l, [], 16 + (runsL l).length, if t = [] then 0 else 22⟩ := by
  have hc : Hd.checkN (layB id l ++ t) 1 id = 0 := by
    unfold layB
    rw [List.append_assoc, Hd.check_head hid, if_pos ⟨rfl, rfl⟩]
  unfold of
  rw [if_pos hc]
  have hl := runs_len l
  have e : layB id l ++ t = Hd.headL 1 id ++ (runsL l ++ t) := by unfold layB; simp
  have hlen : (layB id l ++ t).length = 16 + (runsL l).length + t.length := by rw [List.length_append, layB_length]
  obtain ⟨k, hk⟩ : ∃ k, (layB id l ++ t).length + 1 = (k + 1) + l.length := ⟨(layB id l ++ t).length - l.length, by rw [hlen]; omega⟩
  rw [hk]
  have g := go_runs id t l (Hd.headL 1 id) 0 [] [] (k + 1) h (by rw [Hd.headL_length]; omega)
  rw [← e, Hd.headL_length, List.nil_append] at g
  rw [g]
  unfold go
  rcases ht with rfl | ⟨r, j, hr, h0, hj, rfl⟩
  · rw [if_neg (by rw [hlen]; simp), if_pos rfl]
  · have hd : (layB id l ++ (Rc.runL r).take j).drop (16 + (runsL l).length) = (Rc.runL r).take j := List.drop_left' (layB_length id l)
    have hne : (Rc.runL r).take j ≠ [] := by
      intro e0
      have := congrArg List.length e0
      rw [List.length_take, Rc.runL_length, List.length_nil] at this
      omega
    rw [hd, Rc.get_torn hr j hj, if_pos (by rw [hlen, List.length_take, Rc.runL_length]; omega), if_neg (by omega), if_pos rfl, if_neg hne]
/-- cut within the head -/
theorem of_short (id : Nat) {b : List UInt8} (h : b.length < 16) : of id b = ⟨id, [], [], 0, 22⟩ := by
  have hc : Hd.checkN b 1 id = 22 := by
    unfold Hd.checkN
    rw [Hd.get_short h]
    simp
  unfold of
  rw [hc, if_neg (by simp)]
theorem Up.weak : ∀ {l : List Rc.Rec} {a b : Int}, Up a l → b ≤ a → Up b l
  | [], _, _, _, _ => trivial
  | r :: l, a, b, h, hb => ⟨h.1, by have := h.2.1; omega, h.2.2⟩
theorem Up.append : ∀ {l m : List Rc.Rec} {a : Int}, Up a (l ++ m) → Up a l ∧ Up (lastOf a l) m
  | [], m, a, h => ⟨trivial, h⟩
  | r :: l, m, a, h => by
    obtain ⟨h1, h2, h3⟩ := h
    have := Up.append h3
    exact ⟨⟨h1, h2, this.1⟩, this.2⟩
/-- bits are turned within one run: it is passed over, or, if they are in its head, the scan stops there -/
theorem of_turned (id : Nat) (hid : Hd.mayB ((1 : Nat) : Int) id = true) (l1 l2 : List Rc.Rec) (r : Rc.Rec) (h : Up 0 (l1 ++ r :: l2)) (hm : 16 + (runsL (l1 ++ r :: l2)).length ≤ 16777216)
    (t : List UInt8) (z : Nat) (ht : t.length = Rc.sizeN r) (hz : z = 0 ∨ z = Rc.sizeN r) (hg : ∀ m, Rc.getQ (t ++ m) = (Rc.none, z, 23)) :
    of id (layB id l1 ++ (t ++ runsL l2)) = if z = 0 then ⟨id, places 16 l1, [], 16 + (runsL l1).length, 23⟩
      else ⟨id, places 16 l1 ++ places (16 + (runsL l1).length + Rc.sizeN r) l2, [16 + (runsL l1).length], 16 + (runsL (l1 ++ r :: l2)).length, 0⟩ := by
  obtain ⟨u1, u2⟩ := h.append
  have hr := u2.1
  have hs := Rc.may_size hr
  have hll : (runsL (l1 ++ r :: l2)).length = (runsL l1).length + (Rc.sizeN r + (runsL l2).length) := by
    rw [runsL_append]
    simp [runsL, Rc.runL_length]
  have hc : Hd.checkN (layB id l1 ++ (t ++ runsL l2)) 1 id = 0 := by
    unfold layB
    rw [List.append_assoc, Hd.check_head hid, if_pos ⟨rfl, rfl⟩]
  unfold of
  rw [if_pos hc]
  have hl1 := runs_len l1
  have hl2 := runs_len l2
  have e : layB id l1 ++ (t ++ runsL l2) = Hd.headL 1 id ++ (runsL l1 ++ (t ++ runsL l2)) := by unfold layB; simp
  have hlen : (layB id l1 ++ (t ++ runsL l2)).length = 16 + (runsL l1).length + (Rc.sizeN r + (runsL l2).length) := by rw [List.length_append, layB_length, List.length_append, ht]
  obtain ⟨k, hk⟩ : ∃ k, (layB id l1 ++ (t ++ runsL l2)).length + 1 = ((k + 1 + l2.length) + 1) + l1.length := ⟨(layB id l1 ++ (t ++ runsL l2)).length - 1 - l2.length - l1.length, by rw [hlen]; omega⟩
  rw [hk]
  have g := go_runs id (t ++ runsL l2) l1 (Hd.headL 1 id) 0 [] [] ((k + 1 + l2.length) + 1) u1 (by rw [Hd.headL_length]; omega)
  rw [← e, Hd.headL_length, List.nil_append] at g
  rw [g]
  have hd : (layB id l1 ++ (t ++ runsL l2)).drop (16 + (runsL l1).length) = t ++ runsL l2 := List.drop_left' (layB_length id l1)
  conv => lhs; unfold go
  rw [hd, hg, if_pos (by rw [hlen]; omega), if_neg (by omega), if_neg (by simp), if_neg (by simp)]
  rcases hz with rfl | rfl
  · rw [if_pos rfl, if_pos rfl]
  · rw [if_neg (by simp only; omega), if_neg (by omega)]
    have e2 : layB id l1 ++ (t ++ runsL l2) = (layB id l1 ++ t) ++ (runsL l2 ++ []) := by simp
    have hp : (layB id l1 ++ t).length = 16 + (runsL l1).length + Rc.sizeN r := by rw [List.length_append, layB_length, ht]
    have g2 := go_runs id [] l2 (layB id l1 ++ t) (lastOf 0 l1) (places 16 l1) ([] ++ [16 + (runsL l1).length]) (k + 1) (u2.2.2.weak (by have := u2.2.1; omega)) (by rw [hp]; omega)
    rw [← e2, hp] at g2
    simp only
    rw [g2]
    unfold go
    rw [if_neg (by rw [hlen]; omega), hll]
    simp [Nat.add_assoc]
/-- the seal of a scan -/
def firstOf : List Fd → Nat
  | [] => 0
  | f :: _ => f.r.seq.toNat
def lastF : List Fd → Nat
  | [] => 0
  | f :: l => if l.isEmpty then f.r.seq.toNat else lastF l
/-- a seal as numbers: id, size, how many, first, last -/
structure Sl where
  id : Nat
  size : Nat
  many : Nat
  first : Nat
  last : Nat
def seal_ (s : S) : Sl := ⟨s.id, s.stop, s.found.length + s.passed.length, firstOf s.found, lastF s.found⟩
end Go.Proofs.YtaicibmaogiibaaGreatDoor.Sc

/- ScMem -/

/-
  Layer 12: scans in memory.
-/
set_option linter.unusedVariables false
set_option linter.unusedSimpArgs false
namespace Go.Proofs.YtaicibmaogiibaaGreatDoor.Sc
open Go Go.RowKit

/-- a record that was found, and the slices that are its key and its value -/
abbrev Fq := Fd × Value × Value
def Fq.cells (id : Nat) (x : Fq) : List Value := [.int .u32 (id : Int), .int .u32 (x.1.off : Int), .int .i64 (x.1.size : Int), .int .u64 x.1.r.seq, .int .i64 x.1.r.kind, x.2.1, x.2.2, .int .u32 x.1.r.seg, .int .u32 x.1.r.off]
def rowF (id : Nat) (l : List Fq) : List Value := l.flatMap (Fq.cells id)
theorem rowF_snoc (id : Nat) (l : List Fq) (x : Fq) : rowF id (l ++ [x]) = rowF id l ++ Fq.cells id x := by simp [rowF]
theorem rowF_get {id : Nat} {t : List Fq} {i : Nat} {x : Fq} (h : t[i]? = some x) (k : Nat) (hk : k < 9) : (rowF id t)[i * 9 + k]? = (Fq.cells id x)[k]? := by
  induction t generalizing i with
  | nil => simp at h
  | cons y r ih =>
    have hr : rowF id (y :: r) = Fq.cells id y ++ rowF id r := by simp [rowF]
    have hl : (Fq.cells id y).length = 9 := rfl
    rw [hr]
    cases i with
    | zero =>
      simp at h
      subst h
      rw [List.getElem?_append_left (by omega)]
      congr 1
      omega
    | succ i =>
      rw [List.getElem?_append_right (by omega), ← ih (by simpa using h)]
      congr 1
      omega
structure FqOk (w : World) (lo : Nat) (x : Fq) : Prop where
  key : RowIn w lo x.2.1 x.1.r.key
  val : RowIn w lo x.2.2 x.1.r.val
theorem FqOk.on {w w' : World} {lo : Nat} {x : Fq} (h : FqOk w lo x) (hb : Below w.heap.size w w') : FqOk w' lo x := ⟨h.key.on hb, h.val.on hb⟩
theorem chg1 (w : World) (A o : Nat) (val : Value) : Chg (fun i => i = A) w (w.setCell ⟨A, o, none⟩ val) := (Chg.refl (M := fun i => i = A) (w := w)).setCell (p := ⟨A, o, none⟩) rfl _
/-- blocks of type T -/
def Typed (w : World) (T : TypeId) (N : Nat → Prop) : Prop := ∀ g, N g → ∃ arr z, w.heap[g]? = some (.cells arr T z)
section
variable {w w' : World} {N : Nat → Prop} {T T' : TypeId} {lo : Nat} {v : Value}
theorem Typed.row {l : List UInt8} (hg : Typed w T N) (hT : T ≠ 5) (hc : Chg N w w') (h : RowIn w lo v l) : RowIn w' lo v l := by
  rcases h with ⟨rfl, rfl⟩ | ⟨g, rfl, h1, h⟩
  · exact .inl ⟨rfl, rfl⟩
  · refine .inr ⟨g, rfl, h1, (hc.block g h.lt (fun hN => ?_)).trans h⟩
    obtain ⟨arr, z, e⟩ := hg g hN
    rw [show w.heap[g]? = _ from h] at e
    injection e with e
    injection e with _ e _
    exact hT e.symm
theorem FqOk.apart {x : Fq} (hg : Typed w T N) (hT : T ≠ 5) (hc : Chg N w w') (h : FqOk w lo x) : FqOk w' lo x := ⟨hg.row hT hc h.key, hg.row hT hc h.val⟩
theorem Typed.keep {k : Nat} {arr : Array Value} {z : Nat × Nat} (hg : Typed w T N) (hc : Chg N w w') (h : w.heap[k]? = some (.cells arr T' z)) (hT : T ≠ T') : w'.heap[k]? = some (.cells arr T' z) := by
  refine (hc.block k (Array.getElem?_eq_some_iff.1 h).1 (fun hN => ?_)).trans h
  obtain ⟨arr2, z2, e⟩ := hg k hN
  rw [h] at e
  injection e with e
  injection e with _ e _
  exact hT e.symm
theorem own_typed {base size n : Nat} {e : TypeId} {xs : List Value} (h : w.ownsRow base e size v n xs) : Typed w e (fun g => v.ownBlock = some g) := by
  rcases h.2 with ⟨rfl, _⟩ | ⟨g, cap, cur, rfl, _, hc, _⟩
  · intro g hg; cases hg
  · intro g' hg'
    injection hg' with hg'
    subst hg'
    exact ⟨cur, (0, 0), hc⟩
theorem Typed.own {base size n : Nat} {e : TypeId} {xs : List Value} (hg : Typed w T N) (hT : e ≠ T) (hc : Chg N w w') (h : w.ownsRow base e size v n xs) : w'.ownsRow base e size v n xs :=
  hc.own h (fun g hv hN => by
    obtain ⟨arr, z, h1⟩ := hg g hN
    obtain ⟨arr2, z2, h2⟩ := own_typed h g hv
    rw [h1] at h2
    injection h2 with h2
    injection h2 with _ h2 _
    exact hT h2.symm)
end
/-- the value v is the scan s, in memory from `lo` on; T the type of a record found -/
def ScanV (T : TypeId) (w : World) (lo : Nat) (v : Value) (s : S) : Prop :=
  ∃ vf vp, ∃ q : List Fq, v = .agg #[.int .u32 (s.id : Int), vf, vp, .int .i64 (s.stop : Int), .int .i64 (s.why : Int)] ∧ q.map (·.1) = s.found ∧ w.ownsRow lo T 9 vf q.length (rowF s.id q) ∧ (∀ x ∈ q, FqOk w lo x) ∧
    w.ownsRow lo 3 1 vp s.passed.length (s.passed.map fun n : Nat => Value.int .i64 (n : Int))
theorem ScanV.on {T : TypeId} {w w' : World} {lo : Nat} {v : Value} {s : S} (h : ScanV T w lo v s) (hb : Below w.heap.size w w') : ScanV T w' lo v s := by
  obtain ⟨vf, vp, q, h1, h2, h3, h4, h5⟩ := h
  exact ⟨vf, vp, q, h1, h2, own_below h3 hb (Nat.le_refl _), fun x hx => (h4 x hx).on hb, own_below h5 hb (Nat.le_refl _)⟩
end Go.Proofs.YtaicibmaogiibaaGreatDoor.Sc

/- ScRSeal -/

/-
  Layer 12: the document's own Seal.
-/
set_option linter.unusedVariables false
set_option linter.unusedSimpArgs false
namespace Go.Proofs.YtaicibmaogiibaaGreatDoor.Sc
open Go Go.RowKit

section
variable {w : World} {g : Nat} {a0 a1 a2 a3 a4 : Value} {T : TypeId}
theorem rw5 (h : w.heap[g]? = some (.cells #[a0, a1, a2, a3, a4] T (0, 0))) : w.cell? ⟨g, 0, none⟩ = some a0 ∧ w.cell? ⟨g, 1, none⟩ = some a1 ∧ w.cell? ⟨g, 2, none⟩ = some a2 ∧ w.cell? ⟨g, 3, none⟩ = some a3 ∧ w.cell? ⟨g, 4, none⟩ = some a4 :=
  ⟨cell_of_row w g 0 _ _ _ h, cell_of_row w g 1 _ _ _ h, cell_of_row w g 2 _ _ _ h, cell_of_row w g 3 _ _ _ h, cell_of_row w g 4 _ _ _ h⟩
theorem rw5f (h : w.heap[g]? = some (.cells #[a0, a1, a2, a3, a4] T (0, 0))) : w.frozen? ⟨g, 0, none⟩ = false ∧ w.frozen? ⟨g, 1, none⟩ = false ∧ w.frozen? ⟨g, 2, none⟩ = false ∧ w.frozen? ⟨g, 3, none⟩ = false ∧ w.frozen? ⟨g, 4, none⟩ = false := by
  refine ⟨?_, ?_, ?_, ?_, ?_⟩ <;> simp [World.frozen?, h]
end
def Sl.val (x : Sl) : Value := .agg #[.int .u32 (x.id : Int), .int .u32 (x.size : Int), .int .u32 (x.many : Int), .int .u64 (x.first : Int), .int .u64 (x.last : Int)]
theorem lastF_snoc (l : List Fd) (f : Fd) : lastF (l ++ [f]) = f.r.seq.toNat := by
  induction l with
  | nil => rfl
  | cons x r ih =>
    show (if (r ++ [f]).isEmpty then _ else lastF (r ++ [f])) = _
    rw [if_neg (by simp), ih]
theorem addr_add1 (g k : Nat) : (⟨g, 0, none⟩ : Addr).add k = ⟨g, k, none⟩ := by
  unfold Addr.add
  split
  · rename_i h; rw [h]
  · simp
/-- a found record's cells -/
theorem found_cell {T : TypeId} {w : World} {lo g c id : Nat} {q : List Fq} {m : Nat} (h : w.ownsRow lo T 9 (.slice (some ⟨g, 0, none⟩) m c) m (rowF id q)) {i : Nat} {x : Fq} (hx : q[i]? = some x) (k : Nat) (hk : k < 9) : w.cell? ⟨g, i * 9 + k, none⟩ = (Fq.cells id x)[k]? := by
  have hl : k < (Fq.cells id x).length := hk
  have h1 := h.cells (g := g) rfl (i * 9 + k) ((Fq.cells id x)[k]'hl) (by rw [rowF_get hx k hk]; exact List.getElem?_eq_getElem hl)
  rw [addr_add1] at h1
  rw [h1]
  exact (List.getElem?_eq_getElem hl).symm
end Go.Proofs.YtaicibmaogiibaaGreatDoor.Sc

/- ScLast -/

/-
  Layer 12: the landed scan: last, Seal.
-/
set_option linter.unusedVariables false
set_option linter.unusedSimpArgs false
namespace Go.Proofs.YtaicibmaogiibaaGreatDoor.Sc
open Go Go.RowKit

theorem lastF_get {l : List Fd} {i : Nat} {f : Fd} (h : l[i]? = some f) (hl : l.length = i + 1) : lastF l = f.r.seq.toNat := by
  have : l = l.take i ++ [f] := by
    have h1 : l.take (i + 1) = l := List.take_of_length_le (by omega)
    rw [List.take_add_one, h] at h1
    exact h1.symm
  rw [this, lastF_snoc]
/-- the block B holds the scan s -/
def ScanB (w : World) (lo B : Nat) (s : S) : Prop :=
  ∃ Af nf cf Ap np cp, ∃ q : List Fq, w.heap[B]? = some (.cells #[.int .u32 (s.id : Int), .slice Af nf cf, .slice Ap np cp, .int .i64 (s.stop : Int), .int .i64 (s.why : Int)] 44 (0, 0)) ∧ q.map (·.1) = s.found ∧ q.length = nf ∧ s.passed.length = np ∧
    w.ownsRow lo 56 9 (.slice Af nf cf) nf (rowF s.id q) ∧ (∀ x ∈ q, FqOk w lo x) ∧ w.ownsRow lo 3 1 (.slice Ap np cp) np (s.passed.map fun n : Nat => Value.int .i64 (n : Int))
theorem ScanV.open {T : TypeId} {w : World} {lo : Nat} {v : Value} {s : S} (h : ScanV T w lo v s) : ∃ Af nf cf Ap np cp, ∃ q : List Fq, v = .agg #[.int .u32 (s.id : Int), .slice Af nf cf, .slice Ap np cp, .int .i64 (s.stop : Int), .int .i64 (s.why : Int)] ∧ q.map (·.1) = s.found ∧ q.length = nf ∧ s.passed.length = np ∧ s.found.length = nf ∧
    nf ≤ cf ∧ cf ≤ maxLen ∧ np ≤ cp ∧ cp ≤ maxLen ∧
    w.ownsRow lo T 9 (.slice Af nf cf) nf (rowF s.id q) ∧ (∀ x ∈ q, FqOk w lo x) ∧ w.ownsRow lo 3 1 (.slice Ap np cp) np (s.passed.map fun n : Nat => Value.int .i64 (n : Int)) := by
  obtain ⟨vf, vp, q, rfl, h1, h2, h3, h4⟩ := h
  obtain ⟨Af, cf, rfl, e1, e2, _⟩ := own_slice h2
  obtain ⟨Ap, cp, rfl, e3, e4, _⟩ := own_slice h4
  exact ⟨Af, _, cf, Ap, _, cp, q, rfl, h1, rfl, rfl, by rw [← h1, List.length_map], e1, e2, e3, e4, h2, h3, h4⟩
/-- a block's address where a row of some length begins -/
theorem own_at {w : World} {lo size n c : Nat} {e : TypeId} {A : Option Addr} {xs : List Value} (h : w.ownsRow lo e size (.slice A n c) n xs) (hn : 0 < n) : ∃ g, A = some ⟨g, 0, none⟩ ∧ lo ≤ g := by
  rcases h.2 with ⟨e, e2⟩ | ⟨g, cap, cur, e, hg, _⟩
  · omega
  · injection e with e _ _
    exact ⟨g, e, hg⟩
set_option maxRecDepth 100000 in
set_option maxHeartbeats 8000000 in
theorem slast {w : World} {lo : Nat} {v : Value} {s : S} (h : ScanV 56 w lo v s) (hm : s.found.length ≤ 1000000) (hpos : ∀ f ∈ s.found, 0 ≤ f.r.seq) :
    Calls Tryz.prog 39 #[v] w fun e w' => e = .returned (.int .u64 (lastF s.found : Int)) ∧ Below w.heap.size w w' := by
  obtain ⟨Af, n, cf, Ap, np, cp, q, rfl, h1, hq, hp, hfl, e1, e2, e3, e4, h2, h3, h4⟩ := h.open
  obtain ⟨bx, hbx⟩ : ∃ bx, w.heap.size = bx := ⟨_, rfl⟩
  obtain ⟨W, hW⟩ : ∃ W, w.alloc (.cells #[.int .u32 (s.id : Int), .slice Af n cf, .slice Ap np cp, .int .i64 (s.stop : Int), .int .i64 (s.why : Int)] 44) = W := ⟨_, rfl⟩
  have hb : Below w.heap.size w W := by rw [← hW]; exact (Below.refl _ _).alloc (Nat.le_refl _) _
  have hk : W.heap[bx]? = some (.cells #[.int .u32 (s.id : Int), .slice Af n cf, .slice Ap np cp, .int .i64 (s.stop : Int), .int .i64 (s.why : Int)] 44 (0, 0)) := by rw [← hW, ← hbx]; exact heap_alloc_new w _
  obtain ⟨y0, y1, y2, y3, y4⟩ := rw5 hk
  have hO := own_below h2 hb (Nat.le_refl _)
  have HB := Lib.hid hb
  rw [hfl] at hm
  by_cases hn : n = 0
  · have hl : lastF s.found = 0 := by
      have : s.found = [] := List.length_eq_zero_iff.1 (by rw [hfl, hn])
      rw [this]; rfl
    rw [hl]
    subst hn
    clear h h1 hq hp hfl h2 h3 h4 hb hk hO hpos hl e3 e4
    generalize s.id = i0 at *
    generalize s.stop = i3 at *
    generalize s.why = i4 at *
    go_enter Tryz.func39, Tryz.ntmps39
    go_wp2_with fail
    go_ret
    exact ⟨rfl, HB.out⟩
  · obtain ⟨m, rfl⟩ : ∃ m, n = m + 1 := ⟨n - 1, by omega⟩
    obtain ⟨g, rfl, hg⟩ := own_at h2 (by omega)
    obtain ⟨x, hx⟩ : ∃ x, q[m]? = some x := ⟨_, List.getElem?_eq_getElem (by omega)⟩
    have hc : W.cell? ⟨g, m * 9 + 3, none⟩ = some (.int .u64 x.1.r.seq) := found_cell hO hx 3 (by omega)
    have hf : s.found[m]? = some x.1 := by rw [← h1, List.getElem?_map, hx]; rfl
    have hsq := hpos x.1 (List.mem_of_getElem? hf)
    obtain ⟨sq, hsq2⟩ : ∃ sq : Nat, x.1.r.seq = (sq : Int) := ⟨x.1.r.seq.toNat, by omega⟩
    rw [hsq2] at hc
    have hl : lastF s.found = sq := by rw [lastF_get hf hfl, hsq2]; rfl
    rw [hl]
    clear h h1 hq hp hfl h2 h3 h4 hb hk hO hpos hl hx hf hsq hsq2 e3 e4 hn
    generalize s.id = i0 at *
    generalize s.stop = i3 at *
    generalize s.why = i4 at *
    have j0 : ¬ ((m : Int) + 1) = 0 := by omega
    have j1 : ((m : Int) + 1) - 1 = (m : Int) := by omega
    go_enter Tryz.func39, Tryz.ntmps39
    go_wp2_with fail
    go_ret
    exact ⟨rfl, HB.out⟩
end Go.Proofs.YtaicibmaogiibaaGreatDoor.Sc

/- ScOk -/

/-
  Layer 12, plain mathematics: what every scan keeps.
-/
set_option linter.unusedVariables false
set_option linter.unusedSimpArgs false
namespace Go.Proofs.YtaicibmaogiibaaGreatDoor.Sc
open Go.RowKit

theorem get_any {b : List UInt8} {r : Rc.Rec} {z e : Nat} (h : Rc.getQ b = (r, z, e)) : (e = 0 ∨ e = 22 ∨ e = 23) ∧ (e ≠ 22 → z ≠ 0 → z ≤ b.length) ∧ (e = 0 → z ≠ 0) := by
  have h2 : e = 0 → z ≠ 0 := fun e0 => by subst e0; have := (get_size h).1; omega
  refine ⟨?_, ?_, h2⟩ <;>
  (unfold Rc.getQ at h
   split at h
   · cases h; omega
   split at h
   · cases h; omega
   split at h
   · cases h; omega
   split at h
   · cases h; omega
   split at h
   · cases h; omega
   · cases h; omega)
/-- numbers from 0 up, an end within the bytes, no more told than bytes passed -/
structure Ok (b : List UInt8) (s : S) : Prop where
  pos : ∀ f ∈ s.found, 0 ≤ f.r.seq
  stop : s.stop ≤ b.length + 16
  few : s.found.length + s.passed.length ≤ s.stop
end Go.Proofs.YtaicibmaogiibaaGreatDoor.Sc

/- ScLand -/

/-
  Layer 12, plain mathematics: what may be lost, as the landed code goes along: what was found and what was passed over, in the order of their bytes. That it tells the same as the document's way.
-/
set_option linter.unusedVariables false
set_option linter.unusedSimpArgs false
namespace Go.Proofs.YtaicibmaogiibaaGreatDoor.Sc
open Go.RowKit

theorem get_seq {b : List UInt8} {r : Rc.Rec} {z : Nat} (h : Rc.getQ b = (r, z, 0)) : 1 ≤ r.seq ∧ r.seq ≤ 1099511627776 := by
  unfold Rc.getQ at h
  split at h
  · cases h
  split at h
  · cases h
  split at h
  · cases h
  rename_i h1 h2 h3
  split at h
  · cases h
  split at h
  · cases h
  injection h with h _
  subst h
  have hm : Rc.mayB (Rc.rdR b) = true := by simpa using h3
  have := Rc.may_bounds hm
  exact ⟨this.1, this.2.1⟩
end Go.Proofs.YtaicibmaogiibaaGreatDoor.Sc

/- ScTake -/

/-
  Layer 12: the landed scan's take: one step of a scan.
-/
set_option linter.unusedVariables false
set_option linter.unusedSimpArgs false
namespace Go.Proofs.YtaicibmaogiibaaGreatDoor.Sc
open Go Go.RowKit

/-- one step of a scan, by what stands at its end -/
def tk (s : S) (rest : List UInt8) : S :=
  if (Rc.getQ rest).2.2 = 22 then { s with why := 22 }
  else if (Rc.getQ rest).2.1 = 0 ∨ ((Rc.getQ rest).2.2 = 0 ∧ (Rc.getQ rest).1.seq ≤ (lastF s.found : Int)) then { s with why := 23 }
  else if (Rc.getQ rest).2.2 = 0 then { s with found := s.found ++ [⟨s.stop, (Rc.getQ rest).2.1, (Rc.getQ rest).1⟩], stop := s.stop + (Rc.getQ rest).2.1 }
  else { s with passed := s.passed ++ [s.stop], stop := s.stop + (Rc.getQ rest).2.1 }
theorem found_infoL : (Tryz.prog.info? 56).map (fun i => (i.zero, i.size, i.bytes)) = some (some (.agg #[.int .u32 0, .int .u32 0, .int .i64 0, .int .u64 0, .int .i64 0, .slice none 0 0, .slice none 0 0, .int .u32 0, .int .u32 0]), 9, 88) := by kernel_rfl
theorem int_infoL : (Tryz.prog.info? 3).map (fun i => (i.zero, i.size, i.bytes)) = some (some (.int .i64 0), 1, 8) := by kernel_rfl
theorem NewRec.recIn {w w' : World} {rv : Value} {r : Rc.Rec} (h : NewRec w w' rv r) : RecIn w' w.heap.size rv r := by
  rcases h with ⟨rfl, rfl⟩ | ⟨g1, g2, rfl, _, h1, h2, h3, h4⟩
  · exact RecIn.none_
  · exact ⟨_, _, rfl, .inr ⟨g1, rfl, h1, h3⟩, .inr ⟨g2, rfl, h2, h4⟩⟩
/-- every other scan in a block lies as it lay -/
def Keep (w w' : World) (B : Nat) : Prop := ∀ k arr z, k ≠ B → w.heap[k]? = some (.cells arr 44 z) → w'.heap[k]? = some (.cells arr 44 z)
theorem Keep.of_below {w w' : World} {B : Nat} (hb : Below w.heap.size w w') : Keep w w' B := fun k arr z _ h => (hb.block k (Array.getElem?_eq_some_iff.1 h).1).trans h
theorem Keep.trans {a b c : World} {B : Nat} (h : Keep a b B) (k : Keep b c B) : Keep a c B := fun i arr z hi hh => k i arr z hi (h i arr z hi hh)
/-- the block B holds the scan s, its rows told by name -/
structure TkI (w : World) (lo B : Nat) (s : S) (q : List Fq) (Af : Option Addr) (nf cf : Nat) (Ap : Option Addr) (np cp : Nat) : Prop where
  blk : w.heap[B]? = some (.cells #[.int .u32 (s.id : Int), .slice Af nf cf, .slice Ap np cp, .int .i64 (s.stop : Int), .int .i64 (s.why : Int)] 44 (0, 0))
  hq : q.map (·.1) = s.found
  hn : q.length = nf
  hp : s.passed.length = np
  own : w.ownsRow lo 56 9 (.slice Af nf cf) nf (rowF s.id q)
  ok : ∀ x ∈ q, FqOk w lo x
  pown : w.ownsRow lo 3 1 (.slice Ap np cp) np (s.passed.map fun n : Nat => Value.int .i64 (n : Int))
section
variable {w V X : World} {lo B : Nat} {s s' : S} {q : List Fq} {Af Ap : Option Addr} {nf cf np cp : Nat}
theorem ScanB.open (h : ScanB w lo B s) : ∃ q Af nf cf Ap np cp, TkI w lo B s q Af nf cf Ap np cp := by
  obtain ⟨Af, nf, cf, Ap, np, cp, q, h1, h2, h3, h4, h5, h6, h7⟩ := h
  exact ⟨q, Af, nf, cf, Ap, np, cp, h1, h2, h3, h4, h5, h6, h7⟩
theorem TkI.on (h : TkI w lo B s q Af nf cf Ap np cp) (hb : Below w.heap.size w V) : TkI V lo B s q Af nf cf Ap np cp :=
  ⟨(hb.block B (Array.getElem?_eq_some_iff.1 h.blk).1).trans h.blk, h.hq, h.hn, h.hp, own_below h.own hb (Nat.le_refl _), fun x hx => (h.ok x hx).on hb, own_below h.pown hb (Nat.le_refl _)⟩
theorem TkI.blk' (h : TkI w lo B s q Af nf cf Ap np cp) {i0 i3 i4 : Nat} (h0 : s.id = i0) (h3 : s.stop = i3) (h4 : s.why = i4) : w.heap[B]? = some (.cells #[.int .u32 (i0 : Int), .slice Af nf cf, .slice Ap np cp, .int .i64 (i3 : Int), .int .i64 (i4 : Int)] 44 (0, 0)) := by
  subst h0 h3 h4
  exact h.blk
/-- a scan that is changed in its block alone -/
theorem tk_fin {arr : Array Value} {z : Nat × Nat} (hV : V.heap[B]? = some (.cells arr 44 z)) (hX : X.heap[B]? = some (.cells #[.int .u32 (s'.id : Int), .slice Af nf cf, .slice Ap np cp, .int .i64 (s'.stop : Int), .int .i64 (s'.why : Int)] 44 (0, 0)))
    (hc : Chg (fun i => i = B) V X) (hb : Below lo w V) (hk : Keep w V B) (hlo : lo ≤ w.heap.size) (hB : lo ≤ B) (h1 : q.map (·.1) = s'.found) (h2 : q.length = nf) (h3 : s'.passed.length = np)
    (h4 : V.ownsRow lo 56 9 (.slice Af nf cf) nf (rowF s'.id q)) (h5 : ∀ x ∈ q, FqOk V lo x) (h6 : V.ownsRow lo 3 1 (.slice Ap np cp) np (s'.passed.map fun n : Nat => Value.int .i64 (n : Int))) :
    ScanB X lo B s' ∧ Below lo w X ∧ Keep w X B := by
  have hty : Typed V 44 (fun i => i = B) := fun g e => by obtain rfl : g = B := e; exact ⟨_, _, hV⟩
  refine ⟨⟨Af, nf, cf, Ap, np, cp, q, hX, h1, h2, h3, hty.own (by decide) hc h4, fun x hx => (h5 x hx).apart hty (by decide) hc, hty.own (by decide) hc h6⟩, ?_, ?_⟩
  · exact hb.trans (hc.below (Nat.le_trans hlo hb.size) (fun i e => by obtain rfl : i = B := e; exact hB))
  · intro k arr2 z2 hne hh
    have := hk k arr2 z2 hne hh
    exact (hc.block k (Array.getElem?_eq_some_iff.1 this).1 hne).trans this
end
/-- what stands within the walk: the scan's block, the record's block, the record found -/
structure VB (w V : World) (lo B : Nat) (s : S) (q : List Fq) (Af : Option Addr) (nf cf : Nat) (Ap : Option Addr) (np cp rb : Nat) (rc : Array Value) (kx : Fq) : Prop where
  below : Below lo w V
  tk : TkI V lo B s q Af nf cf Ap np cp
  keep : Keep w V B
  rk : V.heap[rb]? = some (.cells rc 51 (0, 0))
  rlo : lo ≤ rb
  kx : FqOk V lo kx
section
variable {w V X : World} {lo B : Nat} {s : S} {q : List Fq} {Af Ap : Option Addr} {nf cf np cp rb : Nat} {rc : Array Value} {kx : Fq} {i0 i3 i4 : Nat}
theorem VB.on (h : VB w V lo B s q Af nf cf Ap np cp rb rc kx) (hb : Below V.heap.size V X) (hlo : lo ≤ w.heap.size) : VB w X lo B s q Af nf cf Ap np cp rb rc kx :=
  ⟨h.below.trans (hb.mono (Nat.le_trans hlo h.below.size)), h.tk.on hb, h.keep.trans (Keep.of_below hb), (hb.block rb (Array.getElem?_eq_some_iff.1 h.rk).1).trans h.rk, h.rlo, h.kx.on hb⟩
theorem VB.drew (h : VB w V lo B s q Af nf cf Ap np cp rb rc kx) (hlo : lo ≤ w.heap.size) : VB w V.drew lo B s q Af nf cf Ap np cp rb rc kx := h.on ((Below.refl V.heap.size V).drew) hlo
theorem VB.rec6 {a0 a1 a2 a3 a4 a5 : Value} (h : VB w V lo B s q Af nf cf Ap np cp rb rc kx) (e : rc = #[a0, a1, a2, a3, a4, a5]) : V.cell? ⟨rb, 0, none⟩ = some a0 ∧ V.cell? ⟨rb, 1, none⟩ = some a1 ∧ V.cell? ⟨rb, 2, none⟩ = some a2 ∧ V.cell? ⟨rb, 3, none⟩ = some a3 ∧ V.cell? ⟨rb, 4, none⟩ = some a4 ∧ V.cell? ⟨rb, 5, none⟩ = some a5 := by
  subst e
  exact ⟨cell_of_row V rb 0 _ _ _ h.rk, cell_of_row V rb 1 _ _ _ h.rk, cell_of_row V rb 2 _ _ _ h.rk, cell_of_row V rb 3 _ _ _ h.rk, cell_of_row V rb 4 _ _ _ h.rk, cell_of_row V rb 5 _ _ _ h.rk⟩
theorem VB.scanV (h : VB w V lo B s q Af nf cf Ap np cp rb rc kx) (e : s.id = i0 ∧ s.stop = i3 ∧ s.why = i4) : ScanV 56 V lo (.agg #[.int .u32 (i0 : Int), .slice Af nf cf, .slice Ap np cp, .int .i64 (i3 : Int), .int .i64 (i4 : Int)]) s := by
  obtain ⟨rfl, rfl, rfl⟩ := e
  have hn := h.tk.hn
  have hp := h.tk.hp
  exact ⟨_, _, q, rfl, h.tk.hq, by rw [hn]; exact h.tk.own, h.tk.ok, by rw [hp]; exact h.tk.pown⟩
theorem VB.own (h : VB w V lo B s q Af nf cf Ap np cp rb rc kx) (e : s.id = i0) : V.ownsRow lo 56 9 (.slice Af nf cf) nf (rowF i0 q) := by rw [← e]; exact h.tk.own
/-- a new block of another type is changed -/
theorem VB.chg {N : Nat → Prop} {T : TypeId} (h : VB w V lo B s q Af nf cf Ap np cp rb rc kx) (hty : Typed V T N) (t1 : T ≠ 5) (t2 : T ≠ 44) (t3 : T ≠ 56) (t4 : T ≠ 3) (t5 : T ≠ 51) (hc : Chg N V X) (hN : ∀ i, N i → lo ≤ i) (hlo : lo ≤ w.heap.size) :
    VB w X lo B s q Af nf cf Ap np cp rb rc kx :=
  ⟨h.below.trans (hc.below (Nat.le_trans hlo h.below.size) (fun i e => hN i e)), ⟨hty.keep hc h.tk.blk t2, h.tk.hq, h.tk.hn, h.tk.hp, hty.own (Ne.symm t3) hc h.tk.own, fun x hx => (h.tk.ok x hx).apart hty t1 hc, hty.own (Ne.symm t4) hc h.tk.pown⟩,
    h.keep.trans (fun k arr z _ hh => hty.keep hc hh t2), hty.keep hc h.rk t5, h.rlo, h.kx.apart hty t1 hc⟩
/-- the reason is told -/
theorem VB.why (h : VB w V lo B s q Af nf cf Ap np cp rb rc kx) (hB : lo ≤ B) (hlo : lo ≤ w.heap.size) (y : Nat) : ScanB (V.setCell ⟨B, 4, none⟩ (.int .i64 (y : Int))) lo B { s with why := y } ∧ Below lo w (V.setCell ⟨B, 4, none⟩ (.int .i64 (y : Int))) ∧ Keep w (V.setCell ⟨B, 4, none⟩ (.int .i64 (y : Int))) B :=
  tk_fin (s' := { s with why := y }) h.tk.blk (Go.Joins.block_setCell (i := 4) h.tk.blk (.int .i64 (y : Int))) (chg1 V B 4 _) h.below h.keep hlo hB h.tk.hq h.tk.hn h.tk.hp h.tk.own h.tk.ok h.tk.pown
/-- what stands behind an append to what was found: the scan's block is as it was -/
structure VA (w V : World) (lo B : Nat) (s : S) (q : List Fq) (Af : Option Addr) (nf cf : Nat) (Ap : Option Addr) (np cp rb : Nat) (rc : Array Value) (kx : Fq) : Prop where
  below : Below lo w V
  blk : V.heap[B]? = some (.cells #[.int .u32 (s.id : Int), .slice Af nf cf, .slice Ap np cp, .int .i64 (s.stop : Int), .int .i64 (s.why : Int)] 44 (0, 0))
  hq : q.map (·.1) = s.found
  hn : q.length = nf
  hp : s.passed.length = np
  ok : ∀ x ∈ q, FqOk V lo x
  keep : Keep w V B
  rk : V.heap[rb]? = some (.cells rc 51 (0, 0))
  kx : FqOk V lo kx
theorem VA.blk' (h : VA w V lo B s q Af nf cf Ap np cp rb rc kx) (h0 : s.id = i0) (h3 : s.stop = i3) (h4 : s.why = i4) : V.heap[B]? = some (.cells #[.int .u32 (i0 : Int), .slice Af nf cf, .slice Ap np cp, .int .i64 (i3 : Int), .int .i64 (i4 : Int)] 44 (0, 0)) := by
  subst h0 h3 h4
  exact h.blk
theorem VB.va {N : Nat → Prop} {T : TypeId} (h : VB w V lo B s q Af nf cf Ap np cp rb rc kx) (hty : Typed V T N) (t1 : T ≠ 5) (t2 : T ≠ 44) (t5 : T ≠ 51) (hc : Chg N V X) (hb : Below lo V X) : VA w X lo B s q Af nf cf Ap np cp rb rc kx :=
  ⟨h.below.trans hb, hty.keep hc h.tk.blk t2, h.tk.hq, h.tk.hn, h.tk.hp, fun x hx => (h.tk.ok x hx).apart hty t1 hc, h.keep.trans (fun k arr z _ hh => hty.keep hc hh t2), hty.keep hc h.rk t5, h.kx.apart hty t1 hc⟩
theorem VA.found {Y : World} {A7 : Option Addr} {c7 : Nat} {z : Nat} {r : Rc.Rec} {k1 k2 : Value} (h : VA w X lo B s q Af nf cf Ap np cp rb rc kx) (hB : lo ≤ B) (hlo : lo ≤ w.heap.size) (e : s.id = i0 ∧ s.stop = i3 ∧ s.why = i4) (hkx : kx = (⟨i3, z, r⟩, k1, k2))
    (hown : X.ownsRow lo 56 9 (.slice A7 (nf + 1) c7) (nf + 1) (rowF i0 q ++ Fq.cells i0 kx)) (hp : X.ownsRow lo 3 1 (.slice Ap np cp) np (s.passed.map fun n : Nat => Value.int .i64 (n : Int))) (hc : Chg (fun i => i = B) X Y)
    (hY : Y.heap[B]? = some (.cells #[.int .u32 (i0 : Int), .slice A7 (nf + 1) c7, .slice Ap np cp, .int .i64 ((i3 + z : Nat) : Int), .int .i64 (i4 : Int)] 44 (0, 0))) :
    ScanB Y lo B { s with found := s.found ++ [⟨s.stop, z, r⟩], stop := s.stop + z } ∧ Below lo w Y ∧ Keep w Y B := by
  obtain ⟨rfl, rfl, rfl⟩ := e
  refine tk_fin (s' := { s with found := s.found ++ [⟨s.stop, z, r⟩], stop := s.stop + z }) (q := q ++ [kx]) h.blk hY hc h.below h.keep hlo hB ?_ ?_ h.hp ?_ ?_ hp
  · rw [List.map_append, h.hq, hkx]; rfl
  · rw [List.length_append, h.hn]; rfl
  · rw [rowF_snoc]; exact hown
  · intro x hx
    rcases List.mem_append.1 hx with hx | hx
    · exact h.ok x hx
    · rw [List.mem_singleton.1 hx]; exact h.kx
theorem VA.passed {Y : World} {A7 : Option Addr} {c7 : Nat} {z : Nat} (h : VA w X lo B s q Af nf cf Ap np cp rb rc kx) (hB : lo ≤ B) (hlo : lo ≤ w.heap.size) (e : s.id = i0 ∧ s.stop = i3 ∧ s.why = i4)
    (hf : X.ownsRow lo 56 9 (.slice Af nf cf) nf (rowF s.id q)) (hown : X.ownsRow lo 3 1 (.slice A7 (np + 1) c7) (np + 1) ((s.passed.map fun n : Nat => Value.int .i64 (n : Int)) ++ [.int .i64 (i3 : Int)])) (hc : Chg (fun i => i = B) X Y)
    (hY : Y.heap[B]? = some (.cells #[.int .u32 (i0 : Int), .slice Af nf cf, .slice A7 (np + 1) c7, .int .i64 ((i3 + z : Nat) : Int), .int .i64 (i4 : Int)] 44 (0, 0))) :
    ScanB Y lo B { s with passed := s.passed ++ [s.stop], stop := s.stop + z } ∧ Below lo w Y ∧ Keep w Y B := by
  obtain ⟨rfl, rfl, rfl⟩ := e
  refine tk_fin (s' := { s with passed := s.passed ++ [s.stop], stop := s.stop + z }) (q := q) h.blk hY hc h.below h.keep hlo hB h.hq h.hn ?_ hf h.ok ?_
  · show (s.passed ++ [s.stop]).length = np + 1
    rw [List.length_append, h.hp]; rfl
  · show X.ownsRow lo 3 1 _ _ ((s.passed ++ [s.stop]).map _)
    rw [List.map_append]; exact hown
end
theorem s10 {V : World} {B rb gl : Nat} {a0 a1 a2 a3 a4 b0 b1 b2 b3 b4 b5 c0 c1 : Value} (h : V.cell? ⟨B, 0, none⟩ = some a0 ∧ V.cell? ⟨B, 1, none⟩ = some a1 ∧ V.cell? ⟨B, 2, none⟩ = some a2 ∧ V.cell? ⟨B, 3, none⟩ = some a3 ∧ V.cell? ⟨B, 4, none⟩ = some a4)
    (k : V.cell? ⟨rb, 0, none⟩ = some b0 ∧ V.cell? ⟨rb, 1, none⟩ = some b1 ∧ V.cell? ⟨rb, 2, none⟩ = some b2 ∧ V.cell? ⟨rb, 3, none⟩ = some b3 ∧ V.cell? ⟨rb, 4, none⟩ = some b4 ∧ V.cell? ⟨rb, 5, none⟩ = some b5) (h0 : V.cell? ⟨gl, 0, none⟩ = some c0) (h1 : V.cell? ⟨gl, 1, none⟩ = some c1) :
    V.cell? ⟨B, 0, none⟩ = some a0 ∧ V.cell? ⟨B, 1, none⟩ = some a1 ∧ V.cell? ⟨B, 2, none⟩ = some a2 ∧ V.cell? ⟨B, 3, none⟩ = some a3 ∧ V.cell? ⟨B, 4, none⟩ = some a4 ∧ V.cell? ⟨rb, 0, none⟩ = some b0 ∧ V.cell? ⟨rb, 1, none⟩ = some b1 ∧ V.cell? ⟨rb, 2, none⟩ = some b2 ∧ V.cell? ⟨rb, 3, none⟩ = some b3 ∧ V.cell? ⟨rb, 4, none⟩ = some b4 ∧ V.cell? ⟨rb, 5, none⟩ = some b5 ∧
      V.cell? ⟨gl, 0, none⟩ = some c0 ∧ V.cell? ⟨gl, 1, none⟩ = some c1 := ⟨h.1, h.2.1, h.2.2.1, h.2.2.2.1, h.2.2.2.2, k.1, k.2.1, k.2.2.1, k.2.2.2.1, k.2.2.2.2.1, k.2.2.2.2.2, h0, h1⟩
set_option maxRecDepth 100000 in
set_option maxHeartbeats 16000000 in
theorem stake {w : World} {lo B : Nat} {s : S} {rest : List UInt8} {v : Value} (h : ScanB w lo B s) (hB : lo ≤ B) (hlo : lo ≤ w.heap.size) (hv : Bs w lo v rest) (ht : RTab w) (hrl : rest.length ≤ 100000) (hst : s.stop ≤ 100000) (hm : s.found.length + s.passed.length ≤ 100000) (hpos : ∀ f ∈ s.found, 0 ≤ f.r.seq) :
    Calls Tryz.prog 78 #[.pointer (some ⟨B, 0, none⟩), v] w fun e w' => (∃ u, e = .returned u) ∧ ScanB w' lo B (tk s rest) ∧ Below lo w w' ∧ Keep w w' B := by
  obtain ⟨⟨rq, z, e⟩, hq⟩ : ∃ y, Rc.getQ rest = y := ⟨_, rfl⟩
  have HGA := Lib.hid (get_any hq)
  obtain ⟨q, Af, nf, cf, Ap, np, cp, hI⟩ := h.open
  have HI := Lib.hid hI
  have HGet := Lib.hid (rget_q v rest lo w hv hlo (by omega) ht rq z e hq)
  obtain ⟨Av, cv, rfl, _, _⟩ := hv
  have HQ := Lib.hid hq
  have HLO := Lib.hid (And.intro hB hlo)
  have HPOS := Lib.hid hpos
  obtain ⟨i0, hsid⟩ : ∃ i0, s.id = i0 := ⟨_, rfl⟩
  obtain ⟨i3, hstp⟩ : ∃ i3, s.stop = i3 := ⟨_, rfl⟩
  obtain ⟨i4, hswh⟩ : ∃ i4, s.why = i4 := ⟨_, rfl⟩
  obtain ⟨ls, hls⟩ : ∃ ls, ls = lastF s.found := ⟨_, rfl⟩
  have HS := Lib.hid (And.intro hsid (And.intro hstp hswh))
  have HLS := Lib.hid hls
  have hzr : z ≤ rest.length ∨ z = 0 ∨ e = 22 := by
    by_cases h1 : e = 22
    · exact .inr (.inr h1)
    · by_cases h2 : z = 0
      · exact .inr (.inl h2)
      · exact .inl (HGA.out.2.1 h1 h2)
  have HZR := Lib.hid hzr
  have HFL := Lib.hid (show s.found.length ≤ 100000 ∧ nf ≤ 100000 ∧ np ≤ 100000 from ⟨by omega, by rw [← hI.hn]; have := congrArg List.length hI.hq; rw [List.length_map] at this; omega, by rw [← hI.hp]; omega⟩)
  have hnf := HFL.out.2.1
  have hnp := HFL.out.2.2
  rw [hstp] at hst
  have hcf : nf ≤ cf ∧ cf ≤ maxLen := by
    obtain ⟨A', c', e', hcf1, hcf2, _⟩ := own_slice hI.own
    injection e' with e1 e2 e3
    rw [e3]
    exact ⟨hcf1, hcf2⟩
  have hcp : np ≤ cp ∧ cp ≤ maxLen := by
    obtain ⟨A', c', e', hcf1, hcf2, _⟩ := own_slice hI.pown
    injection e' with e1 e2 e3
    rw [e3]
    exact ⟨hcf1, hcf2⟩
  obtain ⟨hcf1, hcf2⟩ := hcf
  obtain ⟨hcp1, hcp2⟩ := hcp
  clear hI hq hlo hB hpos h hls hzr hm
  go_enter Tryz.func78, Tryz.ntmps78
  go_wp2_with fail
  refine HGet.out.mono ?_
  rintro e' w2 ⟨rv, rfl, hrv, hb2⟩
  obtain ⟨kv, vv, rfl, hk, hw⟩ := NewRec.recIn hrv
  obtain ⟨K1, k1, rfl, _, _⟩ := hk.bs
  obtain ⟨K2, k2, rfl, _, _⟩ := hw.bs
  obtain ⟨n1, hn1⟩ : ∃ n1, n1 = rq.key.length := ⟨_, rfl⟩
  obtain ⟨n2, hn2⟩ : ∃ n2, n2 = rq.val.length := ⟨_, rfl⟩
  rw [← hn1] at hk ⊢
  rw [← hn2] at hw ⊢
  unfold recV
  obtain ⟨rb, hrb⟩ : ∃ rb, rb = w2.heap.size := ⟨_, rfl⟩
  obtain ⟨W3, hW3⟩ : ∃ W3, W3 = w2.alloc (.cells #[.int .u64 rq.seq, .int .i64 rq.kind, .slice K1 n1 k1, .slice K2 n2 k2, .int .u32 rq.seg, .int .u32 rq.off] 51) := ⟨_, rfl⟩
  have hb3 : Below w2.heap.size w2 W3 := by rw [hW3]; exact (Below.refl _ _).alloc (Nat.le_refl _) _
  have hbx3 : W3.heap[rb]? = some (.cells #[.int .u64 rq.seq, .int .i64 rq.kind, .slice K1 n1 k1, .slice K2 n2 k2, .int .u32 rq.seg, .int .u32 rq.off] 51 (0, 0)) := by rw [hW3, hrb]; exact heap_alloc_new w2 _
  obtain ⟨rc, hrc⟩ : ∃ rc : Array Value, rc = #[.int .u64 rq.seq, .int .i64 rq.kind, .slice K1 n1 k1, .slice K2 n2 k2, .int .u32 rq.seg, .int .u32 rq.off] := ⟨_, rfl⟩
  obtain ⟨kx, hkx⟩ : ∃ kx : Fq, kx = (⟨i3, z, rq⟩, .slice K1 n1 k1, .slice K2 n2 k2) := ⟨_, rfl⟩
  have hb23 : Below w.heap.size w W3 := hb2.trans (hb3.mono hb2.size)
  have HVW3 := Lib.hid (show VB w W3 lo B s q Af nf cf Ap np cp rb rc kx from ⟨hb23.mono HLO.out.2, HI.out.on hb23, Keep.of_below hb23, by rw [hrc]; exact hbx3, by rw [hrb]; exact Nat.le_trans HLO.out.2 hb2.size, by rw [hkx]; exact ⟨(hk.on hb3).mono HLO.out.2, (hw.on hb3).mono HLO.out.2⟩⟩)
  have HRC := Lib.hid (And.intro hrc hkx)
  clear hk hw hn1 hn2 HGet HI hb3 hbx3 hb2 hb23 hrc hkx
  obtain ⟨y0, y1, y2, y3, y4⟩ := rw5 (HVW3.out.tk.blk' hsid hstp hswh)
  obtain ⟨g0, g1, g2, g3, g4⟩ := rw5f (HVW3.out.tk.blk' hsid hstp hswh)
  have hW4 := hW3.symm
  have hrb4 := hrb.symm
  clear hW3 hrb
  have e3 : ¬ (16777216 : Int) < (i3 : Int) := by omega
  have hwp : IntKind.u32.wrap (i3 : Int) = (i3 : Int) := IntWalk.u32_in _ (by omega)
  rcases HGA.out.1 with rfl | rfl | rfl
  · rw [show ((0 : Nat) : Int) = 0 from rfl]
    have hz1 : z ≠ 0 := HGA.out.2.2 rfl
    have hz8 : ¬ (z : Int) = 0 := by omega
    have r0 := (HVW3.out.rec6 HRC.out.1).1
    go_wp2_with fail
    clear y0 y1 y2 y3 y4 g0 g1 g2 g3 g4 r0 hW4 hrb4
    refine wp_region_noPanic ?_
    refine wp_region_held_drew (S := fun w' => w'.cell? ⟨B, 0, none⟩ = some (.int .u32 (i0 : Int)) ∧ w'.cell? ⟨B, 1, none⟩ = some (.slice Af nf cf) ∧ w'.cell? ⟨B, 2, none⟩ = some (.slice Ap np cp) ∧ w'.cell? ⟨B, 3, none⟩ = some (.int .i64 (i3 : Int)) ∧ w'.cell? ⟨B, 4, none⟩ = some (.int .i64 (i4 : Int)) ∧ w'.cell? ⟨rb, 0, none⟩ = some (.int .u64 rq.seq)) (by kernel_rfl) (show _ from ⟨(rw5 (HVW3.out.tk.blk' HS.out.1 HS.out.2.1 HS.out.2.2)).1, (rw5 (HVW3.out.tk.blk' HS.out.1 HS.out.2.1 HS.out.2.2)).2.1, (rw5 (HVW3.out.tk.blk' HS.out.1 HS.out.2.1 HS.out.2.2)).2.2.1, (rw5 (HVW3.out.tk.blk' HS.out.1 HS.out.2.1 HS.out.2.2)).2.2.2.1, (rw5 (HVW3.out.tk.blk' HS.out.1 HS.out.2.1 HS.out.2.2)).2.2.2.2, (HVW3.out.rec6 HRC.out.1).1⟩) (fun hHeld => ?_)
    have HVV := Lib.hid (show VB w W3.drew lo B s q Af nf cf Ap np cp rb rc kx from HVW3.out.drew HLO.out.2)
    generalize World.drew W3 = V at *
    clear HVW3
    refine wpAnyH_take (i := 0) (v := ?_) opAt_0 (by kernel_rfl) (by kernel_rfl) (by kernel_rfl) (fun _ _ _ h => h) (Or.inl ⟨by rfl, ?_⟩) (by assumption) ?_
    rotate_left
    · (intro w hSw; obtain ⟨y0, y1, y2, y3, y4, r0⟩ := hSw; go_simp; try with_reducible rfl)
    try simp only [Act.put, List.setIfInBounds_toArray, List.set_cons_zero, List.set_cons_succ]
    refine wpAnyH_take (i := 1) (v := ?_) opAt_1 (by kernel_rfl) (by kernel_rfl) (by kernel_rfl) (fun _ _ _ h => h) (Or.inl ⟨by rfl, ?_⟩) (by assumption) ?_
    rotate_left
    · (intro w hSw; obtain ⟨y0, y1, y2, y3, y4, r0⟩ := hSw; go_simp; try with_reducible rfl)
    try simp only [Act.put, List.setIfInBounds_toArray, List.set_cons_zero, List.set_cons_succ]
    refine wpAnyH_take (i := 2) (v := ?_) opAt_2 (by kernel_rfl) (by kernel_rfl) (by kernel_rfl) (fun _ _ _ h => h) (Or.inl ⟨by rfl, ?_⟩) (by assumption) ?_
    rotate_left
    · (intro w hSw; obtain ⟨y0, y1, y2, y3, y4, r0⟩ := hSw; go_simp; try with_reducible rfl)
    try simp only [Act.put, List.setIfInBounds_toArray, List.set_cons_zero, List.set_cons_succ]
    refine wpAnyH_take (i := 3) (v := ?_) opAt_3 (by kernel_rfl) (by kernel_rfl) (by kernel_rfl) (fun _ _ _ h => h) (Or.inl ⟨by rfl, ?_⟩) (by assumption) ?_
    rotate_left
    · (intro w hSw; obtain ⟨y0, y1, y2, y3, y4, r0⟩ := hSw; go_simp; try with_reducible rfl)
    try simp only [Act.put, List.setIfInBounds_toArray, List.set_cons_zero, List.set_cons_succ]
    refine wpAnyH_take (i := 4) (v := ?_) opAt_4 (by kernel_rfl) (by kernel_rfl) (by kernel_rfl) (fun _ _ _ h => h) (Or.inl ⟨by rfl, ?_⟩) (by assumption) ?_
    rotate_left
    · (intro w hSw; obtain ⟨y0, y1, y2, y3, y4, r0⟩ := hSw; go_simp; try with_reducible rfl)
    try simp only [Act.put, List.setIfInBounds_toArray, List.set_cons_zero, List.set_cons_succ]
    refine wpAnyH_take (i := 5) (v := ?_) opAt_5 (by kernel_rfl) (by kernel_rfl) (by kernel_rfl) (fun _ _ _ h => h) (Or.inl ⟨by rfl, ?_⟩) (by assumption) ?_
    rotate_left
    · (intro w hSw; obtain ⟨y0, y1, y2, y3, y4, r0⟩ := hSw; go_simp; try with_reducible rfl)
    try simp only [Act.put, List.setIfInBounds_toArray, List.set_cons_zero, List.set_cons_succ]
    refine wpAnyH_take (i := 6) (v := ?_) opAt_6 (by kernel_rfl) (by kernel_rfl) (by kernel_rfl) (fun _ _ _ h => h) (Or.inl ⟨by rfl, ?_⟩) (by assumption) ?_
    rotate_left
    · (intro w hSw; obtain ⟨y0, y1, y2, y3, y4, r0⟩ := hSw; go_simp; try with_reducible rfl)
    try simp only [Act.put, List.setIfInBounds_toArray, List.set_cons_zero, List.set_cons_succ]
    refine wpAnyH_take (i := 7) (v := ?_) opAt_7 (by kernel_rfl) (by kernel_rfl) (by kernel_rfl) (fun _ _ _ h => h) (Or.inl ⟨by rfl, ?_⟩) (by assumption) ?_
    rotate_left
    · (intro w hSw; obtain ⟨y0, y1, y2, y3, y4, r0⟩ := hSw; go_simp; try with_reducible rfl)
    try simp only [Act.put, List.setIfInBounds_toArray, List.set_cons_zero, List.set_cons_succ]
    refine wpAnyH_ready (rs := [8]) (by kernel_rfl) (by simp) ?_
    refine AllReadyH.cons rfl (fun K hK => ?_) AllReadyH.nil
    go_simp
    refine (slast (HVV.out.scanV HS.out) (by have := HFL.out.1; omega) HPOS.out).mono ?_
    rintro e V1 ⟨rfl, hbn⟩
    have HVV1 := Lib.hid (HVV.out.on hbn HLO.out.2)
    rw [← HLS.out]
    by_cases hsq : rq.seq ≤ (ls : Int)
    · have j1 : decide (rq.seq ≤ (ls : Int)) = true := decide_eq_true hsq
      go_wp2_with fail
      refine hK.out _ _ (show _ from ⟨(rw5 (HVV1.out.tk.blk' HS.out.1 HS.out.2.1 HS.out.2.2)).1, (rw5 (HVV1.out.tk.blk' HS.out.1 HS.out.2.1 HS.out.2.2)).2.1, (rw5 (HVV1.out.tk.blk' HS.out.1 HS.out.2.1 HS.out.2.2)).2.2.1, (rw5 (HVV1.out.tk.blk' HS.out.1 HS.out.2.1 HS.out.2.2)).2.2.2.1, (rw5 (HVV1.out.tk.blk' HS.out.1 HS.out.2.1 HS.out.2.2)).2.2.2.2, (HVV1.out.rec6 HRC.out.1).1⟩) (fun hHeld => ?_)
      clear hK K
      try simp only [Act.put, List.setIfInBounds_toArray, List.set_cons_zero, List.set_cons_succ]
      refine wpAnyH_take (i := 9) (v := ?_) opAt_9 (by kernel_rfl) (by kernel_rfl) (by kernel_rfl) (fun _ _ _ h => h) (Or.inl ⟨by rfl, ?_⟩) (by assumption) ?_
      rotate_left
      · (intro w hSw; obtain ⟨y0, y1, y2, y3, y4, r0⟩ := hSw; go_simp; try with_reducible rfl)
      try simp only [Act.put, List.setIfInBounds_toArray, List.set_cons_zero, List.set_cons_succ]
      refine wpAnyH_take (i := 10) (v := ?_) opAt_10 (by kernel_rfl) (by kernel_rfl) (by kernel_rfl) (fun _ _ _ h => h) (Or.inl ⟨by rfl, ?_⟩) (by assumption) ?_
      rotate_left
      · (intro w hSw; obtain ⟨y0, y1, y2, y3, y4, r0⟩ := hSw; go_simp; try with_reducible rfl)
      try simp only [Act.put, List.setIfInBounds_toArray, List.set_cons_zero, List.set_cons_succ]
      refine wpAnyH_take (i := 11) (v := ?_) opAt_11 (by kernel_rfl) (by kernel_rfl) (by kernel_rfl) (fun _ _ _ h => h) (Or.inl ⟨by rfl, ?_⟩) (by assumption) ?_
      rotate_left
      · (intro w hSw; obtain ⟨y0, y1, y2, y3, y4, r0⟩ := hSw; go_simp; try with_reducible rfl)
      try simp only [Act.put, List.setIfInBounds_toArray, List.set_cons_zero, List.set_cons_succ]
      refine wpAnyH_done (by kernel_rfl) ?_ _
      refine NoPanic.normal ?_
      clear hHeld
      obtain ⟨y0, y1, y2, y3, y4⟩ := rw5 (HVV1.out.tk.blk' HS.out.1 HS.out.2.1 HS.out.2.2)
      obtain ⟨g0, g1, g2, g3, g4⟩ := rw5f (HVV1.out.tk.blk' HS.out.1 HS.out.2.1 HS.out.2.2)
      go_wp2_with fail
      have HT := Lib.hid (show tk s rest = { s with why := 23 } by unfold tk; rw [HQ.out]; rw [if_neg (show ¬ (0 : Nat) = 22 by decide), if_pos (Or.inr ⟨rfl, by rw [← HLS.out]; exact hsq⟩)])
      refine bodyPost_ret (results_none rfl _ _ _) rfl ⟨⟨_, rfl⟩, ?_⟩
      rw [show tk s rest = { s with why := 23 } from HT.out]
      exact HVV1.out.why HLO.out.1 HLO.out.2 23
    · have j1 : decide (rq.seq ≤ (ls : Int)) = false := decide_eq_false hsq
      go_wp2_with fail
      refine hK.out _ _ (show _ from ⟨(rw5 (HVV1.out.tk.blk' HS.out.1 HS.out.2.1 HS.out.2.2)).1, (rw5 (HVV1.out.tk.blk' HS.out.1 HS.out.2.1 HS.out.2.2)).2.1, (rw5 (HVV1.out.tk.blk' HS.out.1 HS.out.2.1 HS.out.2.2)).2.2.1, (rw5 (HVV1.out.tk.blk' HS.out.1 HS.out.2.1 HS.out.2.2)).2.2.2.1, (rw5 (HVV1.out.tk.blk' HS.out.1 HS.out.2.1 HS.out.2.2)).2.2.2.2, (HVV1.out.rec6 HRC.out.1).1⟩) (fun hHeld => ?_)
      clear hK K
      try simp only [Act.put, List.setIfInBounds_toArray, List.set_cons_zero, List.set_cons_succ]
      refine wpAnyH_take (i := 9) (v := ?_) opAt_9 (by kernel_rfl) (by kernel_rfl) (by kernel_rfl) (fun _ _ _ h => h) (Or.inl ⟨by rfl, ?_⟩) (by assumption) ?_
      rotate_left
      · (intro w hSw; obtain ⟨y0, y1, y2, y3, y4, r0⟩ := hSw; go_simp; try with_reducible rfl)
      try simp only [Act.put, List.setIfInBounds_toArray, List.set_cons_zero, List.set_cons_succ]
      refine wpAnyH_take (i := 10) (v := ?_) opAt_10 (by kernel_rfl) (by kernel_rfl) (by kernel_rfl) (fun _ _ _ h => h) (Or.inl ⟨by rfl, ?_⟩) (by assumption) ?_
      rotate_left
      · (intro w hSw; obtain ⟨y0, y1, y2, y3, y4, r0⟩ := hSw; go_simp; try with_reducible rfl)
      try simp only [Act.put, List.setIfInBounds_toArray, List.set_cons_zero, List.set_cons_succ]
      refine wpAnyH_take (i := 11) (v := ?_) opAt_11 (by kernel_rfl) (by kernel_rfl) (by kernel_rfl) (fun _ _ _ h => h) (Or.inl ⟨by rfl, ?_⟩) (by assumption) ?_
      rotate_left
      · (intro w hSw; obtain ⟨y0, y1, y2, y3, y4, r0⟩ := hSw; go_simp; try with_reducible rfl)
      try simp only [Act.put, List.setIfInBounds_toArray, List.set_cons_zero, List.set_cons_succ]
      refine wpAnyH_done (by kernel_rfl) ?_ _
      refine NoPanic.normal ?_
      clear hHeld
      obtain ⟨y0, y1, y2, y3, y4⟩ := rw5 (HVV1.out.tk.blk' HS.out.1 HS.out.2.1 HS.out.2.2)
      obtain ⟨g0, g1, g2, g3, g4⟩ := rw5f (HVV1.out.tk.blk' HS.out.1 HS.out.2.1 HS.out.2.2)
      go_wp2_with fail
      clear y0 y1 y2 y3 y4 g0 g1 g2 g3 g4
      refine wp_region_noPanic ?_
      refine wp_region_held_drew (S := fun w' => w'.cell? ⟨B, 0, none⟩ = some (.int .u32 (i0 : Int)) ∧ w'.cell? ⟨B, 1, none⟩ = some (.slice Af nf cf) ∧ w'.cell? ⟨B, 2, none⟩ = some (.slice Ap np cp) ∧ w'.cell? ⟨B, 3, none⟩ = some (.int .i64 (i3 : Int)) ∧ w'.cell? ⟨B, 4, none⟩ = some (.int .i64 (i4 : Int))) (by kernel_rfl) (rw5 (HVV1.out.tk.blk' HS.out.1 HS.out.2.1 HS.out.2.2)) (fun hHeld => ?_)
      have HVV2 := Lib.hid (show VB w V1.drew lo B s q Af nf cf Ap np cp rb rc kx from HVV1.out.drew HLO.out.2)
      generalize World.drew V1 = V2 at *
      clear HVV1
      refine wpAnyH_take (i := 0) (v := ?_) opAt_0 (by kernel_rfl) (by kernel_rfl) (by kernel_rfl) (fun _ _ _ h => h) (Or.inl ⟨by rfl, ?_⟩) (by assumption) ?_
      rotate_left
      · (intro w hSw; obtain ⟨y0, y1, y2, y3, y4⟩ := hSw; go_simp; try with_reducible rfl)
      try simp only [Act.put, List.setIfInBounds_toArray, List.set_cons_zero, List.set_cons_succ]
      refine wpAnyH_take (i := 1) (v := ?_) opAt_1 (by kernel_rfl) (by kernel_rfl) (by kernel_rfl) (fun _ _ _ h => h) (Or.inl ⟨by rfl, ?_⟩) (by assumption) ?_
      rotate_left
      · (intro w hSw; obtain ⟨y0, y1, y2, y3, y4⟩ := hSw; go_simp; try with_reducible rfl)
      try simp only [Act.put, List.setIfInBounds_toArray, List.set_cons_zero, List.set_cons_succ]
      refine wpAnyH_take (i := 2) (v := ?_) opAt_2 (by kernel_rfl) (by kernel_rfl) (by kernel_rfl) (fun _ _ _ h => h) (Or.inl ⟨by rfl, ?_⟩) (by assumption) ?_
      rotate_left
      · (intro w hSw; obtain ⟨y0, y1, y2, y3, y4⟩ := hSw; go_simp; try with_reducible rfl)
      try simp only [Act.put, List.setIfInBounds_toArray, List.set_cons_zero, List.set_cons_succ]
      refine wpAnyH_take (i := 3) (v := ?_) opAt_3 (by kernel_rfl) (by kernel_rfl) (by kernel_rfl) (fun _ _ _ h => h) (Or.inl ⟨by rfl, ?_⟩) (by assumption) ?_
      rotate_left
      · (intro w hSw; obtain ⟨y0, y1, y2, y3, y4⟩ := hSw; go_simp; try with_reducible rfl)
      try simp only [Act.put, List.setIfInBounds_toArray, List.set_cons_zero, List.set_cons_succ]
      refine wpAnyH_take (i := 4) (v := ?_) opAt_4 (by kernel_rfl) (by kernel_rfl) (by kernel_rfl) (fun _ _ _ h => h) (Or.inl ⟨by rfl, ?_⟩) (by assumption) ?_
      rotate_left
      · (intro w hSw; obtain ⟨y0, y1, y2, y3, y4⟩ := hSw; go_simp; try with_reducible rfl)
      try simp only [Act.put, List.setIfInBounds_toArray, List.set_cons_zero, List.set_cons_succ]
      refine wpAnyH_take (i := 5) (v := ?_) opAt_5 (by kernel_rfl) (by kernel_rfl) (by kernel_rfl) (fun _ _ _ h => h) (Or.inl ⟨by rfl, ?_⟩) (by assumption) ?_
      rotate_left
      · (intro w hSw; obtain ⟨y0, y1, y2, y3, y4⟩ := hSw; go_simp; try with_reducible rfl)
      try simp only [Act.put, List.setIfInBounds_toArray, List.set_cons_zero, List.set_cons_succ]
      refine wpAnyH_take (i := 6) (v := ?_) opAt_6 (by kernel_rfl) (by kernel_rfl) (by kernel_rfl) (fun _ _ _ h => h) (Or.inl ⟨by rfl, ?_⟩) (by assumption) ?_
      rotate_left
      · (intro w hSw; obtain ⟨y0, y1, y2, y3, y4⟩ := hSw; go_simp; try with_reducible rfl)
      try simp only [Act.put, List.setIfInBounds_toArray, List.set_cons_zero, List.set_cons_succ]
      refine wpAnyH_take (i := 7) (v := ?_) opAt_7 (by kernel_rfl) (by kernel_rfl) (by kernel_rfl) (fun _ _ _ h => h) (Or.inl ⟨by rfl, ?_⟩) (by assumption) ?_
      rotate_left
      · (intro w hSw; obtain ⟨y0, y1, y2, y3, y4⟩ := hSw; go_simp; try with_reducible rfl)
      try simp only [Act.put, List.setIfInBounds_toArray, List.set_cons_zero, List.set_cons_succ]
      refine wpAnyH_take (i := 8) (v := ?_) opAt_8 (by kernel_rfl) (by kernel_rfl) (by kernel_rfl) (fun _ _ _ h => h) (Or.inl ⟨by rfl, ?_⟩) (by assumption) ?_
      rotate_left
      · (intro w hSw; obtain ⟨y0, y1, y2, y3, y4⟩ := hSw; go_simp; try with_reducible rfl)
      try simp only [Act.put, List.setIfInBounds_toArray, List.set_cons_zero, List.set_cons_succ]
      refine wpAnyH_take (i := 9) (v := ?_) opAt_9 (by kernel_rfl) (by kernel_rfl) (by kernel_rfl) (fun _ _ _ h => h) (Or.inl ⟨by rfl, ?_⟩) (by assumption) ?_
      rotate_left
      · (intro w hSw; obtain ⟨y0, y1, y2, y3, y4⟩ := hSw; go_simp; try with_reducible rfl)
      try simp only [Act.put, List.setIfInBounds_toArray, List.set_cons_zero, List.set_cons_succ]
      refine wpAnyH_ready (rs := [10]) (by kernel_rfl) (by simp) ?_
      refine AllReadyH.cons rfl (fun K hK => ?_) AllReadyH.nil
      go_simp
      obtain ⟨gl, hgl⟩ : ∃ gl, V2.heap.size = gl := ⟨_, rfl⟩
      rw [hgl]
      obtain ⟨V3, hV3⟩ : ∃ Vn, V2.alloc (.cells #[.int .u32 0, .int .u32 0] 49) = Vn := ⟨_, rfl⟩
      rw [hV3]
      have hbn : Below V2.heap.size V2 V3 := by rw [← hV3]; exact (Below.refl _ _).alloc (Nat.le_refl _) _
      have hl0 : V3.heap[gl]? = some (.cells #[.int .u32 0, .int .u32 0] 49 (0, 0)) := by rw [← hV3, ← hgl]; exact heap_alloc_new V2 _
      have HVV3 := Lib.hid (HVV2.out.on hbn HLO.out.2)
      refine hK.out _ _ (rw5 (HVV3.out.tk.blk' HS.out.1 HS.out.2.1 HS.out.2.2)) (fun hHeld => ?_)
      clear hK K
      try simp only [Act.put, List.setIfInBounds_toArray, List.set_cons_zero, List.set_cons_succ]
      refine wpAnyH_ready (rs := [11]) (by kernel_rfl) (by simp) ?_
      refine AllReadyH.cons rfl (fun K hK => ?_) AllReadyH.nil
      have hf0 : V3.frozen? ⟨gl, 0, none⟩ = false ∧ V3.frozen? ⟨gl, 1, none⟩ = false := by constructor <;> simp [World.frozen?, hl0]
      obtain ⟨hf0, hf1⟩ := hf0
      have z0 : V3.cell? ⟨gl, 0, none⟩ = some (.int .u32 0) := cell_of_row V3 gl 0 _ _ _ hl0
      have z1 : V3.cell? ⟨gl, 1, none⟩ = some (.int .u32 0) := cell_of_row V3 gl 1 _ _ _ hl0
      go_simp
      have hl4 := Go.Joins.block_setCell (i := 1) (Go.Joins.block_setCell (i := 0) hl0 (.int .u32 (i0 : Int))) (.int .u32 (i3 : Int))
      have hl4 : _ = some (Obj.cells #[.int .u32 (i0 : Int), .int .u32 (i3 : Int)] 49 (0, 0)) := hl4
      have hc4 := (chg1 V3 gl 0 (.int .u32 (i0 : Int))).setCell (p := ⟨gl, 1, none⟩) rfl (.int .u32 (i3 : Int))
      have hty : Typed V3 49 (fun i => i = gl) := fun g e => by obtain rfl : g = gl := e; exact ⟨_, _, hl0⟩
      have HVV4 := Lib.hid (HVV3.out.chg hty (by decide) (by decide) (by decide) (by decide) (by decide) hc4 (fun i e => by have := HVV2.out.below.size; have := HLO.out.2; omega) HLO.out.2)
      generalize (V3.setCell ⟨gl, 0, none⟩ (.int .u32 (i0 : Int))).setCell ⟨gl, 1, none⟩ (.int .u32 (i3 : Int)) = V4 at *
      have HLC := Lib.hid hl4
      clear hc4 hl4 hty hl0 hf0 hf1 z0 z1 hV3 hgl hbn
      refine hK.out _ _ (rw5 (HVV4.out.tk.blk' HS.out.1 HS.out.2.1 HS.out.2.2)) (fun hHeld => ?_)
      clear hK K
      try simp only [Act.put, List.setIfInBounds_toArray, List.set_cons_zero, List.set_cons_succ]
      refine wpAnyH_done (by kernel_rfl) ?_ _
      refine NoPanic.normal ?_
      clear hHeld
      go_wp2_with fail
      refine wp_region_noPanic ?_
      refine OrdL.wpL_region (fun w' => w'.cell? ⟨B, 0, none⟩ = some (.int .u32 (i0 : Int)) ∧ w'.cell? ⟨B, 1, none⟩ = some (.slice Af nf cf) ∧ w'.cell? ⟨B, 2, none⟩ = some (.slice Ap np cp) ∧ w'.cell? ⟨B, 3, none⟩ = some (.int .i64 (i3 : Int)) ∧ w'.cell? ⟨B, 4, none⟩ = some (.int .i64 (i4 : Int)) ∧ w'.cell? ⟨rb, 0, none⟩ = some (.int .u64 rq.seq) ∧ w'.cell? ⟨rb, 1, none⟩ = some (.int .i64 rq.kind) ∧ w'.cell? ⟨rb, 2, none⟩ = some (.slice K1 n1 k1) ∧ w'.cell? ⟨rb, 3, none⟩ = some (.slice K2 n2 k2) ∧ w'.cell? ⟨rb, 4, none⟩ = some (.int .u32 rq.seg) ∧ w'.cell? ⟨rb, 5, none⟩ = some (.int .u32 rq.off) ∧ w'.cell? ⟨gl, 0, none⟩ = some (.int .u32 (i0 : Int)) ∧ w'.cell? ⟨gl, 1, none⟩ = some (.int .u32 (i3 : Int))) 13 (by kernel_rfl) ?_
      have HVV5 := Lib.hid (show VB w V4.drew lo B s q Af nf cf Ap np cp rb rc kx from HVV4.out.drew HLO.out.2)
      have HLCV5 := Lib.hid (show V4.drew.heap[gl]? = _ from HLC.out)
      generalize World.drew V4 = V5 at *
      clear HVV4 HLC
      have hHeld := s10 (rw5 (HVV5.out.tk.blk' HS.out.1 HS.out.2.1 HS.out.2.2)) (HVV5.out.rec6 HRC.out.1) (cell_of_row V5 gl 0 _ _ _ HLCV5.out) (cell_of_row V5 gl 1 _ _ _ HLCV5.out)
      refine OrdL.wpL_take (i := 0) (v := ?_) opAt_0 [12, 11] (by kernel_rfl) (by kernel_rfl) (by kernel_rfl) (by kernel_rfl) (by kernel_rfl) (by kernel_rfl) (fun _ _ _ h => h) (Or.inl ⟨by rfl, ?_⟩) hHeld ?_
      rotate_left
      · (intro w' hSw; obtain ⟨y0, y1, y2, y3, y4, r0, r1, r2, r3, r4, r5, l0, l1⟩ := hSw; go_simp; try with_reducible rfl)
      try simp only [Act.put, List.setIfInBounds_toArray, List.set_cons_zero, List.set_cons_succ]
      refine OrdL.wpL_take (i := 1) (v := ?_) opAt_1 [10, 4, 3, 2] (by kernel_rfl) (by kernel_rfl) (by kernel_rfl) (by kernel_rfl) (by kernel_rfl) (by kernel_rfl) (fun _ _ _ h => h) (Or.inl ⟨by rfl, ?_⟩) hHeld ?_
      rotate_left
      · (intro w' hSw; obtain ⟨y0, y1, y2, y3, y4, r0, r1, r2, r3, r4, r5, l0, l1⟩ := hSw; go_simp; try with_reducible rfl)
      try simp only [Act.put, List.setIfInBounds_toArray, List.set_cons_zero, List.set_cons_succ]
      refine OrdL.wpL_take (i := 2) (v := ?_) opAt_2 [10, 4, 3] (by kernel_rfl) (by kernel_rfl) (by kernel_rfl) (by kernel_rfl) (by kernel_rfl) (by kernel_rfl) (fun _ _ _ h => h) (Or.inl ⟨by rfl, ?_⟩) hHeld ?_
      rotate_left
      · (intro w' hSw; obtain ⟨y0, y1, y2, y3, y4, r0, r1, r2, r3, r4, r5, l0, l1⟩ := hSw; go_simp; try with_reducible rfl)
      try simp only [Act.put, List.setIfInBounds_toArray, List.set_cons_zero, List.set_cons_succ]
      refine OrdL.wpL_take (i := 3) (v := ?_) opAt_3 [10, 4] (by kernel_rfl) (by kernel_rfl) (by kernel_rfl) (by kernel_rfl) (by kernel_rfl) (by kernel_rfl) (fun _ _ _ h => h) (Or.inl ⟨by rfl, ?_⟩) hHeld ?_
      rotate_left
      · (intro w' hSw; obtain ⟨y0, y1, y2, y3, y4, r0, r1, r2, r3, r4, r5, l0, l1⟩ := hSw; go_simp; try with_reducible rfl)
      try simp only [Act.put, List.setIfInBounds_toArray, List.set_cons_zero, List.set_cons_succ]
      refine OrdL.wpL_take (i := 4) (v := ?_) opAt_4 [10] (by kernel_rfl) (by kernel_rfl) (by kernel_rfl) (by kernel_rfl) (by kernel_rfl) (by kernel_rfl) (fun _ _ _ h => h) (Or.inl ⟨by rfl, ?_⟩) hHeld ?_
      rotate_left
      · (intro w' hSw; obtain ⟨y0, y1, y2, y3, y4, r0, r1, r2, r3, r4, r5, l0, l1⟩ := hSw; go_simp; try with_reducible rfl)
      try simp only [Act.put, List.setIfInBounds_toArray, List.set_cons_zero, List.set_cons_succ]
      refine OrdL.wpL_take (i := 5) (v := ?_) opAt_5 [10, 9, 8] (by kernel_rfl) (by kernel_rfl) (by kernel_rfl) (by kernel_rfl) (by kernel_rfl) (by kernel_rfl) (fun _ _ _ h => h) (Or.inl ⟨by rfl, ?_⟩) hHeld ?_
      rotate_left
      · (intro w' hSw; obtain ⟨y0, y1, y2, y3, y4, r0, r1, r2, r3, r4, r5, l0, l1⟩ := hSw; go_simp; try with_reducible rfl)
      try simp only [Act.put, List.setIfInBounds_toArray, List.set_cons_zero, List.set_cons_succ]
      refine OrdL.wpL_take (i := 6) (v := ?_) opAt_6 [10, 9, 8] (by kernel_rfl) (by kernel_rfl) (by kernel_rfl) (by kernel_rfl) (by kernel_rfl) (by kernel_rfl) (fun _ _ _ h => h) (Or.inl ⟨by rfl, ?_⟩) hHeld ?_
      rotate_left
      · (intro w' hSw; obtain ⟨y0, y1, y2, y3, y4, r0, r1, r2, r3, r4, r5, l0, l1⟩ := hSw; go_simp; try with_reducible rfl)
      try simp only [Act.put, List.setIfInBounds_toArray, List.set_cons_zero, List.set_cons_succ]
      refine OrdL.wpL_take (i := 7) (v := ?_) opAt_7 [10, 9, 8] (by kernel_rfl) (by kernel_rfl) (by kernel_rfl) (by kernel_rfl) (by kernel_rfl) (by kernel_rfl) (fun _ _ _ h => h) (Or.inl ⟨by rfl, ?_⟩) hHeld ?_
      rotate_left
      · (intro w' hSw; obtain ⟨y0, y1, y2, y3, y4, r0, r1, r2, r3, r4, r5, l0, l1⟩ := hSw; go_simp; try with_reducible rfl)
      try simp only [Act.put, List.setIfInBounds_toArray, List.set_cons_zero, List.set_cons_succ]
      refine OrdL.wpL_take (i := 8) (v := ?_) opAt_8 [10, 9] (by kernel_rfl) (by kernel_rfl) (by kernel_rfl) (by kernel_rfl) (by kernel_rfl) (by kernel_rfl) (fun _ _ _ h => h) (Or.inl ⟨by rfl, ?_⟩) hHeld ?_
      rotate_left
      · (intro w' hSw; obtain ⟨y0, y1, y2, y3, y4, r0, r1, r2, r3, r4, r5, l0, l1⟩ := hSw; go_simp; try with_reducible rfl)
      try simp only [Act.put, List.setIfInBounds_toArray, List.set_cons_zero, List.set_cons_succ]
      clear hHeld
      refine OrdL.wpL_ready (rs := [9]) (by kernel_rfl) (by simp) ?_
      refine OrdL.AllL.cons rfl (fun K hK => ?_) OrdL.AllL.nil
      go_simp
      obtain ⟨gn, hgn⟩ : ∃ gn, V5.heap.size = gn := ⟨_, rfl⟩
      rw [hgn]
      obtain ⟨V6, hV6⟩ : ∃ Vn, V5.alloc (.cells #[.int .u32 (i0 : Int), .int .u32 (i3 : Int), .int .i64 (z : Int), .int .u64 rq.seq, .int .i64 rq.kind, .slice K1 n1 k1, .slice K2 n2 k2, .int .u32 rq.seg, .int .u32 rq.off] 56) = Vn := ⟨_, rfl⟩
      rw [hV6]
      have hbn : Below V5.heap.size V5 V6 := by rw [← hV6]; exact (Below.refl _ _).alloc (Nat.le_refl _) _
      have hn0 : V6.heap[gn]? = some (.cells #[.int .u32 (i0 : Int), .int .u32 (i3 : Int), .int .i64 (z : Int), .int .u64 rq.seq, .int .i64 rq.kind, .slice K1 n1 k1, .slice K2 n2 k2, .int .u32 rq.seg, .int .u32 rq.off] 56 (0, 0)) := by rw [← hV6, ← hgn]; exact heap_alloc_new V5 _
      have hrd : Rd V6 (gn + 1) (some ⟨gn, 0, none⟩) [.int .u32 (i0 : Int), .int .u32 (i3 : Int), .int .i64 (z : Int), .int .u64 rq.seq, .int .i64 rq.kind, .slice K1 n1 k1, .slice K2 n2 k2, .int .u32 rq.seg, .int .u32 rq.off] := fun _ => ⟨gn, 0, rfl, by omega, fun j u hu => by rw [cell_of_row V6 gn (0 + j) _ _ _ hn0]; simpa using hu⟩
      have HVV6 := Lib.hid (HVV5.out.on hbn HLO.out.2)
      have HLCV6 := Lib.hid ((hbn.block gl (Array.getElem?_eq_some_iff.1 HLCV5.out).1).trans HLCV5.out)
      have HRD := Lib.hid hrd
      clear hrd hn0 hV6 hgn hbn HVV5 HLCV5
      refine hK.out _ _ (fun _ => s10 (rw5 (HVV6.out.tk.blk' HS.out.1 HS.out.2.1 HS.out.2.2)) (HVV6.out.rec6 HRC.out.1) (cell_of_row V6 gl 0 _ _ _ HLCV6.out) (cell_of_row V6 gl 1 _ _ _ HLCV6.out)) ?_
      clear hK K
      try simp only [Act.put, List.setIfInBounds_toArray, List.set_cons_zero, List.set_cons_succ]
      have hHeld := s10 (rw5 (HVV6.out.tk.blk' HS.out.1 HS.out.2.1 HS.out.2.2)) (HVV6.out.rec6 HRC.out.1) (cell_of_row V6 gl 0 _ _ _ HLCV6.out) (cell_of_row V6 gl 1 _ _ _ HLCV6.out)
      clear hHeld
      refine OrdL.wpL_ready (rs := [10]) (by kernel_rfl) (by simp) ?_
      refine OrdL.AllL.cons rfl (fun K hK => ?_) OrdL.AllL.nil
      obtain ⟨ii0, hi0, hzz0, hzz1, hzz2⟩ := info_parts found_infoL
      refine step_append_gr V6 (o := (⟨some 78, _, _, _, _, _⟩ : Oper)) rfl (.tmp 72) (.tmp 77) 41 rfl lo 56 ii0 (.agg #[.int .u32 0, .int .u32 0, .int .i64 0, .int .u64 0, .int .i64 0, .slice none 0 0, .slice none 0 0, .int .u32 0, .int .u32 0]) 9 88 Tryz.underlying41 hi0 hzz0 hzz1 hzz2 rfl (by omega) (.slice Af nf cf) nf (rowF i0 q) rfl (HVV6.out.own HS.out.1) (gn + 1) (some ⟨gn, 0, none⟩) 1 1 [.int .u32 (i0 : Int), .int .u32 (i3 : Int), .int .i64 (z : Int), .int .u64 rq.seq, .int .i64 rq.kind, .slice K1 n1 k1, .slice K2 n2 k2, .int .u32 rq.seg, .int .u32 rq.off] rfl rfl HRD.out (by simp [Value.oneCell']) (by unfold maxLen; omega) (by omega) (by have := HVV6.out.below.size; have := HLO.out.2; omega) ?_
      intro v7 V7 hown7 hb7 hg7 hv7
      dsimp only [Act.put, Array.getElem_toList, List.getElem_toArray, List.getElem_cons_succ, List.getElem_cons_zero]
      obtain ⟨A7, c7, rfl, _, _, _⟩ := own_slice hown7
      have HO7 := Lib.hid hown7
      have HC7 := Lib.hid (Chg.of_grown (M := fun g => (Value.slice Af nf cf).ownBlock = some g) hg7 (fun g h => h))
      have HT6 := Lib.hid (own_typed (HVV6.out.own HS.out.1))
      have HVV7 := Lib.hid (HVV6.out.va HT6.out (by decide) (by decide) (by decide) HC7.out hb7)
      have HPO := Lib.hid (HT6.out.own (by decide) HC7.out HVV6.out.tk.pown)
      clear hown7 hb7 hg7 hv7
      have hHeld := s10 (rw5 (HVV7.out.blk' HS.out.1 HS.out.2.1 HS.out.2.2)) (by have h6 := HVV7.out.rk; rw [HRC.out.1] at h6; exact ⟨cell_of_row V7 rb 0 _ _ _ h6, cell_of_row V7 rb 1 _ _ _ h6, cell_of_row V7 rb 2 _ _ _ h6, cell_of_row V7 rb 3 _ _ _ h6, cell_of_row V7 rb 4 _ _ _ h6, cell_of_row V7 rb 5 _ _ _ h6⟩) (cell_of_row V7 gl 0 _ _ _ (HT6.out.keep HC7.out HLCV6.out (by decide))) (cell_of_row V7 gl 1 _ _ _ (HT6.out.keep HC7.out HLCV6.out (by decide)))
      refine hK.out _ _ (fun _ => hHeld) ?_
      clear hK K HLCV6 HVV6 HRD HT6 HC7
      try simp only [Act.put, List.setIfInBounds_toArray, List.set_cons_zero, List.set_cons_succ]
      refine OrdL.wpL_take (i := 11) (v := ?_) opAt_11 [12] (by kernel_rfl) (by kernel_rfl) (by kernel_rfl) (by kernel_rfl) (by kernel_rfl) (by kernel_rfl) (fun _ _ _ h => h) (Or.inl ⟨by rfl, ?_⟩) hHeld ?_
      rotate_left
      · (intro w' hSw; obtain ⟨y0, y1, y2, y3, y4, r0, r1, r2, r3, r4, r5, l0, l1⟩ := hSw; go_simp; try with_reducible rfl)
      try simp only [Act.put, List.setIfInBounds_toArray, List.set_cons_zero, List.set_cons_succ]
      refine OrdL.wpL_take (i := 12) (v := ?_) opAt_12 [] (by kernel_rfl) (by kernel_rfl) (by kernel_rfl) (by kernel_rfl) (by kernel_rfl) (by kernel_rfl) (fun _ _ _ h => h) (Or.inl ⟨by rfl, ?_⟩) hHeld ?_
      rotate_left
      · (intro w' hSw; obtain ⟨y0, y1, y2, y3, y4, r0, r1, r2, r3, r4, r5, l0, l1⟩ := hSw; go_simp; try with_reducible rfl)
      try simp only [Act.put, List.setIfInBounds_toArray, List.set_cons_zero, List.set_cons_succ]
      clear hHeld
      refine OrdL.wpL_ready (rs := [13]) (by kernel_rfl) (by simp) ?_
      refine OrdL.AllL.cons rfl (fun K hK => ?_) OrdL.AllL.nil
      have y1 := (rw5 (HVV7.out.blk' HS.out.1 HS.out.2.1 HS.out.2.2)).2.1
      have g1 := (rw5f (HVV7.out.blk' HS.out.1 HS.out.2.1 HS.out.2.2)).2.1
      go_simp
      have h8 := Go.Joins.block_setCell (i := 1) (HVV7.out.blk' HS.out.1 HS.out.2.1 HS.out.2.2) (.slice A7 (nf + 1) c7)
      have h8 : _ = some (Obj.cells #[.int .u32 (i0 : Int), .slice A7 (nf + 1) c7, .slice Ap np cp, .int .i64 (i3 : Int), .int .i64 (i4 : Int)] 44 (0, 0)) := h8
      have HC8 := Lib.hid (chg1 V7 B 1 (.slice A7 (nf + 1) c7))
      generalize V7.setCell ⟨B, 1, none⟩ (.slice A7 (nf + 1) c7) = V8 at *
      have H8 := Lib.hid h8
      clear y1 g1 h8
      refine hK.out _ _ (fun h => absurd (show true = false from h) (by decide)) ?_
      clear hK K
      try simp only [Act.put, List.setIfInBounds_toArray, List.set_cons_zero, List.set_cons_succ]
      refine OrdL.wpL_done (by kernel_rfl) ?_ _
      refine NoPanic.normal ?_
      obtain ⟨y0, y1, y2, y3, y4⟩ := rw5 H8.out
      obtain ⟨g0, g1, g2, g3, g4⟩ := rw5f H8.out
      have hzl : z ≤ rest.length := by rcases HZR.out with h | h | h; exact h; omega; omega
      have hwz : IntKind.i64.wrap ((i3 : Int) + (z : Int)) = ((i3 + z : Nat) : Int) := by rw [IntWalk.i64_in _ (by omega)]; push_cast; rfl
      go_wp2_with fail
      have HT := Lib.hid (show tk s rest = { s with found := s.found ++ [⟨s.stop, z, rq⟩], stop := s.stop + z } by unfold tk; rw [HQ.out]; rw [if_neg (show ¬ (0 : Nat) = 22 by decide), if_neg (by rintro (h | ⟨_, h⟩); exact hz1 h; (have h2 : rq.seq ≤ ((lastF s.found : Nat) : Int) := h; rw [← HLS.out] at h2; omega)), if_pos rfl])
      go_end0
      refine ⟨⟨_, rfl⟩, ?_⟩
      rw [HT.out]
      have h9 := Go.Joins.block_setCell (i := 3) H8.out (.int .i64 ((i3 + z : Nat) : Int))
      have hkc : Fq.cells i0 kx = [.int .u32 (i0 : Int), .int .u32 (i3 : Int), .int .i64 (z : Int), .int .u64 rq.seq, .int .i64 rq.kind, .slice K1 n1 k1, .slice K2 n2 k2, .int .u32 rq.seg, .int .u32 rq.off] := by rw [HRC.out.2]; rfl
      exact HVV7.out.found HLO.out.1 HLO.out.2 HS.out HRC.out.2 (by rw [hkc]; exact HO7.out) HPO.out (HC8.out.setCell (p := ⟨B, 3, none⟩) rfl _) h9
  · rw [show ((22 : Nat) : Int) = 22 from rfl]
    go_wp2_with fail
    have HT := Lib.hid (show tk s rest = { s with why := 22 } by unfold tk; rw [HQ.out]; rw [if_pos rfl])
    refine bodyPost_ret (results_none rfl _ _ _) rfl ⟨⟨_, rfl⟩, ?_⟩
    rw [show tk s rest = { s with why := 22 } from HT.out]
    exact HVW3.out.why HLO.out.1 HLO.out.2 22
  · rw [show ((23 : Nat) : Int) = 23 from rfl]
    by_cases hz0 : z = 0
    · subst hz0
      rw [show ((0 : Nat) : Int) = 0 from rfl]
      go_wp2_with fail
      have HT := Lib.hid (show tk s rest = { s with why := 23 } by unfold tk; rw [HQ.out]; rw [if_neg (show ¬ (23 : Nat) = 22 by decide), if_pos (Or.inl rfl)])
      refine bodyPost_ret (results_none rfl _ _ _) rfl ⟨⟨_, rfl⟩, ?_⟩
      rw [show tk s rest = { s with why := 23 } from HT.out]
      exact HVW3.out.why HLO.out.1 HLO.out.2 23
    · have hz8 : ¬ (z : Int) = 0 := by omega
      have r0 := (HVW3.out.rec6 HRC.out.1).1
      go_wp2_with fail
      clear y0 y1 y2 y3 y4 g0 g1 g2 g3 g4 r0 hW4 hrb4
      refine wp_region_noPanic ?_
      refine wp_region_held_drew (S := fun w' => w'.cell? ⟨B, 0, none⟩ = some (.int .u32 (i0 : Int)) ∧ w'.cell? ⟨B, 1, none⟩ = some (.slice Af nf cf) ∧ w'.cell? ⟨B, 2, none⟩ = some (.slice Ap np cp) ∧ w'.cell? ⟨B, 3, none⟩ = some (.int .i64 (i3 : Int)) ∧ w'.cell? ⟨B, 4, none⟩ = some (.int .i64 (i4 : Int)) ∧ w'.cell? ⟨rb, 0, none⟩ = some (.int .u64 rq.seq)) (by kernel_rfl) (show _ from ⟨(rw5 (HVW3.out.tk.blk' HS.out.1 HS.out.2.1 HS.out.2.2)).1, (rw5 (HVW3.out.tk.blk' HS.out.1 HS.out.2.1 HS.out.2.2)).2.1, (rw5 (HVW3.out.tk.blk' HS.out.1 HS.out.2.1 HS.out.2.2)).2.2.1, (rw5 (HVW3.out.tk.blk' HS.out.1 HS.out.2.1 HS.out.2.2)).2.2.2.1, (rw5 (HVW3.out.tk.blk' HS.out.1 HS.out.2.1 HS.out.2.2)).2.2.2.2, (HVW3.out.rec6 HRC.out.1).1⟩) (fun hHeld => ?_)
      have HVV := Lib.hid (show VB w W3.drew lo B s q Af nf cf Ap np cp rb rc kx from HVW3.out.drew HLO.out.2)
      generalize World.drew W3 = V at *
      clear HVW3
      refine wpAnyH_take (i := 0) (v := ?_) opAt_0 (by kernel_rfl) (by kernel_rfl) (by kernel_rfl) (fun _ _ _ h => h) (Or.inl ⟨by rfl, ?_⟩) (by assumption) ?_
      rotate_left
      · (intro w hSw; obtain ⟨y0, y1, y2, y3, y4, r0⟩ := hSw; go_simp; try with_reducible rfl)
      try simp only [Act.put, List.setIfInBounds_toArray, List.set_cons_zero, List.set_cons_succ]
      refine wpAnyH_take (i := 1) (v := ?_) opAt_1 (by kernel_rfl) (by kernel_rfl) (by kernel_rfl) (fun _ _ _ h => h) (Or.inl ⟨by rfl, ?_⟩) (by assumption) ?_
      rotate_left
      · (intro w hSw; obtain ⟨y0, y1, y2, y3, y4, r0⟩ := hSw; go_simp; try with_reducible rfl)
      try simp only [Act.put, List.setIfInBounds_toArray, List.set_cons_zero, List.set_cons_succ]
      refine wpAnyH_take (i := 2) (v := ?_) opAt_2 (by kernel_rfl) (by kernel_rfl) (by kernel_rfl) (fun _ _ _ h => h) (Or.inl ⟨by rfl, ?_⟩) (by assumption) ?_
      rotate_left
      · (intro w hSw; obtain ⟨y0, y1, y2, y3, y4, r0⟩ := hSw; go_simp; try with_reducible rfl)
      try simp only [Act.put, List.setIfInBounds_toArray, List.set_cons_zero, List.set_cons_succ]
      refine wpAnyH_take (i := 3) (v := undef) opAt_3 (by kernel_rfl) (by kernel_rfl) (by kernel_rfl) (fun _ _ _ h => h) (Or.inr ⟨by rfl, rfl⟩) (by assumption) ?_
      try simp only [Act.put, List.setIfInBounds_toArray, List.set_cons_zero, List.set_cons_succ]
      refine wpAnyH_take (i := 4) (v := undef) opAt_4 (by kernel_rfl) (by kernel_rfl) (by kernel_rfl) (fun _ _ _ h => h) (Or.inr ⟨by rfl, rfl⟩) (by assumption) ?_
      try simp only [Act.put, List.setIfInBounds_toArray, List.set_cons_zero, List.set_cons_succ]
      refine wpAnyH_take (i := 5) (v := undef) opAt_5 (by kernel_rfl) (by kernel_rfl) (by kernel_rfl) (fun _ _ _ h => h) (Or.inr ⟨by rfl, rfl⟩) (by assumption) ?_
      try simp only [Act.put, List.setIfInBounds_toArray, List.set_cons_zero, List.set_cons_succ]
      refine wpAnyH_take (i := 6) (v := undef) opAt_6 (by kernel_rfl) (by kernel_rfl) (by kernel_rfl) (fun _ _ _ h => h) (Or.inr ⟨by rfl, rfl⟩) (by assumption) ?_
      try simp only [Act.put, List.setIfInBounds_toArray, List.set_cons_zero, List.set_cons_succ]
      refine wpAnyH_take (i := 7) (v := undef) opAt_7 (by kernel_rfl) (by kernel_rfl) (by kernel_rfl) (fun _ _ _ h => h) (Or.inr ⟨by rfl, rfl⟩) (by assumption) ?_
      try simp only [Act.put, List.setIfInBounds_toArray, List.set_cons_zero, List.set_cons_succ]
      refine wpAnyH_take (i := 8) (v := undef) opAt_8 (by kernel_rfl) (by kernel_rfl) (by kernel_rfl) (fun _ _ _ h => h) (Or.inr ⟨by rfl, rfl⟩) (by assumption) ?_
      try simp only [Act.put, List.setIfInBounds_toArray, List.set_cons_zero, List.set_cons_succ]
      refine wpAnyH_take (i := 9) (v := undef) opAt_9 (by kernel_rfl) (by kernel_rfl) (by kernel_rfl) (fun _ _ _ h => h) (Or.inr ⟨by rfl, rfl⟩) (by assumption) ?_
      try simp only [Act.put, List.setIfInBounds_toArray, List.set_cons_zero, List.set_cons_succ]
      refine wpAnyH_take (i := 10) (v := ?_) opAt_10 (by kernel_rfl) (by kernel_rfl) (by kernel_rfl) (fun _ _ _ h => h) (Or.inl ⟨by rfl, ?_⟩) (by assumption) ?_
      rotate_left
      · (intro w hSw; obtain ⟨y0, y1, y2, y3, y4, r0⟩ := hSw; go_simp; try with_reducible rfl)
      try simp only [Act.put, List.setIfInBounds_toArray, List.set_cons_zero, List.set_cons_succ]
      refine wpAnyH_take (i := 11) (v := ?_) opAt_11 (by kernel_rfl) (by kernel_rfl) (by kernel_rfl) (fun _ _ _ h => h) (Or.inl ⟨by rfl, ?_⟩) (by assumption) ?_
      rotate_left
      · (intro w hSw; obtain ⟨y0, y1, y2, y3, y4, r0⟩ := hSw; go_simp; try with_reducible rfl)
      try simp only [Act.put, List.setIfInBounds_toArray, List.set_cons_zero, List.set_cons_succ]
      refine wpAnyH_done (by kernel_rfl) ?_ _
      refine NoPanic.normal ?_
      clear hHeld
      obtain ⟨y0, y1, y2, y3, y4⟩ := rw5 (HVV.out.tk.blk' HS.out.1 HS.out.2.1 HS.out.2.2)
      obtain ⟨g0, g1, g2, g3, g4⟩ := rw5f (HVV.out.tk.blk' HS.out.1 HS.out.2.1 HS.out.2.2)
      go_wp2_with fail
      clear y0 y1 y2 y3 y4 g0 g1 g2 g3 g4
      refine wp_region_noPanic ?_
      refine OrdL.wpL_region (fun w' => w'.cell? ⟨B, 0, none⟩ = some (.int .u32 (i0 : Int)) ∧ w'.cell? ⟨B, 1, none⟩ = some (.slice Af nf cf) ∧ w'.cell? ⟨B, 2, none⟩ = some (.slice Ap np cp) ∧ w'.cell? ⟨B, 3, none⟩ = some (.int .i64 (i3 : Int)) ∧ w'.cell? ⟨B, 4, none⟩ = some (.int .i64 (i4 : Int))) 13 (by kernel_rfl) ?_
      have HVV5 := Lib.hid (show VB w V.drew lo B s q Af nf cf Ap np cp rb rc kx from HVV.out.drew HLO.out.2)
      generalize World.drew V = V5 at *
      clear HVV
      have hHeld := rw5 (HVV5.out.tk.blk' HS.out.1 HS.out.2.1 HS.out.2.2)
      refine OrdL.wpL_take (i := 0) (v := ?_) opAt_0 [12, 11] (by kernel_rfl) (by kernel_rfl) (by kernel_rfl) (by kernel_rfl) (by kernel_rfl) (by kernel_rfl) (fun _ _ _ h => h) (Or.inl ⟨by rfl, ?_⟩) hHeld ?_
      rotate_left
      · (intro w' hSw; obtain ⟨y0, y1, y2, y3, y4⟩ := hSw; go_simp; try with_reducible rfl)
      try simp only [Act.put, List.setIfInBounds_toArray, List.set_cons_zero, List.set_cons_succ]
      refine OrdL.wpL_take (i := 1) (v := ?_) opAt_1 [10, 4, 3, 2] (by kernel_rfl) (by kernel_rfl) (by kernel_rfl) (by kernel_rfl) (by kernel_rfl) (by kernel_rfl) (fun _ _ _ h => h) (Or.inl ⟨by rfl, ?_⟩) hHeld ?_
      rotate_left
      · (intro w' hSw; obtain ⟨y0, y1, y2, y3, y4⟩ := hSw; go_simp; try with_reducible rfl)
      try simp only [Act.put, List.setIfInBounds_toArray, List.set_cons_zero, List.set_cons_succ]
      refine OrdL.wpL_take (i := 2) (v := ?_) opAt_2 [10, 4, 3] (by kernel_rfl) (by kernel_rfl) (by kernel_rfl) (by kernel_rfl) (by kernel_rfl) (by kernel_rfl) (fun _ _ _ h => h) (Or.inl ⟨by rfl, ?_⟩) hHeld ?_
      rotate_left
      · (intro w' hSw; obtain ⟨y0, y1, y2, y3, y4⟩ := hSw; go_simp; try with_reducible rfl)
      try simp only [Act.put, List.setIfInBounds_toArray, List.set_cons_zero, List.set_cons_succ]
      refine OrdL.wpL_take (i := 3) (v := ?_) opAt_3 [10, 4] (by kernel_rfl) (by kernel_rfl) (by kernel_rfl) (by kernel_rfl) (by kernel_rfl) (by kernel_rfl) (fun _ _ _ h => h) (Or.inl ⟨by rfl, ?_⟩) hHeld ?_
      rotate_left
      · (intro w' hSw; obtain ⟨y0, y1, y2, y3, y4⟩ := hSw; go_simp; try with_reducible rfl)
      try simp only [Act.put, List.setIfInBounds_toArray, List.set_cons_zero, List.set_cons_succ]
      refine OrdL.wpL_take (i := 4) (v := ?_) opAt_4 [10] (by kernel_rfl) (by kernel_rfl) (by kernel_rfl) (by kernel_rfl) (by kernel_rfl) (by kernel_rfl) (fun _ _ _ h => h) (Or.inl ⟨by rfl, ?_⟩) hHeld ?_
      rotate_left
      · (intro w' hSw; obtain ⟨y0, y1, y2, y3, y4⟩ := hSw; go_simp; try with_reducible rfl)
      try simp only [Act.put, List.setIfInBounds_toArray, List.set_cons_zero, List.set_cons_succ]
      refine OrdL.wpL_take (i := 5) (v := ?_) opAt_5 [10, 9, 8, 7, 6] (by kernel_rfl) (by kernel_rfl) (by kernel_rfl) (by kernel_rfl) (by kernel_rfl) (by kernel_rfl) (fun _ _ _ h => h) (Or.inl ⟨by rfl, ?_⟩) hHeld ?_
      rotate_left
      · (intro w' hSw; obtain ⟨y0, y1, y2, y3, y4⟩ := hSw; go_simp; try with_reducible rfl)
      try simp only [Act.put, List.setIfInBounds_toArray, List.set_cons_zero, List.set_cons_succ]
      refine OrdL.wpL_take (i := 6) (v := ?_) opAt_6 [10, 9, 8, 7] (by kernel_rfl) (by kernel_rfl) (by kernel_rfl) (by kernel_rfl) (by kernel_rfl) (by kernel_rfl) (fun _ _ _ h => h) (Or.inl ⟨by rfl, ?_⟩) hHeld ?_
      rotate_left
      · (intro w' hSw; obtain ⟨y0, y1, y2, y3, y4⟩ := hSw; go_simp; try with_reducible rfl)
      try simp only [Act.put, List.setIfInBounds_toArray, List.set_cons_zero, List.set_cons_succ]
      refine OrdL.wpL_take (i := 7) (v := ?_) opAt_7 [10, 9, 8] (by kernel_rfl) (by kernel_rfl) (by kernel_rfl) (by kernel_rfl) (by kernel_rfl) (by kernel_rfl) (fun _ _ _ h => h) (Or.inl ⟨by rfl, ?_⟩) hHeld ?_
      rotate_left
      · (intro w' hSw; obtain ⟨y0, y1, y2, y3, y4⟩ := hSw; go_simp; try with_reducible rfl)
      try simp only [Act.put, List.setIfInBounds_toArray, List.set_cons_zero, List.set_cons_succ]
      refine OrdL.wpL_take (i := 8) (v := ?_) opAt_8 [10, 9] (by kernel_rfl) (by kernel_rfl) (by kernel_rfl) (by kernel_rfl) (by kernel_rfl) (by kernel_rfl) (fun _ _ _ h => h) (Or.inl ⟨by rfl, ?_⟩) hHeld ?_
      rotate_left
      · (intro w' hSw; obtain ⟨y0, y1, y2, y3, y4⟩ := hSw; go_simp; try with_reducible rfl)
      try simp only [Act.put, List.setIfInBounds_toArray, List.set_cons_zero, List.set_cons_succ]
      clear hHeld
      refine OrdL.wpL_ready (rs := [9]) (by kernel_rfl) (by simp) ?_
      refine OrdL.AllL.cons rfl (fun K hK => ?_) OrdL.AllL.nil
      go_simp
      obtain ⟨gn, hgn⟩ : ∃ gn, V5.heap.size = gn := ⟨_, rfl⟩
      rw [hgn]
      obtain ⟨V6, hV6⟩ : ∃ Vn, V5.alloc (.cells #[.int .i64 (i3 : Int)] 3) = Vn := ⟨_, rfl⟩
      rw [hV6]
      have hbn : Below V5.heap.size V5 V6 := by rw [← hV6]; exact (Below.refl _ _).alloc (Nat.le_refl _) _
      have hn0 : V6.heap[gn]? = some (.cells #[.int .i64 (i3 : Int)] 3 (0, 0)) := by rw [← hV6, ← hgn]; exact heap_alloc_new V5 _
      have hrd : Rd V6 (gn + 1) (some ⟨gn, 0, none⟩) [.int .i64 (i3 : Int)] := fun _ => ⟨gn, 0, rfl, by omega, fun j u hu => by rw [cell_of_row V6 gn (0 + j) _ _ _ hn0]; simpa using hu⟩
      have HVV6 := Lib.hid (HVV5.out.on hbn HLO.out.2)
      have HRD := Lib.hid hrd
      clear hrd hn0 hV6 hgn hbn HVV5
      refine hK.out _ _ (fun _ => rw5 (HVV6.out.tk.blk' HS.out.1 HS.out.2.1 HS.out.2.2)) ?_
      clear hK K
      try simp only [Act.put, List.setIfInBounds_toArray, List.set_cons_zero, List.set_cons_succ]
      have hHeld := rw5 (HVV6.out.tk.blk' HS.out.1 HS.out.2.1 HS.out.2.2)
      clear hHeld
      refine OrdL.wpL_ready (rs := [10]) (by kernel_rfl) (by simp) ?_
      refine OrdL.AllL.cons rfl (fun K hK => ?_) OrdL.AllL.nil
      obtain ⟨ii0, hi0, hzz0, hzz1, hzz2⟩ := info_parts int_infoL
      refine step_append_gr V6 (o := (⟨some 24, _, _, _, _, _⟩ : Oper)) rfl (.tmp 18) (.tmp 23) 42 rfl lo 3 ii0 (.int .i64 0) 1 8 Tryz.underlying42 hi0 hzz0 hzz1 hzz2 rfl (by omega) (.slice Ap np cp) np (s.passed.map fun n : Nat => Value.int .i64 (n : Int)) rfl HVV6.out.tk.pown (gn + 1) (some ⟨gn, 0, none⟩) 1 1 [.int .i64 (i3 : Int)] rfl rfl HRD.out (by simp [Value.oneCell']) (by unfold maxLen; omega) (by omega) (by have := HVV6.out.below.size; have := HLO.out.2; omega) ?_
      intro v7 V7 hown7 hb7 hg7 hv7
      dsimp only [Act.put, Array.getElem_toList, List.getElem_toArray, List.getElem_cons_succ, List.getElem_cons_zero]
      obtain ⟨A7, c7, rfl, _, _, _⟩ := own_slice hown7
      have HO7 := Lib.hid hown7
      have HC7 := Lib.hid (Chg.of_grown (M := fun g => (Value.slice Ap np cp).ownBlock = some g) hg7 (fun g h => h))
      have HT6 := Lib.hid (own_typed HVV6.out.tk.pown)
      have HVV7 := Lib.hid (HVV6.out.va HT6.out (by decide) (by decide) (by decide) HC7.out hb7)
      have HFO := Lib.hid (HT6.out.own (by decide) HC7.out HVV6.out.tk.own)
      clear hown7 hb7 hg7 hv7
      have hHeld := rw5 (HVV7.out.blk' HS.out.1 HS.out.2.1 HS.out.2.2)
      refine hK.out _ _ (fun _ => hHeld) ?_
      clear hK K HVV6 HRD HT6 HC7
      try simp only [Act.put, List.setIfInBounds_toArray, List.set_cons_zero, List.set_cons_succ]
      refine OrdL.wpL_take (i := 11) (v := ?_) opAt_11 [12] (by kernel_rfl) (by kernel_rfl) (by kernel_rfl) (by kernel_rfl) (by kernel_rfl) (by kernel_rfl) (fun _ _ _ h => h) (Or.inl ⟨by rfl, ?_⟩) hHeld ?_
      rotate_left
      · (intro w' hSw; obtain ⟨y0, y1, y2, y3, y4⟩ := hSw; go_simp; try with_reducible rfl)
      try simp only [Act.put, List.setIfInBounds_toArray, List.set_cons_zero, List.set_cons_succ]
      refine OrdL.wpL_take (i := 12) (v := ?_) opAt_12 [] (by kernel_rfl) (by kernel_rfl) (by kernel_rfl) (by kernel_rfl) (by kernel_rfl) (by kernel_rfl) (fun _ _ _ h => h) (Or.inl ⟨by rfl, ?_⟩) hHeld ?_
      rotate_left
      · (intro w' hSw; obtain ⟨y0, y1, y2, y3, y4⟩ := hSw; go_simp; try with_reducible rfl)
      try simp only [Act.put, List.setIfInBounds_toArray, List.set_cons_zero, List.set_cons_succ]
      clear hHeld
      refine OrdL.wpL_ready (rs := [13]) (by kernel_rfl) (by simp) ?_
      refine OrdL.AllL.cons rfl (fun K hK => ?_) OrdL.AllL.nil
      have y2 := (rw5 (HVV7.out.blk' HS.out.1 HS.out.2.1 HS.out.2.2)).2.2.1
      have g2 := (rw5f (HVV7.out.blk' HS.out.1 HS.out.2.1 HS.out.2.2)).2.2.1
      go_simp
      have h8 := Go.Joins.block_setCell (i := 2) (HVV7.out.blk' HS.out.1 HS.out.2.1 HS.out.2.2) (.slice A7 (np + 1) c7)
      have h8 : _ = some (Obj.cells #[.int .u32 (i0 : Int), .slice Af nf cf, .slice A7 (np + 1) c7, .int .i64 (i3 : Int), .int .i64 (i4 : Int)] 44 (0, 0)) := h8
      have HC8 := Lib.hid (chg1 V7 B 2 (.slice A7 (np + 1) c7))
      generalize V7.setCell ⟨B, 2, none⟩ (.slice A7 (np + 1) c7) = V8 at *
      have H8 := Lib.hid h8
      clear y2 g2 h8
      refine hK.out _ _ (fun h => absurd (show true = false from h) (by decide)) ?_
      clear hK K
      try simp only [Act.put, List.setIfInBounds_toArray, List.set_cons_zero, List.set_cons_succ]
      refine OrdL.wpL_done (by kernel_rfl) ?_ _
      refine NoPanic.normal ?_
      obtain ⟨y0, y1, y2, y3, y4⟩ := rw5 H8.out
      obtain ⟨g0, g1, g2, g3, g4⟩ := rw5f H8.out
      have hzl : z ≤ rest.length := by rcases HZR.out with h | h | h; exact h; omega; omega
      have hwz : IntKind.i64.wrap ((i3 : Int) + (z : Int)) = ((i3 + z : Nat) : Int) := by rw [IntWalk.i64_in _ (by omega)]; push_cast; rfl
      go_wp2_with fail
      have HT := Lib.hid (show tk s rest = { s with passed := s.passed ++ [s.stop], stop := s.stop + z } by unfold tk; rw [HQ.out]; rw [if_neg (show ¬ (23 : Nat) = 22 by decide), if_neg (by rintro (h | ⟨h, _⟩); exact hz0 h; exact absurd (show (23 : Nat) = 0 from h) (by decide)), if_neg (show ¬ (23 : Nat) = 0 by decide)])
      go_end0
      refine ⟨⟨_, rfl⟩, ?_⟩
      rw [HT.out]
      have h9 := Go.Joins.block_setCell (i := 3) H8.out (.int .i64 ((i3 + z : Nat) : Int))
      exact HVV7.out.passed HLO.out.1 HLO.out.2 HS.out HFO.out HO7.out (HC8.out.setCell (p := ⟨B, 3, none⟩) rfl _) h9
end Go.Proofs.YtaicibmaogiibaaGreatDoor.Sc

