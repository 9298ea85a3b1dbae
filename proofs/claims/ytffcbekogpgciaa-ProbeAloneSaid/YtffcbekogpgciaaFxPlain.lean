
/-
  Layer 5: one file's bytes and its deeds, as plain mathematics.
-/
import Derived.Test.YtffcbekogpgciaaWords
set_option linter.unusedVariables false
set_option linter.unusedSimpArgs false
namespace Go.Proofs.Ytffcbekogpgciaa

/-- a deed: bytes were appended, or only the first so many were left -/
inductive Deed where
  | added (r : List UInt8)
  | cut (s : Nat)
def Deed.units : Deed → Nat
  | .added r => r.length
  | .cut _ => 1
/-- the first m units of a deed are done -/
def Deed.act (b : List UInt8) (m : Nat) : Deed → List UInt8
  | .added r => b ++ r.take m
  | .cut s => if m = 0 then b else b.take s
def Deed.ok (b : List UInt8) : Deed → Prop
  | .added r => r ≠ []
  | .cut s => s < b.length
def unitsL : List Deed → Nat
  | [] => 0
  | d :: ds => d.units + unitsL ds
/-- the first k units of the deeds are done -/
def settleL : List UInt8 → Nat → List Deed → List UInt8
  | b, _, [] => b
  | b, k, d :: ds => settleL (d.act b (min k d.units)) (k - min k d.units) ds
def Valid : List UInt8 → List Deed → Prop
  | _, [] => True
  | b, d :: ds => d.ok b ∧ Valid (d.act b d.units) ds

theorem Deed.act_zero (b : List UInt8) (d : Deed) : d.act b 0 = b := by cases d <;> simp [Deed.act]
theorem Deed.units_pos {b : List UInt8} {d : Deed} (h : d.ok b) : 0 < d.units := by
  cases d with
  | added r => exact List.length_pos_iff.2 h
  | cut s => exact Nat.one_pos
theorem Deed.act_length (b : List UInt8) (m : Nat) (d : Deed) : (d.act b m).length ≤ b.length + m := by
  cases d with
  | added r => simp only [Deed.act, List.length_append, List.length_take]; omega
  | cut s => simp only [Deed.act]; split <;> (try simp only [List.length_take]) <;> omega
theorem settleL_zero (b : List UInt8) : ∀ ds : List Deed, settleL b 0 ds = b
  | [] => rfl
  | d :: ds => by
    unfold settleL
    rw [Nat.zero_min, Deed.act_zero]
    exact settleL_zero b ds
theorem settleL_length : ∀ (ds : List Deed) (b : List UInt8) (k : Nat), (settleL b k ds).length ≤ b.length + k
  | [], b, k => by unfold settleL; omega
  | d :: ds, b, k => by
    unfold settleL
    have h1 := settleL_length ds (d.act b (min k d.units)) (k - min k d.units)
    have h2 := Deed.act_length b (min k d.units) d
    omega
theorem unitsL_append : ∀ (ds es : List Deed), unitsL (ds ++ es) = unitsL ds + unitsL es
  | [], es => by simp [unitsL]
  | d :: ds, es => by simp only [List.cons_append, unitsL, unitsL_append ds es]; omega
theorem settleL_append : ∀ (ds es : List Deed) (b : List UInt8) (k : Nat), settleL b k (ds ++ es) = settleL (settleL b (min k (unitsL ds)) ds) (k - min k (unitsL ds)) es
  | [], es, b, k => by simp [settleL, unitsL]
  | d :: ds, es, b, k => by
    simp only [List.cons_append, settleL, unitsL]
    rw [settleL_append ds es]
    congr 1
    · congr 1
      · congr 1; omega
      · omega
    · omega
theorem settleL_le {ds : List Deed} {b : List UInt8} {k : Nat} (d : Deed) (h : k ≤ unitsL ds) : settleL b k (ds ++ [d]) = settleL b k ds := by
  rw [settleL_append, show min k (unitsL ds) = k by omega, Nat.sub_self, settleL_zero]
theorem settleL_more (ds : List Deed) (b : List UInt8) (m : Nat) (d : Deed) : settleL b (unitsL ds + m) (ds ++ [d]) = d.act (settleL b (unitsL ds) ds) (min m d.units) := by
  rw [settleL_append, show min (unitsL ds + m) (unitsL ds) = unitsL ds by omega, Nat.add_sub_cancel_left]
  rfl
theorem settleL_over (ds : List Deed) (b : List UInt8) (k : Nat) (h : unitsL ds ≤ k) : settleL b k ds = settleL b (unitsL ds) ds := by
  have := settleL_append ds [] b k
  rw [List.append_nil, show min k (unitsL ds) = unitsL ds by omega] at this
  exact this
theorem valid_append : ∀ (ds : List Deed) (b : List UInt8) (d : Deed), Valid b ds → d.ok (settleL b (unitsL ds) ds) → Valid b (ds ++ [d])
  | [], b, d, _, h => ⟨by simpa [settleL] using h, trivial⟩
  | c :: ds, b, d, hv, h => by
    refine ⟨hv.1, valid_append ds _ d hv.2 ?_⟩
    simp only [settleL, unitsL] at h
    rw [show min (c.units + unitsL ds) c.units = c.units by omega, Nat.add_sub_cancel_left] at h
    exact h
theorem length_le_units : ∀ (ds : List Deed) (b : List UInt8), Valid b ds → ds.length ≤ unitsL ds
  | [], _, _ => Nat.le_refl _
  | d :: ds, b, h => by
    have := length_le_units ds _ h.2
    have := Deed.units_pos h.1
    simp only [List.length_cons, unitsL]
    omega

/-- what a file holds -/
structure FSt where
  safe : List UInt8
  kept : Nat
  tail : List UInt8
  deeds : List Deed
def FSt.bytes (s : FSt) : List UInt8 := s.safe.take s.kept ++ s.tail
def FSt.loose (s : FSt) : Nat := unitsL s.deeds
/-- its bytes behind the first k units -/
def FSt.behind (s : FSt) (k : Nat) : List UInt8 := settleL s.safe k s.deeds
structure FSt.Ok (s : FSt) : Prop where
  kept : s.kept ≤ s.safe.length
  whole : s.behind s.loose = s.bytes
  valid : Valid s.safe s.deeds
  clean : s.deeds = [] → s.tail = []
def FSt.big (s : FSt) : Nat := s.safe.length + s.loose
def FSt.new (b : List UInt8) : FSt := ⟨b, b.length, [], []⟩
def FSt.settled (s : FSt) (k : Nat) : FSt := FSt.new (s.behind k)
def FSt.app (s : FSt) (r : List UInt8) : FSt := ⟨s.safe, s.kept, s.tail ++ r, s.deeds ++ [.added r]⟩
def FSt.cutd (s : FSt) (n : Nat) : FSt := ⟨s.safe, min s.kept n, s.tail.take (n - min s.kept n), s.deeds ++ [.cut n]⟩
theorem FSt.new_bytes (b : List UInt8) : (FSt.new b).bytes = b := by simp [FSt.new, FSt.bytes]
theorem FSt.new_ok (b : List UInt8) : (FSt.new b).Ok := ⟨Nat.le_refl _, by simp [FSt.new, FSt.behind, FSt.loose, FSt.bytes, settleL], trivial, fun _ => rfl⟩
theorem FSt.settled_ok (s : FSt) (k : Nat) : (s.settled k).Ok := FSt.new_ok _
theorem FSt.settled_bytes (s : FSt) (k : Nat) : (s.settled k).bytes = s.behind k := FSt.new_bytes _
theorem FSt.app_loose (s : FSt) (r : List UInt8) : (s.app r).loose = s.loose + r.length := by simp [FSt.app, FSt.loose, unitsL_append, unitsL, Deed.units]
theorem FSt.cutd_loose (s : FSt) (n : Nat) : (s.cutd n).loose = s.loose + 1 := by simp [FSt.cutd, FSt.loose, unitsL_append, unitsL, Deed.units]
theorem FSt.app_behind (s : FSt) (r : List UInt8) {k : Nat} (h : k ≤ s.loose) : (s.app r).behind k = s.behind k := settleL_le _ h
theorem FSt.cutd_behind (s : FSt) (n : Nat) {k : Nat} (h : k ≤ s.loose) : (s.cutd n).behind k = s.behind k := settleL_le _ h
theorem FSt.app_more {s : FSt} (h : s.Ok) (r : List UInt8) (m : Nat) : (s.app r).behind (s.loose + m) = s.bytes ++ r.take m := by
  have := settleL_more s.deeds s.safe m (.added r)
  rw [← h.whole]
  show settleL s.safe (unitsL s.deeds + m) (s.deeds ++ [.added r]) = _
  rw [this]
  show settleL s.safe (unitsL s.deeds) s.deeds ++ r.take (min m r.length) = settleL s.safe (unitsL s.deeds) s.deeds ++ r.take m
  congr 1
  rw [List.take_eq_take_iff]
  omega
theorem FSt.app_bytes (s : FSt) (r : List UInt8) : (s.app r).bytes = s.bytes ++ r := by simp [FSt.app, FSt.bytes]
theorem FSt.cutd_bytes {s : FSt} (h : s.Ok) (n : Nat) : (s.cutd n).bytes = s.bytes.take n := by
  have hk := h.kept
  simp only [FSt.cutd, FSt.bytes]
  rw [List.take_append, List.take_take, List.length_take, show min n s.kept = min s.kept n by omega]
  congr 2
  omega
theorem FSt.app_ok {s : FSt} (h : s.Ok) {r : List UInt8} (hr : r ≠ []) : (s.app r).Ok := by
  refine ⟨h.kept, ?_, valid_append _ _ _ h.valid hr, fun e => absurd e (by simp [FSt.app])⟩
  rw [FSt.app_loose, FSt.app_more h, FSt.app_bytes, List.take_length]
theorem FSt.cutd_ok {s : FSt} (h : s.Ok) {n : Nat} (hn : n < s.bytes.length) : (s.cutd n).Ok := by
  refine ⟨Nat.le_trans (Nat.min_le_left _ _) h.kept, ?_, valid_append _ _ _ h.valid (by rw [← h.whole] at hn; exact hn), fun e => absurd e (by simp [FSt.cutd])⟩
  rw [FSt.cutd_loose, FSt.cutd_bytes h, ← h.whole]
  exact settleL_more s.deeds s.safe 1 (.cut n)
theorem FSt.still {s : FSt} (h : s.Ok) (hd : s.deeds = []) : s.kept = s.safe.length ∧ s.tail = [] ∧ s.bytes = s.safe := by
  have ht := h.clean hd
  have hw := h.whole
  have hk := h.kept
  have e : s.behind s.loose = s.safe := by simp [FSt.behind, FSt.loose, hd, settleL]
  rw [e] at hw
  refine ⟨?_, ht, hw.symm⟩
  have := congrArg List.length hw
  rw [FSt.bytes, ht, List.append_nil, List.length_take] at this
  omega
theorem FSt.bytes_length {s : FSt} (h : s.Ok) : s.bytes.length ≤ s.big := by
  rw [← h.whole]
  exact settleL_length _ _ _
theorem FSt.length_bytes {s : FSt} (h : s.Ok) : s.bytes.length = s.kept + s.tail.length := by
  have := h.kept
  simp only [FSt.bytes, List.length_append, List.length_take]
  omega
theorem FSt.behind_length (s : FSt) {k : Nat} : (s.behind k).length ≤ s.safe.length + k := settleL_length _ _ _
theorem FSt.app_big (s : FSt) (r : List UInt8) : (s.app r).big = s.big + r.length := by
  unfold FSt.big
  rw [FSt.app_loose]
  exact (Nat.add_assoc _ _ _).symm
theorem FSt.cutd_big (s : FSt) (n : Nat) : (s.cutd n).big = s.big + 1 := by
  unfold FSt.big
  rw [FSt.cutd_loose]
  exact (Nat.add_assoc _ _ _).symm
theorem FSt.settled_big (s : FSt) {k : Nat} (h : k ≤ s.loose) : (s.settled k).big ≤ s.big := by
  have := s.behind_length (k := k)
  unfold FSt.big FSt.settled FSt.new FSt.loose at *
  simp only [unitsL]
  omega
end Go.Proofs.Ytffcbekogpgciaa
