/-
  SegKnown, part 9 of what the law's proof leans on: FxPlain, FxBase, FxAt.
-/
import Derived.Test.YtaicibmaogiibaaGreatDoorSegKnownQ1
import Derived.Deep.QuietTactic
import Derived.BigQuiet
import Derived.StillTailTactics
import Derived.Deep.DeepFit
import Derived.Deep.RegionHeld3
import Derived.Deep.RegionWith
import Derived.Lib.SliceRun
import Derived.Lib.Hide
import Derived.WalkSpells
/- FxPlain -/

/-
  Layer 5: one file's bytes and its deeds, as plain mathematics.
-/
set_option linter.unusedVariables false
set_option linter.unusedSimpArgs false
namespace Go.Proofs.YtaicibmaogiibaaGreatDoor

/-- a deed: bytes were appended, or only the first so many were left -/
inductive Deed where
  | added (r : List UInt8)
  | cut (s : Nat)
def Deed.units : Deed → Nat
  | .added r => r.length
  | .cut _ => 1
/-- the first m units of a deed are done -/
def Deed.act (b : List UInt8) (m : Nat) : Deed → List UInt8
  | .added r => b ++ r.take m
  | .cut s => if m = 0 then b else b.take s
def Deed.ok (b : List UInt8) : Deed → Prop
  | .added r => r ≠ []
  | .cut s => s < b.length
def unitsL : List Deed → Nat
  | [] => 0
  | d :: ds => d.units + unitsL ds
/-- the first k units of the deeds are done -/
def settleL : List UInt8 → Nat → List Deed → List UInt8
  | b, _, [] => b
  | b, k, d :: ds => settleL (d.act b (min k d.units)) (k - min k d.units) ds
def Valid : List UInt8 → List Deed → Prop
  | _, [] => True
  | b, d :: ds => d.ok b ∧ Valid (d.act b d.units) ds

theorem Deed.act_zero (b : List UInt8) (d : Deed) : d.act b 0 = b := by cases d <;> simp [Deed.act]
theorem Deed.units_pos {b : List UInt8} {d : Deed} (h : d.ok b) : 0 < d.units := by
  cases d with
  | added r => exact List.length_pos_iff.2 h
  | cut s => exact Nat.one_pos
theorem Deed.act_length (b : List UInt8) (m : Nat) (d : Deed) : (d.act b m).length ≤ b.length + m := by
  cases d with
  | added r => simp only [Deed.act, List.length_append, List.length_take]; omega
  | cut s => simp only [Deed.act]; split <;> (try simp only [List.length_take]) <;> omega
theorem settleL_zero (b : List UInt8) : ∀ ds : List Deed, settleL b 0 ds = b
  | [] => rfl
  | d :: ds => by
    unfold settleL
    rw [Nat.zero_min, Deed.act_zero]
    exact settleL_zero b ds
theorem settleL_length : ∀ (ds : List Deed) (b : List UInt8) (k : Nat), (settleL b k ds).length ≤ b.length + k
  | [], b, k => by unfold settleL; omega
  | d :: ds, b, k => by
    unfold settleL
    have h1 := settleL_length ds (d.act b (min k d.units)) (k - min k d.units)
    have h2 := Deed.act_length b (min k d.units) d
    omega
theorem unitsL_append : ∀ (ds es : List Deed), unitsL (ds ++ es) = unitsL ds + unitsL es
  | [], es => by simp [unitsL]
  | d :: ds, es => by simp only [List.cons_append, unitsL, unitsL_append ds es]; omega
theorem settleL_append : ∀ (ds es : List Deed) (b : List UInt8) (k : Nat), settleL b k (ds ++ es) = settleL (settleL b (min k (unitsL ds)) ds) (k - min k (unitsL ds)) es
  | [], es, b, k => by simp [settleL, unitsL]
  | d :: ds, es, b, k => by
    simp only [List.cons_append, settleL, unitsL]
    rw [settleL_append ds es]
    congr 1
    · congr 1
      · congr 1; omega
      · omega
    · omega
theorem settleL_le {ds : List Deed} {b : List UInt8} {k : Nat} (d : Deed) (h : k ≤ unitsL ds) : settleL b k (ds ++ [d]) = settleL b k ds := by
  rw [settleL_append, show min k (unitsL ds) = k by omega, Nat.sub_self, settleL_zero]
theorem settleL_more (ds : List Deed) (b : List UInt8) (m : Nat) (d : Deed) : settleL b (unitsL ds + m) (ds ++ [d]) = d.act (settleL b (unitsL ds) ds) (min m d.units) := by
  rw [settleL_append, show min (unitsL ds + m) (unitsL ds) = unitsL ds by omega, Nat.add_sub_cancel_left]
  rfl
theorem valid_append : ∀ (ds : List Deed) (b : List UInt8) (d : Deed), Valid b ds → d.ok (settleL b (unitsL ds) ds) → Valid b (ds ++ [d])
  | [], b, d, _, h => ⟨by simpa [settleL] using h, trivial⟩
  | c :: ds, b, d, hv, h => by
    refine ⟨hv.1, valid_append ds _ d hv.2 ?_⟩
    simp only [settleL, unitsL] at h
    rw [show min (c.units + unitsL ds) c.units = c.units by omega, Nat.add_sub_cancel_left] at h
    exact h
theorem length_le_units : ∀ (ds : List Deed) (b : List UInt8), Valid b ds → ds.length ≤ unitsL ds
  | [], _, _ => Nat.le_refl _
  | d :: ds, b, h => by
    have := length_le_units ds _ h.2
    have := Deed.units_pos h.1
    simp only [List.length_cons, unitsL]
    omega

/-- what a file holds -/
structure FSt where
  safe : List UInt8
  kept : Nat
  tail : List UInt8
  deeds : List Deed
def FSt.bytes (s : FSt) : List UInt8 := s.safe.take s.kept ++ s.tail
def FSt.loose (s : FSt) : Nat := unitsL s.deeds
/-- its bytes behind the first k units -/
def FSt.behind (s : FSt) (k : Nat) : List UInt8 := settleL s.safe k s.deeds
structure FSt.Ok (s : FSt) : Prop where
  kept : s.kept ≤ s.safe.length
  whole : s.behind s.loose = s.bytes
  valid : Valid s.safe s.deeds
  clean : s.deeds = [] → s.tail = []
def FSt.big (s : FSt) : Nat := s.safe.length + s.loose
def FSt.new (b : List UInt8) : FSt := ⟨b, b.length, [], []⟩
def FSt.settled (s : FSt) (k : Nat) : FSt := FSt.new (s.behind k)
def FSt.app (s : FSt) (r : List UInt8) : FSt := ⟨s.safe, s.kept, s.tail ++ r, s.deeds ++ [.added r]⟩
theorem FSt.new_bytes (b : List UInt8) : (FSt.new b).bytes = b := by simp [FSt.new, FSt.bytes]
theorem FSt.new_ok (b : List UInt8) : (FSt.new b).Ok := ⟨Nat.le_refl _, by simp [FSt.new, FSt.behind, FSt.loose, FSt.bytes, settleL], trivial, fun _ => rfl⟩
theorem FSt.settled_ok (s : FSt) (k : Nat) : (s.settled k).Ok := FSt.new_ok _
theorem FSt.settled_bytes (s : FSt) (k : Nat) : (s.settled k).bytes = s.behind k := FSt.new_bytes _
theorem FSt.app_loose (s : FSt) (r : List UInt8) : (s.app r).loose = s.loose + r.length := by simp [FSt.app, FSt.loose, unitsL_append, unitsL, Deed.units]
theorem FSt.app_behind (s : FSt) (r : List UInt8) {k : Nat} (h : k ≤ s.loose) : (s.app r).behind k = s.behind k := settleL_le _ h
theorem FSt.app_more {s : FSt} (h : s.Ok) (r : List UInt8) (m : Nat) : (s.app r).behind (s.loose + m) = s.bytes ++ r.take m := by
  have := settleL_more s.deeds s.safe m (.added r)
  rw [← h.whole]
  show settleL s.safe (unitsL s.deeds + m) (s.deeds ++ [.added r]) = _
  rw [this]
  show settleL s.safe (unitsL s.deeds) s.deeds ++ r.take (min m r.length) = settleL s.safe (unitsL s.deeds) s.deeds ++ r.take m
  congr 1
  rw [List.take_eq_take_iff]
  omega
theorem FSt.app_bytes (s : FSt) (r : List UInt8) : (s.app r).bytes = s.bytes ++ r := by simp [FSt.app, FSt.bytes]
theorem FSt.app_ok {s : FSt} (h : s.Ok) {r : List UInt8} (hr : r ≠ []) : (s.app r).Ok := by
  refine ⟨h.kept, ?_, valid_append _ _ _ h.valid hr, fun e => absurd e (by simp [FSt.app])⟩
  rw [FSt.app_loose, FSt.app_more h, FSt.app_bytes, List.take_length]
theorem FSt.still {s : FSt} (h : s.Ok) (hd : s.deeds = []) : s.kept = s.safe.length ∧ s.tail = [] ∧ s.bytes = s.safe := by
  have ht := h.clean hd
  have hw := h.whole
  have hk := h.kept
  have e : s.behind s.loose = s.safe := by simp [FSt.behind, FSt.loose, hd, settleL]
  rw [e] at hw
  refine ⟨?_, ht, hw.symm⟩
  have := congrArg List.length hw
  rw [FSt.bytes, ht, List.append_nil, List.length_take] at this
  omega
theorem FSt.bytes_length {s : FSt} (h : s.Ok) : s.bytes.length ≤ s.big := by
  rw [← h.whole]
  exact settleL_length _ _ _
theorem FSt.length_bytes {s : FSt} (h : s.Ok) : s.bytes.length = s.kept + s.tail.length := by
  have := h.kept
  simp only [FSt.bytes, List.length_append, List.length_take]
  omega
theorem FSt.behind_length (s : FSt) {k : Nat} : (s.behind k).length ≤ s.safe.length + k := settleL_length _ _ _
theorem FSt.app_big (s : FSt) (r : List UInt8) : (s.app r).big = s.big + r.length := by
  unfold FSt.big
  rw [FSt.app_loose]
  exact (Nat.add_assoc _ _ _).symm
theorem FSt.settled_big (s : FSt) {k : Nat} (h : k ≤ s.loose) : (s.settled k).big ≤ s.big := by
  have := s.behind_length (k := k)
  unfold FSt.big FSt.settled FSt.new FSt.loose at *
  simp only [unitsL]
  omega
end Go.Proofs.YtaicibmaogiibaaGreatDoor

/- FxBase -/

/-
  Layer 5: bytes.Clone, bytes.Equal, bytes.HasPrefix; what a deed's calls do.
-/
set_option linter.unusedVariables false
set_option linter.unusedSimpArgs false
namespace Go.Proofs.YtaicibmaogiibaaGreatDoor
open Go.RowKit

theorem fbyte_info : (Tryz.prog.info? 5).map (fun i => (i.zero, i.size, i.bytes)) = some (some (.int .u8 0), 1, 1) := by kernel_rfl

theorem fequal (v v' : Value) (l l' : List UInt8) (B B' : Nat) (w : World) (h : Bs w B v l) (h' : Bs w B' v' l') :
    Calls Tryz.prog 42 #[v, v'] w fun e w' => e = .returned (.bool (l == l')) ∧ w = w' := by
  obtain ⟨A, c, rfl, _, h⟩ := h
  obtain ⟨A', c', rfl, _, h'⟩ := h'
  have c1 := convert_rd (P := Tryz.prog) h c 47 5 9 Tryz.underlying47 Tryz.underlying5 Tryz.underlying9
  have c2 := convert_rd (P := Tryz.prog) h' c' 47 5 9 Tryz.underlying47 Tryz.underlying5 Tryz.underlying9
  go_enter Tryz.func42, Tryz.ntmps42
  go_wp2
  go_ret
  exact ⟨rfl, rfl⟩

theorem fclone (v : Value) (l : List UInt8) (B : Nat) (w : World) (h : Bs w B v l) (hB : B ≤ w.heap.size) (hm : l.length ≤ 140737488355328) :
    Calls Tryz.prog 135 #[v] w fun e w' => ∃ r, e = .returned r ∧ w'.ownsRow w.heap.size 5 1 r l.length (bvs l) ∧ Below w.heap.size w w' := by
  obtain ⟨i0, hi0, hz0, hz1, hz2⟩ := info_parts fbyte_info
  obtain ⟨A, c, rfl, hc, hr⟩ := h
  have hq := @Lib.run_eql_slice_nil Tryz.prog
  rcases A with _ | a
  · have hl : l = [] := by
      rcases l with _ | ⟨x, r⟩
      · rfl
      · obtain ⟨b, o, h, _⟩ := hr (by simp [bvs])
        cases h
    subst hl
    go_enter Tryz.func135, Tryz.ntmps135
    go_wp2
    go_ret
    exact ⟨_, rfl, World.ownsRow_nil _ _ _ _, Below.refl _ _⟩
  · have hown0 : (w.alloc (Obj.cells #[] 5)).ownsRow w.heap.size 5 1 (.slice (some ⟨w.heap.size, 0, none⟩) 0 0) 0 [] := World.ownsRow_lit w #[] 0 (Nat.le_refl _) (Nat.zero_le _) rfl
    have Hr := Lib.hid hr
    clear hr
    go_enter Tryz.func135, Tryz.ntmps135
    go_wp2_with (at_builtin; (refine wpList_append_rd _ rfl _ _ 47 rfl w.heap.size 5 i0 (.int .u8 0) 1 1 Tryz.underlying47 hi0 hz0 hz1 hz2 rfl (by omega) (.slice (some ⟨w.heap.size, 0, none⟩) 0 0) 0 [] rfl hown0 B (some a) l.length c (bvs l) rfl (by simp [bvs]) (Hr.out.alloc hB _) (bvs_one l) (by unfold maxLen; omega) (by omega) (by simp) ?_); intro v1 w1 hown1 hbw1 _ _)
    go_ret
    exact ⟨v1, rfl, by simpa using hown1, ((Below.refl _ _).alloc (Nat.le_refl _) _).trans hbw1⟩

/-- 's[:k]' -/
theorem cut_h (A : Option Addr) (n c k : Nat) (hkc : k ≤ c) (w : World) :
    (Instr.sliceAt 47 (.slice A n c) none (some (.int .i64 (k : Int))) none).run Tryz.prog w = .ok (.slice A k c) w := by
  rw [run_sliceAt_slice _ 47 _ _ _ _ elBytes, run_slice_h _ 47 A n c elBytes .i64 k (by omega) (by omega)]
  have : (sizeOf (Tryz.prog.elem 47)).run Tryz.prog w = .ok 1 w := by kernel_rfl
  rw [this]
  have e : (if c = 0 then A else A.map (·.add 0)) = A := by
    split
    · rfl
    · cases A with
      | none => rfl
      | some a => simp [Addr.add]
  simp [Result.andThen, sliced, e]

/-- a value of the type added -/
def addV (A : Option Addr) (n c : Nat) : Value := .iface 183 (.agg #[.slice A n c])
def cutV (s : Nat) : Value := .iface 157 (.agg #[.int .i64 (s : Int)])

theorem added_units (A : Option Addr) (n c : Nat) (w : World) :
    Calls Tryz.prog 241 #[.agg #[.slice A n c]] w fun e w' => e = .returned (.int .i64 (n : Int)) ∧ Below w.heap.size w w' := by
  go_enter Tryz.func241, Tryz.ntmps241
  go_wp2
  go_ret
  exact ⟨rfl, (Below.refl _ _).alloc (Nat.le_refl _) _⟩
theorem cut_units (s : Nat) (w : World) :
    Calls Tryz.prog 238 #[.agg #[.int .i64 (s : Int)]] w fun e w' => e = .returned (.int .i64 1) ∧ Below w.heap.size w w' := by
  go_enter Tryz.func238, Tryz.ntmps238
  go_wp2
  go_ret
  exact ⟨rfl, (Below.refl _ _).alloc (Nat.le_refl _) _⟩
theorem added_do (A : Option Addr) (r : List UInt8) (c m B : Nat) (v : Value) (b : List UInt8) (w : World) (hc : r.length ≤ c) (hm : m ≤ r.length) (hr : Rd w B A (bvs r)) (hB : B ≤ w.heap.size)
    (hv : w.ownsRow 0 5 1 v b.length (bvs b)) (hbig : b.length + r.length ≤ 10000000) :
    Calls Tryz.prog 240 #[.agg #[.slice A r.length c], v, .int .i64 (m : Int)] w fun e w' => ∃ v', e = .returned v' ∧ w'.ownsRow 0 5 1 v' (b ++ r.take m).length (bvs (b ++ r.take m)) ∧
      w.grownBy w' v.ownBlock ∧ (v'.ownBlock = v.ownBlock ∨ ∀ g, v'.ownBlock = some g → w.heap.size ≤ g) := by
  obtain ⟨i0, hi0, hz0, hz1, hz2⟩ := info_parts fbyte_info
  obtain ⟨Av, cv, rfl, hvc, hvm, _⟩ := own_slice hv
  have hcut := cut_h A r.length c m (by omega)
  have Hr := Lib.hid hr
  have Hv := Lib.hid hv
  clear hr hv
  go_enter Tryz.func240, Tryz.ntmps240
  go_wp2_with (at_builtin; (refine wpList_append_rd _ rfl _ _ 47 rfl 0 5 i0 (.int .u8 0) 1 1 Tryz.underlying47 hi0 hz0 hz1 hz2 rfl (by omega) (.slice Av b.length cv) b.length (bvs b) rfl (Hv.out.alloc _) B A m c (bvs (r.take m)) rfl (by simp [bvs]; omega) (by rw [bvs_take]; exact (Hr.out.alloc hB _).take m) (bvs_one _) (by unfold maxLen; omega) (by omega) (Nat.zero_le _) ?_); intro v1 w1 hown1 hbw1 hg1 hv1)
  go_ret
  refine ⟨v1, rfl, ?_, ?_, ?_⟩
  · rw [bvs_append, List.length_append, List.length_take, show min m r.length = m by omega]
    exact hown1
  · exact ⟨hg1.os, hg1.tape, hg1.output, Nat.le_trans (by simp) hg1.size, fun k hk hne => (hg1.block k (by simp; omega) hne).trans (Below.heap_alloc w _ k hk)⟩
  · rcases hv1 with h | h
    · exact .inl h
    · exact .inr fun g hg => by rw [h] at hg; injection hg with hg; simp at hg; omega
theorem own_take {w : World} {v : Value} {A : Option Addr} {l : List UInt8} {c s : Nat} (h : w.ownsRow 0 5 1 (.slice A l.length c) l.length (bvs l)) (hs : s ≤ l.length) : w.ownsRow 0 5 1 (.slice A s c) (l.take s).length (bvs (l.take s)) := by
  have hl : (l.take s).length = s := by rw [List.length_take]; omega
  rw [hl]
  refine ⟨by rw [bvs_length]; omega, ?_⟩
  rcases h.2 with ⟨e, hn⟩ | ⟨g, cap, cur, e, hg, hc, h1, h2, h3, h4⟩
  · injection e with e1 e2 e3
    subst e1 e3
    exact .inl ⟨by rw [show s = 0 by omega], by omega⟩
  · injection e with e1 e2 e3
    subst e1 e3
    refine .inr ⟨g, _, cur, rfl, hg, hc, by omega, h2, h3, ?_⟩
    rw [bvs_take, ← h4, List.take_take]
    congr 1
    omega
theorem cut_do (s m : Nat) (v : Value) (b : List UInt8) (w : World) (hm : m = 0 ∨ s ≤ b.length) (hs : s < 9223372036854775808)
    (hv : w.ownsRow 0 5 1 v b.length (bvs b)) (hm1 : m ≤ 1) :
    Calls Tryz.prog 237 #[.agg #[.int .i64 (s : Int)], v, .int .i64 (m : Int)] w fun e w' => ∃ v', e = .returned v' ∧ w'.ownsRow 0 5 1 v' ((Deed.cut s).act b m).length (bvs ((Deed.cut s).act b m)) ∧
      w.grownBy w' v.ownBlock ∧ (v'.ownBlock = v.ownBlock ∨ ∀ g, v'.ownBlock = some g → w.heap.size ≤ g) := by
  obtain ⟨Av, cv, rfl, hvc, hvm, _⟩ := own_slice hv
  have Hv := Lib.hid hv
  clear hv
  have hb : Below w.heap.size w (w.alloc (.cells #[.int .i64 (s : Int)] 157)) := (Below.refl _ _).alloc (Nat.le_refl _) _
  have Hg : Hid (w.grownBy (w.alloc (.cells #[.int .i64 (s : Int)] 157)) (Value.slice Av b.length cv).ownBlock) := World.grownBy_alloc _ _ _
  rcases (show m = 0 ∨ m = 1 by omega) with rfl | rfl
  · go_enter Tryz.func237, Tryz.ntmps237
    go_wp2_with fail
    go_ret
    exact ⟨_, rfl, Hv.out.alloc _, Hg.out, .inl rfl⟩
  · have hsb : s ≤ b.length := by omega
    have hcut := cut_h Av b.length cv s (by omega)
    go_enter Tryz.func237, Tryz.ntmps237
    go_wp2_with fail
    go_ret
    refine ⟨_, rfl, ?_, Hg.out, .inl ?_⟩
    · show (w.alloc _).ownsRow 0 _ 1 _ (b.take s).length (bvs (b.take s))
      exact own_take (v := .nilIface) (Hv.out.alloc _) hsb
    · cases Av <;> rfl
end Go.Proofs.YtaicibmaogiibaaGreatDoor

/- FxAt -/

/-
  Layer 5: a file in memory: its own cell block, its bytes' blocks, its deeds' block, and the blocks (R) that its deeds' bytes lie in, which nobody writes.
-/
set_option linter.unusedVariables false
set_option linter.unusedSimpArgs false
namespace Go.Proofs.YtaicibmaogiibaaGreatDoor
open Go.RowKit

/-- the slice at A reads as xs, out of a block of R -/
def RdR (w : World) (R : Nat → Prop) (A : Option Addr) (xs : List Value) : Prop :=
  xs ≠ [] → ∃ b o, A = some ⟨b, o, none⟩ ∧ R b ∧ ∀ j u, xs[j]? = some u → w.cell? ⟨b, o + j, none⟩ = some u
theorem RdR.rd {w : World} {R : Nat → Prop} {A : Option Addr} {xs : List Value} (h : RdR w R A xs) : Rd w w.heap.size A xs := fun hx => by
  obtain ⟨b, o, e, _, hc⟩ := h hx
  refine ⟨b, o, e, ?_, hc⟩
  rcases xs with _ | ⟨x, r⟩
  · exact absurd rfl hx
  · exact fblock_of_cell (hc 0 x rfl)
theorem RdR.mono {w : World} {R R' : Nat → Prop} {A : Option Addr} {xs : List Value} (h : RdR w R A xs) (hR : ∀ i, R i → R' i) : RdR w R' A xs := fun hx => by
  obtain ⟨b, o, e, hb, hc⟩ := h hx
  exact ⟨b, o, e, hR b hb, hc⟩
/-- the value v is the deed d -/
def DeedAt (w : World) (R : Nat → Prop) (v : Value) : Deed → Prop
  | .added r => ∃ A c, v = addV A r.length c ∧ r.length ≤ c ∧ RdR w R A (bvs r)
  | .cut s => v = cutV s ∧ s < 100000000
theorem DeedAt.mono {w : World} {R R' : Nat → Prop} {v : Value} {d : Deed} (h : DeedAt w R v d) (hR : ∀ i, R i → R' i) : DeedAt w R' v d := by
  cases d with
  | added r => obtain ⟨A, c, e, hc, hr⟩ := h; exact ⟨A, c, e, hc, hr.mono hR⟩
  | cut s => exact h
theorem RdR.chg {M R : Nat → Prop} {w w' : World} {A : Option Addr} {xs : List Value} (h : RdR w R A xs) (hc : Chg M w w') (hM : ∀ i, M i → ¬ R i) : RdR w' R A xs := fun hx => by
  obtain ⟨b, o, e, hb, hcell⟩ := h hx
  exact ⟨b, o, e, hb, fun j u hu => (hc.cell (p := ⟨b, o + j, none⟩) (fblock_of_cell (hcell j u hu)) (fun e => hM b e hb)).trans (hcell j u hu)⟩
theorem DeedAt.chg {M R : Nat → Prop} {w w' : World} {v : Value} {d : Deed} (h : DeedAt w R v d) (hc : Chg M w w') (hM : ∀ i, M i → ¬ R i) : DeedAt w' R v d := by
  cases d with
  | added r => obtain ⟨A, c, e, hc', hr⟩ := h; exact ⟨A, c, e, hc', hr.chg hc hM⟩
  | cut s => exact h
theorem DeedAt.one {w : World} {R : Nat → Prop} {v : Value} {d : Deed} (h : DeedAt w R v d) : v.oneCell' = true := by
  cases d with
  | added r => obtain ⟨A, c, rfl, _⟩ := h; rfl
  | cut s => obtain ⟨rfl, _⟩ := h; rfl
def DeedsAt (w : World) (R : Nat → Prop) (vs : List Value) (ds : List Deed) : Prop := vs.length = ds.length ∧ ∀ (i : Nat) v d, vs[i]? = some v → ds[i]? = some d → DeedAt w R v d
theorem DeedsAt.chg {M R : Nat → Prop} {w w' : World} {vs : List Value} {ds : List Deed} (h : DeedsAt w R vs ds) (hc : Chg M w w') (hM : ∀ i, M i → ¬ R i) : DeedsAt w' R vs ds :=
  ⟨h.1, fun i v d hv hd => (h.2 i v d hv hd).chg hc hM⟩
theorem DeedsAt.mono {R R' : Nat → Prop} {w : World} {vs : List Value} {ds : List Deed} (h : DeedsAt w R vs ds) (hR : ∀ i, R i → R' i) : DeedsAt w R' vs ds :=
  ⟨h.1, fun i v d hv hd => (h.2 i v d hv hd).mono hR⟩
theorem DeedsAt.one {w : World} {R : Nat → Prop} {vs : List Value} {ds : List Deed} (h : DeedsAt w R vs ds) : ∀ u ∈ vs, u.oneCell' = true := fun u hu => by
  obtain ⟨i, hi, rfl⟩ := List.mem_iff_getElem.1 hu
  exact (h.2 i _ (ds[i]'(by rw [← h.1]; exact hi)) (List.getElem?_eq_getElem hi) (List.getElem?_eq_getElem _)).one
theorem DeedsAt.add {w : World} {R : Nat → Prop} {vs : List Value} {ds : List Deed} {v : Value} {d : Deed} (h : DeedsAt w R vs ds) (hd : DeedAt w R v d) : DeedsAt w R (vs ++ [v]) (ds ++ [d]) := by
  refine ⟨by simp [h.1], fun i v' d' hv hd' => ?_⟩
  rw [List.getElem?_append] at hv hd'
  rw [h.1] at hv
  split at hv
  · rename_i hi
    rw [if_pos hi] at hd'
    exact h.2 i v' d' hv hd'
  · rename_i hi
    rw [if_neg hi] at hd'
    rcases hk : i - ds.length with _ | k
    · rw [hk] at hv hd'
      simp at hv hd'
      subst hv hd'
      exact hd
    · rw [hk] at hv
      simp at hv
theorem DeedsAt.nil_ {w : World} {R : Nat → Prop} : DeedsAt w R [] [] := ⟨rfl, fun i v d hv => by simp at hv⟩

/-- the cells of a file -/
structure FCells (w : World) (F : Nat) (vs vt vd : Value) (kept loose : Nat) : Prop where
  c0 : w.cell? ⟨F, 0, none⟩ = some vs
  c1 : w.cell? ⟨F, 1, none⟩ = some (.int .i64 (kept : Int))
  c2 : w.cell? ⟨F, 2, none⟩ = some vt
  c3 : w.cell? ⟨F, 3, none⟩ = some vd
  c4 : w.cell? ⟨F, 4, none⟩ = some (.int .i64 (loose : Int))
  f0 : w.frozen? ⟨F, 0, none⟩ = false
  f1 : w.frozen? ⟨F, 1, none⟩ = false
  f2 : w.frozen? ⟨F, 2, none⟩ = false
  f3 : w.frozen? ⟨F, 3, none⟩ = false
  f4 : w.frozen? ⟨F, 4, none⟩ = false
theorem FCells.lt {w : World} {F : Nat} {vs vt vd : Value} {kept loose : Nat} (h : FCells w F vs vt vd kept loose) : F < w.heap.size := fblock_of_cell h.c0
theorem FCells.of_block {w w' : World} {F : Nat} {vs vt vd : Value} {kept loose : Nat} (h : FCells w F vs vt vd kept loose) (hb : w'.heap[F]? = w.heap[F]?) : FCells w' F vs vt vd kept loose := by
  have hc : ∀ o, w'.cell? ⟨F, o, none⟩ = w.cell? ⟨F, o, none⟩ := fun o => World.cell?_of_block hb
  have hf : ∀ o, w'.frozen? ⟨F, o, none⟩ = w.frozen? ⟨F, o, none⟩ := fun o => World.frozen?_of_block hb
  exact ⟨(hc 0).trans h.c0, (hc 1).trans h.c1, (hc 2).trans h.c2, (hc 3).trans h.c3, (hc 4).trans h.c4, (hf 0).trans h.f0, (hf 1).trans h.f1, (hf 2).trans h.f2, (hf 3).trans h.f3, (hf 4).trans h.f4⟩
theorem FCells.on {w w' : World} {F : Nat} {vs vt vd : Value} {kept loose : Nat} (h : FCells w F vs vt vd kept loose) (hb : Below w.heap.size w w') : FCells w' F vs vt vd kept loose := h.of_block (hb.block F h.lt)
theorem FCells.drew {w : World} {F : Nat} {vs vt vd : Value} {kept loose : Nat} (h : FCells w F vs vt vd kept loose) : FCells w.drew F vs vt vd kept loose := h.of_block rfl
section
variable {w : World} {F : Nat} {vs vt vd : Value} {kept loose : Nat}
theorem FCells.set0 (h : FCells w F vs vt vd kept loose) (v : Value) : FCells (w.setCell ⟨F, 0, none⟩ v) F v vt vd kept loose := by
  obtain ⟨c0, c1, c2, c3, c4, f0, f1, f2, f3, f4⟩ := h
  refine ⟨World.cell?_setCell_same _ _ _ c0, ?_, ?_, ?_, ?_, by rw [World.frozen?_setCell]; assumption, by rw [World.frozen?_setCell]; assumption, by rw [World.frozen?_setCell]; assumption, by rw [World.frozen?_setCell]; assumption, by rw [World.frozen?_setCell]; assumption⟩ <;>
    (rw [World.cell?_setCell_other _ _ _ _ (by intro e; injection e with e1 e2; omega)]; assumption)
theorem FCells.set1 (h : FCells w F vs vt vd kept loose) (k : Nat) : FCells (w.setCell ⟨F, 1, none⟩ (.int .i64 (k : Int))) F vs vt vd k loose := by
  obtain ⟨c0, c1, c2, c3, c4, f0, f1, f2, f3, f4⟩ := h
  refine ⟨?_, World.cell?_setCell_same _ _ _ c1, ?_, ?_, ?_, by rw [World.frozen?_setCell]; assumption, by rw [World.frozen?_setCell]; assumption, by rw [World.frozen?_setCell]; assumption, by rw [World.frozen?_setCell]; assumption, by rw [World.frozen?_setCell]; assumption⟩ <;>
    (rw [World.cell?_setCell_other _ _ _ _ (by intro e; injection e with e1 e2; omega)]; assumption)
theorem FCells.set2 (h : FCells w F vs vt vd kept loose) (v : Value) : FCells (w.setCell ⟨F, 2, none⟩ v) F vs v vd kept loose := by
  obtain ⟨c0, c1, c2, c3, c4, f0, f1, f2, f3, f4⟩ := h
  refine ⟨?_, ?_, World.cell?_setCell_same _ _ _ c2, ?_, ?_, by rw [World.frozen?_setCell]; assumption, by rw [World.frozen?_setCell]; assumption, by rw [World.frozen?_setCell]; assumption, by rw [World.frozen?_setCell]; assumption, by rw [World.frozen?_setCell]; assumption⟩ <;>
    (rw [World.cell?_setCell_other _ _ _ _ (by intro e; injection e with e1 e2; omega)]; assumption)
theorem FCells.set3 (h : FCells w F vs vt vd kept loose) (v : Value) : FCells (w.setCell ⟨F, 3, none⟩ v) F vs vt v kept loose := by
  obtain ⟨c0, c1, c2, c3, c4, f0, f1, f2, f3, f4⟩ := h
  refine ⟨?_, ?_, ?_, World.cell?_setCell_same _ _ _ c3, ?_, by rw [World.frozen?_setCell]; assumption, by rw [World.frozen?_setCell]; assumption, by rw [World.frozen?_setCell]; assumption, by rw [World.frozen?_setCell]; assumption, by rw [World.frozen?_setCell]; assumption⟩ <;>
    (rw [World.cell?_setCell_other _ _ _ _ (by intro e; injection e with e1 e2; omega)]; assumption)
theorem FCells.set4 (h : FCells w F vs vt vd kept loose) (k : Nat) : FCells (w.setCell ⟨F, 4, none⟩ (.int .i64 (k : Int))) F vs vt vd kept k := by
  obtain ⟨c0, c1, c2, c3, c4, f0, f1, f2, f3, f4⟩ := h
  refine ⟨?_, ?_, ?_, ?_, World.cell?_setCell_same _ _ _ c4, by rw [World.frozen?_setCell]; assumption, by rw [World.frozen?_setCell]; assumption, by rw [World.frozen?_setCell]; assumption, by rw [World.frozen?_setCell]; assumption, by rw [World.frozen?_setCell]; assumption⟩ <;>
    (rw [World.cell?_setCell_other _ _ _ _ (by intro e; injection e with e1 e2; omega)]; assumption)
theorem FCells.new (w : World) (vs vt vd : Value) (kept loose : Nat) (t : TypeId) : FCells (w.alloc (.cells #[vs, .int .i64 (kept : Int), vt, vd, .int .i64 (loose : Int)] t)) w.heap.size vs vt vd kept loose := by
  refine ⟨by simp, by simp, by simp, by simp, by simp, by simp, by simp, by simp, by simp, by simp⟩
end
/-- the blocks that are a file's own -/
def FOwn (F : Nat) (vs vt vd : Value) (i : Nat) : Prop := i = F ∨ vs.ownBlock = some i ∨ vt.ownBlock = some i ∨ vd.ownBlock = some i
structure FApart (F : Nat) (vs vt vd : Value) : Prop where
  s : vs.ownBlock ≠ some F
  t : vt.ownBlock ≠ some F
  d : vd.ownBlock ≠ some F
  st : ∀ g, vs.ownBlock = some g → vt.ownBlock ≠ some g
  sd : ∀ g, vs.ownBlock = some g → vd.ownBlock ≠ some g
  td : ∀ g, vt.ownBlock = some g → vd.ownBlock ≠ some g
/-- a file's memory -/
structure FileAt (w : World) (F : Nat) (R : Nat → Prop) (vs vt vd : Value) (dvs : List Value) (s : FSt) : Prop where
  cells : FCells w F vs vt vd s.kept s.loose
  safe : w.ownsRow 0 5 1 vs s.safe.length (bvs s.safe)
  tail : w.ownsRow 0 5 1 vt s.tail.length (bvs s.tail)
  deeds : w.ownsRow 0 189 1 vd s.deeds.length dvs
  each : DeedsAt w R dvs s.deeds
  apart : FApart F vs vt vd
  rows : ∀ i, FOwn F vs vt vd i → ¬ R i
section
variable {w w' : World} {F : Nat} {R M : Nat → Prop} {vs vt vd : Value} {dvs : List Value} {s : FSt}
theorem FileAt.lt (h : FileAt w F R vs vt vd dvs s) : ∀ i, FOwn F vs vt vd i → i < w.heap.size := by
  rintro i (rfl | hi | hi | hi)
  · exact h.cells.lt
  · exact (h.safe.lt i hi).2
  · exact (h.tail.lt i hi).2
  · exact (h.deeds.lt i hi).2
theorem FileAt.chg (h : FileAt w F R vs vt vd dvs s) (hc : Chg M w w') (hM : ∀ i, M i → ¬ FOwn F vs vt vd i ∧ ¬ R i) : FileAt w' F R vs vt vd dvs s :=
  ⟨h.cells.of_block (hc.block F h.cells.lt (fun e => (hM F e).1 (.inl rfl))), hc.own h.safe (fun g hg e => (hM g e).1 (.inr (.inl hg))), hc.own h.tail (fun g hg e => (hM g e).1 (.inr (.inr (.inl hg)))),
   hc.own h.deeds (fun g hg e => (hM g e).1 (.inr (.inr (.inr hg)))), h.each.chg hc (fun i e => (hM i e).2), h.apart, h.rows⟩
end
/-- the file in block F holds s; its own blocks are in M, its deeds' bytes in R -/
def FileM (w : World) (F : Nat) (M R : Nat → Prop) (s : FSt) : Prop :=
  s.Ok ∧ (∀ i, M i → ¬ R i) ∧ (∀ i, M i → i < w.heap.size) ∧ (∀ i, R i → i < w.heap.size) ∧ ∃ vs vt vd dvs, FileAt w F R vs vt vd dvs s ∧ ∀ i, FOwn F vs vt vd i → M i
section
variable {w w' : World} {F : Nat} {R M N : Nat → Prop} {s : FSt}
theorem FileM.ok (h : FileM w F M R s) : s.Ok := h.1
theorem FileM.chg (h : FileM w F M R s) (hc : Chg N w w') (hN : ∀ i, N i → ¬ M i ∧ ¬ R i) : FileM w' F M R s := by
  obtain ⟨ho, h1, h2, h3, vs, vt, vd, dvs, h, h4⟩ := h
  exact ⟨ho, h1, fun i hi => Nat.lt_of_lt_of_le (h2 i hi) hc.size, fun i hi => Nat.lt_of_lt_of_le (h3 i hi) hc.size, vs, vt, vd, dvs, h.chg hc (fun i e => ⟨fun e' => (hN i e).1 (h4 i e'), (hN i e).2⟩), h4⟩
theorem FileM.on (h : FileM w F M R s) (hb : Below w.heap.size w w') : FileM w' F M R s := h.chg (Chg.of_below (M := fun _ => False) hb) (fun i e => e.elim)
theorem FileM.drew (h : FileM w F M R s) : FileM w.drew F M R s := h.on (Below.refl _ _).drew
end
/-- what a call leaves that changes the file -/
def Mut (w w' : World) (F : Nat) (M R : Nat → Prop) (s : FSt) : Prop :=
  ∃ M' R', FileM w' F M' R' s ∧ Chg M w w' ∧ (∀ i, M' i → M i ∨ w.heap.size ≤ i) ∧ (∀ i, R' i → R i ∨ w.heap.size ≤ i)
end Go.Proofs.YtaicibmaogiibaaGreatDoor

