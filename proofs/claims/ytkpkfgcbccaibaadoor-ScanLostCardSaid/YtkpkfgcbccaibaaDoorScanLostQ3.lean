/-
  ScanLost, part 3 of what the law's proof leans on: ArgsS, HdPlain, RcRead, RcRow, RcIn.
-/
import Derived.Test.YtkpkfgcbccaibaaDoorRows
import Derived.WalkKit
import Derived.ProofKit
import Derived.OpenShut
import Derived.ChangeOld
import Derived.Below
import Derived.SizedLaws
import Derived.Lib.SmallJoins
import Derived.Deep.Slices
import Derived.Test.YtkpkfgcbccaibaaDoorScanLostQ1
import Derived.Test.YtkpkfgcbccaibaaDoorScanLostQ2
import Derived.BigRegion
import Derived.RegionTactic
import Derived.Deep.OwnRows
/- ArgsS -/

/-
  Layer 12: the laws' argument opened: a slice of plain records (each two bytes and a 16-bit number).
-/
set_option linter.unusedVariables false
set_option linter.unusedSimpArgs false
namespace Go.Proofs.YtkpkfgcbccaibaaDoor.Sc
open Go Go.ChangeShapes Go.WideShapes Go.ChangeAt Go.RowKit Go.Joins Go.Deep

/-- how far its number is above the one ahead (less one), how long its key (less one) and its value are -/
structure Pl where
  above : Nat
  key : Nat
  val : Nat
/-- the cells at block b from o on are one -/
def PlAt (w : World) (b o : Nat) (a : Pl) : Prop :=
  w.cell? ⟨b, o, none⟩ = some (.int .u8 (a.above : Int)) ∧ w.cell? ⟨b, o + 1, none⟩ = some (.int .u8 (a.key : Int)) ∧ w.cell? ⟨b, o + 2, none⟩ = some (.int .u16 (a.val : Int)) ∧ a.above < 256 ∧ a.key < 256 ∧ a.val < 65536
/-- The value v is a slice that reads as these, and lies below block B. -/
def Pls (w : World) (B : Nat) (v : Value) (l : List Pl) : Prop := ∃ A c, v = .slice A l.length c ∧ l.length ≤ c ∧ c ≤ maxLen ∧
  ∀ (i : Nat) a, l[i]? = some a → ∃ b o, A = some ⟨b, o, none⟩ ∧ b < B ∧ PlAt w b (o + i * 3) a

theorem padd (b o i : Nat) : (⟨b, o, none⟩ : Addr).add i = ⟨b, o + i, none⟩ := by
  unfold Addr.add
  split
  · rename_i h; rw [h]; rfl
  · rfl
section
variable {H : Type} {enc : TypeId × Value → H} {W : World} {held : Bool} {r : Reach} {base : Nat}
theorem wf_u8 {z : Int} (h : (Lit.int .u8 z).wf = true) : 0 ≤ z ∧ z < 256 := by
  have := bounds_u8 h
  omega
theorem wf_u16 {z : Int} (h : (Lit.int .u16 z).wf = true) : 0 ≤ z ∧ z < 65536 := by
  have := bounds_u16 h
  omega
set_option maxRecDepth 100000 in
theorem open_pl {n : Nat} {cs : List Value} {x : DataW H × List MemPlace} (hl : cs.length = 3) (h : DataW.trod enc Tryd.prog W 0 (fun _ => true) held n 85 cs = some x) :
    ∃ a : Pl, cs = [.int .u8 (a.above : Int), .int .u8 (a.key : Int), .int .u16 (a.val : Int)] ∧ a.above < 256 ∧ a.key < 256 ∧ a.val < 65536 := by
  obtain ⟨c0, c1, c2, rfl⟩ : ∃ c0 c1 c2, cs = [c0, c1, c2] := by
    match cs, hl with
    | [c0, c1, c2], _ => exact ⟨c0, c1, c2, rfl⟩
  have k1 : Tryd.prog.cellsOf 5 = 1 := by kernel_rfl
  have k2 : Tryd.prog.cellsOf 56 = 1 := by kernel_rfl
  obtain ⟨ys, m, _, _, _, hyl, hf⟩ := DataW.trod_struct Tryd.underlying85 h
  match ys, hyl with
  | [y0, y1, y2], _ =>
    have f0 : DataW.trod enc Tryd.prog W 0 (fun _ => true) held m 5 [c0] = some y0 := by simpa [k1] using hf 0 _ rfl
    have f1 : DataW.trod enc Tryd.prog W 0 (fun _ => true) held m 5 [c1] = some y1 := by simpa [k1] using hf 1 _ rfl
    have f2 : DataW.trod enc Tryd.prog W 0 (fun _ => true) held m 56 [c2] = some y2 := by simpa [k2] using hf 2 _ rfl
    obtain ⟨a0, e0, _, w0⟩ := DataW.trod_int Tryd.underlying5 f0
    obtain ⟨a1, e1, _, w1⟩ := DataW.trod_int Tryd.underlying5 f1
    obtain ⟨a2, e2, _, w2⟩ := DataW.trod_int Tryd.underlying56 f2
    injection e0 with e0
    injection e1 with e1
    injection e2 with e2
    subst e0 e1 e2
    have b0 := wf_u8 w0
    have b1 := wf_u8 w1
    have b2 := wf_u16 w2
    refine ⟨⟨a0.toNat, a1.toNat, a2.toNat⟩, ?_, by simp only; omega, by simp only; omega, by simp only; omega⟩
    simp only [Int.toNat_of_nonneg b0.1, Int.toNat_of_nonneg b1.1, Int.toNat_of_nonneg b2.1]

set_option maxRecDepth 100000 in
theorem open_pls {v : Value} {d : DataW H} {p : List MemPlace} (hv : Value.okWide Tryd.prog W r base 55 v) (h : DataW.Trod enc Tryd.prog W 0 (fun _ => true) held 55 v d p) :
    ∃ l : List Pl, Pls W W.heap.size v l := by
  obtain ⟨cc, len, cap, rfl⟩ := okWide_slice Tryd.underlying55 hv
  obtain ⟨fuel, hf⟩ := h
  have k4 : Tryd.prog.cellsOf 85 = 3 := by kernel_rfl
  rcases open_slice Tryd.underlying55 hf with ⟨hcs, _⟩ | ⟨a, ln, cp, m, n, D, Pl_, hcs, _, hl, hm, hmm, _, hi⟩
  · simp [Value.cells] at hcs
    obtain ⟨rfl, rfl, rfl⟩ := hcs
    exact ⟨[], none, 0, rfl, Nat.le_refl _, Nat.zero_le _, by simp⟩
  · simp [Value.cells] at hcs
    obtain ⟨rfl, rfl, rfl⟩ := hcs
    simp only [if_true] at hmm
    subst hmm
    rw [k4] at hi
    have each : ∀ i, i < len → ∃ x : Pl, PlAt W a.block (a.off + i * 3) x ∧ a.spot = none := fun i hlt => by
      obtain ⟨cs, hc, ht⟩ := hi i (by omega)
      obtain ⟨_, hcl, hat⟩ := World.cells?_some hc
      obtain ⟨x, rfl, hb⟩ := open_pl hcl ht
      have h0 := hat 0 (by omega)
      have h1 := hat 1 (by omega)
      have h2 := hat 2 (by omega)
      have hsp0 : a.spot = none := by
        obtain ⟨cs0, hc0, _⟩ := hi 0 (by omega)
        obtain ⟨_, hcl0, hat0⟩ := World.cells?_some hc0
        have h00 := hat0 0 (by omega)
        rw [Nat.zero_mul] at h00
        have e : (a.add 0).add 0 = a := by unfold Addr.add; simp
        rw [e] at h00
        have h01 : 0 < cs0.length := by omega
        rw [List.getElem?_eq_getElem h01] at h00
        exact World.cell?_spot h00
      obtain ⟨b, o, sp⟩ := a
      have hsp : sp = none := hsp0
      subst hsp
      rw [padd, padd] at h0 h1 h2
      exact ⟨x, ⟨h0, h1, h2, hb⟩, rfl⟩
    have hex : ∃ f : Nat → Pl, ∀ i, i < len → PlAt W a.block (a.off + i * 3) (f i) ∧ a.spot = none :=
      ⟨fun i => if h : i < len then (each i h).choose else ⟨0, 0, 0⟩, fun i h => by
        simp only [h, dif_pos]
        exact (each i h).choose_spec⟩
    obtain ⟨f, hfs⟩ := hex
    have hln : ((List.range len).map f).length = len := by simp
    refine ⟨(List.range len).map f, some a, _, by rw [hln], by rw [hln]; exact hl, hm, ?_⟩
    intro i x hx
    have hlt : i < len := by
      have := (List.getElem?_eq_some_iff.1 hx).1
      rw [hln] at this
      exact this
    have hx' : x = f i := by
      rw [List.getElem?_map, List.getElem?_range hlt] at hx
      simpa using hx.symm
    subst hx'
    obtain ⟨h1, h2⟩ := hfs i hlt
    obtain ⟨b, o, sp⟩ := a
    simp only at h2
    subst h2
    exact ⟨b, o, rfl, (by
      have := h1.1
      unfold World.cell? at this
      by_cases hb : b < W.heap.size
      · exact hb
      · simp [Array.getElem?_eq_none (Nat.not_lt.1 hb)] at this), h1⟩
end
end Go.Proofs.YtkpkfgcbccaibaaDoor.Sc

/- HdPlain -/

/-
  Layer 10, plain mathematics: heads of files as bytes, what bytes begin with, turned bits.
-/
set_option linter.unusedVariables false
set_option linter.unusedSimpArgs false
namespace Go.Proofs.YtkpkfgcbccaibaaDoor.Hd
open Go.RowKit

/-- the seven letters -/
def letters : List UInt8 := [104, 111, 117, 114, 98, 107, 49]
theorem letters_length : letters.length = 7 := rfl
/-- what is covered -/
def bodyL (k n : Nat) : List UInt8 := letters ++ (Px.leL k 1 ++ Px.leL n 4)
theorem bodyL_length (k n : Nat) : (bodyL k n).length = 12 := by simp [bodyL, letters_length, Px.leL_length]
/-- a file's head -/
def headL (k n : Nat) : List UInt8 := Cx.cover (bodyL k n)
theorem headL_length (k n : Nat) : (headL k n).length = 16 := by rw [headL, Cx.cover_length, bodyL_length]
/-- whether there is a head of that kind and id -/
def mayB (k n : Int) : Bool := decide ((k = 1 ∧ 1 ≤ n ∧ n ≤ 16777215) ∨ (k = 2 ∧ n = 0))
def kindN (l : List UInt8) : Nat := Px.rdN (l.drop 7) 1
def idN (l : List UInt8) : Nat := Px.rdN (l.drop 8) 4
/-- what bytes begin with: kind, id, error -/
def getQ (l : List UInt8) : Nat × Nat × Nat :=
  if l.length < 16 then (0, 0, 22)
  else if mayB (kindN l) (idN l) = true ∧ l.take 16 = headL (kindN l) (idN l) then (kindN l, idN l, 0) else (0, 0, 23)
/-- whether they begin with that kind and id: the error -/
def checkN (l : List UInt8) (k n : Int) : Nat :=
  if (getQ l).2.2 = 0 then (if ((getQ l).1 : Int) = k ∧ ((getQ l).2.1 : Int) = n then 0 else 23) else (getQ l).2.2

theorem may_lt {k n : Int} (h : mayB k n = true) : 1 ≤ k ∧ k ≤ 2 ∧ 0 ≤ n ∧ n ≤ 16777215 := by
  simp [mayB] at h
  omega
theorem kind_head {k n : Nat} (h : mayB k n = true) (m : List UInt8) : kindN (headL k n ++ m) = k := by
  have := may_lt h
  unfold kindN headL Cx.cover bodyL
  simp only [List.append_assoc]
  rw [List.drop_left' letters_length, Px.rdN_fix _ _ _ (Nat.div_eq_of_lt (by simp; omega))]
theorem id_head {k n : Nat} (h : mayB k n = true) (m : List UInt8) : idN (headL k n ++ m) = n := by
  have := may_lt h
  unfold idN headL Cx.cover bodyL
  simp only [List.append_assoc]
  rw [show 8 = 7 + 1 by rfl, ← List.drop_drop, List.drop_left' letters_length, List.drop_left' (Px.leL_length _ _), Px.rdN_fix _ _ _ (Nat.div_eq_of_lt (by simp; omega))]
/-- a head, whatever stands behind -/
theorem get_head {k n : Nat} (h : mayB k n = true) (m : List UInt8) : getQ (headL k n ++ m) = (k, n, 0) := by
  unfold getQ
  rw [kind_head h, id_head h, if_neg (by rw [List.length_append, headL_length]; omega), if_pos ⟨h, List.take_left' (headL_length k n)⟩]
/-- a beginning of bytes -/
theorem get_short {l : List UInt8} (h : l.length < 16) : getQ l = (0, 0, 22) := by
  unfold getQ
  rw [if_pos h]
/-- bits within 32 in a row are turned -/
theorem get_turned {k n : Nat} {b : BitVec 32} {first t : Nat} {l : List UInt8} (ht : Cx.turned (headL k n) b first t l) (hk : t ≤ 32) (h0 : 0 < t) (hb : b.getLsbD 0 = true) (m : List UInt8) :
    getQ (l ++ m) = (0, 0, 23) := by
  have hw := Cx.turned_wrong ht (by rw [headL_length]; omega) (Cx.right_cover _) hk h0 hb
  have hl : l.length = 16 := by rw [ht.1, headL_length]
  unfold getQ
  rw [if_neg (by rw [List.length_append]; omega), if_neg ?_]
  rintro ⟨_, e⟩
  rw [List.take_left' hl] at e
  rw [e, headL, Cx.right_cover] at hw
  cases hw
theorem check_head {k n : Nat} (h : mayB k n = true) (m : List UInt8) (k' n' : Int) : checkN (headL k n ++ m) k' n' = if (k : Int) = k' ∧ (n : Int) = n' then 0 else 23 := by
  unfold checkN
  rw [get_head h m]
  simp
theorem check_turned {k n : Nat} {b : BitVec 32} {first t : Nat} {l : List UInt8} (ht : Cx.turned (headL k n) b first t l) (hk : t ≤ 32) (h0 : 0 < t) (hb : b.getLsbD 0 = true) (m : List UInt8) (k' n' : Int) : checkN (l ++ m) k' n' = 23 := by
  unfold checkN
  rw [get_turned ht hk h0 hb m]
  simp

end Go.Proofs.YtkpkfgcbccaibaaDoor.Hd

/- RcRead -/

/-
  Layer 8: the walks of read, blank, fill.
-/
set_option linter.unusedVariables false
set_option linter.unusedSimpArgs false
namespace Go.Proofs.YtkpkfgcbccaibaaDoor
open Go.RowKit

/-- one field of a head -/
def Rc.fieldN (l : List UInt8) (o n : Nat) : Nat := Px.rdN (l.drop o) n
/-- what a head tells, the first j fields of it -/
def toldA (l : List UInt8) (j : Nat) : Array Value :=
  match j with
  | 0 => #[.int .u64 0, .int .u64 0, .int .u64 0, .int .u64 0, .int .u64 0, .int .u64 0]
  | 1 => #[.int .u64 ((Rc.fieldN l 0 1 : Nat) : Int), .int .u64 0, .int .u64 0, .int .u64 0, .int .u64 0, .int .u64 0]
  | 2 => #[.int .u64 ((Rc.fieldN l 0 1 : Nat) : Int), .int .u64 ((Rc.fieldN l 1 1 : Nat) : Int), .int .u64 0, .int .u64 0, .int .u64 0, .int .u64 0]
  | 3 => #[.int .u64 ((Rc.fieldN l 0 1 : Nat) : Int), .int .u64 ((Rc.fieldN l 1 1 : Nat) : Int), .int .u64 ((Rc.fieldN l 2 2 : Nat) : Int), .int .u64 0, .int .u64 0, .int .u64 0]
  | 4 => #[.int .u64 ((Rc.fieldN l 0 1 : Nat) : Int), .int .u64 ((Rc.fieldN l 1 1 : Nat) : Int), .int .u64 ((Rc.fieldN l 2 2 : Nat) : Int), .int .u64 ((Rc.fieldN l 4 6 : Nat) : Int), .int .u64 0, .int .u64 0]
  | 5 => #[.int .u64 ((Rc.fieldN l 0 1 : Nat) : Int), .int .u64 ((Rc.fieldN l 1 1 : Nat) : Int), .int .u64 ((Rc.fieldN l 2 2 : Nat) : Int), .int .u64 ((Rc.fieldN l 4 6 : Nat) : Int), .int .u64 ((Rc.fieldN l 10 3 : Nat) : Int), .int .u64 0]
  | _ => #[.int .u64 ((Rc.fieldN l 0 1 : Nat) : Int), .int .u64 ((Rc.fieldN l 1 1 : Nat) : Int), .int .u64 ((Rc.fieldN l 2 2 : Nat) : Int), .int .u64 ((Rc.fieldN l 4 6 : Nat) : Int), .int .u64 ((Rc.fieldN l 10 3 : Nat) : Int), .int .u64 ((Rc.fieldN l 13 4 : Nat) : Int)]
def toldV (l : List UInt8) : Value := .agg #[.int .u64 ((Rc.fieldN l 0 1 : Nat) : Int), .int .u64 ((Rc.fieldN l 1 1 : Nat) : Int), .int .u64 ((Rc.fieldN l 2 2 : Nat) : Int), .int .u64 ((Rc.fieldN l 4 6 : Nat) : Int), .int .u64 ((Rc.fieldN l 10 3 : Nat) : Int), .int .u64 ((Rc.fieldN l 13 4 : Nat) : Int)]
def offN (j : Nat) : Nat := match j with | 0 => 0 | 1 => 1 | 2 => 2 | 3 => 4 | 4 => 10 | 5 => 13 | _ => 17
theorem cut_m {A : Option Addr} {m c : Nat} {l : List UInt8} {B : Nat} {w : World} (h : Bs w B (.slice A m c) l) (k : Nat) (z : Int) (hz : z = k) (hk : k ≤ l.length) : ∃ A' m' c', (∀ w, (Instr.sliceAt 23 (.slice A m c) (some (.int .i64 z)) none none).run Tryd.prog w = .ok (.slice A' m' c') w) ∧ Bs w B (.slice A' m' c') (l.drop k) := by
  subst hz
  obtain ⟨A2, c2, e, hc, hr⟩ := h
  injection e with e1 e2 e3
  subst e1 e2 e3
  obtain ⟨A', c', h1, h2, h3⟩ := cut_l A l.length c k (l.length - k) (by omega) hc
  exact ⟨_, _, _, h1, A', c', by rw [List.length_drop], by rw [List.length_drop]; exact h2, h3 w B l hc hr⟩
set_option maxRecDepth 100000 in
set_option maxHeartbeats 4000000 in
theorem rread_b (v : Value) (l : List UInt8) (B : Nat) (w : World) (h : Bs w B v l) (hB : B ≤ w.heap.size) (hl : 21 ≤ l.length) (hm : l.length ≤ 140737488355328) (ht : WTab w) :
    Calls Tryd.prog 46 #[v] w fun e w' => e = .returned (toldV l) ∧ Below w.heap.size w w' := by
  obtain ⟨ht0, ht1, ht2, ht3, ht4, ht5⟩ := ht
  have hlt : 0 < w.heap.size := block_lt_of_cell ht0
  have H := Lib.hid h
  obtain ⟨A, c, rfl, _, _⟩ := h
  go_enter Tryd.func46, Tryd.ntmps46
  go_wp2_with fail
  clear ht0 ht1 ht2 ht3 ht4 ht5
  go_loopg [0, 7] 6 (fun k b i wr => ∃ j : Nat, j + k = 6 ∧ i = .int .i64 j ∧ (∃ A m c, b = .slice A m c ∧ Bs w B (.slice A m c) (l.drop (offN j))) ∧ wr = (w.alloc (.cells #[.int .u64 0, .int .u64 0, .int .u64 0, .int .u64 0, .int .u64 0, .int .u64 0] 110)).alloc (.cells (toldA l j) 110))
  case atStart => exact ⟨0, by omega, rfl, ⟨_, _, _, rfl, H.out⟩, rfl⟩
  case round =>
    obtain ⟨j, hj, rfl, ⟨A1, m1, c1, rfl, hbs⟩, rfl⟩ := hrel
    by_cases hlt : j < 6
    · have hjj : j = 0 ∨ j = 1 ∨ j = 2 ∨ j = 3 ∨ j = 4 ∨ j = 5 := by omega
      rcases hjj with rfl | rfl | rfl | rfl | rfl | rfl
      · have hx := width_at 0 0 1 rfl rfl
        have hbw : Below w.heap.size w ((w.alloc (.cells #[.int .u64 0, .int .u64 0, .int .u64 0, .int .u64 0, .int .u64 0, .int .u64 0] 110)).alloc (.cells (toldA l 0) 110)) := balloc (bnew w _) _
        have hrd : Calls Tryd.prog 42 #[.slice A1 m1 c1, .int .i64 1] _ fun e w' => e = .returned (.tuple #[.int .u64 ((Rc.fieldN l 0 1 : Nat) : Int), .int .i64 0]) ∧ _ = w' := read_b _ _ B 1 _ (hbs.below hbw hB) (by omega) (by omega) (by simp [offN]; omega) (by simp; omega)
        obtain ⟨A2, m2, c2, hcut, hbs'⟩ := cut_m hbs 1 1 rfl (by simp [offN]; omega)
        have Hbs := Lib.hid hbs'
        clear hbs hbw hbs'
        unfold toldA at hrd ⊢
        go_wp2_with fail
        refine hrd.mono ?_
        rintro e w1 ⟨rfl, rfl⟩
        go_wp2_with fail
        go_roundg (gk - 1)
        case measure => omega
        case rel => exact ⟨1, by omega, by go_num, ⟨_, _, _, rfl, by have := Hbs.out; rw [List.drop_drop] at this; exact this⟩, rfl⟩
      · have hx := width_at 1 1 1 rfl rfl
        have hbw : Below w.heap.size w ((w.alloc (.cells #[.int .u64 0, .int .u64 0, .int .u64 0, .int .u64 0, .int .u64 0, .int .u64 0] 110)).alloc (.cells (toldA l 1) 110)) := balloc (bnew w _) _
        have hrd : Calls Tryd.prog 42 #[.slice A1 m1 c1, .int .i64 1] _ fun e w' => e = .returned (.tuple #[.int .u64 ((Rc.fieldN l 1 1 : Nat) : Int), .int .i64 0]) ∧ _ = w' := read_b _ _ B 1 _ (hbs.below hbw hB) (by omega) (by omega) (by simp [offN]; omega) (by simp; omega)
        obtain ⟨A2, m2, c2, hcut, hbs'⟩ := cut_m hbs 1 1 rfl (by simp [offN]; omega)
        have Hbs := Lib.hid hbs'
        clear hbs hbw hbs'
        unfold toldA at hrd ⊢
        go_wp2_with fail
        refine hrd.mono ?_
        rintro e w1 ⟨rfl, rfl⟩
        go_wp2_with fail
        go_roundg (gk - 1)
        case measure => omega
        case rel => exact ⟨2, by omega, by go_num, ⟨_, _, _, rfl, by have := Hbs.out; rw [List.drop_drop] at this; exact this⟩, rfl⟩
      · have hx := width_at 2 2 2 rfl rfl
        have hbw : Below w.heap.size w ((w.alloc (.cells #[.int .u64 0, .int .u64 0, .int .u64 0, .int .u64 0, .int .u64 0, .int .u64 0] 110)).alloc (.cells (toldA l 2) 110)) := balloc (bnew w _) _
        have hrd : Calls Tryd.prog 42 #[.slice A1 m1 c1, .int .i64 2] _ fun e w' => e = .returned (.tuple #[.int .u64 ((Rc.fieldN l 2 2 : Nat) : Int), .int .i64 0]) ∧ _ = w' := read_b _ _ B 2 _ (hbs.below hbw hB) (by omega) (by omega) (by simp [offN]; omega) (by simp; omega)
        obtain ⟨A2, m2, c2, hcut, hbs'⟩ := cut_m hbs 2 2 rfl (by simp [offN]; omega)
        have Hbs := Lib.hid hbs'
        clear hbs hbw hbs'
        unfold toldA at hrd ⊢
        go_wp2_with fail
        refine hrd.mono ?_
        rintro e w1 ⟨rfl, rfl⟩
        go_wp2_with fail
        go_roundg (gk - 1)
        case measure => omega
        case rel => exact ⟨3, by omega, by go_num, ⟨_, _, _, rfl, by have := Hbs.out; rw [List.drop_drop] at this; exact this⟩, rfl⟩
      · have hx := width_at 3 3 6 rfl rfl
        have hbw : Below w.heap.size w ((w.alloc (.cells #[.int .u64 0, .int .u64 0, .int .u64 0, .int .u64 0, .int .u64 0, .int .u64 0] 110)).alloc (.cells (toldA l 3) 110)) := balloc (bnew w _) _
        have hrd : Calls Tryd.prog 42 #[.slice A1 m1 c1, .int .i64 6] _ fun e w' => e = .returned (.tuple #[.int .u64 ((Rc.fieldN l 4 6 : Nat) : Int), .int .i64 0]) ∧ _ = w' := read_b _ _ B 6 _ (hbs.below hbw hB) (by omega) (by omega) (by simp [offN]; omega) (by simp; omega)
        obtain ⟨A2, m2, c2, hcut, hbs'⟩ := cut_m hbs 6 6 rfl (by simp [offN]; omega)
        have Hbs := Lib.hid hbs'
        clear hbs hbw hbs'
        unfold toldA at hrd ⊢
        go_wp2_with fail
        refine hrd.mono ?_
        rintro e w1 ⟨rfl, rfl⟩
        go_wp2_with fail
        go_roundg (gk - 1)
        case measure => omega
        case rel => exact ⟨4, by omega, by go_num, ⟨_, _, _, rfl, by have := Hbs.out; rw [List.drop_drop] at this; exact this⟩, rfl⟩
      · have hx := width_at 4 4 3 rfl rfl
        have hbw : Below w.heap.size w ((w.alloc (.cells #[.int .u64 0, .int .u64 0, .int .u64 0, .int .u64 0, .int .u64 0, .int .u64 0] 110)).alloc (.cells (toldA l 4) 110)) := balloc (bnew w _) _
        have hrd : Calls Tryd.prog 42 #[.slice A1 m1 c1, .int .i64 3] _ fun e w' => e = .returned (.tuple #[.int .u64 ((Rc.fieldN l 10 3 : Nat) : Int), .int .i64 0]) ∧ _ = w' := read_b _ _ B 3 _ (hbs.below hbw hB) (by omega) (by omega) (by simp [offN]; omega) (by simp; omega)
        obtain ⟨A2, m2, c2, hcut, hbs'⟩ := cut_m hbs 3 3 rfl (by simp [offN]; omega)
        have Hbs := Lib.hid hbs'
        clear hbs hbw hbs'
        unfold toldA at hrd ⊢
        go_wp2_with fail
        refine hrd.mono ?_
        rintro e w1 ⟨rfl, rfl⟩
        go_wp2_with fail
        go_roundg (gk - 1)
        case measure => omega
        case rel => exact ⟨5, by omega, by go_num, ⟨_, _, _, rfl, by have := Hbs.out; rw [List.drop_drop] at this; exact this⟩, rfl⟩
      · have hx := width_at 5 5 4 rfl rfl
        have hbw : Below w.heap.size w ((w.alloc (.cells #[.int .u64 0, .int .u64 0, .int .u64 0, .int .u64 0, .int .u64 0, .int .u64 0] 110)).alloc (.cells (toldA l 5) 110)) := balloc (bnew w _) _
        have hrd : Calls Tryd.prog 42 #[.slice A1 m1 c1, .int .i64 4] _ fun e w' => e = .returned (.tuple #[.int .u64 ((Rc.fieldN l 13 4 : Nat) : Int), .int .i64 0]) ∧ _ = w' := read_b _ _ B 4 _ (hbs.below hbw hB) (by omega) (by omega) (by simp [offN]; omega) (by simp; omega)
        obtain ⟨A2, m2, c2, hcut, hbs'⟩ := cut_m hbs 4 4 rfl (by simp [offN]; omega)
        have Hbs := Lib.hid hbs'
        clear hbs hbw hbs'
        unfold toldA at hrd ⊢
        go_wp2_with fail
        refine hrd.mono ?_
        rintro e w1 ⟨rfl, rfl⟩
        go_wp2_with fail
        go_roundg (gk - 1)
        case measure => omega
        case rel => exact ⟨6, by omega, by go_num, ⟨_, _, _, rfl, by have := Hbs.out; rw [List.drop_drop] at this; exact this⟩, rfl⟩
    · obtain rfl : j = 6 := by omega
      unfold toldA
      go_wp2_with fail
      exact bodyPost_ret (v := toldV l) (by simp [results, Tryd.results46, go_sem, toldV]) rfl ⟨rfl, balloc (bnew w _) _⟩
end Go.Proofs.YtkpkfgcbccaibaaDoor

/- RcRow -/

/-
  Layer 8: blocks of bytes.
-/
set_option linter.unusedVariables false
set_option linter.unusedSimpArgs false
namespace Go.Proofs.YtkpkfgcbccaibaaDoor
open Go.RowKit

/-- a new row of zeros -/
def zer (n : Nat) : Array Value := (bvs (List.replicate n 0)).toArray
theorem run_make_b (k1 k2 : IntKind) (n : Nat) (hn : n ≤ 100000) (w : World) :
    (Instr.makeSlice 23 (.int k1 (n : Int)) (.int k2 (n : Int))).run Tryd.prog w = .ok (.slice (some ⟨w.heap.size, 0, none⟩) n n) (w.alloc (.cells (zer n) 5)) := by
  have h := run_make_row' (P := Tryd.prog) 23 5 (.int .u8 0) 1 Tryd.underlying23 byte_info rfl k1 k2 n (by omega) (by omega) w
  have e : madeCells #[Value.int .u8 0] n = zer n := by
    unfold zer
    have := toList_madeCells_one (.int .u8 0) n
    rw [← Array.toList_inj, this]
    simp [bvs, bv]
  rw [e] at h
  exact h
/-- a block of bytes -/
def RowAt (w : World) (g : Nat) (l : List UInt8) : Prop := w.heap[g]? = some (.cells (bvs l).toArray 5 (0, 0))
theorem RowAt.bs {w : World} {g B : Nat} {l : List UInt8} (h : RowAt w g l) (hg : g < B) : Bs w B (.slice (some ⟨g, 0, none⟩) l.length l.length) l :=
  ⟨_, _, rfl, Nat.le_refl _, fun _ => ⟨g, 0, rfl, hg, fun j u hu => by
    rw [Nat.zero_add, cell_of_row w g j _ _ _ h]
    simpa using hu⟩⟩
theorem RowAt.below {w w' : World} {g C : Nat} {l : List UInt8} (h : RowAt w g l) (hb : Below C w w') (hC : g < C) : RowAt w' g l := (hb.block g hC).trans h
theorem RowAt.lt {w : World} {g : Nat} {l : List UInt8} (h : RowAt w g l) : g < w.heap.size := (Array.getElem?_eq_some_iff.1 h).1
theorem RowAt.on {w w' : World} {g : Nat} {l : List UInt8} (h : RowAt w g l) (hb : Below w.heap.size w w') : RowAt w' g l := h.below hb h.lt
theorem RowAt.new (w : World) (n : Nat) : RowAt (w.alloc (.cells (zer n) 5)) w.heap.size (List.replicate n 0) := heap_alloc_new w _
end Go.Proofs.YtkpkfgcbccaibaaDoor

/- RcIn -/

/-
  Layer 8: bytes, and a record, in memory from a place on, each row a block of its own.
-/
set_option linter.unusedVariables false
set_option linter.unusedSimpArgs false
namespace Go.Proofs.YtkpkfgcbccaibaaDoor
open Go Go.RowKit

/-- a slice that reads as these bytes, in memory from `lo` on -/
def RowIn (w : World) (lo : Nat) (v : Value) (l : List UInt8) : Prop := (v = .slice none 0 0 ∧ l = []) ∨ ∃ g, v = .slice (some ⟨g, 0, none⟩) l.length l.length ∧ lo ≤ g ∧ RowAt w g l
section
variable {w w' : World} {lo lo' : Nat} {v : Value} {l : List UInt8}
theorem RowIn.bs (h : RowIn w lo v l) : Bs w w.heap.size v l := by
  rcases h with ⟨rfl, rfl⟩ | ⟨g, rfl, _, h⟩
  · exact ⟨none, 0, rfl, Nat.le_refl _, fun h => absurd rfl h⟩
  · exact h.bs h.lt
theorem RowIn.on (h : RowIn w lo v l) (hb : Below w.heap.size w w') : RowIn w' lo v l := by
  rcases h with ⟨rfl, rfl⟩ | ⟨g, rfl, h1, h⟩
  · exact .inl ⟨rfl, rfl⟩
  · exact .inr ⟨g, rfl, h1, h.on hb⟩
theorem RowIn.mono (h : RowIn w lo v l) (hl : lo' ≤ lo) : RowIn w lo' v l := by
  rcases h with ⟨rfl, rfl⟩ | ⟨g, rfl, h1, h⟩
  · exact .inl ⟨rfl, rfl⟩
  · exact .inr ⟨g, rfl, Nat.le_trans hl h1, h⟩
end
def RecIn (w : World) (lo : Nat) (rv : Value) (r : Rc.Rec) : Prop := ∃ kv vv, rv = recV r.seq r.kind kv vv r.seg r.off ∧ RowIn w lo kv r.key ∧ RowIn w lo vv r.val
theorem RecIn.none_ {w : World} {lo : Nat} : RecIn w lo (recV 0 0 (.slice none 0 0) (.slice none 0 0) 0 0) Rc.none := ⟨_, _, rfl, .inl ⟨rfl, rfl⟩, .inl ⟨rfl, rfl⟩⟩
end Go.Proofs.YtkpkfgcbccaibaaDoor

