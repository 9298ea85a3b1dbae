/-
  ScanLost, part 6 of what the law's proof leans on: RcMade, RcBox, DxPlain, DxMem, DxLeft, DxSum.
-/
import Derived.Laws.BitsAllLaws
import Derived.Laws.NewBlocks
import Derived.Test.YtkpkfgcbccaibaaDoorScanLostQ5
import Derived.Deep.RegionLaw
import Derived.Deep.DeepCutAuto
import Derived.Deep.RegionHeldLaw
import Derived.Test.YtkpkfgcbccaibaaDoorScanLostQ1
import Derived.Test.YtkpkfgcbccaibaaDoorScanLostQ2
import Derived.OneCell
/- RcMade -/

/-
  Layer 8: the walk of the laws' own made (a record brought into bounds).
-/
set_option linter.unusedVariables false
set_option linter.unusedSimpArgs false
namespace Go.Proofs.YtkpkfgcbccaibaaDoor
open Go.RowKit

def Rc.made (r : Rc.Rec) : Rc.Rec :=
  { seq := 1 + r.seq % 1099511627776, kind := if r.kind = 2 then 2 else 1, key := if r.key.length = 0 then [7] else r.key.take 64, val := if r.kind = 2 then [] else r.val.take 1024,
    seg := r.seg % 16777216, off := if r.seg % 16777216 = 0 then 0 else 16 + r.off % 16777201 }
/-- all blocks below B, and those from C on, are as they were -/
def Keeps (B C : Nat) (w w' : World) : Prop := ∀ k, k < w.heap.size → (k < B ∨ C ≤ k) → w'.heap[k]? = w.heap[k]?
theorem Keeps.refl (B C : Nat) (w : World) : Keeps B C w w := fun _ _ _ => rfl
end Go.Proofs.YtkpkfgcbccaibaaDoor

/- RcBox -/

/-
  Layer 8: records in boxes.
-/
set_option linter.unusedVariables false
set_option linter.unusedSimpArgs false
namespace Go.Proofs.YtkpkfgcbccaibaaDoor
open Go.RowKit

/-- block g holds the record r -/
def BoxR (w : World) (g : Nat) (r : Rc.Rec) : Prop := ∃ A c A' c', w.heap[g]? = some (.cells #[.int .u64 r.seq, .int .i64 r.kind, .slice A r.key.length c, .slice A' r.val.length c', .int .u32 r.seg, .int .u32 r.off] 50 (0, 0)) ∧
  Bs w w.heap.size (.slice A r.key.length c) r.key ∧ Bs w w.heap.size (.slice A' r.val.length c') r.val
theorem BoxR.lt {w : World} {g : Nat} {r : Rc.Rec} (h : BoxR w g r) : g < w.heap.size := by
  obtain ⟨_, _, _, _, h, _⟩ := h
  exact (Array.getElem?_eq_some_iff.1 h).1
theorem BoxR.on {w w' : World} {g : Nat} {r : Rc.Rec} (h : BoxR w g r) (hb : Below w.heap.size w w') : BoxR w' g r := by
  have hl := h.lt
  obtain ⟨A, c, A', c', h1, h2, h3⟩ := h
  exact ⟨A, c, A', c', (hb.block g hl).trans h1, h2.on hb, h3.on hb⟩
theorem RecV.form {w : World} {B : Nat} {v : Value} {r : Rc.Rec} (h : RecV w B v r) : ∃ A c A' c', v = .agg #[.int .u64 r.seq, .int .i64 r.kind, .slice A r.key.length c, .slice A' r.val.length c', .int .u32 r.seg, .int .u32 r.off] ∧ Bs w B (.slice A r.key.length c) r.key ∧ Bs w B (.slice A' r.val.length c') r.val := by
  obtain ⟨kv, vv, rfl, h1, h2⟩ := h
  obtain ⟨A, c, rfl, _, _⟩ := id h1
  obtain ⟨A', c', rfl, _, _⟩ := id h2
  exact ⟨A, c, A', c', rfl, h1, h2⟩
/-- a record stored into a box -/
def set6 (w : World) (g : Nat) (y0 y1 y2 y3 y4 y5 : Value) : World :=
  (((((w.setCell ⟨g, 0, none⟩ y0).setCell ⟨g, 1, none⟩ y1).setCell ⟨g, 2, none⟩ y2).setCell ⟨g, 3, none⟩ y3).setCell ⟨g, 4, none⟩ y4).setCell ⟨g, 5, none⟩ y5
theorem set1 {w : World} {g i : Nat} {cur : Array Value} {t : TypeId} (h : w.heap[g]? = some (.cells cur t (0, 0))) (v : Value) : (w.setCell ⟨g, i, none⟩ v).heap[g]? = some (.cells (cur.setIfInBounds i v) t (0, 0)) := by
  rw [setCell_eq_setRow w g i cur t (0, 0) v h]
  exact setRow_heap w g cur _ t (0, 0) h
theorem set6_at {w : World} {g : Nat} {x0 x1 x2 x3 x4 x5 : Value} {t : TypeId} (h : w.heap[g]? = some (.cells #[x0, x1, x2, x3, x4, x5] t (0, 0))) (y0 y1 y2 y3 y4 y5 : Value) :
    (set6 w g y0 y1 y2 y3 y4 y5).heap[g]? = some (.cells #[y0, y1, y2, y3, y4, y5] t (0, 0)) := by
  have := set1 (i := 5) (set1 (i := 4) (set1 (i := 3) (set1 (i := 2) (set1 (i := 1) (set1 (i := 0) h y0) y1) y2) y3) y4) y5
  simpa [set6] using this
theorem set6_other {w : World} {g k : Nat} (hk : k ≠ g) (y0 y1 y2 y3 y4 y5 : Value) : (set6 w g y0 y1 y2 y3 y4 y5).heap[k]? = w.heap[k]? := by
  unfold set6
  rw [Below.heap_setCell _ _ _ _ hk, Below.heap_setCell _ _ _ _ hk, Below.heap_setCell _ _ _ _ hk, Below.heap_setCell _ _ _ _ hk, Below.heap_setCell _ _ _ _ hk, Below.heap_setCell _ _ _ _ hk]
theorem set6_below {w w0 : World} {g B : Nat} (hb : Below B w0 w) (hg : B ≤ g) (y0 y1 y2 y3 y4 y5 : Value) : Below B w0 (set6 w g y0 y1 y2 y3 y4 y5) := below6 hb hg _ _ _ _ _ _
theorem BoxR.cells {w : World} {g : Nat} {r : Rc.Rec} (h : BoxR w g r) : ∃ A c A' c', (w.cell? ⟨g, 0, none⟩ = some (.int .u64 r.seq) ∧ w.cell? ⟨g, 1, none⟩ = some (.int .i64 r.kind) ∧ w.cell? ⟨g, 2, none⟩ = some (.slice A r.key.length c) ∧ w.cell? ⟨g, 3, none⟩ = some (.slice A' r.val.length c') ∧
    w.cell? ⟨g, 4, none⟩ = some (.int .u32 r.seg) ∧ w.cell? ⟨g, 5, none⟩ = some (.int .u32 r.off)) ∧ RecV w w.heap.size (.agg #[.int .u64 r.seq, .int .i64 r.kind, .slice A r.key.length c, .slice A' r.val.length c', .int .u32 r.seg, .int .u32 r.off]) r := by
  obtain ⟨A, c, A', c', h1, h2, h3⟩ := h
  exact ⟨A, c, A', c', box6h h1, ⟨_, _, rfl, h2, h3⟩⟩

/-- an append as one step of a region, with what it leaves alone -/
theorem step_append_gr {P : Program} (w : World) {ops : Array Oper} {o : Oper} {a : Act} {K : Act → World → Prop} {Q : Exit → Act → World → Prop} {E : Prop} (hgd : o.guard = none) (s x : Operand) (t : TypeId)
    (ho : o.op = .call { callee := .builtin .append, args := #[s, x], argTypes := #[t, t] })
    (base : Nat) (e : TypeId) (i : TypeInfo) (z : Value) (size bytes : Nat) (ht : P.underlying t = some (.slice e)) (hi : P.info? e = some i) (hz : i.zero = some z)
    (hsize : i.size = size) (hby : i.bytes = bytes) (hzs : z.cells.size = size) (hsz : 0 < size)
    (v : Value) (n : Nat) (xs : List Value) (hs : a.eval s = v) (hown : w.ownsRow base e size v n xs)
    (B : Nat) (A : Option Addr) (m c : Nat) (news : List Value) (hx : a.eval x = .slice A m c) (hl : news.length = m * size) (hr : Rd w B A news) (h1 : ∀ u ∈ news, u.oneCell' = true)
    (h63 : n + m ≤ maxLen) (hbytes : (n + m) * bytes ≤ 140737488355328) (hbase : base ≤ w.heap.size)
    (h : ∀ v' w', w'.ownsRow base e size v' (n + m) (xs ++ news) → Below base w w' → w.grownBy w' v.ownBlock → (v'.ownBlock = v.ownBlock ∨ v'.ownBlock = some w.heap.size) → K (a.put o.dst v') w') :
    if Region.wanted o (yielded ops a.tmps) = true then Oper.wp P o a w K Q else E := by
  have hw : Region.wanted o (yielded ops a.tmps) = true := by simp [Region.wanted, hgd]
  rw [if_pos hw]
  exact wp_append_rd w s x t ho base e i z size bytes ht hi hz hsize hby hzs hsz v n xs hs hown B A m c news hx hl hr h1 h63 hbytes hbase fun v' w' h2 h3 h4 =>
    h v' w' h2 ((Below.refl _ _).grown h3 hbase fun k hk => (hown.lt k hk).1) h3 h4
end Go.Proofs.YtkpkfgcbccaibaaDoor

/- DxPlain -/

/-
  Layer 2, the document's answer (rows of coefficients, divided as on paper), as plain functions of lists.
-/
set_option linter.unusedVariables false
set_option linter.unusedSimpArgs false
namespace Go.Proofs.YtkpkfgcbccaibaaDoor.Cx

/-- what a row of coefficients, the greatest power first, leaves; with b in place of x to 0 -/
def mval (b : BitVec 32) : List Bool → BitVec 32
  | [] => 0#32
  | c :: r => (if c then tp r.length b else 0#32) ^^^ mval b r
def val (l : List Bool) : BitVec 32 := mval e0 l

theorem mval_append (b : BitVec 32) (l m : List Bool) : mval b (l ++ m) = tp m.length (mval b l) ^^^ mval b m := by
  induction l with
  | nil => simp [mval, tp_zero]
  | cons c l ih =>
    simp only [List.cons_append, mval, ih, tp_xor, tp_if, ← tp_add, List.length_append]
    rw [Nat.add_comm m.length l.length, BitVec.xor_assoc]
theorem mval_zeros (b : BitVec 32) (n : Nat) : mval b (List.replicate n false) = 0#32 := by
  induction n with
  | zero => rfl
  | succ n ih => simp [List.replicate_succ, mval, ih]
theorem val_zeros (l : List Bool) (n : Nat) : val (l ++ List.replicate n false) = tp n (val l) := by
  unfold val
  rw [mval_append, mval_zeros, List.length_replicate, BitVec.xor_zero]
/-- one coefficient is turned -/
theorem mval_set (b : BitVec 32) (l : List Bool) : ∀ (p : Nat) (c d : Bool), l[p]? = some c → mval b (l.set p (c ^^ d)) = mval b l ^^^ (if d then tp (l.length - 1 - p) b else 0#32) := by
  induction l with
  | nil => intro p c d h; simp at h
  | cons x l ih =>
    intro p c d h
    rcases p with _ | p
    · simp at h
      subst h
      simp only [List.set_cons_zero, mval, if_xor, List.length_cons]
      rw [BitVec.xor_assoc, BitVec.xor_comm (if d then tp l.length b else 0#32), ← BitVec.xor_assoc]
      simp
    · simp at h
      simp only [List.set_cons_succ, mval, ih p c d h, List.length_set, List.length_cons]
      rw [← BitVec.xor_assoc]
      congr 3
      omega
theorem val_set (l : List Bool) (p : Nat) (c d : Bool) (h : l[p]? = some c) : val (l.set p (c ^^ d)) = val l ^^^ (if d then tp (l.length - 1 - p) e0 else 0#32) := mval_set e0 l p c d h
theorem mval_drop (b : BitVec 32) (l : List Bool) (k : Nat) (c : Bool) (h : l[k]? = some c) : mval b (l.drop k) = (if c then tp (l.length - 1 - k) b else 0#32) ^^^ mval b (l.drop (k + 1)) := by
  have hk : k < l.length := (List.getElem?_eq_some_iff.1 h).1
  have hc : l[k] = c := (List.getElem?_eq_some_iff.1 h).2
  rw [List.drop_eq_getElem_cons hk, mval, hc, List.length_drop, show l.length - (k + 1) = l.length - 1 - k by omega]
/-- with b in place of x to 0: by b -/
theorem mval_mul (b : BitVec 32) (l : List Bool) : mval b l = mul (val l) b := by
  induction l with
  | nil => exact (mul_zero_left b).symm
  | cons c l ih =>
    unfold val at ih ⊢
    simp only [mval, mul_xor_left, ih]
    congr 1
    cases c
    · simp [mul_zero_left]
    · simp only [if_true]
      exact (xp_mul b l.length).symm

/-- a row's bits, where they stand -/
theorem val_bit (l : List Bool) : ∀ (k : Nat), l.length ≤ 32 → k < 32 → (val l.reverse).getLsbD k = (l.reverse.getD (k + l.length - 32) false && decide (32 ≤ k + l.length)) := by
  induction l with
  | nil => intro k h hk; simp [val, mval]
  | cons c l ih =>
    intro k h hk
    have hs : val ((c :: l).reverse) = tx (val l.reverse) ^^^ (if c then e0 else 0#32) := by
      unfold val
      rw [List.reverse_cons, mval_append]
      simp [mval, tp]
    rw [hs, BitVec.getLsbD_xor]
    simp only [List.length_cons] at h
    have hz : (val l.reverse).getLsbD 0 = false := by
      rw [ih 0 (by omega) (by omega)]
      simp
      intro _
      omega
    have ht : (tx (val l.reverse)).getLsbD k = if k = 31 then false else (val l.reverse).getLsbD (k + 1) := by
      unfold tx
      rw [hz]
      simp only [Bool.false_eq_true, if_false, BitVec.xor_zero, BitVec.getLsbD_ushiftRight]
      split
      · rename_i h31
        subst h31
        exact BitVec.getLsbD_of_ge _ _ (by omega)
      · rw [Nat.add_comm]
    rw [ht]
    have he : ∀ i, i < 32 → e0.getLsbD i = decide (i = 31) := by decide
    by_cases h31 : k = 31
    · subst h31
      simp only [if_true, List.reverse_cons, List.length_cons]
      rw [show 31 + (l.length + 1) - 32 = l.reverse.length by simp; omega]
      have hd : decide (32 ≤ 31 + (l.length + 1)) = true := by simp; omega
      rw [hd]
      have he31 : e0.getLsbD 31 = true := by decide
      cases c
      · simp
      · simp only [if_true, he31]
        simp
    · rw [if_neg h31, ih (k + 1) (by omega) (by omega)]
      have e1 : (if c then e0 else 0#32).getLsbD k = false := by
        cases c
        · simp
        · simp [he k hk, h31]
      rw [e1, Bool.xor_false]
      simp only [List.length_cons, List.reverse_cons]
      by_cases hle : 32 ≤ k + (l.length + 1)
      · have q1 : decide (32 ≤ k + 1 + l.length) = true := by simp; omega
        have q2 : decide (32 ≤ k + (l.length + 1)) = true := by simp; omega
        rw [q1, q2, show k + 1 + l.length - 32 = k + (l.length + 1) - 32 by omega]
        simp only [Bool.and_true]
        rw [List.getD_eq_getElem?_getD, List.getD_eq_getElem?_getD, List.getElem?_append_left (by simp; omega)]
      · have q1 : decide (32 ≤ k + 1 + l.length) = false := by simp; omega
        have q2 : decide (32 ≤ k + (l.length + 1)) = false := by simp; omega
        rw [q1, q2]
        simp
theorem val_bit32 (l : List Bool) (h : l.length = 32) (k : Nat) (hk : k < 32) : (val l).getLsbD k = l.getD k false := by
  have := val_bit l.reverse k (by simp; omega) hk
  rw [List.reverse_reverse] at this
  rw [this]
  simp [h]
/-- a polynomial of 32 bits as a row -/
def rowL (a : BitVec 32) (j : Nat) : List Bool := (List.range j).map a.getLsbD
theorem rowL_length (a : BitVec 32) (j : Nat) : (rowL a j).length = j := by simp [rowL]
theorem rowL_get (a : BitVec 32) (k : Nat) (h : k < 32) : (rowL a 32)[k]? = some (a.getLsbD k) := by simp [rowL, h]
theorem val_rowL (a : BitVec 32) : val (rowL a 32) = a := by
  apply BitVec.eq_of_getLsbD_eq
  intro i hi
  rw [val_bit32 _ (rowL_length a 32) i hi, List.getD_eq_getElem?_getD, rowL_get a i hi]
  rfl
/-- a row of bits, the lowest one first, as a number -/
def bitsN : List Bool → Nat
  | [] => 0
  | c :: r => 2 * bitsN r + (if c then 1 else 0)
theorem bitsN_lt (l : List Bool) : bitsN l < 2 ^ l.length := by
  induction l with
  | nil => simp [bitsN]
  | cons c l ih =>
    simp only [bitsN, List.length_cons, Nat.pow_succ]
    cases c <;> simp <;> omega
theorem bitsN_bit (l : List Bool) : ∀ k, (bitsN l).testBit k = l.getD k false := by
  induction l with
  | nil => intro k; simp [bitsN]
  | cons c l ih =>
    intro k
    rcases k with _ | k
    · simp only [bitsN, Nat.testBit_zero]
      cases c <;> simp <;> omega
    · rw [Nat.testBit_succ]
      have : bitsN (c :: l) / 2 = bitsN l := by simp only [bitsN]; cases c <;> simp <;> omega
      rw [this, ih]
      simp
theorem bitsN_val (l : List Bool) (h : l.length = 32) : bitsN l = (val l).toNat := by
  apply Nat.eq_of_testBit_eq
  intro k
  rw [bitsN_bit]
  rcases Nat.lt_or_ge k 32 with hk | hk
  · rw [← val_bit32 l h k hk]
    rfl
  · rw [List.getD_eq_getElem?_getD, List.getElem?_eq_none (by omega), Nat.testBit_lt_two_pow (Nat.lt_of_lt_of_le (val l).isLt (Nat.pow_le_pow_right (by omega) hk))]
    rfl
theorem bitsN_drop (l : List Bool) (k : Nat) (c : Bool) (h : l[k]? = some c) : bitsN (l.drop k) = 2 * bitsN (l.drop (k + 1)) + (if c then 1 else 0) := by
  have hk : k < l.length := (List.getElem?_eq_some_iff.1 h).1
  have hc : l[k] = c := (List.getElem?_eq_some_iff.1 h).2
  rw [List.drop_eq_getElem_cons hk, bitsN, hc]
theorem val_not (l : List Bool) (h : l.length = 32) : val (l.map not) = ~~~ (val l) := by
  apply BitVec.eq_of_getLsbD_eq
  intro i hi
  rw [val_bit32 _ (by simpa using h) i hi, BitVec.getLsbD_not, val_bit32 l h i hi, List.getD_eq_getElem?_getD, List.getD_eq_getElem?_getD, List.getElem?_map, List.getElem?_eq_getElem (by omega)]
  simp [hi]

/-- the modulus' coefficients of x to 31 down to x to 0 -/
def modL : List Bool := (List.range 32).map fun i => [28, 27, 26, 25, 23, 22, 20, 19, 18, 14, 13, 11, 10, 9, 8, 6, 0].contains (31 - i)
theorem modL_length : modL.length = 32 := by decide
theorem val_modL : val modL = tp 32 e0 := by decide +kernel
/-- a step of the division, under way: k coefficients of the modulus are taken off behind place i -/
def DivIn (l0 : List Bool) (i k : Nat) (l : List Bool) : Prop :=
  l.length = l0.length ∧ val (l.drop (i + 1)) ^^^ tp (l0.length - i - 33) (val (modL.drop k)) = val (l0.drop i)
theorem DivIn.zero {l0 : List Bool} {i : Nat} (hi : i + 32 < l0.length) (h : l0[i]? = some true) : DivIn l0 i 0 l0 := by
  refine ⟨rfl, ?_⟩
  rw [List.drop_zero, val_modL, ← tp_add]
  unfold val
  rw [mval_drop e0 l0 i true h, BitVec.xor_comm]
  simp only [if_true]
  congr 2
  omega
theorem DivIn.step {l0 l : List Bool} {i k : Nat} {c m : Bool} (hi : i + 32 < l0.length) (hk : k < 32) (h : DivIn l0 i k l) (hc : l[i + 1 + k]? = some c) (hm : modL[k]? = some m) : DivIn l0 i (k + 1) (l.set (i + 1 + k) (c ^^ m)) := by
  refine ⟨by rw [List.length_set]; exact h.1, ?_⟩
  have hd : (l.set (i + 1 + k) (c ^^ m)).drop (i + 1) = (l.drop (i + 1)).set k (c ^^ m) := by
    rw [List.drop_set, if_neg (by omega)]
    congr 1
    omega
  rw [hd, val_set (l.drop (i + 1)) k c m (by rw [List.getElem?_drop]; exact hc), ← h.2]
  have h2 : val (modL.drop k) = (if m then tp (31 - k) e0 else 0#32) ^^^ val (modL.drop (k + 1)) := by
    have := mval_drop e0 modL k m hm
    rw [modL_length] at this
    exact this
  rw [h2, tp_xor, tp_if, ← tp_add, List.length_drop, h.1, BitVec.xor_assoc]
  congr 4
  omega
theorem DivIn.done {l0 l : List Bool} {i : Nat} (h : DivIn l0 i 32 l) : val (l.drop (i + 1)) = val (l0.drop i) := by
  have := h.2
  rw [show modL.drop 32 = [] by decide] at this
  rw [← this]
  simp [val, mval, tp_zero]
theorem div_same {l : List Bool} {i : Nat} (h : l[i]? = some false) : val (l.drop (i + 1)) = val (l.drop i) := by
  unfold val
  rw [mval_drop e0 l i false h]
  simp

/-- a product's row, under way: of the first row's coefficient number i (which is there) the first k of the second's are laid -/
def MulIn (r0 : List Bool) (b : BitVec 32) (i k : Nat) (r : List Bool) : Prop :=
  r.length = 63 ∧ val r ^^^ tp (31 - i) (val ((rowL b 32).drop k)) = val r0 ^^^ tp (31 - i) b
theorem MulIn.zero {r0 : List Bool} {b : BitVec 32} {i : Nat} (h : r0.length = 63) : MulIn r0 b i 0 r0 := ⟨h, by rw [List.drop_zero, val_rowL]⟩
theorem MulIn.step {r0 r : List Bool} {b : BitVec 32} {i k : Nat} {c : Bool} (hi : i < 32) (hk : k < 32) (h : MulIn r0 b i k r) (hc : r[i + k]? = some c) : MulIn r0 b i (k + 1) (r.set (i + k) (c ^^ b.getLsbD k)) := by
  refine ⟨by rw [List.length_set]; exact h.1, ?_⟩
  rw [val_set r (i + k) c _ hc, ← h.2, h.1]
  have h2 : val ((rowL b 32).drop k) = (if b.getLsbD k then tp (31 - k) e0 else 0#32) ^^^ val ((rowL b 32).drop (k + 1)) := by
    have := mval_drop e0 (rowL b 32) k _ (rowL_get b k hk)
    rw [rowL_length] at this
    exact this
  rw [h2, tp_xor, tp_if, ← tp_add, BitVec.xor_assoc]
  congr 4
  omega
theorem MulIn.done {r0 r : List Bool} {b : BitVec 32} {i : Nat} (h : MulIn r0 b i 32 r) : val r = val r0 ^^^ tp (31 - i) b := by
  have := h.2
  rw [List.drop_eq_nil_of_le (by rw [rowL_length]; omega)] at this
  rw [← this]
  simp [val, mval, tp_zero]
/-- and the rows' beginning -/
def MulOut (a b : BitVec 32) (i : Nat) (r : List Bool) : Prop := r.length = 63 ∧ val r ^^^ mval b ((rowL a 32).drop i) = mul a b
theorem MulOut.zero (a b : BitVec 32) : MulOut a b 0 (List.replicate 63 false) := by
  refine ⟨by simp, ?_⟩
  rw [List.drop_zero, mval_mul, val_rowL]
  unfold val
  rw [mval_zeros, BitVec.zero_xor]
theorem MulOut.off {a b : BitVec 32} {i : Nat} {r : List Bool} (hi : i < 32) (h : MulOut a b i r) (hb : a.getLsbD i = false) : MulOut a b (i + 1) r := by
  refine ⟨h.1, ?_⟩
  rw [← h.2, mval_drop b (rowL a 32) i _ (rowL_get a i hi), hb]
  simp
theorem MulOut.on {a b : BitVec 32} {i : Nat} {r0 r : List Bool} (hi : i < 32) (h : MulOut a b i r0) (hb : a.getLsbD i = true) (hr : MulIn r0 b i 32 r) : MulOut a b (i + 1) r := by
  refine ⟨hr.1, ?_⟩
  rw [← h.2, mval_drop b (rowL a 32) i _ (rowL_get a i hi), hb, hr.done, rowL_length, BitVec.xor_assoc]
  rfl
theorem MulOut.done {a b : BitVec 32} {r : List Bool} (h : MulOut a b 32 r) : val r = mul a b := by
  have := h.2
  rw [List.drop_eq_nil_of_le (by rw [rowL_length]; omega)] at this
  rw [← this]
  simp [mval]

/-- bytes as a row of bits, of each byte the lowest one first -/
def bits8 (c : UInt8) (j : Nat) : List Bool := (List.range j).map fun k => c.toNat.testBit k
theorem bits8_succ (c : UInt8) (j : Nat) : bits8 c (j + 1) = bits8 c j ++ [c.toNat.testBit j] := by simp [bits8, List.range_succ]
theorem bits8_length (c : UInt8) (j : Nat) : (bits8 c j).length = j := by simp [bits8]
def bitsL : List UInt8 → List Bool
  | [] => []
  | c :: l => bits8 c 8 ++ bitsL l
theorem bitsL_length (l : List UInt8) : (bitsL l).length = 8 * l.length := by
  induction l with
  | nil => rfl
  | cons c l ih => simp only [bitsL, List.length_append, bits8_length, ih, List.length_cons]; omega
theorem bitsL_append (l m : List UInt8) : bitsL (l ++ m) = bitsL l ++ bitsL m := by
  induction l with
  | nil => rfl
  | cons c l ih => simp [bitsL, ih]
theorem val_byte (c : UInt8) : tp 32 (val (bits8 c 8)) = tp 8 (by8 c) := by
  have h : ∀ n : Fin 256, tp 32 (val ((List.range 8).map fun k => n.val.testBit k)) = tp 8 (BitVec.ofNat 32 n.val) := by decide +kernel
  exact h ⟨c.toNat, c.toNat_lt⟩
theorem reg_bits (l : List UInt8) : reg 0#32 l = tp 32 (val (bitsL l)) := by
  have key : ∀ (l : List UInt8) (r : BitVec 32), reg r l = tp (8 * l.length) r ^^^ tp 32 (val (bitsL l)) := by
    intro l
    induction l with
    | nil => intro r; simp only [reg, bitsL, val, mval, tp_zero, List.length_nil, Nat.mul_zero, BitVec.xor_zero]; rfl
    | cons c l ih =>
      intro r
      show reg (tp 8 (r ^^^ by8 c)) l = _
      have e1 : val (bitsL (c :: l)) = tp (8 * l.length) (val (bits8 c 8)) ^^^ val (bitsL l) := by
        unfold val
        rw [bitsL, mval_append, bitsL_length]
      rw [ih, e1, tp_xor, tp_xor, tp_xor, ← tp_add, ← tp_add, ← tp_add, Nat.add_comm 32, tp_add (8 * l.length) 32, val_byte, ← tp_add, ← BitVec.xor_assoc]
      congr 3
  rw [key, tp_zero, BitVec.zero_xor]
/-- the first k of the row's bits are turned -/
def FlipIn (l : List UInt8) (k : Nat) (r : List Bool) : Prop :=
  r.length = 8 * l.length + 32 ∧ val r ^^^ tp (8 * l.length) (val (List.replicate (32 - k) true)) = tp 32 (val (bitsL l)) ^^^ tp (8 * l.length) ones
theorem val_ones : val (List.replicate 32 true) = ones := by decide +kernel
theorem FlipIn.zero (l : List UInt8) : FlipIn l 0 (bitsL l ++ List.replicate 32 false) :=
  ⟨by rw [List.length_append, bitsL_length, List.length_replicate], by rw [val_zeros, Nat.sub_zero, val_ones]⟩
theorem FlipIn.step {l : List UInt8} {k : Nat} {r : List Bool} {c : Bool} (h : FlipIn l k r) (hk : k < 32) (hc : r[k]? = some c) : FlipIn l (k + 1) (r.set k (!c)) := by
  refine ⟨by rw [List.length_set]; exact h.1, ?_⟩
  have e : (!c) = (c ^^ true) := by cases c <;> rfl
  rw [e, val_set r k c true hc, ← h.2]
  obtain ⟨m, hm⟩ : ∃ m, 32 - k = m + 1 := ⟨31 - k, by omega⟩
  rw [hm, show 32 - (k + 1) = m by omega, List.replicate_succ]
  have e2 : val (true :: List.replicate m true) = tp m e0 ^^^ val (List.replicate m true) := by
    unfold val
    simp [mval]
  rw [e2, tp_xor, ← tp_add, h.1, BitVec.xor_assoc]
  simp only [if_true]
  congr 3
  omega
theorem FlipIn.done {l : List UInt8} {r : List Bool} (h : FlipIn l 32 r) : val r = reg ones l := by
  have := h.2
  simp only [Nat.sub_self, List.replicate_zero] at this
  rw [reg_from ones l, reg_bits, ← this]
  simp [val, mval, tp_zero]
end Go.Proofs.YtkpkfgcbccaibaaDoor.Cx

/- DxMem -/

/-
  Layer 2, the document's answer: the walks of modulus, Row and Bits.
-/
set_option linter.unusedVariables false
set_option linter.unusedSimpArgs false
namespace Go.Proofs.YtkpkfgcbccaibaaDoor.Crc
open Go.RowKit

theorem bool_info : (Tryd.prog.info? 4).map (fun i => (i.zero, i.size, i.bytes)) = some (some (.bool false), 1, 1) := by kernel_rfl
/-- bools as cells -/
def blvs (l : List Bool) : List Value := l.map Value.bool
theorem blvs_length (l : List Bool) : (blvs l).length = l.length := by simp [blvs]
theorem blvs_append (l m : List Bool) : blvs (l ++ m) = blvs l ++ blvs m := by simp [blvs]
theorem blvs_get (l : List Bool) (k : Nat) (h : k < l.length) : (blvs l)[k]? = some (.bool l[k]) := by simp [blvs, h]
theorem blvs_get? (l : List Bool) (k : Nat) (c : Bool) (h : l[k]? = some c) : (blvs l)[k]? = some (.bool c) := by simp [blvs, h]
theorem blvs_set (l : List Bool) (k : Nat) (b : Bool) : blvs (l.set k b) = (blvs l).set k (.bool b) := by simp [blvs, List.map_set]
theorem blvs_one (l : List Bool) : ∀ u ∈ blvs l, u.oneCell' = true := by
  intro u hu
  simp only [blvs, List.mem_map] at hu
  obtain ⟨b, _, rfl⟩ := hu
  rfl
/-- the modulus' powers -/
def pw : List Nat := [28, 27, 26, 25, 23, 22, 20, 19, 18, 14, 13, 11, 10, 9, 8, 6, 0]
theorem modL_take (j : Nat) (h : j < 32) : Cx.modL.take (j + 1) = Cx.modL.take j ++ [pw.contains (31 - j)] := by
  rw [List.take_succ_eq_append_getElem (by rw [Cx.modL_length]; exact h)]
  congr 2
  simp only [Cx.modL, List.getElem_map, List.getElem_range]
  rfl
theorem contains_succ (i k : Nat) (h : i < pw.length) : (pw.take (i + 1)).contains k = ((pw.take i).contains k || (pw[i] == k)) := by
  rw [List.take_succ_eq_append_getElem h, List.contains_append]
  simp
  rw [Bool.eq_iff_iff]
  simp
  constructor
  · rintro (h | h)
    · exact .inl h
    · exact .inr h.symm
  · rintro (h | h)
    · exact .inl h
    · exact .inr h.symm

set_option maxRecDepth 100000 in
theorem modulus_any (w : World) : Calls Tryd.prog 69 #[] w fun e w' => ∃ v, e = .returned v ∧ w'.ownsRow w.heap.size 4 1 v 32 (blvs Cx.modL) ∧ Below w.heap.size w w' := by
  obtain ⟨i0, hi0, hz0, hz1, hz2⟩ := info_parts bool_info
  go_enter Tryd.func69, Tryd.ntmps69
  go_wp2_with fail
  generalize hC : #[Value.int .i64 28, Value.int .i64 27, Value.int .i64 26, Value.int .i64 25, Value.int .i64 23, Value.int .i64 22, Value.int .i64 20, Value.int .i64 19, Value.int .i64 18, Value.int .i64 14, Value.int .i64 13, Value.int .i64 11, Value.int .i64 10, Value.int .i64 9, Value.int .i64 8, Value.int .i64 6, Value.int .i64 0] = C
  have hcells : ∀ i, (h : i < 17) → C[i]? = some (.int .i64 ((pw[i]'h : Nat) : Int)) := by
    intro i hi
    have e : C = (pw.map fun n : Nat => Value.int .i64 (n : Int)).toArray := by rw [← hC]; rfl
    rw [e]
    have : i < pw.length := hi
    simp [this]
    rfl
  have Hcells := Lib.hid hcells
  clear hC hcells
  go_loopg [1, 3] 32 (fun g o k wr => ∃ j : Nat, j + g = 32 ∧ k = .int .i64 (31 - (j : Int)) ∧ wr.ownsRow (w.heap.size + 1) 4 1 o j (blvs (Cx.modL.take j)) ∧ Below (w.heap.size + 1) (w.alloc (.cells C 3)) wr)
  case atStart => exact ⟨0, by omega, rfl, World.ownsRow_nil _ _ _ _, Below.refl _ _⟩
  case round =>
    obtain ⟨j, hj, rfl, hown, hb⟩ := hrel
    have hsz := hb.size
    simp only [World.size_alloc] at hsz
    by_cases hlt : j < 32
    · obtain ⟨k, hk⟩ : ∃ k : Nat, (31 - (j : Int)) = (k : Int) := ⟨31 - j, by omega⟩
      have Hkj := Lib.hid (show 31 - j = k by omega)
      rw [hk]
      have Hk := Lib.hid hk
      have Hown := Lib.hid hown
      have Hmod := Lib.hid (modL_take j hlt)
      rw [Hkj.out] at Hmod
      have hk0 : (0 : Int) ≤ (k : Int) := by omega
      have hk31 : (k : Int) ≤ 31 := by omega
      clear hk hown
      obtain ⟨G, rfl⟩ : ∃ G, G = gk := ⟨_, rfl⟩
      go_wp2_with fail
      go_loopg [4, 5] 17 (fun g t i wx => wr = wx ∧ ∃ m : Nat, m + g = 17 ∧ i = .int .i64 m ∧ t = .bool ((pw.take m).contains k))
      case atStart => exact ⟨rfl, 0, by omega, rfl, rfl⟩
      case round =>
        obtain ⟨rfl, m, hm, rfl, rfl⟩ := hrel
        by_cases hm17 : m < 17
        · have hc1 : wr.cell? ⟨w.heap.size, m, none⟩ = some (.int .i64 ((pw[m]'hm17 : Nat) : Int)) := by
            rw [hb.cell (p := ⟨w.heap.size, m, none⟩) (Nat.lt_succ_self _), World.cell?_alloc_mark]
            exact Hcells.out m hm17
          have Hs := Lib.hid (contains_succ m k hm17)
          generalize hpm : pw[m]'hm17 = pm at hc1
          have Hpm := Lib.hid hpm
          clear hpm
          have t17 : (m : Int) < 17 := by omega
          rcases hq : ((pm : Int) == (k : Int)) with _ | _
          all_goals
            have Hq := Lib.hid hq
            go_wp2_with fail
            go_roundg (gk - 1)
            case measure => omega
            case rel =>
              refine ⟨rfl, m + 1, by omega, by go_num, ?_⟩
              rw [Hs.out, Hpm.out]
              have hq2 := Hq.out
              first
                | (have e : (pm == k) = true := by (simp at hq2 ⊢; omega)
                   rw [e]; simp; done)
                | (have e : (pm == k) = false := by (simp at hq2 ⊢; omega)
                   rw [e]; simp; done)
        · obtain rfl : m = 17 := by omega
          rw [show pw.take 17 = pw by rfl]
          generalize hx : pw.contains k = x at *
          go_wp2_with (at_builtin; (refine wpList_append_1 _ rfl _ _ 120 rfl (w.heap.size + 1) 4 i0 (.bool false) 1 Tryd.underlying120 hi0 hz0 hz1 hz2 rfl u1 j (blvs (Cx.modL.take j)) rfl (Hown.out.alloc _) _ 1 (.bool x) rfl (cell_new1 _ _ _) rfl (by unfold maxLen; omega) (by omega) (by simp; omega) ?_); intro v2 w2 hown2 hbw2 _ _)
          go_roundg (G - 1)
          case measure => omega
          case rel => exact ⟨j + 1, by omega, by rw [← Hk.out]; congr 1; omega, by rw [Hmod.out, blvs_append]; exact hown2, (hb.alloc (by omega) _).trans hbw2⟩
    · obtain rfl : j = 32 := by omega
      go_wp2_with fail
      go_ret
      refine ⟨_, rfl, own_base hown (by omega), (((Below.refl _ _).alloc (Nat.le_refl _) _).trans (hb.mono (by omega)))⟩

theorem bits_any (A : Option Addr) (l : List Bool) (c B : Nat) (w : World) (h : Rd w B A (blvs l)) (hl : l.length = 32) :
    Calls Tryd.prog 63 #[.slice A 32 c] w fun e w' => e = .returned (.int .u32 (Cx.val l).toNat) ∧ w = w' := by
  have Hres := Lib.hid (Cx.bitsN_val l hl)
  have Hl := Lib.hid hl
  obtain ⟨b, o, rfl, hbB, hcell⟩ := h (by intro e; have := congrArg List.length e; simp [blvs] at this; subst this; simp at hl)
  have Hcell := Lib.hid hcell
  clear hcell hl h
  go_enter Tryd.func63, Tryd.ntmps63
  go_wp2_with fail
  go_loopg [3, 4] 32 (fun g x k wr => w = wr ∧ ∃ (j y : Nat), j + g = 32 ∧ k = .int .i64 (31 - (j : Int)) ∧ x = .int .u32 (y : Int) ∧ y = Cx.bitsN (l.drop (32 - j)))
  case atStart => exact ⟨rfl, 0, 0, by omega, rfl, rfl, by rw [List.drop_eq_nil_of_le (by rw [Hl.out]; omega)]; rfl⟩
  case round =>
    obtain ⟨rfl, j, y, hj, rfl, rfl, hy⟩ := hrel
    have Hy := Lib.hid hy
    clear hy
    by_cases hlt : j < 32
    · obtain ⟨k, hk⟩ : ∃ k : Nat, (31 - (j : Int)) = (k : Int) := ⟨31 - j, by omega⟩
      have Hkj := Lib.hid (show 31 - j = k by omega)
      have hk31 : k ≤ 31 := by omega
      have hk0 : (0 : Int) ≤ (k : Int) := by omega
      have hk32 : (k : Int) < 32 := by omega
      rw [hk]
      have Hk := Lib.hid hk
      clear hk
      obtain ⟨x, hx⟩ : ∃ x, l[k]? = some x := ⟨l[k]'(by rw [Hl.out]; omega), List.getElem?_eq_getElem _⟩
      have hcj := Hcell.out k _ (blvs_get? l k x hx)
      have hbl := Cx.bitsN_lt (l.drop (32 - j))
      rw [← Hy.out, List.length_drop, Hl.out, show 32 - (32 - j) = j by omega] at hbl
      have hpow : 2 ^ j ≤ 2 ^ 31 := Nat.pow_le_pow_right (by omega) (by omega)
      have hy31 : y < 2147483648 := by omega
      have Hnx := Lib.hid (show Cx.bitsN (l.drop (32 - (j + 1))) = 2 * y + (if x then 1 else 0) by
        rw [show 32 - (j + 1) = k by have := Hkj.out; omega, Cx.bitsN_drop l k x hx, Hy.out, show k + 1 = 32 - j by have := Hkj.out; omega])
      clear hx hbl hpow
      rcases x with _ | _
      all_goals
        go_wp2_with fail
        go_roundg (gk - 1)
        case measure => omega
        case rel => exact ⟨rfl, j + 1, _, by omega, by rw [← Hk.out]; congr 1; omega, by rw [Hnx.out]; simp; omega, rfl⟩
    · obtain rfl : j = 32 := by omega
      rw [show (32 - 32 : Nat) = 0 by rfl, List.drop_zero] at Hy
      go_wp2_with fail
      go_ret
      exact ⟨ret_int (by rw [← Hres.out, Hy.out]), rfl⟩
end Go.Proofs.YtkpkfgcbccaibaaDoor.Crc

/- DxLeft -/

/-
  Layer 2, the document's answer: the walk of 'left' (the division).
-/
set_option linter.unusedVariables false
set_option linter.unusedSimpArgs false
namespace Go.Proofs.YtkpkfgcbccaibaaDoor.Crc
open Go.RowKit

/-- a window of bools that may be written: block g from place o on -/
def OwnB (w : World) (base g o : Nat) (l : List Bool) : Prop := base ≤ g ∧ g < w.heap.size ∧ ∀ k c, l[k]? = some c → w.cell? ⟨g, o + k, none⟩ = some (.bool c) ∧ w.frozen? ⟨g, o + k, none⟩ = false
theorem OwnB.of_own {w : World} {base g n cap : Nat} {l : List Bool} (h : w.ownsRow base 4 1 (.slice (some ⟨g, 0, none⟩) n cap) n (blvs l)) : OwnB w base g 0 l := by
  have hlt := h.lt g rfl
  refine ⟨hlt.1, hlt.2, fun k c hk => ?_⟩
  have h1 := h.cells (g := g) rfl k _ (blvs_get? l k c hk)
  rw [add_none] at h1
  exact ⟨h1, by rw [Nat.zero_add]; exact h.frozenAt k⟩
theorem OwnB.drop {w : World} {base g o : Nat} {l : List Bool} (h : OwnB w base g o l) (m : Nat) : OwnB w base g (o + m) (l.drop m) :=
  ⟨h.1, h.2.1, fun k c hk => by
    rw [List.getElem?_drop] at hk
    have := h.2.2 (m + k) c hk
    rw [Nat.add_assoc]
    exact this⟩
theorem OwnB.rd {w : World} {base g o : Nat} {l : List Bool} (h : OwnB w base g o l) : Rd w w.heap.size (some ⟨g, o, none⟩) (blvs l) := fun _ =>
  ⟨g, o, rfl, h.2.1, fun j u hu => by
    simp only [blvs, List.getElem?_map] at hu
    rcases hj : l[j]? with _ | c
    · rw [hj] at hu; cases hu
    · rw [hj] at hu
      simp at hu
      rw [← hu]
      exact (h.2.2 j c hj).1⟩
theorem OwnB.set {w : World} {base g o : Nat} {l : List Bool} (h : OwnB w base g o l) (k : Nat) (b : Bool) (hk : k < l.length) : OwnB (w.setCell ⟨g, o + k, none⟩ (.bool b)) base g o (l.set k b) := by
  refine ⟨h.1, by simpa using h.2.1, fun j c hj => ?_⟩
  refine ⟨?_, ?_⟩
  · by_cases e : j = k
    · subst e
      rw [List.getElem?_set_self hk] at hj
      injection hj with hj
      subst hj
      obtain ⟨x, hx⟩ : ∃ x, l[j]? = some x := ⟨l[j], List.getElem?_eq_getElem hk⟩
      exact World.cell?_setCell_same _ _ _ (h.2.2 j x hx).1
    · rw [List.getElem?_set_ne (Ne.symm e)] at hj
      rw [World.cell?_setCell_other]
      · exact (h.2.2 j c hj).1
      · simp only [ne_eq, Addr.mk.injEq]; omega
  · rw [World.frozen?_setCell]
    by_cases e : j = k
    · subst e
      obtain ⟨x, hx⟩ : ∃ x, l[j]? = some x := ⟨l[j], List.getElem?_eq_getElem hk⟩
      exact (h.2.2 j x hx).2
    · rw [List.getElem?_set_ne (Ne.symm e)] at hj
      exact (h.2.2 j c hj).2
theorem OwnB.drew {w : World} {base g o : Nat} {l : List Bool} (h : OwnB w base g o l) : OwnB w.drew base g o l := h
theorem bne_xor (x y : Bool) : (!(x == y)) = (x ^^ y) := by cases x <;> cases y <;> rfl

set_option maxRecDepth 100000 in
set_option maxHeartbeats 2000000 in
theorem left_any (A : Option Addr) (row : List Bool) (c : Nat) (w : World) (h : Rd w w.heap.size A (blvs row)) (hl : 32 ≤ row.length) (hm : row.length ≤ 1000000) :
    Calls Tryd.prog 62 #[.slice A row.length c] w fun e w' => ∃ (g o cc : Nat) (r : List Bool), e = .returned (.slice (some ⟨g, o, none⟩) 32 cc) ∧ 32 ≤ cc ∧ OwnB w' w.heap.size g o r ∧ r.length = 32 ∧ Cx.val r = Cx.val row ∧ Below w.heap.size w w' := by
  obtain ⟨i0, hi0, hz0, hz1, hz2⟩ := info_parts bool_info
  have Hh := Lib.hid h
  clear h
  obtain ⟨n, hn⟩ : ∃ n, row.length = n := ⟨_, rfl⟩
  have Hn := Lib.hid hn
  rw [hn] at hl hm ⊢
  clear hn
  go_enter Tryd.func62, Tryd.ntmps62
  go_wp2_with fail
  refine (modulus_any _).mono ?_
  rintro e w1 ⟨vm, rfl, hmod, b1⟩
  obtain ⟨gm, capm, rfl, hgm1, hgm2⟩ := hmod.form (by omega)
  have Hmod := Lib.hid hmod
  clear hmod
  go_wp2_with (at_builtin; (refine wpList_append_rd _ rfl _ _ 120 rfl w1.heap.size 4 i0 (.bool false) 1 1 Tryd.underlying120 hi0 hz0 hz1 hz2 rfl (by omega) (.slice none 0 0) 0 [] rfl (World.ownsRow_nil _ _ _ _) w.heap.size A n c (blvs row) rfl (by rw [blvs_length, Hn.out]; omega) (Hh.out.below b1 (Nat.le_refl _)) (blvs_one row) (by unfold maxLen; omega) (by omega) (Nat.le_refl _) ?_); intro v2 w2 hown2 b2 _ _)
  rw [Nat.zero_add, List.nil_append] at hown2
  obtain ⟨g, cap, rfl, hg1, hg2⟩ := hown2.form (by omega)
  have Hown2 := Lib.hid hown2
  clear hown2
  go_loopg [4] 0 (fun k o wr => w2 = wr ∧ o = .slice (some ⟨g, 0, none⟩) n cap)
  case atStart => exact ⟨rfl, rfl⟩
  case round =>
    obtain ⟨rfl, rfl⟩ := hrel
    have hn32 : decide (n < 32) = false := by simp; omega
    go_wp2_with fail
    clear hn32
    go_loopg [5] (n - 32) (fun k i wr => ∃ (j : Nat) (lj : List Bool), j + k = n - 32 ∧ i = .int .i64 j ∧ wr.ownsRow w1.heap.size 4 1 (.slice (some ⟨g, 0, none⟩) n cap) n (blvs lj) ∧ lj.length = n ∧ Cx.val (lj.drop j) = Cx.val row ∧ Below w1.heap.size w1 wr)
    case atStart => exact ⟨0, row, by omega, rfl, Hown2.out, Hn.out, rfl, b2⟩
    case round =>
      obtain ⟨j, lj, hj, rfl, hown, hlj, hval, hb⟩ := hrel
      have Hlj := Lib.hid hlj
      have Hval := Lib.hid hval
      have Hown := Lib.hid hown
      clear hlj hval hown
      by_cases hlt : j + 32 < n
      · have t1 : (j : Int) + 32 < (n : Int) := by omega
        obtain ⟨x, hx⟩ : ∃ x, lj[j]? = some x := ⟨lj[j]'(by rw [Hlj.out]; omega), List.getElem?_eq_getElem _⟩
        have hcell := Hown.out.cellAt j (by omega)
        rw [blvs_get? lj j x hx] at hcell
        obtain ⟨G, rfl⟩ : ∃ G, G = gk := ⟨_, rfl⟩
        rcases x with _ | _
        · have Hx := Lib.hid hx
          clear hx
          go_wp2_with fail
          go_roundg (G - 1)
          case measure => omega
          case rel => exact ⟨j + 1, lj, by omega, by go_num, Hown.out, Hlj.out, by rw [Cx.div_same Hx.out, Hval.out], hb⟩
        · have Hx := Lib.hid hx
          clear hx
          go_wp2_with fail
          clear hcell
          go_loopg [6] 32 (fun k i wx => ∃ (m : Nat) (lm : List Bool), m + k = 32 ∧ i = .int .i64 m ∧ wx.ownsRow w1.heap.size 4 1 (.slice (some ⟨g, 0, none⟩) n cap) n (blvs lm) ∧ Cx.DivIn lj j m lm ∧ Below w1.heap.size w1 wx)
          case atStart => exact ⟨0, lj, by omega, rfl, Hown.out, Cx.DivIn.zero (by rw [Hlj.out]; exact hlt) Hx.out, hb⟩
          case round =>
            obtain ⟨m, lm, hm, rfl, hown, hdiv, hbx⟩ := hrel
            have Hdiv := Lib.hid hdiv
            have Hownm := Lib.hid hown
            clear hdiv hown
            have Hlm := Lib.hid (Hdiv.out.1.trans Hlj.out)
            by_cases hm32 : m < 32
            · obtain ⟨x, hx⟩ : ∃ x, lm[j + 1 + m]? = some x := ⟨lm[j + 1 + m]'(by rw [Hlm.out]; omega), List.getElem?_eq_getElem _⟩
              obtain ⟨y, hy⟩ : ∃ y, Cx.modL[m]? = some y := ⟨Cx.modL[m]'(by rw [Cx.modL_length]; omega), List.getElem?_eq_getElem _⟩
              have hc1 := Hownm.out.cellAt (j + 1 + m) (by omega)
              rw [blvs_get? lm _ x hx] at hc1
              have hf1 := Hownm.out.frozenAt (j + 1 + m)
              have hc2 := (hbx.cell (p := ⟨gm, m, none⟩) hgm2).trans (Hmod.out.cellAt m (by omega))
              rw [blvs_get? Cx.modL m y hy] at hc2
              have Hstep := Lib.hid (Cx.DivIn.step (by rw [Hlj.out]; exact hlt) hm32 Hdiv.out hx hy)
              have hxy := bne_xor x y
              generalize (x ^^ y) = z at hxy Hstep
              clear hx hy
              have t2 : (0 : Int) ≤ (j : Int) + 1 + (m : Int) := by omega
              have t3 : (j : Int) + 1 + (m : Int) < (n : Int) := by omega
              have t4 : ((j : Int) + 1 + (m : Int)).toNat = j + 1 + m := by omega
              have t5 : (m : Int) < 32 := by omega
              have hne : g ≠ gm := by omega
              go_wp2_with fail
              go_region
              go_wp2_with fail
              go_roundg (gk - 1)
              case measure => omega
              case rel =>
                obtain ⟨hst, _⟩ := Hownm.out.stored (j + 1 + m) (.bool z)
                rw [← blvs_set] at hst
                exact ⟨m + 1, _, by omega, by go_num, hst.drew, Hstep.out, (hbx.setCell hg1 _).drew⟩
            · obtain rfl : m = 32 := by omega
              go_wp2_with fail
              go_roundg (G - 1)
              case measure => omega
              case rel => exact ⟨j + 1, lm, by omega, by go_num, Hownm.out, Hlm.out, by rw [Hdiv.out.done, Hval.out], hbx⟩
      · obtain rfl : j = n - 32 := by omega
        obtain ⟨k, rfl⟩ : ∃ k, n = k + 32 := ⟨n - 32, by omega⟩
        rw [Nat.add_sub_cancel] at Hval
        obtain ⟨q, hq⟩ : ∃ q, k + 32 - 32 = q := ⟨_, rfl⟩
        have hq' : q = k := by omega
        rw [hq]
        subst hq'
        clear hq
        have hcap : q + 32 ≤ cap := by
          rcases Hown.out.2 with ⟨h0, _⟩ | ⟨g', cap', cur, hv, _, _, hc, _⟩
          · cases h0
          · injection hv with _ _ h3
            omega
        have t1 : ¬ cap = q := by omega
        go_wp2_with fail
        go_ret
        refine ⟨g, q, cap - q, lj.drop q, ?_, by omega, ?_, by rw [List.length_drop, Hlj.out]; omega, Hval.out, b1.trans (hb.mono b1.size)⟩
        · rfl
        · have := (OwnB.of_own Hown.out).drop q
          rw [Nat.zero_add] at this
          exact ⟨by have := b1.size; omega, this.2.1, this.2.2⟩
end Go.Proofs.YtkpkfgcbccaibaaDoor.Crc

/- DxSum -/

/-
  Layer 2, the document's answer: the walk of Sum.
-/
set_option linter.unusedVariables false
set_option linter.unusedSimpArgs false
namespace Go.Proofs.YtkpkfgcbccaibaaDoor.Crc
open Go.RowKit

/-- the first k places turned -/
def notL (r : List Bool) (k : Nat) : List Bool := (r.take k).map not ++ r.drop k
theorem notL_zero (r : List Bool) : notL r 0 = r := by simp [notL]
theorem notL_length (r : List Bool) (k : Nat) : (notL r k).length = r.length := by simp [notL]; omega
theorem notL_get (r : List Bool) (k : Nat) : (notL r k)[k]? = r[k]? := by
  unfold notL
  rcases Nat.lt_or_ge k r.length with h | h
  · rw [List.getElem?_append_right (by simp; omega), List.length_map, List.length_take, Nat.min_eq_left (by omega), Nat.sub_self, List.getElem?_drop, Nat.add_zero]
  · rw [List.getElem?_eq_none (by simp; omega), List.getElem?_eq_none (by omega)]
theorem notL_succ (r : List Bool) (k : Nat) (x : Bool) (h : r[k]? = some x) : (notL r k).set k (!x) = notL r (k + 1) := by
  obtain ⟨hk, hx⟩ := List.getElem?_eq_some_iff.1 h
  unfold notL
  rw [List.set_append_right _ _ (by simp; omega), List.length_map, List.length_take, Nat.min_eq_left (by omega), Nat.sub_self, List.drop_eq_getElem_cons hk, List.set_cons_zero, List.take_succ_eq_append_getElem hk, List.map_append, hx]
  simp
theorem notL_all (r : List Bool) (h : r.length = 32) : notL r 32 = r.map not := by
  unfold notL
  rw [List.take_of_length_le (by omega), List.drop_eq_nil_of_le (by omega), List.append_nil]

theorem byte_bit (c : UInt8) (k : Nat) : ((((c.toNat / 2 ^ k : Nat) : Int) % 2) == 1) = c.toNat.testBit k := by
  rw [Nat.testBit_eq_decide_div_mod_eq, Bool.eq_iff_iff]
  simp only [beq_iff_eq, decide_eq_true_eq]
  omega
theorem byte_next (n j : Nat) : ((n / 2 ^ j : Nat) : Int) / 2 = ((n / 2 ^ (j + 1) : Nat) : Int) := by
  rw [Nat.pow_succ, ← Nat.div_div_eq_div_mul]
  omega

set_option maxRecDepth 100000 in
set_option maxHeartbeats 2000000 in
theorem rsum_any (A : Option Addr) (l : List UInt8) (c : Nat) (w : World) (h : Rd w w.heap.size A (bvs l)) (hm : l.length ≤ 100000) :
    Calls Tryd.prog 52 #[.slice A l.length c] w fun e w' => e = .returned (.int .u32 (Cx.sum l).toNat) ∧ Below w.heap.size w w' := by
  obtain ⟨i0, hi0, hz0, hz1, hz2⟩ := info_parts bool_info
  have Hh := Lib.hid h
  clear h
  obtain ⟨n, hn⟩ : ∃ n, l.length = n := ⟨_, rfl⟩
  have Hn := Lib.hid hn
  rw [hn] at hm ⊢
  clear hn
  go_enter Tryd.func52, Tryd.ntmps52
  go_wp2_with fail
  go_loopg [3, 4] n (fun k o i wr => ∃ j : Nat, j + k = n ∧ i = .int .i64 j ∧ wr.ownsRow w.heap.size 4 1 o (8 * j) (blvs (Cx.bitsL (l.take j))) ∧ Below w.heap.size w wr)
  case atStart => exact ⟨0, by omega, rfl, World.ownsRow_nil _ _ _ _, Below.refl _ _⟩
  case round =>
    obtain ⟨j, hj, rfl, hown, hb⟩ := hrel
    obtain ⟨G, rfl⟩ : ∃ G, G = gk := ⟨_, rfl⟩
    by_cases hlt : j < n
    · obtain ⟨bb, o, rfl, hbb, hc⟩ := Hh.out (by intro e; have := congrArg List.length e; simp [bvs, Hn.out] at this; omega)
      have hjl : j < l.length := by rw [Hn.out]; exact hlt
      have hcell := (hb.cell (p := ⟨bb, o + j, none⟩) hbb).trans (hc j _ (bvs_get l j hjl))
      unfold bv at hcell
      have Htk := Lib.hid (List.take_succ_eq_append_getElem hjl)
      generalize l[j] = x at hcell Htk
      clear hc hjl
      have hx := UInt8.toNat_lt x
      have Hown := Lib.hid hown
      clear hown
      go_wp2_with fail
      clear hcell
      go_loopg [3, 5, 6] 8 (fun g o y i wx => ∃ (k z : Nat), k + g = 8 ∧ i = .int .i64 k ∧ y = .int .u8 (z : Int) ∧ z = x.toNat / 2 ^ k ∧ wx.ownsRow w.heap.size 4 1 o (8 * j + k) (blvs (Cx.bitsL (l.take j) ++ Cx.bits8 x k)) ∧ Below w.heap.size w wx)
      case atStart => exact ⟨0, x.toNat, by omega, rfl, rfl, by simp, by simpa [Cx.bits8] using Hown.out, hb⟩
      case round =>
        obtain ⟨k, z, hk, rfl, rfl, hz, hownk, hbx⟩ := hrel
        have hbit := byte_bit x k
        have hnx := byte_next x.toNat k
        rw [← hz] at hbit hnx
        have hz8 : z < 256 := by rw [hz]; exact Nat.lt_of_le_of_lt (Nat.div_le_self _ _) hx
        generalize hq : x.toNat.testBit k = q at hbit
        generalize hz2' : x.toNat / 2 ^ (k + 1) = z2 at hnx
        have Hq := Lib.hid hq
        have Hz2 := Lib.hid hz2'
        have hszx := hbx.size
        clear hq hz2' hz
        by_cases hk8 : k < 8
        · have t1 : (k : Int) < 8 := by omega
          go_wp2_with (at_builtin; (refine wpList_append_1 _ rfl _ _ 120 rfl w.heap.size 4 i0 (.bool false) 1 Tryd.underlying120 hi0 hz0 hz1 hz2 rfl u3 (8 * j + k) (blvs (Cx.bitsL (l.take j) ++ Cx.bits8 x k)) rfl (hownk.alloc _) _ 1 (.bool q) rfl (cell_new1 _ _ _) rfl (by unfold maxLen; omega) (by omega) (by simp; omega) ?_); intro v2 w2 hown2 hbw2 _ _)
          go_roundg (gk - 1)
          case measure => omega
          case rel => exact ⟨k + 1, z2, by omega, by go_num, rfl, Hz2.out.symm, by rw [Cx.bits8_succ, ← List.append_assoc, blvs_append, Hq.out]; exact hown2, (hbx.alloc hbx.size _).trans hbw2⟩
        · obtain rfl : k = 8 := by omega
          have Hownk := Lib.hid hownk
          clear hownk
          go_wp2_with fail
          go_roundg (G - 1)
          case measure => omega
          case rel =>
            refine ⟨j + 1, by omega, by go_num, ?_, hbx⟩
            rw [Htk.out, Cx.bitsL_append, show Cx.bitsL [x] = Cx.bits8 x 8 by simp [Cx.bitsL], show 8 * (j + 1) = 8 * j + 8 by omega]
            exact Hownk.out
    · obtain rfl : j = n := by omega
      rw [List.take_of_length_le (by rw [Hn.out]; omega)] at hown
      go_wp2_with fail
      go_loopg [3, 7] 32 (fun g o i wx => ∃ k : Nat, k + g = 32 ∧ i = .int .i64 k ∧ wx.ownsRow w.heap.size 4 1 o (8 * j + k) (blvs (Cx.bitsL l ++ List.replicate k false)) ∧ Below w.heap.size w wx)
      case atStart => exact ⟨0, by omega, rfl, by simpa using hown, hb⟩
      case round =>
        obtain ⟨k, hk, rfl, hownk, hbx⟩ := hrel
        have hszx := hbx.size
        by_cases hk32 : k < 32
        · have t1 : (k : Int) < 32 := by omega
          go_wp2_with (at_builtin; (refine wpList_append_1 _ rfl _ _ 120 rfl w.heap.size 4 i0 (.bool false) 1 Tryd.underlying120 hi0 hz0 hz1 hz2 rfl u3 (8 * j + k) (blvs (Cx.bitsL l ++ List.replicate k false)) rfl (hownk.alloc _) _ 1 (.bool false) rfl (cell_new1 _ _ _) rfl (by unfold maxLen; omega) (by omega) (by simp; omega) ?_); intro v2 w2 hown2 hbw2 _ _)
          go_roundg (gk - 1)
          case measure => omega
          case rel => exact ⟨k + 1, by omega, by go_num, by rw [List.replicate_succ', ← List.append_assoc, blvs_append]; exact hown2, (hbx.alloc hbx.size _).trans hbw2⟩
        · obtain rfl : k = 32 := by omega
          obtain ⟨g, cap, rfl, hg1, hg2⟩ := hownk.form (by omega)
          have Hownk := Lib.hid hownk
          clear hownk hown
          go_wp2_with fail
          go_loopg [8] 32 (fun kk i wy => ∃ (m : Nat) (r : List Bool), m + kk = 32 ∧ i = .int .i64 m ∧ wy.ownsRow w.heap.size 4 1 (.slice (some ⟨g, 0, none⟩) (8 * j + 32) cap) (8 * j + 32) (blvs r) ∧ Cx.FlipIn l m r ∧ Below w.heap.size w wy)
          case atStart => exact ⟨0, _, by omega, rfl, Hownk.out, Cx.FlipIn.zero l, hbx⟩
          case round =>
            obtain ⟨m, r, hm, rfl, hownm, hfl, hby⟩ := hrel
            have Hownm := Lib.hid hownm
            have Hfl := Lib.hid hfl
            clear hownm hfl
            have Hrl := Lib.hid (Hfl.out.1.trans (by rw [Hn.out]))
            by_cases hm32 : m < 32
            · obtain ⟨x, hx⟩ : ∃ x, r[m]? = some x := ⟨r[m]'(by rw [Hrl.out]; omega), List.getElem?_eq_getElem _⟩
              have hc1 := Hownm.out.cellAt m (by omega)
              rw [blvs_get? r _ x hx] at hc1
              have hf1 := Hownm.out.frozenAt m
              have Hst := Lib.hid (Hfl.out.step hm32 hx)
              have t1 : (m : Int) < 32 := by omega
              have t2 : (m : Int) < 8 * (j : Int) + 32 := by omega
              clear hx
              go_wp2_with fail
              go_roundg (gk - 1)
              case measure => omega
              case rel =>
                obtain ⟨hst, _⟩ := Hownm.out.stored m (.bool (!x))
                rw [← blvs_set] at hst
                exact ⟨m + 1, _, by omega, by go_num, hst, Hst.out, hby.setCell hg1 _⟩
            · obtain rfl : m = 32 := by omega
              have Hval := Lib.hid Hfl.out.done
              have Hrd := Lib.hid (Rd.of_own Hownm.out)
              go_wp2_with fail
              have hleft := left_any (some ⟨g, 0, none⟩) r cap wr Hrd.out (by rw [Hrl.out]; omega) (by rw [Hrl.out]; omega)
              rw [Hrl.out] at hleft
              refine hleft.mono ?_
              rintro e w4 ⟨g4, o4, c4, r4, rfl, hc4, hr4, hl4, hv4, b4⟩
              have Hr4 := Lib.hid hr4
              have Hl4 := Lib.hid hl4
              have Hv4 := Lib.hid (hv4.trans Hval.out)
              have hb4 := hby.trans (b4.mono hby.size)
              have hg4 : w.heap.size ≤ g4 := by have := hr4.1; have := hby.size; omega
              clear hr4 hl4 hv4 hleft
              go_wp2_with fail
              go_loopg [10] 32 (fun kk i wz => ∃ (m : Nat), m + kk = 32 ∧ i = .int .i64 m ∧ OwnB wz w.heap.size g4 o4 (notL r4 m) ∧ Below w.heap.size w wz)
              case atStart => exact ⟨0, by omega, rfl, by rw [notL_zero]; exact ⟨hg4, Hr4.out.2.1, Hr4.out.2.2⟩, hb4⟩
              case round =>
                obtain ⟨q, hq, rfl, hownq, hbz⟩ := hrel
                have Hownq := Lib.hid hownq
                clear hownq
                by_cases hq32 : q < 32
                · obtain ⟨x, hx⟩ : ∃ x, r4[q]? = some x := ⟨r4[q]'(by rw [Hl4.out]; omega), List.getElem?_eq_getElem _⟩
                  have hx2 : (notL r4 q)[q]? = some x := by rw [notL_get]; exact hx
                  obtain ⟨hc1, hf1⟩ := Hownq.out.2.2 q x hx2
                  have Hst := Lib.hid (notL_succ r4 q x hx)
                  have t1 : (q : Int) < 32 := by omega
                  clear hx hx2
                  go_wp2_with fail
                  go_roundg (gk - 1)
                  case measure => omega
                  case rel =>
                    have hs := Hownq.out.set q (!x) (by rw [notL_length, Hl4.out]; exact hq32)
                    rw [Hst.out] at hs
                    exact ⟨q + 1, by omega, by go_num, hs, hbz.setCell hg4 _⟩
                · obtain rfl : q = 32 := by omega
                  have Hrd5 := Lib.hid Hownq.out.rd
                  go_wp2_with fail
                  refine (bits_any _ (notL r4 32) _ _ _ Hrd5.out (by rw [notL_length, Hl4.out])).mono ?_
                  rintro e w6 ⟨rfl, rfl⟩
                  rw [notL_all r4 Hl4.out, Cx.val_not r4 Hl4.out, Hv4.out, show ~~~ (Cx.reg Cx.ones l) = Cx.sum l by unfold Cx.sum Cx.more; rw [show ~~~ (0#32) = Cx.ones by decide]]
                  go_wp2_with fail
                  go_ret
                  exact ⟨rfl, hbz⟩
end Go.Proofs.YtkpkfgcbccaibaaDoor.Crc

