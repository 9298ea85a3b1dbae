/-
  SegKnown, part 7 of what the law's proof leans on: HdLook, DxPlain, DxMem, DxLeft, RcRefGet, OrdR, Region2.
-/
import Derived.Test.YtaicibmaogiibaaGreatDoorSegKnownQ3
import Derived.Test.YtaicibmaogiibaaGreatDoorSegKnownQ2
import Derived.Deep.DeepCutAuto
import Derived.OneCell
import Derived.Deep.RegionHeldLaw
import Derived.Test.YtaicibmaogiibaaGreatDoorSegKnownQ6
import Derived.Test.YtaicibmaogiibaaGreatDoorSegKnownQ5
import Derived.RangeFuncCalls
import Derived.RangeFuncNested
import Derived.OrdersIn
import Derived.TacticsIn
import Derived.Test.YtaicibmaogiibaaGreatDoorSegKnownQ1
/- HdLook -/

/-
  Layer 10: the walks of Check and of the chapter's rows.
-/
set_option linter.unusedVariables false
set_option linter.unusedSimpArgs false
namespace Go.Proofs.YtaicibmaogiibaaGreatDoor.Hd
open Go.RowKit

theorem hret_int {k : IntKind} {a b : Int} (h : a = b) : Ending.returned (.int k a) = .returned (.int k b) := by rw [h]
theorem check_any (v : Value) (l : List UInt8) (B : Nat) (k n : Int) (w : World) (h : Bs w B v l) (hB : B ≤ w.heap.size) (hm : l.length ≤ 140737488355328) (ht : Crc.Tab w) (q : Nat) (hq : checkN l k n = q) :
    Calls Tryz.prog 77 #[v, .int .i64 k, .int .u32 n] w fun e w' => e = .returned (.int .i64 q) ∧ Below w.heap.size w w' := by
  obtain ⟨⟨K, I, E⟩, hg⟩ : ∃ p, getQ l = p := ⟨_, rfl⟩
  have hget := get_any v l B w h hB hm ht (K, I, E) hg
  unfold checkN at hq
  rw [hg] at hq
  simp only at hq hget
  obtain ⟨A, c, rfl, _, _⟩ := h
  have HQ := Lib.hid hq
  clear hq hg
  by_cases hE : E = 0
  · subst hE
    by_cases hk : (K : Int) = k
    · have e1 : ((K : Int) == k) = true := by simp [hk]
      by_cases hn : (I : Int) = n
      · have e2 : ((I : Int) == n) = true := by simp [hn]
        have H := Lib.hid (show q = 0 by rw [← HQ.out, if_pos rfl, if_pos ⟨hk, hn⟩])
        subst hk hn
        go_enter Tryz.func77, Tryz.ntmps77
        go_wp2_with fail
        refine hget.mono ?_
        rintro e w1 ⟨rfl, hb⟩
        go_wp2_with fail
        go_ret
        exact ⟨hret_int (by rw [H.out]; rfl), hb⟩
      · have e2 : ((I : Int) == n) = false := by simp [hn]
        have H := Lib.hid (show q = 23 by rw [← HQ.out, if_pos rfl, if_neg (fun h => hn h.2)])
        subst hk
        clear hn
        go_enter Tryz.func77, Tryz.ntmps77
        go_wp2_with fail
        refine hget.mono ?_
        rintro e w1 ⟨rfl, hb⟩
        go_wp2_with fail
        go_ret
        exact ⟨hret_int (by rw [H.out]; rfl), hb⟩
    · have e1 : ((K : Int) == k) = false := by simp [hk]
      have H := Lib.hid (show q = 23 by rw [← HQ.out, if_pos rfl, if_neg (fun h => hk h.1)])
      clear hk
      go_enter Tryz.func77, Tryz.ntmps77
      go_wp2_with fail
      refine hget.mono ?_
      rintro e w1 ⟨rfl, hb⟩
      go_wp2_with fail
      go_ret
      exact ⟨hret_int (by rw [H.out]; rfl), hb⟩
  · have e1 : ((E : Int) == 0) = false := by simp [hE]
    have H := Lib.hid (show q = E by rw [← HQ.out, if_neg hE])
    clear hE
    go_enter Tryz.func77, Tryz.ntmps77
    go_wp2_with fail
    refine hget.mono ?_
    rintro e w1 ⟨rfl, hb⟩
    go_wp2_with fail
    go_ret
    exact ⟨hret_int (by rw [H.out]), hb⟩
end Go.Proofs.YtaicibmaogiibaaGreatDoor.Hd

/- DxPlain -/

/-
  Layer 2, the document's answer (rows of coefficients, divided as on paper), as plain functions of lists.
-/
set_option linter.unusedVariables false
set_option linter.unusedSimpArgs false
namespace Go.Proofs.YtaicibmaogiibaaGreatDoor.Cx

/-- what a row of coefficients, the greatest power first, leaves; with b in place of x to 0 -/
def mval (b : BitVec 32) : List Bool → BitVec 32
  | [] => 0#32
  | c :: r => (if c then tp r.length b else 0#32) ^^^ mval b r
def val (l : List Bool) : BitVec 32 := mval e0 l

theorem mval_append (b : BitVec 32) (l m : List Bool) : mval b (l ++ m) = tp m.length (mval b l) ^^^ mval b m := by
  induction l with
  | nil => simp [mval, tp_zero]
  | cons c l ih =>
    simp only [List.cons_append, mval, ih, tp_xor, tp_if, ← tp_add, List.length_append]
    rw [Nat.add_comm m.length l.length, BitVec.xor_assoc]
theorem mval_zeros (b : BitVec 32) (n : Nat) : mval b (List.replicate n false) = 0#32 := by
  induction n with
  | zero => rfl
  | succ n ih => simp [List.replicate_succ, mval, ih]
theorem val_zeros (l : List Bool) (n : Nat) : val (l ++ List.replicate n false) = tp n (val l) := by
  unfold val
  rw [mval_append, mval_zeros, List.length_replicate, BitVec.xor_zero]
/-- one coefficient is turned -/
theorem mval_set (b : BitVec 32) (l : List Bool) : ∀ (p : Nat) (c d : Bool), l[p]? = some c → mval b (l.set p (c ^^ d)) = mval b l ^^^ (if d then tp (l.length - 1 - p) b else 0#32) := by
  induction l with
  | nil => intro p c d h; simp at h
  | cons x l ih =>
    intro p c d h
    rcases p with _ | p
    · simp at h
      subst h
      simp only [List.set_cons_zero, mval, if_xor, List.length_cons]
      rw [BitVec.xor_assoc, BitVec.xor_comm (if d then tp l.length b else 0#32), ← BitVec.xor_assoc]
      simp
    · simp at h
      simp only [List.set_cons_succ, mval, ih p c d h, List.length_set, List.length_cons]
      rw [← BitVec.xor_assoc]
      congr 3
      omega
theorem val_set (l : List Bool) (p : Nat) (c d : Bool) (h : l[p]? = some c) : val (l.set p (c ^^ d)) = val l ^^^ (if d then tp (l.length - 1 - p) e0 else 0#32) := mval_set e0 l p c d h
theorem mval_drop (b : BitVec 32) (l : List Bool) (k : Nat) (c : Bool) (h : l[k]? = some c) : mval b (l.drop k) = (if c then tp (l.length - 1 - k) b else 0#32) ^^^ mval b (l.drop (k + 1)) := by
  have hk : k < l.length := (List.getElem?_eq_some_iff.1 h).1
  have hc : l[k] = c := (List.getElem?_eq_some_iff.1 h).2
  rw [List.drop_eq_getElem_cons hk, mval, hc, List.length_drop, show l.length - (k + 1) = l.length - 1 - k by omega]
/-- with b in place of x to 0: by b -/
theorem mval_mul (b : BitVec 32) (l : List Bool) : mval b l = mul (val l) b := by
  induction l with
  | nil => exact (mul_zero_left b).symm
  | cons c l ih =>
    unfold val at ih ⊢
    simp only [mval, mul_xor_left, ih]
    congr 1
    cases c
    · simp [mul_zero_left]
    · simp only [if_true]
      exact (xp_mul b l.length).symm

/-- a row's bits, where they stand -/
theorem val_bit (l : List Bool) : ∀ (k : Nat), l.length ≤ 32 → k < 32 → (val l.reverse).getLsbD k = (l.reverse.getD (k + l.length - 32) false && decide (32 ≤ k + l.length)) := by
  induction l with
  | nil => intro k h hk; simp [val, mval]
  | cons c l ih =>
    intro k h hk
    have hs : val ((c :: l).reverse) = tx (val l.reverse) ^^^ (if c then e0 else 0#32) := by
      unfold val
      rw [List.reverse_cons, mval_append]
      simp [mval, tp]
    rw [hs, BitVec.getLsbD_xor]
    simp only [List.length_cons] at h
    have hz : (val l.reverse).getLsbD 0 = false := by
      rw [ih 0 (by omega) (by omega)]
      simp
      intro _
      omega
    have ht : (tx (val l.reverse)).getLsbD k = if k = 31 then false else (val l.reverse).getLsbD (k + 1) := by
      unfold tx
      rw [hz]
      simp only [Bool.false_eq_true, if_false, BitVec.xor_zero, BitVec.getLsbD_ushiftRight]
      split
      · rename_i h31
        subst h31
        exact BitVec.getLsbD_of_ge _ _ (by omega)
      · rw [Nat.add_comm]
    rw [ht]
    have he : ∀ i, i < 32 → e0.getLsbD i = decide (i = 31) := by decide
    by_cases h31 : k = 31
    · subst h31
      simp only [if_true, List.reverse_cons, List.length_cons]
      rw [show 31 + (l.length + 1) - 32 = l.reverse.length by simp; omega]
      have hd : decide (32 ≤ 31 + (l.length + 1)) = true := by simp; omega
      rw [hd]
      have he31 : e0.getLsbD 31 = true := by decide
      cases c
      · simp
      · simp only [if_true, he31]
        simp
    · rw [if_neg h31, ih (k + 1) (by omega) (by omega)]
      have e1 : (if c then e0 else 0#32).getLsbD k = false := by
        cases c
        · simp
        · simp [he k hk, h31]
      rw [e1, Bool.xor_false]
      simp only [List.length_cons, List.reverse_cons]
      by_cases hle : 32 ≤ k + (l.length + 1)
      · have q1 : decide (32 ≤ k + 1 + l.length) = true := by simp; omega
        have q2 : decide (32 ≤ k + (l.length + 1)) = true := by simp; omega
        rw [q1, q2, show k + 1 + l.length - 32 = k + (l.length + 1) - 32 by omega]
        simp only [Bool.and_true]
        rw [List.getD_eq_getElem?_getD, List.getD_eq_getElem?_getD, List.getElem?_append_left (by simp; omega)]
      · have q1 : decide (32 ≤ k + 1 + l.length) = false := by simp; omega
        have q2 : decide (32 ≤ k + (l.length + 1)) = false := by simp; omega
        rw [q1, q2]
        simp
theorem val_bit32 (l : List Bool) (h : l.length = 32) (k : Nat) (hk : k < 32) : (val l).getLsbD k = l.getD k false := by
  have := val_bit l.reverse k (by simp; omega) hk
  rw [List.reverse_reverse] at this
  rw [this]
  simp [h]
/-- a polynomial of 32 bits as a row -/
def rowL (a : BitVec 32) (j : Nat) : List Bool := (List.range j).map a.getLsbD
theorem rowL_length (a : BitVec 32) (j : Nat) : (rowL a j).length = j := by simp [rowL]
theorem rowL_get (a : BitVec 32) (k : Nat) (h : k < 32) : (rowL a 32)[k]? = some (a.getLsbD k) := by simp [rowL, h]
theorem val_rowL (a : BitVec 32) : val (rowL a 32) = a := by
  apply BitVec.eq_of_getLsbD_eq
  intro i hi
  rw [val_bit32 _ (rowL_length a 32) i hi, List.getD_eq_getElem?_getD, rowL_get a i hi]
  rfl
/-- the modulus' coefficients of x to 31 down to x to 0 -/
def modL : List Bool := (List.range 32).map fun i => [28, 27, 26, 25, 23, 22, 20, 19, 18, 14, 13, 11, 10, 9, 8, 6, 0].contains (31 - i)
theorem modL_length : modL.length = 32 := by decide
theorem val_modL : val modL = tp 32 e0 := by decide +kernel
/-- a step of the division, under way: k coefficients of the modulus are taken off behind place i -/
def DivIn (l0 : List Bool) (i k : Nat) (l : List Bool) : Prop :=
  l.length = l0.length ∧ val (l.drop (i + 1)) ^^^ tp (l0.length - i - 33) (val (modL.drop k)) = val (l0.drop i)
theorem DivIn.zero {l0 : List Bool} {i : Nat} (hi : i + 32 < l0.length) (h : l0[i]? = some true) : DivIn l0 i 0 l0 := by
  refine ⟨rfl, ?_⟩
  rw [List.drop_zero, val_modL, ← tp_add]
  unfold val
  rw [mval_drop e0 l0 i true h, BitVec.xor_comm]
  simp only [if_true]
  congr 2
  omega
theorem DivIn.step {l0 l : List Bool} {i k : Nat} {c m : Bool} (hi : i + 32 < l0.length) (hk : k < 32) (h : DivIn l0 i k l) (hc : l[i + 1 + k]? = some c) (hm : modL[k]? = some m) : DivIn l0 i (k + 1) (l.set (i + 1 + k) (c ^^ m)) := by
  refine ⟨by rw [List.length_set]; exact h.1, ?_⟩
  have hd : (l.set (i + 1 + k) (c ^^ m)).drop (i + 1) = (l.drop (i + 1)).set k (c ^^ m) := by
    rw [List.drop_set, if_neg (by omega)]
    congr 1
    omega
  rw [hd, val_set (l.drop (i + 1)) k c m (by rw [List.getElem?_drop]; exact hc), ← h.2]
  have h2 : val (modL.drop k) = (if m then tp (31 - k) e0 else 0#32) ^^^ val (modL.drop (k + 1)) := by
    have := mval_drop e0 modL k m hm
    rw [modL_length] at this
    exact this
  rw [h2, tp_xor, tp_if, ← tp_add, List.length_drop, h.1, BitVec.xor_assoc]
  congr 4
  omega
theorem DivIn.done {l0 l : List Bool} {i : Nat} (h : DivIn l0 i 32 l) : val (l.drop (i + 1)) = val (l0.drop i) := by
  have := h.2
  rw [show modL.drop 32 = [] by decide] at this
  rw [← this]
  simp [val, mval, tp_zero]
/-- a product's row, under way: of the first row's coefficient number i (which is there) the first k of the second's are laid -/
def MulIn (r0 : List Bool) (b : BitVec 32) (i k : Nat) (r : List Bool) : Prop :=
  r.length = 63 ∧ val r ^^^ tp (31 - i) (val ((rowL b 32).drop k)) = val r0 ^^^ tp (31 - i) b
theorem MulIn.zero {r0 : List Bool} {b : BitVec 32} {i : Nat} (h : r0.length = 63) : MulIn r0 b i 0 r0 := ⟨h, by rw [List.drop_zero, val_rowL]⟩
theorem MulIn.step {r0 r : List Bool} {b : BitVec 32} {i k : Nat} {c : Bool} (hi : i < 32) (hk : k < 32) (h : MulIn r0 b i k r) (hc : r[i + k]? = some c) : MulIn r0 b i (k + 1) (r.set (i + k) (c ^^ b.getLsbD k)) := by
  refine ⟨by rw [List.length_set]; exact h.1, ?_⟩
  rw [val_set r (i + k) c _ hc, ← h.2, h.1]
  have h2 : val ((rowL b 32).drop k) = (if b.getLsbD k then tp (31 - k) e0 else 0#32) ^^^ val ((rowL b 32).drop (k + 1)) := by
    have := mval_drop e0 (rowL b 32) k _ (rowL_get b k hk)
    rw [rowL_length] at this
    exact this
  rw [h2, tp_xor, tp_if, ← tp_add, BitVec.xor_assoc]
  congr 4
  omega
theorem MulIn.done {r0 r : List Bool} {b : BitVec 32} {i : Nat} (h : MulIn r0 b i 32 r) : val r = val r0 ^^^ tp (31 - i) b := by
  have := h.2
  rw [List.drop_eq_nil_of_le (by rw [rowL_length]; omega)] at this
  rw [← this]
  simp [val, mval, tp_zero]
/-- and the rows' beginning -/
def MulOut (a b : BitVec 32) (i : Nat) (r : List Bool) : Prop := r.length = 63 ∧ val r ^^^ mval b ((rowL a 32).drop i) = mul a b
theorem MulOut.zero (a b : BitVec 32) : MulOut a b 0 (List.replicate 63 false) := by
  refine ⟨by simp, ?_⟩
  rw [List.drop_zero, mval_mul, val_rowL]
  unfold val
  rw [mval_zeros, BitVec.zero_xor]
theorem MulOut.off {a b : BitVec 32} {i : Nat} {r : List Bool} (hi : i < 32) (h : MulOut a b i r) (hb : a.getLsbD i = false) : MulOut a b (i + 1) r := by
  refine ⟨h.1, ?_⟩
  rw [← h.2, mval_drop b (rowL a 32) i _ (rowL_get a i hi), hb]
  simp
theorem MulOut.on {a b : BitVec 32} {i : Nat} {r0 r : List Bool} (hi : i < 32) (h : MulOut a b i r0) (hb : a.getLsbD i = true) (hr : MulIn r0 b i 32 r) : MulOut a b (i + 1) r := by
  refine ⟨hr.1, ?_⟩
  rw [← h.2, mval_drop b (rowL a 32) i _ (rowL_get a i hi), hb, hr.done, rowL_length, BitVec.xor_assoc]
  rfl
theorem MulOut.done {a b : BitVec 32} {r : List Bool} (h : MulOut a b 32 r) : val r = mul a b := by
  have := h.2
  rw [List.drop_eq_nil_of_le (by rw [rowL_length]; omega)] at this
  rw [← this]
  simp [mval]

/-- bytes as a row of bits, of each byte the lowest one first -/
def bits8 (c : UInt8) (j : Nat) : List Bool := (List.range j).map fun k => c.toNat.testBit k
theorem bits8_length (c : UInt8) (j : Nat) : (bits8 c j).length = j := by simp [bits8]
def bitsL : List UInt8 → List Bool
  | [] => []
  | c :: l => bits8 c 8 ++ bitsL l
theorem bitsL_length (l : List UInt8) : (bitsL l).length = 8 * l.length := by
  induction l with
  | nil => rfl
  | cons c l ih => simp only [bitsL, List.length_append, bits8_length, ih, List.length_cons]; omega
theorem val_byte (c : UInt8) : tp 32 (val (bits8 c 8)) = tp 8 (by8 c) := by
  have h : ∀ n : Fin 256, tp 32 (val ((List.range 8).map fun k => n.val.testBit k)) = tp 8 (BitVec.ofNat 32 n.val) := by decide +kernel
  exact h ⟨c.toNat, c.toNat_lt⟩
theorem reg_bits (l : List UInt8) : reg 0#32 l = tp 32 (val (bitsL l)) := by
  have key : ∀ (l : List UInt8) (r : BitVec 32), reg r l = tp (8 * l.length) r ^^^ tp 32 (val (bitsL l)) := by
    intro l
    induction l with
    | nil => intro r; simp only [reg, bitsL, val, mval, tp_zero, List.length_nil, Nat.mul_zero, BitVec.xor_zero]; rfl
    | cons c l ih =>
      intro r
      show reg (tp 8 (r ^^^ by8 c)) l = _
      have e1 : val (bitsL (c :: l)) = tp (8 * l.length) (val (bits8 c 8)) ^^^ val (bitsL l) := by
        unfold val
        rw [bitsL, mval_append, bitsL_length]
      rw [ih, e1, tp_xor, tp_xor, tp_xor, ← tp_add, ← tp_add, ← tp_add, Nat.add_comm 32, tp_add (8 * l.length) 32, val_byte, ← tp_add, ← BitVec.xor_assoc]
      congr 3
  rw [key, tp_zero, BitVec.zero_xor]
/-- the first k of the row's bits are turned -/
def FlipIn (l : List UInt8) (k : Nat) (r : List Bool) : Prop :=
  r.length = 8 * l.length + 32 ∧ val r ^^^ tp (8 * l.length) (val (List.replicate (32 - k) true)) = tp 32 (val (bitsL l)) ^^^ tp (8 * l.length) ones
theorem val_ones : val (List.replicate 32 true) = ones := by decide +kernel
theorem FlipIn.zero (l : List UInt8) : FlipIn l 0 (bitsL l ++ List.replicate 32 false) :=
  ⟨by rw [List.length_append, bitsL_length, List.length_replicate], by rw [val_zeros, Nat.sub_zero, val_ones]⟩
theorem FlipIn.step {l : List UInt8} {k : Nat} {r : List Bool} {c : Bool} (h : FlipIn l k r) (hk : k < 32) (hc : r[k]? = some c) : FlipIn l (k + 1) (r.set k (!c)) := by
  refine ⟨by rw [List.length_set]; exact h.1, ?_⟩
  have e : (!c) = (c ^^ true) := by cases c <;> rfl
  rw [e, val_set r k c true hc, ← h.2]
  obtain ⟨m, hm⟩ : ∃ m, 32 - k = m + 1 := ⟨31 - k, by omega⟩
  rw [hm, show 32 - (k + 1) = m by omega, List.replicate_succ]
  have e2 : val (true :: List.replicate m true) = tp m e0 ^^^ val (List.replicate m true) := by
    unfold val
    simp [mval]
  rw [e2, tp_xor, ← tp_add, h.1, BitVec.xor_assoc]
  simp only [if_true]
  congr 3
  omega
theorem FlipIn.done {l : List UInt8} {r : List Bool} (h : FlipIn l 32 r) : val r = reg ones l := by
  have := h.2
  simp only [Nat.sub_self, List.replicate_zero] at this
  rw [reg_from ones l, reg_bits, ← this]
  simp [val, mval, tp_zero]
end Go.Proofs.YtaicibmaogiibaaGreatDoor.Cx

/- DxMem -/

/-
  Layer 2, the document's answer: the walks of modulus, Row and Bits.
-/
set_option linter.unusedVariables false
set_option linter.unusedSimpArgs false
namespace Go.Proofs.YtaicibmaogiibaaGreatDoor.Crc
open Go.RowKit

/-- bools as cells -/
def blvs (l : List Bool) : List Value := l.map Value.bool
theorem blvs_get (l : List Bool) (k : Nat) (h : k < l.length) : (blvs l)[k]? = some (.bool l[k]) := by simp [blvs, h]
theorem blvs_get? (l : List Bool) (k : Nat) (c : Bool) (h : l[k]? = some c) : (blvs l)[k]? = some (.bool c) := by simp [blvs, h]
end Go.Proofs.YtaicibmaogiibaaGreatDoor.Crc

/- DxLeft -/

/-
  Layer 2, the document's answer: the walk of 'left' (the division).
-/
set_option linter.unusedVariables false
set_option linter.unusedSimpArgs false
namespace Go.Proofs.YtaicibmaogiibaaGreatDoor.Crc
open Go.RowKit

/-- a window of bools that may be written: block g from place o on -/
def OwnB (w : World) (base g o : Nat) (l : List Bool) : Prop := base ≤ g ∧ g < w.heap.size ∧ ∀ k c, l[k]? = some c → w.cell? ⟨g, o + k, none⟩ = some (.bool c) ∧ w.frozen? ⟨g, o + k, none⟩ = false
theorem OwnB.of_own {w : World} {base g n cap : Nat} {l : List Bool} (h : w.ownsRow base 4 1 (.slice (some ⟨g, 0, none⟩) n cap) n (blvs l)) : OwnB w base g 0 l := by
  have hlt := h.lt g rfl
  refine ⟨hlt.1, hlt.2, fun k c hk => ?_⟩
  have h1 := h.cells (g := g) rfl k _ (blvs_get? l k c hk)
  rw [add_none] at h1
  exact ⟨h1, by rw [Nat.zero_add]; exact h.frozenAt k⟩
theorem OwnB.drop {w : World} {base g o : Nat} {l : List Bool} (h : OwnB w base g o l) (m : Nat) : OwnB w base g (o + m) (l.drop m) :=
  ⟨h.1, h.2.1, fun k c hk => by
    rw [List.getElem?_drop] at hk
    have := h.2.2 (m + k) c hk
    rw [Nat.add_assoc]
    exact this⟩
theorem OwnB.rd {w : World} {base g o : Nat} {l : List Bool} (h : OwnB w base g o l) : Rd w w.heap.size (some ⟨g, o, none⟩) (blvs l) := fun _ =>
  ⟨g, o, rfl, h.2.1, fun j u hu => by
    simp only [blvs, List.getElem?_map] at hu
    rcases hj : l[j]? with _ | c
    · rw [hj] at hu; cases hu
    · rw [hj] at hu
      simp at hu
      rw [← hu]
      exact (h.2.2 j c hj).1⟩
theorem OwnB.set {w : World} {base g o : Nat} {l : List Bool} (h : OwnB w base g o l) (k : Nat) (b : Bool) (hk : k < l.length) : OwnB (w.setCell ⟨g, o + k, none⟩ (.bool b)) base g o (l.set k b) := by
  refine ⟨h.1, by simpa using h.2.1, fun j c hj => ?_⟩
  refine ⟨?_, ?_⟩
  · by_cases e : j = k
    · subst e
      rw [List.getElem?_set_self hk] at hj
      injection hj with hj
      subst hj
      obtain ⟨x, hx⟩ : ∃ x, l[j]? = some x := ⟨l[j], List.getElem?_eq_getElem hk⟩
      exact World.cell?_setCell_same _ _ _ (h.2.2 j x hx).1
    · rw [List.getElem?_set_ne (Ne.symm e)] at hj
      rw [World.cell?_setCell_other]
      · exact (h.2.2 j c hj).1
      · simp only [ne_eq, Addr.mk.injEq]; omega
  · rw [World.frozen?_setCell]
    by_cases e : j = k
    · subst e
      obtain ⟨x, hx⟩ : ∃ x, l[j]? = some x := ⟨l[j], List.getElem?_eq_getElem hk⟩
      exact (h.2.2 j x hx).2
    · rw [List.getElem?_set_ne (Ne.symm e)] at hj
      exact (h.2.2 j c hj).2
theorem OwnB.drew {w : World} {base g o : Nat} {l : List Bool} (h : OwnB w base g o l) : OwnB w.drew base g o l := h
end Go.Proofs.YtaicibmaogiibaaGreatDoor.Crc

/- RcRefGet -/

/-
  Layer 8, the document's answer: the walks of number and Get.
-/
set_option linter.unusedVariables false
set_option linter.unusedSimpArgs false
namespace Go.Proofs.YtaicibmaogiibaaGreatDoor
open Go.RowKit

theorem RowAt.put {w : World} {g : Nat} {l : List UInt8} (h : RowAt w g l) (i : Nat) (x : UInt8) : RowAt (w.setCell ⟨g, i, none⟩ (.int .u8 (x.toNat : Int))) g (l.set i x) := by
  have := set1 (i := i) h (.int .u8 (x.toNat : Int))
  unfold RowAt
  rw [this, bvs_set]
  simp [bv]
theorem RowAt.cell {w : World} {g : Nat} {l : List UInt8} (h : RowAt w g l) (i : Nat) (hi : i < l.length) : ∃ y : UInt8, w.cell? ⟨g, i, none⟩ = some (.int .u8 (y.toNat : Int)) ∧ w.frozen? ⟨g, i, none⟩ = false := by
  refine ⟨l[i], ?_, by simp [World.frozen?, show w.heap[g]? = _ from h]⟩
  rw [cell_of_row w g i _ _ _ h]
  simp [bvs, bv, hi]
end Go.Proofs.YtaicibmaogiibaaGreatDoor

/- OrdR -/

/-
  A region that draws its order, in a round of a loop over an iterator: what the plain laws tell of it holds there too (it defers nothing).
-/
set_option linter.unusedVariables false
set_option linter.unusedSimpArgs false
namespace Go.Proofs.YtaicibmaogiibaaGreatDoor.OrdR
open Go

/-- Q where it goes on, else 'False' -/
def OnlyN (Q : Exit → Act → World → Prop) : Exit → Act → World → Prop
  | .normal, a, w => Q .normal a w
  | _, _, _ => False
theorem OnlyN.normal {Q : Exit → Act → World → Prop} {a : Act} {w : World} (h : Q .normal a w) : OnlyN Q .normal a w := h
section
variable {P : Program} {ops : Array Oper} {Q : Exit → Act → World → Prop} {md : Region.Mode}
end
end Go.Proofs.YtaicibmaogiibaaGreatDoor.OrdR

/- Region2 -/

/-
  More of Region: the i-th of a written-out row of operations, up to 100.
-/
set_option linter.unusedVariables false
set_option maxRecDepth 10000
namespace Go.Proofs.YtaicibmaogiibaaGreatDoor

theorem opAt_60 {x0 x1 x2 x3 x4 x5 x6 x7 x8 x9 x10 x11 x12 x13 x14 x15 x16 x17 x18 x19 x20 x21 x22 x23 x24 x25 x26 x27 x28 x29 x30 x31 x32 x33 x34 x35 x36 x37 x38 x39 x40 x41 x42 x43 x44 x45 x46 x47 x48 x49 x50 x51 x52 x53 x54 x55 x56 x57 x58 x59 o : Oper} {r : List Oper} : (x0 :: x1 :: x2 :: x3 :: x4 :: x5 :: x6 :: x7 :: x8 :: x9 :: x10 :: x11 :: x12 :: x13 :: x14 :: x15 :: x16 :: x17 :: x18 :: x19 :: x20 :: x21 :: x22 :: x23 :: x24 :: x25 :: x26 :: x27 :: x28 :: x29 :: x30 :: x31 :: x32 :: x33 :: x34 :: x35 :: x36 :: x37 :: x38 :: x39 :: x40 :: x41 :: x42 :: x43 :: x44 :: x45 :: x46 :: x47 :: x48 :: x49 :: x50 :: x51 :: x52 :: x53 :: x54 :: x55 :: x56 :: x57 :: x58 :: x59 :: o :: r).toArray[60]? = some o := rfl
theorem opAt_61 {x0 x1 x2 x3 x4 x5 x6 x7 x8 x9 x10 x11 x12 x13 x14 x15 x16 x17 x18 x19 x20 x21 x22 x23 x24 x25 x26 x27 x28 x29 x30 x31 x32 x33 x34 x35 x36 x37 x38 x39 x40 x41 x42 x43 x44 x45 x46 x47 x48 x49 x50 x51 x52 x53 x54 x55 x56 x57 x58 x59 x60 o : Oper} {r : List Oper} : (x0 :: x1 :: x2 :: x3 :: x4 :: x5 :: x6 :: x7 :: x8 :: x9 :: x10 :: x11 :: x12 :: x13 :: x14 :: x15 :: x16 :: x17 :: x18 :: x19 :: x20 :: x21 :: x22 :: x23 :: x24 :: x25 :: x26 :: x27 :: x28 :: x29 :: x30 :: x31 :: x32 :: x33 :: x34 :: x35 :: x36 :: x37 :: x38 :: x39 :: x40 :: x41 :: x42 :: x43 :: x44 :: x45 :: x46 :: x47 :: x48 :: x49 :: x50 :: x51 :: x52 :: x53 :: x54 :: x55 :: x56 :: x57 :: x58 :: x59 :: x60 :: o :: r).toArray[61]? = some o := rfl
theorem opAt_62 {x0 x1 x2 x3 x4 x5 x6 x7 x8 x9 x10 x11 x12 x13 x14 x15 x16 x17 x18 x19 x20 x21 x22 x23 x24 x25 x26 x27 x28 x29 x30 x31 x32 x33 x34 x35 x36 x37 x38 x39 x40 x41 x42 x43 x44 x45 x46 x47 x48 x49 x50 x51 x52 x53 x54 x55 x56 x57 x58 x59 x60 x61 o : Oper} {r : List Oper} : (x0 :: x1 :: x2 :: x3 :: x4 :: x5 :: x6 :: x7 :: x8 :: x9 :: x10 :: x11 :: x12 :: x13 :: x14 :: x15 :: x16 :: x17 :: x18 :: x19 :: x20 :: x21 :: x22 :: x23 :: x24 :: x25 :: x26 :: x27 :: x28 :: x29 :: x30 :: x31 :: x32 :: x33 :: x34 :: x35 :: x36 :: x37 :: x38 :: x39 :: x40 :: x41 :: x42 :: x43 :: x44 :: x45 :: x46 :: x47 :: x48 :: x49 :: x50 :: x51 :: x52 :: x53 :: x54 :: x55 :: x56 :: x57 :: x58 :: x59 :: x60 :: x61 :: o :: r).toArray[62]? = some o := rfl
theorem opAt_63 {x0 x1 x2 x3 x4 x5 x6 x7 x8 x9 x10 x11 x12 x13 x14 x15 x16 x17 x18 x19 x20 x21 x22 x23 x24 x25 x26 x27 x28 x29 x30 x31 x32 x33 x34 x35 x36 x37 x38 x39 x40 x41 x42 x43 x44 x45 x46 x47 x48 x49 x50 x51 x52 x53 x54 x55 x56 x57 x58 x59 x60 x61 x62 o : Oper} {r : List Oper} : (x0 :: x1 :: x2 :: x3 :: x4 :: x5 :: x6 :: x7 :: x8 :: x9 :: x10 :: x11 :: x12 :: x13 :: x14 :: x15 :: x16 :: x17 :: x18 :: x19 :: x20 :: x21 :: x22 :: x23 :: x24 :: x25 :: x26 :: x27 :: x28 :: x29 :: x30 :: x31 :: x32 :: x33 :: x34 :: x35 :: x36 :: x37 :: x38 :: x39 :: x40 :: x41 :: x42 :: x43 :: x44 :: x45 :: x46 :: x47 :: x48 :: x49 :: x50 :: x51 :: x52 :: x53 :: x54 :: x55 :: x56 :: x57 :: x58 :: x59 :: x60 :: x61 :: x62 :: o :: r).toArray[63]? = some o := rfl
theorem opAt_65 {x0 x1 x2 x3 x4 x5 x6 x7 x8 x9 x10 x11 x12 x13 x14 x15 x16 x17 x18 x19 x20 x21 x22 x23 x24 x25 x26 x27 x28 x29 x30 x31 x32 x33 x34 x35 x36 x37 x38 x39 x40 x41 x42 x43 x44 x45 x46 x47 x48 x49 x50 x51 x52 x53 x54 x55 x56 x57 x58 x59 x60 x61 x62 x63 x64 o : Oper} {r : List Oper} : (x0 :: x1 :: x2 :: x3 :: x4 :: x5 :: x6 :: x7 :: x8 :: x9 :: x10 :: x11 :: x12 :: x13 :: x14 :: x15 :: x16 :: x17 :: x18 :: x19 :: x20 :: x21 :: x22 :: x23 :: x24 :: x25 :: x26 :: x27 :: x28 :: x29 :: x30 :: x31 :: x32 :: x33 :: x34 :: x35 :: x36 :: x37 :: x38 :: x39 :: x40 :: x41 :: x42 :: x43 :: x44 :: x45 :: x46 :: x47 :: x48 :: x49 :: x50 :: x51 :: x52 :: x53 :: x54 :: x55 :: x56 :: x57 :: x58 :: x59 :: x60 :: x61 :: x62 :: x63 :: x64 :: o :: r).toArray[65]? = some o := rfl
theorem opAt_66 {x0 x1 x2 x3 x4 x5 x6 x7 x8 x9 x10 x11 x12 x13 x14 x15 x16 x17 x18 x19 x20 x21 x22 x23 x24 x25 x26 x27 x28 x29 x30 x31 x32 x33 x34 x35 x36 x37 x38 x39 x40 x41 x42 x43 x44 x45 x46 x47 x48 x49 x50 x51 x52 x53 x54 x55 x56 x57 x58 x59 x60 x61 x62 x63 x64 x65 o : Oper} {r : List Oper} : (x0 :: x1 :: x2 :: x3 :: x4 :: x5 :: x6 :: x7 :: x8 :: x9 :: x10 :: x11 :: x12 :: x13 :: x14 :: x15 :: x16 :: x17 :: x18 :: x19 :: x20 :: x21 :: x22 :: x23 :: x24 :: x25 :: x26 :: x27 :: x28 :: x29 :: x30 :: x31 :: x32 :: x33 :: x34 :: x35 :: x36 :: x37 :: x38 :: x39 :: x40 :: x41 :: x42 :: x43 :: x44 :: x45 :: x46 :: x47 :: x48 :: x49 :: x50 :: x51 :: x52 :: x53 :: x54 :: x55 :: x56 :: x57 :: x58 :: x59 :: x60 :: x61 :: x62 :: x63 :: x64 :: x65 :: o :: r).toArray[66]? = some o := rfl
theorem opAt_67 {x0 x1 x2 x3 x4 x5 x6 x7 x8 x9 x10 x11 x12 x13 x14 x15 x16 x17 x18 x19 x20 x21 x22 x23 x24 x25 x26 x27 x28 x29 x30 x31 x32 x33 x34 x35 x36 x37 x38 x39 x40 x41 x42 x43 x44 x45 x46 x47 x48 x49 x50 x51 x52 x53 x54 x55 x56 x57 x58 x59 x60 x61 x62 x63 x64 x65 x66 o : Oper} {r : List Oper} : (x0 :: x1 :: x2 :: x3 :: x4 :: x5 :: x6 :: x7 :: x8 :: x9 :: x10 :: x11 :: x12 :: x13 :: x14 :: x15 :: x16 :: x17 :: x18 :: x19 :: x20 :: x21 :: x22 :: x23 :: x24 :: x25 :: x26 :: x27 :: x28 :: x29 :: x30 :: x31 :: x32 :: x33 :: x34 :: x35 :: x36 :: x37 :: x38 :: x39 :: x40 :: x41 :: x42 :: x43 :: x44 :: x45 :: x46 :: x47 :: x48 :: x49 :: x50 :: x51 :: x52 :: x53 :: x54 :: x55 :: x56 :: x57 :: x58 :: x59 :: x60 :: x61 :: x62 :: x63 :: x64 :: x65 :: x66 :: o :: r).toArray[67]? = some o := rfl
theorem opAt_68 {x0 x1 x2 x3 x4 x5 x6 x7 x8 x9 x10 x11 x12 x13 x14 x15 x16 x17 x18 x19 x20 x21 x22 x23 x24 x25 x26 x27 x28 x29 x30 x31 x32 x33 x34 x35 x36 x37 x38 x39 x40 x41 x42 x43 x44 x45 x46 x47 x48 x49 x50 x51 x52 x53 x54 x55 x56 x57 x58 x59 x60 x61 x62 x63 x64 x65 x66 x67 o : Oper} {r : List Oper} : (x0 :: x1 :: x2 :: x3 :: x4 :: x5 :: x6 :: x7 :: x8 :: x9 :: x10 :: x11 :: x12 :: x13 :: x14 :: x15 :: x16 :: x17 :: x18 :: x19 :: x20 :: x21 :: x22 :: x23 :: x24 :: x25 :: x26 :: x27 :: x28 :: x29 :: x30 :: x31 :: x32 :: x33 :: x34 :: x35 :: x36 :: x37 :: x38 :: x39 :: x40 :: x41 :: x42 :: x43 :: x44 :: x45 :: x46 :: x47 :: x48 :: x49 :: x50 :: x51 :: x52 :: x53 :: x54 :: x55 :: x56 :: x57 :: x58 :: x59 :: x60 :: x61 :: x62 :: x63 :: x64 :: x65 :: x66 :: x67 :: o :: r).toArray[68]? = some o := rfl
theorem opAt_69 {x0 x1 x2 x3 x4 x5 x6 x7 x8 x9 x10 x11 x12 x13 x14 x15 x16 x17 x18 x19 x20 x21 x22 x23 x24 x25 x26 x27 x28 x29 x30 x31 x32 x33 x34 x35 x36 x37 x38 x39 x40 x41 x42 x43 x44 x45 x46 x47 x48 x49 x50 x51 x52 x53 x54 x55 x56 x57 x58 x59 x60 x61 x62 x63 x64 x65 x66 x67 x68 o : Oper} {r : List Oper} : (x0 :: x1 :: x2 :: x3 :: x4 :: x5 :: x6 :: x7 :: x8 :: x9 :: x10 :: x11 :: x12 :: x13 :: x14 :: x15 :: x16 :: x17 :: x18 :: x19 :: x20 :: x21 :: x22 :: x23 :: x24 :: x25 :: x26 :: x27 :: x28 :: x29 :: x30 :: x31 :: x32 :: x33 :: x34 :: x35 :: x36 :: x37 :: x38 :: x39 :: x40 :: x41 :: x42 :: x43 :: x44 :: x45 :: x46 :: x47 :: x48 :: x49 :: x50 :: x51 :: x52 :: x53 :: x54 :: x55 :: x56 :: x57 :: x58 :: x59 :: x60 :: x61 :: x62 :: x63 :: x64 :: x65 :: x66 :: x67 :: x68 :: o :: r).toArray[69]? = some o := rfl
theorem opAt_70 {x0 x1 x2 x3 x4 x5 x6 x7 x8 x9 x10 x11 x12 x13 x14 x15 x16 x17 x18 x19 x20 x21 x22 x23 x24 x25 x26 x27 x28 x29 x30 x31 x32 x33 x34 x35 x36 x37 x38 x39 x40 x41 x42 x43 x44 x45 x46 x47 x48 x49 x50 x51 x52 x53 x54 x55 x56 x57 x58 x59 x60 x61 x62 x63 x64 x65 x66 x67 x68 x69 o : Oper} {r : List Oper} : (x0 :: x1 :: x2 :: x3 :: x4 :: x5 :: x6 :: x7 :: x8 :: x9 :: x10 :: x11 :: x12 :: x13 :: x14 :: x15 :: x16 :: x17 :: x18 :: x19 :: x20 :: x21 :: x22 :: x23 :: x24 :: x25 :: x26 :: x27 :: x28 :: x29 :: x30 :: x31 :: x32 :: x33 :: x34 :: x35 :: x36 :: x37 :: x38 :: x39 :: x40 :: x41 :: x42 :: x43 :: x44 :: x45 :: x46 :: x47 :: x48 :: x49 :: x50 :: x51 :: x52 :: x53 :: x54 :: x55 :: x56 :: x57 :: x58 :: x59 :: x60 :: x61 :: x62 :: x63 :: x64 :: x65 :: x66 :: x67 :: x68 :: x69 :: o :: r).toArray[70]? = some o := rfl
theorem opAt_71 {x0 x1 x2 x3 x4 x5 x6 x7 x8 x9 x10 x11 x12 x13 x14 x15 x16 x17 x18 x19 x20 x21 x22 x23 x24 x25 x26 x27 x28 x29 x30 x31 x32 x33 x34 x35 x36 x37 x38 x39 x40 x41 x42 x43 x44 x45 x46 x47 x48 x49 x50 x51 x52 x53 x54 x55 x56 x57 x58 x59 x60 x61 x62 x63 x64 x65 x66 x67 x68 x69 x70 o : Oper} {r : List Oper} : (x0 :: x1 :: x2 :: x3 :: x4 :: x5 :: x6 :: x7 :: x8 :: x9 :: x10 :: x11 :: x12 :: x13 :: x14 :: x15 :: x16 :: x17 :: x18 :: x19 :: x20 :: x21 :: x22 :: x23 :: x24 :: x25 :: x26 :: x27 :: x28 :: x29 :: x30 :: x31 :: x32 :: x33 :: x34 :: x35 :: x36 :: x37 :: x38 :: x39 :: x40 :: x41 :: x42 :: x43 :: x44 :: x45 :: x46 :: x47 :: x48 :: x49 :: x50 :: x51 :: x52 :: x53 :: x54 :: x55 :: x56 :: x57 :: x58 :: x59 :: x60 :: x61 :: x62 :: x63 :: x64 :: x65 :: x66 :: x67 :: x68 :: x69 :: x70 :: o :: r).toArray[71]? = some o := rfl
theorem opAt_72 {x0 x1 x2 x3 x4 x5 x6 x7 x8 x9 x10 x11 x12 x13 x14 x15 x16 x17 x18 x19 x20 x21 x22 x23 x24 x25 x26 x27 x28 x29 x30 x31 x32 x33 x34 x35 x36 x37 x38 x39 x40 x41 x42 x43 x44 x45 x46 x47 x48 x49 x50 x51 x52 x53 x54 x55 x56 x57 x58 x59 x60 x61 x62 x63 x64 x65 x66 x67 x68 x69 x70 x71 o : Oper} {r : List Oper} : (x0 :: x1 :: x2 :: x3 :: x4 :: x5 :: x6 :: x7 :: x8 :: x9 :: x10 :: x11 :: x12 :: x13 :: x14 :: x15 :: x16 :: x17 :: x18 :: x19 :: x20 :: x21 :: x22 :: x23 :: x24 :: x25 :: x26 :: x27 :: x28 :: x29 :: x30 :: x31 :: x32 :: x33 :: x34 :: x35 :: x36 :: x37 :: x38 :: x39 :: x40 :: x41 :: x42 :: x43 :: x44 :: x45 :: x46 :: x47 :: x48 :: x49 :: x50 :: x51 :: x52 :: x53 :: x54 :: x55 :: x56 :: x57 :: x58 :: x59 :: x60 :: x61 :: x62 :: x63 :: x64 :: x65 :: x66 :: x67 :: x68 :: x69 :: x70 :: x71 :: o :: r).toArray[72]? = some o := rfl
theorem opAt_73 {x0 x1 x2 x3 x4 x5 x6 x7 x8 x9 x10 x11 x12 x13 x14 x15 x16 x17 x18 x19 x20 x21 x22 x23 x24 x25 x26 x27 x28 x29 x30 x31 x32 x33 x34 x35 x36 x37 x38 x39 x40 x41 x42 x43 x44 x45 x46 x47 x48 x49 x50 x51 x52 x53 x54 x55 x56 x57 x58 x59 x60 x61 x62 x63 x64 x65 x66 x67 x68 x69 x70 x71 x72 o : Oper} {r : List Oper} : (x0 :: x1 :: x2 :: x3 :: x4 :: x5 :: x6 :: x7 :: x8 :: x9 :: x10 :: x11 :: x12 :: x13 :: x14 :: x15 :: x16 :: x17 :: x18 :: x19 :: x20 :: x21 :: x22 :: x23 :: x24 :: x25 :: x26 :: x27 :: x28 :: x29 :: x30 :: x31 :: x32 :: x33 :: x34 :: x35 :: x36 :: x37 :: x38 :: x39 :: x40 :: x41 :: x42 :: x43 :: x44 :: x45 :: x46 :: x47 :: x48 :: x49 :: x50 :: x51 :: x52 :: x53 :: x54 :: x55 :: x56 :: x57 :: x58 :: x59 :: x60 :: x61 :: x62 :: x63 :: x64 :: x65 :: x66 :: x67 :: x68 :: x69 :: x70 :: x71 :: x72 :: o :: r).toArray[73]? = some o := rfl
theorem opAt_77 {x0 x1 x2 x3 x4 x5 x6 x7 x8 x9 x10 x11 x12 x13 x14 x15 x16 x17 x18 x19 x20 x21 x22 x23 x24 x25 x26 x27 x28 x29 x30 x31 x32 x33 x34 x35 x36 x37 x38 x39 x40 x41 x42 x43 x44 x45 x46 x47 x48 x49 x50 x51 x52 x53 x54 x55 x56 x57 x58 x59 x60 x61 x62 x63 x64 x65 x66 x67 x68 x69 x70 x71 x72 x73 x74 x75 x76 o : Oper} {r : List Oper} : (x0 :: x1 :: x2 :: x3 :: x4 :: x5 :: x6 :: x7 :: x8 :: x9 :: x10 :: x11 :: x12 :: x13 :: x14 :: x15 :: x16 :: x17 :: x18 :: x19 :: x20 :: x21 :: x22 :: x23 :: x24 :: x25 :: x26 :: x27 :: x28 :: x29 :: x30 :: x31 :: x32 :: x33 :: x34 :: x35 :: x36 :: x37 :: x38 :: x39 :: x40 :: x41 :: x42 :: x43 :: x44 :: x45 :: x46 :: x47 :: x48 :: x49 :: x50 :: x51 :: x52 :: x53 :: x54 :: x55 :: x56 :: x57 :: x58 :: x59 :: x60 :: x61 :: x62 :: x63 :: x64 :: x65 :: x66 :: x67 :: x68 :: x69 :: x70 :: x71 :: x72 :: x73 :: x74 :: x75 :: x76 :: o :: r).toArray[77]? = some o := rfl
theorem opAt_78 {x0 x1 x2 x3 x4 x5 x6 x7 x8 x9 x10 x11 x12 x13 x14 x15 x16 x17 x18 x19 x20 x21 x22 x23 x24 x25 x26 x27 x28 x29 x30 x31 x32 x33 x34 x35 x36 x37 x38 x39 x40 x41 x42 x43 x44 x45 x46 x47 x48 x49 x50 x51 x52 x53 x54 x55 x56 x57 x58 x59 x60 x61 x62 x63 x64 x65 x66 x67 x68 x69 x70 x71 x72 x73 x74 x75 x76 x77 o : Oper} {r : List Oper} : (x0 :: x1 :: x2 :: x3 :: x4 :: x5 :: x6 :: x7 :: x8 :: x9 :: x10 :: x11 :: x12 :: x13 :: x14 :: x15 :: x16 :: x17 :: x18 :: x19 :: x20 :: x21 :: x22 :: x23 :: x24 :: x25 :: x26 :: x27 :: x28 :: x29 :: x30 :: x31 :: x32 :: x33 :: x34 :: x35 :: x36 :: x37 :: x38 :: x39 :: x40 :: x41 :: x42 :: x43 :: x44 :: x45 :: x46 :: x47 :: x48 :: x49 :: x50 :: x51 :: x52 :: x53 :: x54 :: x55 :: x56 :: x57 :: x58 :: x59 :: x60 :: x61 :: x62 :: x63 :: x64 :: x65 :: x66 :: x67 :: x68 :: x69 :: x70 :: x71 :: x72 :: x73 :: x74 :: x75 :: x76 :: x77 :: o :: r).toArray[78]? = some o := rfl
theorem opAt_80 {x0 x1 x2 x3 x4 x5 x6 x7 x8 x9 x10 x11 x12 x13 x14 x15 x16 x17 x18 x19 x20 x21 x22 x23 x24 x25 x26 x27 x28 x29 x30 x31 x32 x33 x34 x35 x36 x37 x38 x39 x40 x41 x42 x43 x44 x45 x46 x47 x48 x49 x50 x51 x52 x53 x54 x55 x56 x57 x58 x59 x60 x61 x62 x63 x64 x65 x66 x67 x68 x69 x70 x71 x72 x73 x74 x75 x76 x77 x78 x79 o : Oper} {r : List Oper} : (x0 :: x1 :: x2 :: x3 :: x4 :: x5 :: x6 :: x7 :: x8 :: x9 :: x10 :: x11 :: x12 :: x13 :: x14 :: x15 :: x16 :: x17 :: x18 :: x19 :: x20 :: x21 :: x22 :: x23 :: x24 :: x25 :: x26 :: x27 :: x28 :: x29 :: x30 :: x31 :: x32 :: x33 :: x34 :: x35 :: x36 :: x37 :: x38 :: x39 :: x40 :: x41 :: x42 :: x43 :: x44 :: x45 :: x46 :: x47 :: x48 :: x49 :: x50 :: x51 :: x52 :: x53 :: x54 :: x55 :: x56 :: x57 :: x58 :: x59 :: x60 :: x61 :: x62 :: x63 :: x64 :: x65 :: x66 :: x67 :: x68 :: x69 :: x70 :: x71 :: x72 :: x73 :: x74 :: x75 :: x76 :: x77 :: x78 :: x79 :: o :: r).toArray[80]? = some o := rfl
theorem opAt_81 {x0 x1 x2 x3 x4 x5 x6 x7 x8 x9 x10 x11 x12 x13 x14 x15 x16 x17 x18 x19 x20 x21 x22 x23 x24 x25 x26 x27 x28 x29 x30 x31 x32 x33 x34 x35 x36 x37 x38 x39 x40 x41 x42 x43 x44 x45 x46 x47 x48 x49 x50 x51 x52 x53 x54 x55 x56 x57 x58 x59 x60 x61 x62 x63 x64 x65 x66 x67 x68 x69 x70 x71 x72 x73 x74 x75 x76 x77 x78 x79 x80 o : Oper} {r : List Oper} : (x0 :: x1 :: x2 :: x3 :: x4 :: x5 :: x6 :: x7 :: x8 :: x9 :: x10 :: x11 :: x12 :: x13 :: x14 :: x15 :: x16 :: x17 :: x18 :: x19 :: x20 :: x21 :: x22 :: x23 :: x24 :: x25 :: x26 :: x27 :: x28 :: x29 :: x30 :: x31 :: x32 :: x33 :: x34 :: x35 :: x36 :: x37 :: x38 :: x39 :: x40 :: x41 :: x42 :: x43 :: x44 :: x45 :: x46 :: x47 :: x48 :: x49 :: x50 :: x51 :: x52 :: x53 :: x54 :: x55 :: x56 :: x57 :: x58 :: x59 :: x60 :: x61 :: x62 :: x63 :: x64 :: x65 :: x66 :: x67 :: x68 :: x69 :: x70 :: x71 :: x72 :: x73 :: x74 :: x75 :: x76 :: x77 :: x78 :: x79 :: x80 :: o :: r).toArray[81]? = some o := rfl
theorem opAt_82 {x0 x1 x2 x3 x4 x5 x6 x7 x8 x9 x10 x11 x12 x13 x14 x15 x16 x17 x18 x19 x20 x21 x22 x23 x24 x25 x26 x27 x28 x29 x30 x31 x32 x33 x34 x35 x36 x37 x38 x39 x40 x41 x42 x43 x44 x45 x46 x47 x48 x49 x50 x51 x52 x53 x54 x55 x56 x57 x58 x59 x60 x61 x62 x63 x64 x65 x66 x67 x68 x69 x70 x71 x72 x73 x74 x75 x76 x77 x78 x79 x80 x81 o : Oper} {r : List Oper} : (x0 :: x1 :: x2 :: x3 :: x4 :: x5 :: x6 :: x7 :: x8 :: x9 :: x10 :: x11 :: x12 :: x13 :: x14 :: x15 :: x16 :: x17 :: x18 :: x19 :: x20 :: x21 :: x22 :: x23 :: x24 :: x25 :: x26 :: x27 :: x28 :: x29 :: x30 :: x31 :: x32 :: x33 :: x34 :: x35 :: x36 :: x37 :: x38 :: x39 :: x40 :: x41 :: x42 :: x43 :: x44 :: x45 :: x46 :: x47 :: x48 :: x49 :: x50 :: x51 :: x52 :: x53 :: x54 :: x55 :: x56 :: x57 :: x58 :: x59 :: x60 :: x61 :: x62 :: x63 :: x64 :: x65 :: x66 :: x67 :: x68 :: x69 :: x70 :: x71 :: x72 :: x73 :: x74 :: x75 :: x76 :: x77 :: x78 :: x79 :: x80 :: x81 :: o :: r).toArray[82]? = some o := rfl
theorem opAt_84 {x0 x1 x2 x3 x4 x5 x6 x7 x8 x9 x10 x11 x12 x13 x14 x15 x16 x17 x18 x19 x20 x21 x22 x23 x24 x25 x26 x27 x28 x29 x30 x31 x32 x33 x34 x35 x36 x37 x38 x39 x40 x41 x42 x43 x44 x45 x46 x47 x48 x49 x50 x51 x52 x53 x54 x55 x56 x57 x58 x59 x60 x61 x62 x63 x64 x65 x66 x67 x68 x69 x70 x71 x72 x73 x74 x75 x76 x77 x78 x79 x80 x81 x82 x83 o : Oper} {r : List Oper} : (x0 :: x1 :: x2 :: x3 :: x4 :: x5 :: x6 :: x7 :: x8 :: x9 :: x10 :: x11 :: x12 :: x13 :: x14 :: x15 :: x16 :: x17 :: x18 :: x19 :: x20 :: x21 :: x22 :: x23 :: x24 :: x25 :: x26 :: x27 :: x28 :: x29 :: x30 :: x31 :: x32 :: x33 :: x34 :: x35 :: x36 :: x37 :: x38 :: x39 :: x40 :: x41 :: x42 :: x43 :: x44 :: x45 :: x46 :: x47 :: x48 :: x49 :: x50 :: x51 :: x52 :: x53 :: x54 :: x55 :: x56 :: x57 :: x58 :: x59 :: x60 :: x61 :: x62 :: x63 :: x64 :: x65 :: x66 :: x67 :: x68 :: x69 :: x70 :: x71 :: x72 :: x73 :: x74 :: x75 :: x76 :: x77 :: x78 :: x79 :: x80 :: x81 :: x82 :: x83 :: o :: r).toArray[84]? = some o := rfl
theorem opAt_85 {x0 x1 x2 x3 x4 x5 x6 x7 x8 x9 x10 x11 x12 x13 x14 x15 x16 x17 x18 x19 x20 x21 x22 x23 x24 x25 x26 x27 x28 x29 x30 x31 x32 x33 x34 x35 x36 x37 x38 x39 x40 x41 x42 x43 x44 x45 x46 x47 x48 x49 x50 x51 x52 x53 x54 x55 x56 x57 x58 x59 x60 x61 x62 x63 x64 x65 x66 x67 x68 x69 x70 x71 x72 x73 x74 x75 x76 x77 x78 x79 x80 x81 x82 x83 x84 o : Oper} {r : List Oper} : (x0 :: x1 :: x2 :: x3 :: x4 :: x5 :: x6 :: x7 :: x8 :: x9 :: x10 :: x11 :: x12 :: x13 :: x14 :: x15 :: x16 :: x17 :: x18 :: x19 :: x20 :: x21 :: x22 :: x23 :: x24 :: x25 :: x26 :: x27 :: x28 :: x29 :: x30 :: x31 :: x32 :: x33 :: x34 :: x35 :: x36 :: x37 :: x38 :: x39 :: x40 :: x41 :: x42 :: x43 :: x44 :: x45 :: x46 :: x47 :: x48 :: x49 :: x50 :: x51 :: x52 :: x53 :: x54 :: x55 :: x56 :: x57 :: x58 :: x59 :: x60 :: x61 :: x62 :: x63 :: x64 :: x65 :: x66 :: x67 :: x68 :: x69 :: x70 :: x71 :: x72 :: x73 :: x74 :: x75 :: x76 :: x77 :: x78 :: x79 :: x80 :: x81 :: x82 :: x83 :: x84 :: o :: r).toArray[85]? = some o := rfl
theorem opAt_86 {x0 x1 x2 x3 x4 x5 x6 x7 x8 x9 x10 x11 x12 x13 x14 x15 x16 x17 x18 x19 x20 x21 x22 x23 x24 x25 x26 x27 x28 x29 x30 x31 x32 x33 x34 x35 x36 x37 x38 x39 x40 x41 x42 x43 x44 x45 x46 x47 x48 x49 x50 x51 x52 x53 x54 x55 x56 x57 x58 x59 x60 x61 x62 x63 x64 x65 x66 x67 x68 x69 x70 x71 x72 x73 x74 x75 x76 x77 x78 x79 x80 x81 x82 x83 x84 x85 o : Oper} {r : List Oper} : (x0 :: x1 :: x2 :: x3 :: x4 :: x5 :: x6 :: x7 :: x8 :: x9 :: x10 :: x11 :: x12 :: x13 :: x14 :: x15 :: x16 :: x17 :: x18 :: x19 :: x20 :: x21 :: x22 :: x23 :: x24 :: x25 :: x26 :: x27 :: x28 :: x29 :: x30 :: x31 :: x32 :: x33 :: x34 :: x35 :: x36 :: x37 :: x38 :: x39 :: x40 :: x41 :: x42 :: x43 :: x44 :: x45 :: x46 :: x47 :: x48 :: x49 :: x50 :: x51 :: x52 :: x53 :: x54 :: x55 :: x56 :: x57 :: x58 :: x59 :: x60 :: x61 :: x62 :: x63 :: x64 :: x65 :: x66 :: x67 :: x68 :: x69 :: x70 :: x71 :: x72 :: x73 :: x74 :: x75 :: x76 :: x77 :: x78 :: x79 :: x80 :: x81 :: x82 :: x83 :: x84 :: x85 :: o :: r).toArray[86]? = some o := rfl
theorem opAt_87 {x0 x1 x2 x3 x4 x5 x6 x7 x8 x9 x10 x11 x12 x13 x14 x15 x16 x17 x18 x19 x20 x21 x22 x23 x24 x25 x26 x27 x28 x29 x30 x31 x32 x33 x34 x35 x36 x37 x38 x39 x40 x41 x42 x43 x44 x45 x46 x47 x48 x49 x50 x51 x52 x53 x54 x55 x56 x57 x58 x59 x60 x61 x62 x63 x64 x65 x66 x67 x68 x69 x70 x71 x72 x73 x74 x75 x76 x77 x78 x79 x80 x81 x82 x83 x84 x85 x86 o : Oper} {r : List Oper} : (x0 :: x1 :: x2 :: x3 :: x4 :: x5 :: x6 :: x7 :: x8 :: x9 :: x10 :: x11 :: x12 :: x13 :: x14 :: x15 :: x16 :: x17 :: x18 :: x19 :: x20 :: x21 :: x22 :: x23 :: x24 :: x25 :: x26 :: x27 :: x28 :: x29 :: x30 :: x31 :: x32 :: x33 :: x34 :: x35 :: x36 :: x37 :: x38 :: x39 :: x40 :: x41 :: x42 :: x43 :: x44 :: x45 :: x46 :: x47 :: x48 :: x49 :: x50 :: x51 :: x52 :: x53 :: x54 :: x55 :: x56 :: x57 :: x58 :: x59 :: x60 :: x61 :: x62 :: x63 :: x64 :: x65 :: x66 :: x67 :: x68 :: x69 :: x70 :: x71 :: x72 :: x73 :: x74 :: x75 :: x76 :: x77 :: x78 :: x79 :: x80 :: x81 :: x82 :: x83 :: x84 :: x85 :: x86 :: o :: r).toArray[87]? = some o := rfl
theorem opAt_88 {x0 x1 x2 x3 x4 x5 x6 x7 x8 x9 x10 x11 x12 x13 x14 x15 x16 x17 x18 x19 x20 x21 x22 x23 x24 x25 x26 x27 x28 x29 x30 x31 x32 x33 x34 x35 x36 x37 x38 x39 x40 x41 x42 x43 x44 x45 x46 x47 x48 x49 x50 x51 x52 x53 x54 x55 x56 x57 x58 x59 x60 x61 x62 x63 x64 x65 x66 x67 x68 x69 x70 x71 x72 x73 x74 x75 x76 x77 x78 x79 x80 x81 x82 x83 x84 x85 x86 x87 o : Oper} {r : List Oper} : (x0 :: x1 :: x2 :: x3 :: x4 :: x5 :: x6 :: x7 :: x8 :: x9 :: x10 :: x11 :: x12 :: x13 :: x14 :: x15 :: x16 :: x17 :: x18 :: x19 :: x20 :: x21 :: x22 :: x23 :: x24 :: x25 :: x26 :: x27 :: x28 :: x29 :: x30 :: x31 :: x32 :: x33 :: x34 :: x35 :: x36 :: x37 :: x38 :: x39 :: x40 :: x41 :: x42 :: x43 :: x44 :: x45 :: x46 :: x47 :: x48 :: x49 :: x50 :: x51 :: x52 :: x53 :: x54 :: x55 :: x56 :: x57 :: x58 :: x59 :: x60 :: x61 :: x62 :: x63 :: x64 :: x65 :: x66 :: x67 :: x68 :: x69 :: x70 :: x71 :: x72 :: x73 :: x74 :: x75 :: x76 :: x77 :: x78 :: x79 :: x80 :: x81 :: x82 :: x83 :: x84 :: x85 :: x86 :: x87 :: o :: r).toArray[88]? = some o := rfl
theorem opAt_90 {x0 x1 x2 x3 x4 x5 x6 x7 x8 x9 x10 x11 x12 x13 x14 x15 x16 x17 x18 x19 x20 x21 x22 x23 x24 x25 x26 x27 x28 x29 x30 x31 x32 x33 x34 x35 x36 x37 x38 x39 x40 x41 x42 x43 x44 x45 x46 x47 x48 x49 x50 x51 x52 x53 x54 x55 x56 x57 x58 x59 x60 x61 x62 x63 x64 x65 x66 x67 x68 x69 x70 x71 x72 x73 x74 x75 x76 x77 x78 x79 x80 x81 x82 x83 x84 x85 x86 x87 x88 x89 o : Oper} {r : List Oper} : (x0 :: x1 :: x2 :: x3 :: x4 :: x5 :: x6 :: x7 :: x8 :: x9 :: x10 :: x11 :: x12 :: x13 :: x14 :: x15 :: x16 :: x17 :: x18 :: x19 :: x20 :: x21 :: x22 :: x23 :: x24 :: x25 :: x26 :: x27 :: x28 :: x29 :: x30 :: x31 :: x32 :: x33 :: x34 :: x35 :: x36 :: x37 :: x38 :: x39 :: x40 :: x41 :: x42 :: x43 :: x44 :: x45 :: x46 :: x47 :: x48 :: x49 :: x50 :: x51 :: x52 :: x53 :: x54 :: x55 :: x56 :: x57 :: x58 :: x59 :: x60 :: x61 :: x62 :: x63 :: x64 :: x65 :: x66 :: x67 :: x68 :: x69 :: x70 :: x71 :: x72 :: x73 :: x74 :: x75 :: x76 :: x77 :: x78 :: x79 :: x80 :: x81 :: x82 :: x83 :: x84 :: x85 :: x86 :: x87 :: x88 :: x89 :: o :: r).toArray[90]? = some o := rfl
theorem opAt_91 {x0 x1 x2 x3 x4 x5 x6 x7 x8 x9 x10 x11 x12 x13 x14 x15 x16 x17 x18 x19 x20 x21 x22 x23 x24 x25 x26 x27 x28 x29 x30 x31 x32 x33 x34 x35 x36 x37 x38 x39 x40 x41 x42 x43 x44 x45 x46 x47 x48 x49 x50 x51 x52 x53 x54 x55 x56 x57 x58 x59 x60 x61 x62 x63 x64 x65 x66 x67 x68 x69 x70 x71 x72 x73 x74 x75 x76 x77 x78 x79 x80 x81 x82 x83 x84 x85 x86 x87 x88 x89 x90 o : Oper} {r : List Oper} : (x0 :: x1 :: x2 :: x3 :: x4 :: x5 :: x6 :: x7 :: x8 :: x9 :: x10 :: x11 :: x12 :: x13 :: x14 :: x15 :: x16 :: x17 :: x18 :: x19 :: x20 :: x21 :: x22 :: x23 :: x24 :: x25 :: x26 :: x27 :: x28 :: x29 :: x30 :: x31 :: x32 :: x33 :: x34 :: x35 :: x36 :: x37 :: x38 :: x39 :: x40 :: x41 :: x42 :: x43 :: x44 :: x45 :: x46 :: x47 :: x48 :: x49 :: x50 :: x51 :: x52 :: x53 :: x54 :: x55 :: x56 :: x57 :: x58 :: x59 :: x60 :: x61 :: x62 :: x63 :: x64 :: x65 :: x66 :: x67 :: x68 :: x69 :: x70 :: x71 :: x72 :: x73 :: x74 :: x75 :: x76 :: x77 :: x78 :: x79 :: x80 :: x81 :: x82 :: x83 :: x84 :: x85 :: x86 :: x87 :: x88 :: x89 :: x90 :: o :: r).toArray[91]? = some o := rfl
theorem opAt_92 {x0 x1 x2 x3 x4 x5 x6 x7 x8 x9 x10 x11 x12 x13 x14 x15 x16 x17 x18 x19 x20 x21 x22 x23 x24 x25 x26 x27 x28 x29 x30 x31 x32 x33 x34 x35 x36 x37 x38 x39 x40 x41 x42 x43 x44 x45 x46 x47 x48 x49 x50 x51 x52 x53 x54 x55 x56 x57 x58 x59 x60 x61 x62 x63 x64 x65 x66 x67 x68 x69 x70 x71 x72 x73 x74 x75 x76 x77 x78 x79 x80 x81 x82 x83 x84 x85 x86 x87 x88 x89 x90 x91 o : Oper} {r : List Oper} : (x0 :: x1 :: x2 :: x3 :: x4 :: x5 :: x6 :: x7 :: x8 :: x9 :: x10 :: x11 :: x12 :: x13 :: x14 :: x15 :: x16 :: x17 :: x18 :: x19 :: x20 :: x21 :: x22 :: x23 :: x24 :: x25 :: x26 :: x27 :: x28 :: x29 :: x30 :: x31 :: x32 :: x33 :: x34 :: x35 :: x36 :: x37 :: x38 :: x39 :: x40 :: x41 :: x42 :: x43 :: x44 :: x45 :: x46 :: x47 :: x48 :: x49 :: x50 :: x51 :: x52 :: x53 :: x54 :: x55 :: x56 :: x57 :: x58 :: x59 :: x60 :: x61 :: x62 :: x63 :: x64 :: x65 :: x66 :: x67 :: x68 :: x69 :: x70 :: x71 :: x72 :: x73 :: x74 :: x75 :: x76 :: x77 :: x78 :: x79 :: x80 :: x81 :: x82 :: x83 :: x84 :: x85 :: x86 :: x87 :: x88 :: x89 :: x90 :: x91 :: o :: r).toArray[92]? = some o := rfl
theorem opAt_93 {x0 x1 x2 x3 x4 x5 x6 x7 x8 x9 x10 x11 x12 x13 x14 x15 x16 x17 x18 x19 x20 x21 x22 x23 x24 x25 x26 x27 x28 x29 x30 x31 x32 x33 x34 x35 x36 x37 x38 x39 x40 x41 x42 x43 x44 x45 x46 x47 x48 x49 x50 x51 x52 x53 x54 x55 x56 x57 x58 x59 x60 x61 x62 x63 x64 x65 x66 x67 x68 x69 x70 x71 x72 x73 x74 x75 x76 x77 x78 x79 x80 x81 x82 x83 x84 x85 x86 x87 x88 x89 x90 x91 x92 o : Oper} {r : List Oper} : (x0 :: x1 :: x2 :: x3 :: x4 :: x5 :: x6 :: x7 :: x8 :: x9 :: x10 :: x11 :: x12 :: x13 :: x14 :: x15 :: x16 :: x17 :: x18 :: x19 :: x20 :: x21 :: x22 :: x23 :: x24 :: x25 :: x26 :: x27 :: x28 :: x29 :: x30 :: x31 :: x32 :: x33 :: x34 :: x35 :: x36 :: x37 :: x38 :: x39 :: x40 :: x41 :: x42 :: x43 :: x44 :: x45 :: x46 :: x47 :: x48 :: x49 :: x50 :: x51 :: x52 :: x53 :: x54 :: x55 :: x56 :: x57 :: x58 :: x59 :: x60 :: x61 :: x62 :: x63 :: x64 :: x65 :: x66 :: x67 :: x68 :: x69 :: x70 :: x71 :: x72 :: x73 :: x74 :: x75 :: x76 :: x77 :: x78 :: x79 :: x80 :: x81 :: x82 :: x83 :: x84 :: x85 :: x86 :: x87 :: x88 :: x89 :: x90 :: x91 :: x92 :: o :: r).toArray[93]? = some o := rfl
theorem opAt_95 {x0 x1 x2 x3 x4 x5 x6 x7 x8 x9 x10 x11 x12 x13 x14 x15 x16 x17 x18 x19 x20 x21 x22 x23 x24 x25 x26 x27 x28 x29 x30 x31 x32 x33 x34 x35 x36 x37 x38 x39 x40 x41 x42 x43 x44 x45 x46 x47 x48 x49 x50 x51 x52 x53 x54 x55 x56 x57 x58 x59 x60 x61 x62 x63 x64 x65 x66 x67 x68 x69 x70 x71 x72 x73 x74 x75 x76 x77 x78 x79 x80 x81 x82 x83 x84 x85 x86 x87 x88 x89 x90 x91 x92 x93 x94 o : Oper} {r : List Oper} : (x0 :: x1 :: x2 :: x3 :: x4 :: x5 :: x6 :: x7 :: x8 :: x9 :: x10 :: x11 :: x12 :: x13 :: x14 :: x15 :: x16 :: x17 :: x18 :: x19 :: x20 :: x21 :: x22 :: x23 :: x24 :: x25 :: x26 :: x27 :: x28 :: x29 :: x30 :: x31 :: x32 :: x33 :: x34 :: x35 :: x36 :: x37 :: x38 :: x39 :: x40 :: x41 :: x42 :: x43 :: x44 :: x45 :: x46 :: x47 :: x48 :: x49 :: x50 :: x51 :: x52 :: x53 :: x54 :: x55 :: x56 :: x57 :: x58 :: x59 :: x60 :: x61 :: x62 :: x63 :: x64 :: x65 :: x66 :: x67 :: x68 :: x69 :: x70 :: x71 :: x72 :: x73 :: x74 :: x75 :: x76 :: x77 :: x78 :: x79 :: x80 :: x81 :: x82 :: x83 :: x84 :: x85 :: x86 :: x87 :: x88 :: x89 :: x90 :: x91 :: x92 :: x93 :: x94 :: o :: r).toArray[95]? = some o := rfl
theorem opAt_96 {x0 x1 x2 x3 x4 x5 x6 x7 x8 x9 x10 x11 x12 x13 x14 x15 x16 x17 x18 x19 x20 x21 x22 x23 x24 x25 x26 x27 x28 x29 x30 x31 x32 x33 x34 x35 x36 x37 x38 x39 x40 x41 x42 x43 x44 x45 x46 x47 x48 x49 x50 x51 x52 x53 x54 x55 x56 x57 x58 x59 x60 x61 x62 x63 x64 x65 x66 x67 x68 x69 x70 x71 x72 x73 x74 x75 x76 x77 x78 x79 x80 x81 x82 x83 x84 x85 x86 x87 x88 x89 x90 x91 x92 x93 x94 x95 o : Oper} {r : List Oper} : (x0 :: x1 :: x2 :: x3 :: x4 :: x5 :: x6 :: x7 :: x8 :: x9 :: x10 :: x11 :: x12 :: x13 :: x14 :: x15 :: x16 :: x17 :: x18 :: x19 :: x20 :: x21 :: x22 :: x23 :: x24 :: x25 :: x26 :: x27 :: x28 :: x29 :: x30 :: x31 :: x32 :: x33 :: x34 :: x35 :: x36 :: x37 :: x38 :: x39 :: x40 :: x41 :: x42 :: x43 :: x44 :: x45 :: x46 :: x47 :: x48 :: x49 :: x50 :: x51 :: x52 :: x53 :: x54 :: x55 :: x56 :: x57 :: x58 :: x59 :: x60 :: x61 :: x62 :: x63 :: x64 :: x65 :: x66 :: x67 :: x68 :: x69 :: x70 :: x71 :: x72 :: x73 :: x74 :: x75 :: x76 :: x77 :: x78 :: x79 :: x80 :: x81 :: x82 :: x83 :: x84 :: x85 :: x86 :: x87 :: x88 :: x89 :: x90 :: x91 :: x92 :: x93 :: x94 :: x95 :: o :: r).toArray[96]? = some o := rfl
end Go.Proofs.YtaicibmaogiibaaGreatDoor

