
/-
  Layer 2: runs (a row and its sum behind it), as plain functions; turned bits.
-/
import Derived.Test.YtggijjknfcofoaaDoorCxPlain
import Derived.Laws.BitsAllLaws
set_option linter.unusedVariables false
set_option linter.unusedSimpArgs false
namespace Go.Proofs.YtggijjknfcofoaaDoor.Cx

/-- a digit to the base 256 -/
def dg (n j : Nat) : UInt8 := UInt8.ofNat (n / 2 ^ (8 * j) % 256)
theorem dg_toNat (n j : Nat) : (dg n j).toNat = n / 2 ^ (8 * j) % 256 := by
  unfold dg
  rw [UInt8.toNat_ofNat_of_lt' (by simp only [UInt8.size]; exact Nat.mod_lt _ (by omega))]
/-- the first j digits, the lowest one first -/
def leL (n j : Nat) : List UInt8 := (List.range j).map (dg n)
theorem leL_succ (n j : Nat) : leL n (j + 1) = leL n j ++ [dg n j] := by simp [leL, List.range_succ]
theorem leL_length (n j : Nat) : (leL n j).length = j := by simp [leL]
/-- a run -/
def cover (l : List UInt8) : List UInt8 := l ++ leL (sum l).toNat 4
theorem cover_length (l : List UInt8) : (cover l).length = l.length + 4 := by simp [cover, leL_length]
/-- the number in the first j bytes, the lowest one first -/
def rdN (l : List UInt8) : Nat → Nat
  | 0 => 0
  | j + 1 => rdN l j + (l.getD j 0).toNat * 2 ^ (8 * j)
theorem rdN_lt (l : List UInt8) (j : Nat) : rdN l j < 2 ^ (8 * j) := by
  induction j with
  | zero => simp [rdN]
  | succ j ih =>
    have h := UInt8.toNat_lt (l.getD j 0)
    have e : 2 ^ (8 * (j + 1)) = 256 * 2 ^ (8 * j) := by rw [Nat.mul_add, Nat.pow_add, Nat.mul_comm]
    simp only [rdN]
    rw [e]
    have h2 : (l.getD j 0).toNat * 2 ^ (8 * j) ≤ 255 * 2 ^ (8 * j) := Nat.mul_le_mul_right _ (by omega)
    omega
/-- whether a run is right -/
def right (l : List UInt8) : Bool := decide (4 ≤ l.length) && (rdN (l.drop (l.length - 4)) 4 == (sum (l.take (l.length - 4))).toNat)

theorem rdN_leL (n : Nat) (h : n < 2 ^ 32) : rdN (leL n 4) 4 = n := by
  have e : leL n 4 = [dg n 0, dg n 1, dg n 2, dg n 3] := rfl
  rw [e]
  simp only [rdN, List.getD_cons_zero, List.getD_cons_succ, dg_toNat]
  omega
theorem leL_inj (t : List UInt8) (n : Nat) (h : t.length = 4) (hn : rdN t 4 = n) : t = leL n 4 := by
  match t, h with
  | [a, b, c, d], _ =>
    have ha := a.toNat_lt
    have hb := b.toNat_lt
    have hc := c.toNat_lt
    have hd := d.toNat_lt
    simp only [rdN, List.getD_cons_zero, List.getD_cons_succ] at hn
    have e : leL n 4 = [dg n 0, dg n 1, dg n 2, dg n 3] := rfl
    rw [e]
    have i0 : a = dg n 0 := by apply UInt8.toNat_inj.1; rw [dg_toNat]; omega
    have i1 : b = dg n 1 := by apply UInt8.toNat_inj.1; rw [dg_toNat]; omega
    have i2 : c = dg n 2 := by apply UInt8.toNat_inj.1; rw [dg_toNat]; omega
    have i3 : d = dg n 3 := by apply UInt8.toNat_inj.1; rw [dg_toNat]; omega
    rw [i0, i1, i2, i3]
theorem right_cover (l : List UInt8) : right (cover l) = true := by
  unfold right
  rw [cover_length, Nat.add_sub_cancel]
  unfold cover
  rw [List.drop_left, List.take_left, rdN_leL _ (sum l).isLt]
  simp
/-- a run is right if it is what cover tells of all but its four last bytes -/
theorem right_iff (l : List UInt8) : right l = (decide (4 ≤ l.length) && (cover (l.take (l.length - 4)) == l)) := by
  unfold right
  rcases Nat.lt_or_ge l.length 4 with h | h
  · have : decide (4 ≤ l.length) = false := by simp; omega
    rw [this, Bool.false_and, Bool.false_and]
  · have h4 : (l.drop (l.length - 4)).length = 4 := by rw [List.length_drop]; omega
    have hcut := List.take_append_drop (l.length - 4) l
    generalize l.take (l.length - 4) = a at *
    generalize l.drop (l.length - 4) = t at *
    refine congrArg (decide (4 ≤ l.length) && ·) ?_
    rw [Bool.eq_iff_iff, beq_iff_eq, beq_iff_eq]
    unfold cover
    constructor
    · intro e
      rw [← leL_inj t _ h4 e, hcut]
    · intro e
      rw [← hcut] at e
      have := List.append_cancel_left e
      rw [← this, rdN_leL _ (sum a).isLt]

theorem and_xor (a b c : BitVec 32) : (a ^^^ b) &&& c = (a &&& c) ^^^ (b &&& c) := by
  apply BitVec.eq_of_getLsbD_eq
  intro i _
  simp only [BitVec.getLsbD_xor, BitVec.getLsbD_and]
  cases a.getLsbD i <;> cases b.getLsbD i <;> cases c.getLsbD i <;> rfl
theorem tp8 (c : UInt8) : tp 8 (by8 c <<< 8) = by8 c := by
  have h := lin_ext (fun x => tp 8 ((x &&& 0xff#32) <<< 8)) (fun x => x &&& 0xff#32)
    (fun a b => by simp only [and_xor, BitVec.shiftLeft_xor_distrib, tp_xor]) (fun a b => by simp only [and_xor]) (by decide +kernel) (by8 c)
  have e : by8 c &&& 0xff#32 = by8 c := by
    apply BitVec.eq_of_toNat_eq
    have := c.toNat_lt
    unfold by8
    rw [BitVec.toNat_and, BitVec.toNat_ofNat, Nat.mod_eq_of_lt (by omega), show (0xff#32).toNat = 2 ^ 8 - 1 by rfl, Nat.and_two_pow_sub_one_eq_mod, Nat.mod_eq_of_lt (by omega)]
  simpa only [e] using h
theorem ofNat_add (x c j : Nat) (hx : x < 2 ^ (8 * j)) (hc : c < 256) (hj : j < 4) : BitVec.ofNat 32 (x + c * 2 ^ (8 * j)) = BitVec.ofNat 32 x ^^^ (BitVec.ofNat 32 c <<< (8 * j)) := by
  apply BitVec.eq_of_getLsbD_eq
  intro i hi
  rw [BitVec.getLsbD_xor, BitVec.getLsbD_shiftLeft, BitVec.getLsbD_ofNat, BitVec.getLsbD_ofNat, BitVec.getLsbD_ofNat, Nat.add_comm, Nat.mul_comm, Nat.testBit_two_pow_mul_add _ hx]
  rcases Nat.lt_or_ge i (8 * j) with h | h
  · simp [h, hi]
  · have h1 : ¬ i < 8 * j := by omega
    have h2 : x.testBit i = false := Nat.testBit_lt_two_pow (Nat.lt_of_lt_of_le hx (Nat.pow_le_pow_right (by omega) h))
    simp [h1, hi, h2]
    intro _
    omega
/-- four bytes behind are one number of 32 bits behind -/
theorem reg_four (r : BitVec 32) (t : List UInt8) (h : t.length = 4) : reg r t = tp 32 (r ^^^ BitVec.ofNat 32 (rdN t 4)) := by
  match t, h with
  | [a, b, c, d], _ =>
    have ha := a.toNat_lt
    have hb := b.toNat_lt
    have hc := c.toNat_lt
    have hd := d.toNat_lt
    have l1 := rdN_lt [a, b, c, d] 1
    have l2 := rdN_lt [a, b, c, d] 2
    have l3 := rdN_lt [a, b, c, d] 3
    have e1 : rdN [a, b, c, d] 1 = a.toNat := by simp [rdN]
    have e2 : rdN [a, b, c, d] 2 = rdN [a, b, c, d] 1 + b.toNat * 2 ^ (8 * 1) := rfl
    have e3 : rdN [a, b, c, d] 3 = rdN [a, b, c, d] 2 + c.toNat * 2 ^ (8 * 2) := rfl
    have e4 : rdN [a, b, c, d] 4 = rdN [a, b, c, d] 3 + d.toNat * 2 ^ (8 * 3) := rfl
    rw [e4, ofNat_add _ _ 3 l3 hd (by omega), e3, ofNat_add _ _ 2 l2 hc (by omega), e2, ofNat_add _ _ 1 l1 hb (by omega), e1]
    show tp 8 (tp 8 (tp 8 (tp 8 (r ^^^ by8 a) ^^^ by8 b) ^^^ by8 c) ^^^ by8 d) = tp 32 (r ^^^ (by8 a ^^^ by8 b <<< 8 ^^^ by8 c <<< 16 ^^^ by8 d <<< 24))
    have s1 : ∀ x : BitVec 32, tp 8 (tp 8 (tp 8 (tp 8 x))) = tp 32 x := fun x => by rw [← tp_add, ← tp_add, ← tp_add]
    have q1 : by8 b = tp 8 (by8 b <<< 8) := (tp8 b).symm
    have up : ∀ (y : UInt8) (k : Nat), k ≤ 16 → tp 8 (by8 y <<< (k + 8)) = by8 y <<< k := fun y k hk => by
      have h := lin_ext (fun x => tp 8 ((x &&& 0xff#32) <<< (k + 8))) (fun x => (x &&& 0xff#32) <<< k)
        (fun a b => by simp only [and_xor, BitVec.shiftLeft_xor_distrib, tp_xor]) (fun a b => by simp only [and_xor, BitVec.shiftLeft_xor_distrib])
        (by
          have : ∀ (k : Fin 17) (i : Fin 32), tp 8 ((BitVec.twoPow 32 i &&& 0xff#32) <<< (k.val + 8)) = (BitVec.twoPow 32 i &&& 0xff#32) <<< k.val := by decide +kernel
          exact this ⟨k, by omega⟩) (by8 y)
      have e : by8 y &&& 0xff#32 = by8 y := by
        apply BitVec.eq_of_toNat_eq
        have := y.toNat_lt
        unfold by8
        rw [BitVec.toNat_and, BitVec.toNat_ofNat, Nat.mod_eq_of_lt (by omega), show (0xff#32).toNat = 2 ^ 8 - 1 by rfl, Nat.and_two_pow_sub_one_eq_mod, Nat.mod_eq_of_lt (by omega)]
      simpa only [e] using h
    have q2 : by8 c = tp 8 (tp 8 (by8 c <<< 16)) := by rw [up c 8 (by omega), tp8]
    have q3 : by8 d = tp 8 (tp 8 (tp 8 (by8 d <<< 24))) := by rw [up d 16 (by omega), up d 8 (by omega), tp8]
    conv => lhs; rw [q1, q2, q3]
    simp only [← tp_xor, s1]
    congr 1
    simp only [BitVec.xor_assoc]
/-- a run is right if the division of all of it leaves what it leaves of any right run -/
theorem right_reg (l : List UInt8) (h : 4 ≤ l.length) : right l = (reg ones l == tp 32 ones) := by
  have h4 : (l.drop (l.length - 4)).length = 4 := by rw [List.length_drop]; omega
  unfold right
  conv => rhs; rw [← List.take_append_drop (l.length - 4) l, reg_append, reg_four _ _ h4]
  have hlt := rdN_lt (l.drop (l.length - 4)) 4
  generalize l.take (l.length - 4) = a at *
  generalize l.drop (l.length - 4) = t at *
  rw [Bool.eq_iff_iff]
  simp only [Bool.and_eq_true, decide_eq_true_eq, beq_iff_eq, h, true_and]
  unfold sum more
  have e2 : ~~~ 0#32 = ones := by decide
  rw [e2]
  constructor
  · intro e
    congr 1
    rw [e, BitVec.ofNat_toNat, BitVec.setWidth_eq, not_xor, ← BitVec.xor_assoc, BitVec.xor_self, BitVec.zero_xor]
  · intro e
    have e3 := tp_inj 32 _ _ e
    have e4 : BitVec.ofNat 32 (rdN t 4) = ~~~ (reg ones a) := by
      rw [not_xor]
      generalize reg ones a = z at e3
      rw [← e3, ← BitVec.xor_assoc, BitVec.xor_self, BitVec.zero_xor]
    rw [← e4, BitVec.toNat_ofNat, Nat.mod_eq_of_lt (by simpa using hlt)]

/-- one byte is turned -/
theorem reg_set (l : List UInt8) : ∀ (r : BitVec 32) (p : Nat) (c d : UInt8), l[p]? = some c → reg r (l.set p (c ^^^ d)) = reg r l ^^^ tp (8 * (l.length - p)) (by8 d) := by
  induction l with
  | nil => intro r p c d h; simp at h
  | cons x l ih =>
    intro r p c d h
    rcases p with _ | p
    · simp at h
      subst h
      show reg (tp 8 (r ^^^ by8 (x ^^^ d))) l = reg (tp 8 (r ^^^ by8 x)) l ^^^ tp (8 * (l.length + 1 - 0)) (by8 d)
      rw [by8_xor, ← BitVec.xor_assoc, tp_xor, reg_xor, ← tp_add]
      congr 2
    · simp at h
      show reg (tp 8 (r ^^^ by8 x)) (l.set p (c ^^^ d)) = reg (tp 8 (r ^^^ by8 x)) l ^^^ _
      rw [ih _ p c d h]
      congr 2
      simp
theorem tp_two (k : Nat) (h : k < 32) : tp k (BitVec.twoPow 32 k) = 1#32 := by
  have : ∀ k : Fin 32, tp k.val (BitVec.twoPow 32 k) = 1#32 := by decide +kernel
  exact this ⟨k, h⟩
theorem by8_two (q : Nat) (h : q < 8) : by8 (UInt8.ofNat (2 ^ q)) = BitVec.twoPow 32 q := by
  have : ∀ q : Fin 8, by8 (UInt8.ofNat (2 ^ q.val)) = BitVec.twoPow 32 q := by decide +kernel
  exact this ⟨q, h⟩
/-- one bit is turned: where it stands in the row of bits is all that counts -/
theorem turn_bit (l : List UInt8) (p q first k : Nat) (hp : p < l.length) (hq : q < 8) (hk : k < 32) (h : first + k = 8 * p + q) :
    tp (8 * (l.length - p)) (by8 (UInt8.ofNat (2 ^ q))) = tp (8 * l.length - first) (BitVec.twoPow 32 k) := by
  rw [by8_two q hq, show 8 * (l.length - p) = (8 * l.length - first - k) + q by omega, tp_add, tp_two q (by omega), show 8 * l.length - first = (8 * l.length - first - k) + k by omega, tp_add, tp_two k hk]
  congr 1
  omega
/-- the first k bits of what is turned -/
def low (b : BitVec 32) (k : Nat) : BitVec 32 := BitVec.ofNat 32 (b.toNat % 2 ^ k)
theorem low_succ (b : BitVec 32) (k : Nat) (h : k < 32) : low b (k + 1) = low b k ^^^ (if b.getLsbD k then BitVec.twoPow 32 k else 0#32) := by
  apply BitVec.eq_of_getLsbD_eq
  intro i hi
  unfold low
  rw [BitVec.getLsbD_xor, BitVec.getLsbD_ofNat, BitVec.getLsbD_ofNat, Nat.testBit_mod_two_pow, Nat.testBit_mod_two_pow]
  rcases hb : b.getLsbD k with _ | _
  · simp only [Bool.false_eq_true, if_false, BitVec.getLsbD_zero, Bool.xor_false]
    rcases Nat.lt_trichotomy i k with h1 | h1 | h1
    · simp [h1, show i < k + 1 by omega]
    · subst h1
      rw [BitVec.getLsbD] at hb
      simp [hb]
    · simp [show ¬ i < k by omega, show ¬ i < k + 1 by omega]
  · simp only [if_true, BitVec.getLsbD_twoPow]
    rcases Nat.lt_trichotomy i k with h1 | h1 | h1
    · simp [h1, show i < k + 1 by omega, show ¬ k = i by omega]
    · subst h1
      rw [BitVec.getLsbD] at hb
      simp [hb, hi]
    · simp [show ¬ i < k by omega, show ¬ i < k + 1 by omega, show ¬ k = i by omega]
theorem low_zero (b : BitVec 32) : low b 0 = 0#32 := by unfold low; rw [Nat.pow_zero, Nat.mod_one]
theorem low_ne (b : BitVec 32) (k : Nat) (h : k ≤ 32) (h0 : 0 < k) (hb : b.getLsbD 0 = true) : low b k ≠ 0#32 := fun e => by
  have e1 := congrArg (BitVec.getLsbD · 0) e
  unfold low at e1
  simp only [BitVec.getLsbD_ofNat, Nat.testBit_mod_two_pow] at e1
  rw [BitVec.getLsbD] at hb
  simp [hb, h0] at e1
/-- the row is turned, bit by bit, beginning at 'first' -/
def turned (r0 : List UInt8) (b : BitVec 32) (first k : Nat) (l : List UInt8) : Prop :=
  l.length = r0.length ∧ reg ones l = reg ones r0 ^^^ tp (8 * r0.length - first) (low b k)
theorem turned_zero (r0 : List UInt8) (b : BitVec 32) (first : Nat) : turned r0 b first 0 r0 := ⟨rfl, by rw [low_zero, tp_zero, BitVec.xor_zero]⟩
theorem turned_same {r0 l : List UInt8} {b : BitVec 32} {first k : Nat} (h : turned r0 b first k l) (hk : k < 32) (hb : b.getLsbD k = false) : turned r0 b first (k + 1) l :=
  ⟨h.1, by rw [low_succ b k hk, hb]; simp [h.2]⟩
theorem turned_bit {r0 l : List UInt8} {b : BitVec 32} {first k p q : Nat} {c : UInt8} (h : turned r0 b first k l) (hk : k < 32) (hb : b.getLsbD k = true) (hp : l[p]? = some c) (hq : q < 8) (hf : first + k = 8 * p + q) :
    turned r0 b first (k + 1) (l.set p (c ^^^ UInt8.ofNat (2 ^ q))) := by
  have hlt : p < l.length := (List.getElem?_eq_some_iff.1 hp).1
  refine ⟨by rw [List.length_set, h.1], ?_⟩
  rw [reg_set l ones p c _ hp, h.2, low_succ b k hk, hb, tp_xor, turn_bit l p q first k hlt hq hk hf, h.1, BitVec.xor_assoc]
  rfl
theorem turned_wrong {r0 l : List UInt8} {b : BitVec 32} {first k : Nat} (h : turned r0 b first k l) (h4 : 4 ≤ r0.length) (hr : right r0 = true) (hk : k ≤ 32) (h0 : 0 < k) (hb : b.getLsbD 0 = true) : right l = false := by
  rw [right_reg r0 h4] at hr
  rw [right_reg l (by rw [h.1]; exact h4), h.2]
  simp only [beq_iff_eq] at hr
  rw [hr]
  rcases hc : (tp 32 ones ^^^ tp (8 * r0.length - first) (low b k) == tp 32 ones) with _ | _
  · rfl
  · exfalso
    simp only [beq_iff_eq] at hc
    have e : tp (8 * r0.length - first) (low b k) = 0#32 := by
      have := congrArg (tp 32 ones ^^^ ·) hc
      simp only [← BitVec.xor_assoc, BitVec.xor_self, BitVec.zero_xor] at this
      exact this
    exact low_ne b k hk h0 hb (tp_eq_zero _ _ e)
end Go.Proofs.YtggijjknfcofoaaDoor.Cx
