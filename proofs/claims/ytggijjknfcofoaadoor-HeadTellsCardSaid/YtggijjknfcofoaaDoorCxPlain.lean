
/-
  Layer 2 (sums of bytes), as plain functions of 32 bits, without any program: polynomials by x, products, powers, sums.
-/
import Derived.Below
set_option linter.unusedVariables false
set_option linter.unusedSimpArgs false
namespace Go.Proofs.YtggijjknfcofoaaDoor.Cx

/-- what x to 32 leaves -/
def md : BitVec 32 := 0x82f63b78#32
/-- x to 0 -/
def e0 : BitVec 32 := 0x80000000#32
/-- a polynomial by x -/
def tx (a : BitVec 32) : BitVec 32 := (a >>> 1) ^^^ (if a.getLsbD 0 then md else 0#32)

theorem x4 (a b c d : BitVec 32) : (a ^^^ b) ^^^ (c ^^^ d) = (a ^^^ c) ^^^ (b ^^^ d) := by
  rw [BitVec.xor_assoc, BitVec.xor_assoc, ← BitVec.xor_assoc b c d, BitVec.xor_comm b c, BitVec.xor_assoc c b d]

theorem tx_xor (a b : BitVec 32) : tx (a ^^^ b) = tx a ^^^ tx b := by
  unfold tx
  rw [BitVec.getLsbD_xor, BitVec.ushiftRight_xor_distrib, x4]
  congr 1
  cases a.getLsbD 0 <;> cases b.getLsbD 0 <;> simp
theorem tx_zero : tx 0#32 = 0#32 := by decide

theorem tx_eq_zero (a : BitVec 32) (h : tx a = 0#32) : a = 0#32 := by
  unfold tx at h
  rcases hb : a.getLsbD 0 with _ | _
  · rw [hb] at h
    simp at h
    have h1 : (a >>> 1).toNat = 0 := by rw [h]; rfl
    rw [BitVec.toNat_ushiftRight] at h1
    have h2 : a.toNat % 2 = 0 := by
      rw [BitVec.getLsbD] at hb
      simp [Nat.testBit_zero] at hb
      omega
    apply BitVec.eq_of_toNat_eq
    rw [Nat.shiftRight_eq_div_pow] at h1
    simp
    omega
  · rw [hb] at h
    have h1 := congrArg (BitVec.getLsbD · 31) h
    simp [md] at h1

/-- by x, n times -/
def tp : Nat → BitVec 32 → BitVec 32
  | 0, a => a
  | n + 1, a => tx (tp n a)
theorem tp_xor (n : Nat) (a b : BitVec 32) : tp n (a ^^^ b) = tp n a ^^^ tp n b := by
  induction n with
  | zero => rfl
  | succ n ih => simp only [tp, ih, tx_xor]
theorem tp_zero (n : Nat) : tp n 0#32 = 0#32 := by
  induction n with
  | zero => rfl
  | succ n ih => simp only [tp, ih, tx_zero]
theorem tp_add (m n : Nat) (a : BitVec 32) : tp (m + n) a = tp m (tp n a) := by
  induction m with
  | zero => rw [Nat.zero_add]; rfl
  | succ m ih => rw [Nat.succ_add]; simp only [tp, ih]
theorem tp_tx (n : Nat) (a : BitVec 32) : tp n (tx a) = tx (tp n a) := by
  have h1 := tp_add n 1 a
  have h2 := tp_add 1 n a
  rw [Nat.add_comm] at h2
  exact h1.symm.trans h2
theorem tp_eq_zero (n : Nat) (a : BitVec 32) (h : tp n a = 0#32) : a = 0#32 := by
  induction n with
  | zero => exact h
  | succ n ih => exact ih (tx_eq_zero _ h)
theorem xor_eq_zero (a b : BitVec 32) (h : a ^^^ b = 0#32) : a = b := by
  have : (a ^^^ b) ^^^ b = 0#32 ^^^ b := by rw [h]
  rw [BitVec.xor_assoc, BitVec.xor_self] at this
  simpa using this
theorem tp_inj (n : Nat) (a b : BitVec 32) (h : tp n a = tp n b) : a = b := by
  apply xor_eq_zero
  apply tp_eq_zero n
  rw [tp_xor, h, BitVec.xor_self]
theorem tp_if (n : Nat) (c : Bool) (a : BitVec 32) : tp n (if c then a else 0#32) = if c then tp n a else 0#32 := by
  cases c
  · simp [tp_zero]
  · simp

/-- linear functions that agree at single bits agree -/
theorem lin_ext (f g : BitVec 32 → BitVec 32) (hf : ∀ a b, f (a ^^^ b) = f a ^^^ f b) (hg : ∀ a b, g (a ^^^ b) = g a ^^^ g b)
    (h : ∀ i : Fin 32, f (BitVec.twoPow 32 i) = g (BitVec.twoPow 32 i)) (a : BitVec 32) : f a = g a := by
  have key : ∀ n, n ≤ 32 → ∀ a : BitVec 32, (∀ i, n ≤ i → a.getLsbD i = false) → f a = g a := by
    intro n
    induction n with
    | zero =>
      intro _ a ha
      have h0 : a = 0#32 := by
        apply BitVec.eq_of_getLsbD_eq
        intro i _
        rw [ha i (Nat.zero_le _)]
        simp
      have z : ∀ f : BitVec 32 → BitVec 32, (∀ a b, f (a ^^^ b) = f a ^^^ f b) → f 0#32 = 0#32 := by
        intro f hf
        have := hf 0#32 0#32
        rw [BitVec.xor_self, BitVec.xor_self] at this
        exact this
      rw [h0, z f hf, z g hg]
    | succ n ih =>
      intro hn a ha
      rcases hb : a.getLsbD n with _ | _
      · exact ih (by omega) a (fun i hi => by
          rcases Nat.eq_or_lt_of_le hi with rfl | h1
          · exact hb
          · exact ha i h1)
      · have hs : a = (a ^^^ BitVec.twoPow 32 n) ^^^ BitVec.twoPow 32 n := by
          rw [BitVec.xor_assoc, BitVec.xor_self]
          simp
        have hl := ih (by omega) (a ^^^ BitVec.twoPow 32 n) (fun i hi => by
          rw [BitVec.getLsbD_xor, BitVec.getLsbD_twoPow]
          rcases Nat.eq_or_lt_of_le hi with rfl | h1
          · rw [hb]; simp; omega
          · rw [ha i h1]; simp; omega)
        rw [hs, hf, hg, hl, h ⟨n, by omega⟩]
  exact key 32 (Nat.le_refl _) a (fun i hi => BitVec.getLsbD_of_ge _ _ hi)

/-- the product, bit by bit: the highest bit of a is the coefficient of x to 0 -/
def mulL : Nat → BitVec 32 → BitVec 32 → BitVec 32
  | 0, _, _ => 0#32
  | n + 1, a, b => (if a.getLsbD 31 then b else 0#32) ^^^ mulL n (a <<< 1) (tx b)
/-- the product -/
def mul (a b : BitVec 32) : BitVec 32 := mulL 32 a b

theorem if_xor (c d : Bool) (b : BitVec 32) : (if (c ^^ d) then b else 0#32) = (if c then b else 0#32) ^^^ (if d then b else 0#32) := by
  cases c <;> cases d <;> simp
theorem if_xor' (c : Bool) (a b : BitVec 32) : (if c then a ^^^ b else 0#32) = (if c then a else 0#32) ^^^ (if c then b else 0#32) := by
  cases c <;> simp
theorem mulL_xor_left (n : Nat) : ∀ a a' b, mulL n (a ^^^ a') b = mulL n a b ^^^ mulL n a' b := by
  induction n with
  | zero => intro a a' b; simp [mulL]
  | succ n ih =>
    intro a a' b
    simp only [mulL, BitVec.getLsbD_xor, BitVec.shiftLeft_xor_distrib, ih, if_xor]
    exact x4 _ _ _ _
theorem mulL_xor_right (n : Nat) : ∀ a b b', mulL n a (b ^^^ b') = mulL n a b ^^^ mulL n a b' := by
  induction n with
  | zero => intro a b b'; simp [mulL]
  | succ n ih =>
    intro a b b'
    simp only [mulL, tx_xor, ih, if_xor']
    exact x4 _ _ _ _
theorem mulL_tx (n : Nat) : ∀ a b, mulL n a (tx b) = tx (mulL n a b) := by
  induction n with
  | zero => intro a b; exact tx_zero.symm
  | succ n ih =>
    intro a b
    simp only [mulL, tx_xor, ih]
    congr 1
    cases a.getLsbD 31
    · simp [tx_zero]
    · simp
theorem mulL_zero (n : Nat) (b : BitVec 32) : mulL n 0#32 b = 0#32 := by
  have := mulL_xor_left n 0#32 0#32 b
  rw [BitVec.xor_self, BitVec.xor_self] at this
  exact this
theorem mul_xor_left (a a' b : BitVec 32) : mul (a ^^^ a') b = mul a b ^^^ mul a' b := mulL_xor_left 32 a a' b
theorem mul_xor_right (a b b' : BitVec 32) : mul a (b ^^^ b') = mul a b ^^^ mul a b' := mulL_xor_right 32 a b b'
theorem mul_zero_right (a : BitVec 32) : mul a 0#32 = 0#32 := by
  have := mul_xor_right a 0#32 0#32
  rw [BitVec.xor_self, BitVec.xor_self] at this
  exact this
theorem mul_zero_left (b : BitVec 32) : mul 0#32 b = 0#32 := mulL_zero 32 b
theorem mul_tp (a : BitVec 32) (n : Nat) (b : BitVec 32) : mul a (tp n b) = tp n (mul a b) := by
  induction n with
  | zero => rfl
  | succ n ih =>
    show mulL 32 a (tx (tp n b)) = tx (tp n (mul a b))
    rw [mulL_tx, ← ih]
    rfl
theorem mul_one (a : BitVec 32) : mul a e0 = a :=
  lin_ext (fun a => mul a e0) (fun a => a) (fun a b => mul_xor_left a b e0) (fun _ _ => rfl) (by decide +kernel) a
theorem mul_mulL (a b : BitVec 32) (n : Nat) : ∀ c, mul a (mulL n b c) = mulL n b (mul a c) := by
  induction n generalizing b with
  | zero => intro c; exact mul_zero_right a
  | succ n ih =>
    intro c
    simp only [mulL, mul_xor_right, ih]
    congr 1
    · cases b.getLsbD 31
      · simp [mul_zero_right]
      · simp
    · have : mul a (tx c) = tx (mul a c) := mulL_tx 32 a c
      rw [this]
theorem mul_left_comm (a b c : BitVec 32) : mul a (mul b c) = mul b (mul a c) := mul_mulL a b 32 c
theorem mul_comm (a b : BitVec 32) : mul a b = mul b a := by
  conv => lhs; rw [← mul_one b]
  rw [mul_left_comm, mul_one]
theorem mul_assoc (a b c : BitVec 32) : mul (mul a b) c = mul a (mul b c) := by
  rw [mul_comm (mul a b) c, mul_left_comm, mul_comm c b]
/-- x to n -/
def xp (n : Nat) : BitVec 32 := tp n e0
theorem mul_xp (a : BitVec 32) (n : Nat) : mul a (xp n) = tp n a := by
  unfold xp
  rw [mul_tp, mul_one]
theorem xp_mul (a : BitVec 32) (n : Nat) : mul (xp n) a = tp n a := by rw [mul_comm, mul_xp]
theorem xp_add (m n : Nat) : mul (xp m) (xp n) = xp (m + n) := by
  rw [mul_xp, Nat.add_comm]
  unfold xp
  rw [tp_add]
theorem xp_ne (n : Nat) : xp n ≠ 0#32 := fun h => by
  have := tp_eq_zero n e0 h
  exact absurd this (by decide)
theorem xp_8 : xp 8 = 0x800000#32 := by decide +kernel
theorem xp_0 : xp 0 = 0x80000000#32 := rfl

/-- four bits at once -/
def tab (i : Nat) : BitVec 32 := tp 4 (BitVec.ofNat 32 i)
theorem tp4 (a : BitVec 32) : tp 4 a = (a >>> 4) ^^^ tab (a.toNat % 16) := by
  have h1 : tp 4 ((a >>> 4) <<< 4) = a >>> 4 :=
    lin_ext (fun a => tp 4 ((a >>> 4) <<< 4)) (fun a => a >>> 4) (fun a b => by simp only [BitVec.ushiftRight_xor_distrib, BitVec.shiftLeft_xor_distrib, tp_xor])
      (fun a b => by simp only [BitVec.ushiftRight_xor_distrib]) (by decide +kernel) a
  have h2 : a = ((a >>> 4) <<< 4) ^^^ BitVec.ofNat 32 (a.toNat % 16) := by
    apply BitVec.eq_of_getLsbD_eq
    intro i hi
    rw [BitVec.getLsbD_xor, BitVec.getLsbD_shiftLeft, BitVec.getLsbD_ushiftRight, BitVec.getLsbD_ofNat]
    rw [show a.toNat % 16 = a.toNat % 2 ^ 4 by rfl, Nat.testBit_mod_two_pow]
    rcases Nat.lt_or_ge i 4 with h | h
    · simp [h, hi, BitVec.getLsbD]
    · have : ¬ i < 4 := by omega
      simp [this, hi]
      congr 1
      omega
  conv => lhs; rw [h2]
  rw [tp_xor, h1]
  rfl

/-- a byte as a polynomial's eight last bits -/
def by8 (c : UInt8) : BitVec 32 := BitVec.ofNat 32 c.toNat
/-- the division goes on over bytes -/
def reg : BitVec 32 → List UInt8 → BitVec 32
  | r, [] => r
  | r, c :: l => reg (tp 8 (r ^^^ by8 c)) l
theorem reg_append (r : BitVec 32) (l m : List UInt8) : reg r (l ++ m) = reg (reg r l) m := by
  induction l generalizing r with
  | nil => rfl
  | cons c l ih => exact ih _
theorem reg_snoc (r : BitVec 32) (l : List UInt8) (c : UInt8) : reg r (l ++ [c]) = tp 8 (reg r l ^^^ by8 c) := by
  rw [reg_append]; rfl
theorem reg_xor (r s : BitVec 32) (l : List UInt8) : reg (r ^^^ s) l = reg r l ^^^ tp (8 * l.length) s := by
  induction l generalizing r s with
  | nil => rfl
  | cons c l ih =>
    show reg (tp 8 ((r ^^^ s) ^^^ by8 c)) l = reg (tp 8 (r ^^^ by8 c)) l ^^^ _
    have : (r ^^^ s) ^^^ by8 c = (r ^^^ by8 c) ^^^ s := by
      rw [BitVec.xor_assoc, BitVec.xor_comm s, ← BitVec.xor_assoc]
    rw [this, tp_xor, ih, ← tp_add, List.length_cons]
    congr 2
theorem reg_from (r : BitVec 32) (l : List UInt8) : reg r l = reg 0#32 l ^^^ tp (8 * l.length) r := by
  have := reg_xor 0#32 r l
  rwa [BitVec.zero_xor] at this

def ones : BitVec 32 := 0xffffffff#32
/-- the sum, going on -/
def more (s : BitVec 32) (l : List UInt8) : BitVec 32 := ~~~ (reg (~~~ s) l)
/-- the sum -/
def sum (l : List UInt8) : BitVec 32 := more 0#32 l
theorem not_xor (a : BitVec 32) : ~~~ a = a ^^^ ones := by
  apply BitVec.eq_of_getLsbD_eq
  intro i hi
  have : ones.getLsbD i = true := by
    have : ones = BitVec.allOnes 32 := by decide
    rw [this, BitVec.getLsbD_allOnes]
    simp [hi]
  rw [BitVec.getLsbD_xor, this, BitVec.getLsbD_not]
  simp [hi]
theorem more_append (s : BitVec 32) (l m : List UInt8) : more s (l ++ m) = more (more s l) m := by
  unfold more
  rw [reg_append, BitVec.not_not]
theorem sum_append (l m : List UInt8) : sum (l ++ m) = more (sum l) m := more_append _ _ _
theorem more_nil (s : BitVec 32) : more s [] = s := by simp [more, reg]

/-- joined -/
def join (a b : BitVec 32) (n : Nat) : BitVec 32 := mul a (xp (8 * n)) ^^^ b
theorem join_sum (a : BitVec 32) (m : List UInt8) : join a (sum m) m.length = more a m := by
  unfold join sum more
  rw [mul_xp, reg_from (~~~ a), reg_from (~~~ 0#32)]
  simp only [not_xor, tp_xor, tp_zero, BitVec.zero_xor]
  generalize tp (8 * m.length) a = x
  generalize tp (8 * m.length) ones = y
  generalize reg 0#32 m = z
  apply BitVec.eq_of_getLsbD_eq
  intro i hi
  simp only [BitVec.getLsbD_xor]
  cases x.getLsbD i <;> cases y.getLsbD i <;> cases z.getLsbD i <;> cases ones.getLsbD i <;> rfl
theorem join_join (a b : BitVec 32) (l m : List UInt8) : join a (join (sum l) (sum m) m.length) (l.length + m.length) = join (join a (sum l) l.length) (sum m) m.length := by
  rw [join_sum, ← sum_append, ← List.length_append, join_sum, join_sum, join_sum, more_append]

/-- three rows, xored -/
theorem by8_xor (a b : UInt8) : by8 (a ^^^ b) = by8 a ^^^ by8 b := by
  unfold by8
  apply BitVec.eq_of_toNat_eq
  have ha := a.toNat_lt
  have hb := b.toNat_lt
  have h := Nat.xor_lt_two_pow (x := a.toNat) (y := b.toNat) (n := 8) ha hb
  simp only [UInt8.toNat_xor, BitVec.toNat_xor, BitVec.toNat_ofNat]
  rw [Nat.mod_eq_of_lt (by omega), Nat.mod_eq_of_lt (by omega), Nat.mod_eq_of_lt (by omega)]
def xor3 (a b c : List UInt8) : List UInt8 := List.zipWith (fun x (p : UInt8 × UInt8) => x ^^^ p.1 ^^^ p.2) a (b.zip c)
theorem reg_xor3 (n : Nat) : ∀ (a b c : List UInt8) (r s t : BitVec 32), a.length = n → b.length = n → c.length = n →
    reg (r ^^^ s ^^^ t) (xor3 a b c) = reg r a ^^^ reg s b ^^^ reg t c := by
  induction n with
  | zero =>
    intro a b c r s t ha hb hc
    obtain rfl := List.length_eq_zero_iff.1 ha
    obtain rfl := List.length_eq_zero_iff.1 hb
    obtain rfl := List.length_eq_zero_iff.1 hc
    rfl
  | succ n ih =>
    intro a b c r s t ha hb hc
    match a, b, c, ha, hb, hc with
    | x :: a, y :: b, z :: c, ha, hb, hc =>
      show reg (tp 8 (r ^^^ s ^^^ t ^^^ by8 (x ^^^ y ^^^ z))) (xor3 a b c) = _
      have e : r ^^^ s ^^^ t ^^^ by8 (x ^^^ y ^^^ z) = (r ^^^ by8 x) ^^^ (s ^^^ by8 y) ^^^ (t ^^^ by8 z) := by
        rw [by8_xor, by8_xor, x4 (r ^^^ s) t, x4 r s]
      rw [e, tp_xor, tp_xor, ih _ _ _ _ _ _ (by simpa using ha) (by simpa using hb) (by simpa using hc)]
      rfl
theorem sum_xor3 (n : Nat) (a b c : List UInt8) (ha : a.length = n) (hb : b.length = n) (hc : c.length = n) : sum (xor3 a b c) = sum a ^^^ sum b ^^^ sum c := by
  have h := reg_xor3 n a b c ones ones ones ha hb hc
  have e : ones ^^^ ones ^^^ ones = ones := by decide
  rw [e] at h
  unfold sum more
  have e2 : ~~~ 0#32 = ones := by decide
  rw [e2, h, not_xor, not_xor, not_xor, not_xor]
  generalize reg ones a = x
  generalize reg ones b = y
  generalize reg ones c = z
  rw [x4 x ones y ones, BitVec.xor_self, BitVec.xor_zero, ← BitVec.xor_assoc (x ^^^ y)]
end Go.Proofs.YtggijjknfcofoaaDoor.Cx
