/-
  SegKnown, part 2 of what the law's proof leans on: PxPlain, PxForm, CxPlain, CxRun, HdPlain, PxPure, PxMem, PxFix, PxCon, CxPure, CxMem, CxCov.
-/
import Derived.Below
import Derived.Laws.BitsAllLaws
import Derived.Test.YtaicibmaogiibaaGreatDoorSegKnownQ1
import Derived.Lib.Bytealg
import Derived.Test.YtaicibmaogiibaaGreatDoorProg
import Derived.WalkKit
import Derived.WalkLawsBesides
import Derived.WalkSpells
import Derived.Outline
import Derived.Lib.Hide
import Derived.Deep.QuietTactic
import Derived.BigQuiet
import Derived.StillTailTactics
import Derived.Deep.DeepFit
import Derived.Deep.RegionHeld3
import Derived.Deep.RegionWith
import Derived.Deep.LoopGhost
import Derived.OwnWalk
/- PxPlain -/

/-
  Layer 1 (numbers in bytes), as plain functions of natural numbers, without any program.
-/
set_option linter.unusedVariables false
set_option linter.unusedSimpArgs false
namespace Go.Proofs.YtaicibmaogiibaaGreatDoor.Px

/-- how many bytes the shortest form has -/
def sizeN (n : Nat) : Nat :=
  if n < 128 then 1 else if n < 16384 then 2 else if n < 2097152 then 3 else if n < 268435456 then 4 else if n < 34359738368 then 5
  else if n < 4398046511104 then 6 else if n < 562949953421312 then 7 else if n < 72057594037927936 then 8 else 9

/-- how many bytes a form has that begins with x -/
def toldN (x : Nat) : Nat :=
  if x < 128 then 1 else if x < 192 then 2 else if x < 224 then 3 else if x < 240 then 4 else if x < 248 then 5 else if x < 252 then 6
  else if x < 254 then 7 else if x < 255 then 8 else 9

/-- after k shifts to the left: the k highest bits of n were ones; y is what is left -/
def ToldAt (n k y : Nat) : Prop := k ≤ 8 ∧ y = n * 2 ^ k % 256 ∧ 256 - 256 / 2 ^ k ≤ n
theorem ToldAt.lt {n k y : Nat} (h : ToldAt n k y) (hn : n < 256) (hy : 128 ≤ y) : k < 8 := by
  obtain ⟨h1, h2, h3⟩ := h
  have : k = 0 ∨ k = 1 ∨ k = 2 ∨ k = 3 ∨ k = 4 ∨ k = 5 ∨ k = 6 ∨ k = 7 ∨ k = 8 := by omega
  rcases this with rfl | rfl | rfl | rfl | rfl | rfl | rfl | rfl | rfl <;> omega
theorem ToldAt.next {n k y : Nat} (h : ToldAt n k y) (hn : n < 256) (hy : 128 ≤ y) : ToldAt n (k + 1) (y * 2 % 256) := by
  have hk := h.lt hn hy
  obtain ⟨h1, h2, h3⟩ := h
  have : k = 0 ∨ k = 1 ∨ k = 2 ∨ k = 3 ∨ k = 4 ∨ k = 5 ∨ k = 6 ∨ k = 7 := by omega
  unfold ToldAt
  rcases this with rfl | rfl | rfl | rfl | rfl | rfl | rfl | rfl <;> omega
theorem ToldAt.done {n k y : Nat} (h : ToldAt n k y) (hn : n < 256) (hy : y < 128) : toldN n = k + 1 := by
  obtain ⟨h1, h2, h3⟩ := h
  have : k = 0 ∨ k = 1 ∨ k = 2 ∨ k = 3 ∨ k = 4 ∨ k = 5 ∨ k = 6 ∨ k = 7 ∨ k = 8 := by omega
  unfold toldN
  rcases this with rfl | rfl | rfl | rfl | rfl | rfl | rfl | rfl | rfl <;> (repeat' split) <;> omega

/-- a digit to the base 256 -/
def dg (n j : Nat) : UInt8 := UInt8.ofNat (n / 2 ^ (8 * j) % 256)
theorem dg_val (n : Int) (h0 : 0 ≤ n) (j : Nat) (i : Int) (hi : i = j) : n / 2 ^ (8 * i).toNat % 256 = ((dg n.toNat j).toNat : Int) := by
  subst hi
  obtain ⟨n, rfl⟩ := Int.eq_ofNat_of_zero_le h0
  unfold dg
  rw [Int.toNat_natCast, UInt8.toNat_ofNat_of_lt' (by simp only [UInt8.size]; exact Nat.mod_lt _ (by omega))]
  rw [show (8 * (j : Int)).toNat = 8 * j by omega]
  simp
/-- the number that k bytes of a form have after j rounds -/
def accN (l : List UInt8) (k : Nat) : Nat → Nat
  | 0 => (l.getD 0 0).toNat % 2 ^ (9 - k)
  | j + 1 => accN l k j * 256 + (l.getD (j + 1) 0).toNat
/-- what Get tells: the number, its size, the error -/
def getN (l : List UInt8) : Nat × Nat × Nat :=
  match l with
  | [] => (0, 0, 4)
  | x :: r => if (x :: r).length < toldN x.toNat then (0, 0, 4)
    else if sizeN (accN (x :: r) (toldN x.toNat) (toldN x.toNat - 1)) = toldN x.toNat then (accN (x :: r) (toldN x.toNat) (toldN x.toNat - 1), toldN x.toNat, 0) else (0, 0, 5)
/-- the k lowest digits, the lowest one first -/
def leL (n k : Nat) : List UInt8 := (List.range k).map fun t => dg n t
theorem leL_succ (n k : Nat) : leL n (k + 1) = leL n k ++ [dg n k] := by simp [leL, List.range_succ]
theorem leL_length (n k : Nat) : (leL n k).length = k := by simp [leL]

/-- the number that the first k bytes are -/
def rdN (l : List UInt8) : Nat → Nat
  | 0 => 0
  | k + 1 => rdN l k + (l.getD k 0).toNat * 2 ^ (8 * k)
theorem rdN_lt (l : List UInt8) (k : Nat) : rdN l k < 2 ^ (8 * k) := by
  induction k with
  | zero => simp [rdN]
  | succ k ih =>
    have := UInt8.toNat_lt (l.getD k 0)
    simp only [rdN]
    rw [show 8 * (k + 1) = 8 * k + 8 by omega, Nat.pow_add]
    have h2 : (l.getD k 0).toNat * 2 ^ (8 * k) ≤ 255 * 2 ^ (8 * k) := Nat.mul_le_mul_right _ (by omega)
    omega
theorem or_rd (l : List UInt8) (j : Nat) (hj : j < 8) : bits .or .u64 (rdN l j : Int) (IntKind.u64.wrap ((l.getD j 0).toNat * 2 ^ (8 * j))) = ((rdN l j + (l.getD j 0).toNat * 2 ^ (8 * j) : Nat) : Int) := by
  have h1 := rdN_lt l j
  have h2 := rdN_lt l (j + 1)
  have h4 : 2 ^ (8 * (j + 1)) ≤ 2 ^ 64 := Nat.pow_le_pow_right (by omega) (by omega)
  simp only [rdN] at h2
  have e : IntKind.u64.wrap ((l.getD j 0).toNat * 2 ^ (8 * j)) = (((l.getD j 0).toNat * 2 ^ (8 * j) : Nat) : Int) := by
    rw [IntKind.wrap_u64, show (((l.getD j 0).toNat : Int) * 2 ^ (8 * j)) = (((l.getD j 0).toNat * 2 ^ (8 * j) : Nat) : Int) by simp]
    omega
  rw [e, u64_or_nat _ _ (by omega) (by omega), Nat.or_comm, nat_join (8 * j) _ _ (Nat.mul_mod_left _ _) h1, Nat.add_comm]
end Go.Proofs.YtaicibmaogiibaaGreatDoor.Px

/- PxForm -/

/-
  Layer 1: what forms are like: their first byte, their digits, their order; what Get tells of them. Plain mathematics.
-/
set_option linter.unusedVariables false
set_option linter.unusedSimpArgs false
namespace Go.Proofs.YtaicibmaogiibaaGreatDoor.Px

theorem pow_step (j : Nat) : 2 ^ (8 * (j + 1)) = 256 * 2 ^ (8 * j) := by
  rw [show 8 * (j + 1) = 8 * j + 8 by omega, Nat.pow_add, Nat.mul_comm]

theorem dg_toNat (n j : Nat) : (dg n j).toNat = n / 2 ^ (8 * j) % 256 := by
  unfold dg
  exact UInt8.toNat_ofNat_of_lt' (by simp only [UInt8.size]; exact Nat.mod_lt _ (by omega))

/-! fixed numbers -/
theorem leL_get (n k j : Nat) (h : j < k) (r : List UInt8) : (leL n k ++ r).getD j 0 = dg n j := by
  rw [List.getD_eq_getElem?_getD, List.getElem?_append_left (by rw [leL_length]; exact h)]
  simp [leL, h]

theorem rdN_leL (n k : Nat) (r : List UInt8) (j : Nat) (hj : j ≤ k) : rdN (leL n k ++ r) j = n % 2 ^ (8 * j) := by
  induction j with
  | zero => simp [rdN, Nat.mod_one]
  | succ j ih =>
    rw [rdN, ih (by omega), leL_get n k j (by omega), dg_toNat, pow_step, Nat.mul_comm 256, Nat.mod_mul, Nat.mul_comm (2 ^ (8 * j)) (n / 2 ^ (8 * j) % 256)]

theorem rdN_fix (n k : Nat) (r : List UInt8) (h : n / 2 ^ (8 * k) = 0) : rdN (leL n k ++ r) k = n := by
  rw [rdN_leL n k r k (Nat.le_refl _)]
  apply Nat.mod_eq_of_lt
  rcases Nat.lt_or_ge n (2 ^ (8 * k)) with h1 | h1
  · exact h1
  · have := Nat.div_pos h1 (Nat.two_pow_pos _)
    omega

end Go.Proofs.YtaicibmaogiibaaGreatDoor.Px

/- CxPlain -/

/-
  Layer 2 (sums of bytes), as plain functions of 32 bits, without any program: polynomials by x, products, powers, sums.
-/
set_option linter.unusedVariables false
set_option linter.unusedSimpArgs false
namespace Go.Proofs.YtaicibmaogiibaaGreatDoor.Cx

/-- what x to 32 leaves -/
def md : BitVec 32 := 0x82f63b78#32
/-- x to 0 -/
def e0 : BitVec 32 := 0x80000000#32
/-- a polynomial by x -/
def tx (a : BitVec 32) : BitVec 32 := (a >>> 1) ^^^ (if a.getLsbD 0 then md else 0#32)

theorem x4 (a b c d : BitVec 32) : (a ^^^ b) ^^^ (c ^^^ d) = (a ^^^ c) ^^^ (b ^^^ d) := by
  rw [BitVec.xor_assoc, BitVec.xor_assoc, ← BitVec.xor_assoc b c d, BitVec.xor_comm b c, BitVec.xor_assoc c b d]

theorem tx_xor (a b : BitVec 32) : tx (a ^^^ b) = tx a ^^^ tx b := by
  unfold tx
  rw [BitVec.getLsbD_xor, BitVec.ushiftRight_xor_distrib, x4]
  congr 1
  cases a.getLsbD 0 <;> cases b.getLsbD 0 <;> simp
theorem tx_zero : tx 0#32 = 0#32 := by decide

/-- by x, n times -/
def tp : Nat → BitVec 32 → BitVec 32
  | 0, a => a
  | n + 1, a => tx (tp n a)
theorem tp_xor (n : Nat) (a b : BitVec 32) : tp n (a ^^^ b) = tp n a ^^^ tp n b := by
  induction n with
  | zero => rfl
  | succ n ih => simp only [tp, ih, tx_xor]
theorem tp_zero (n : Nat) : tp n 0#32 = 0#32 := by
  induction n with
  | zero => rfl
  | succ n ih => simp only [tp, ih, tx_zero]
theorem tp_add (m n : Nat) (a : BitVec 32) : tp (m + n) a = tp m (tp n a) := by
  induction m with
  | zero => rw [Nat.zero_add]; rfl
  | succ m ih => rw [Nat.succ_add]; simp only [tp, ih]
theorem tp_if (n : Nat) (c : Bool) (a : BitVec 32) : tp n (if c then a else 0#32) = if c then tp n a else 0#32 := by
  cases c
  · simp [tp_zero]
  · simp

/-- linear functions that agree at single bits agree -/
theorem lin_ext (f g : BitVec 32 → BitVec 32) (hf : ∀ a b, f (a ^^^ b) = f a ^^^ f b) (hg : ∀ a b, g (a ^^^ b) = g a ^^^ g b)
    (h : ∀ i : Fin 32, f (BitVec.twoPow 32 i) = g (BitVec.twoPow 32 i)) (a : BitVec 32) : f a = g a := by
  have key : ∀ n, n ≤ 32 → ∀ a : BitVec 32, (∀ i, n ≤ i → a.getLsbD i = false) → f a = g a := by
    intro n
    induction n with
    | zero =>
      intro _ a ha
      have h0 : a = 0#32 := by
        apply BitVec.eq_of_getLsbD_eq
        intro i _
        rw [ha i (Nat.zero_le _)]
        simp
      have z : ∀ f : BitVec 32 → BitVec 32, (∀ a b, f (a ^^^ b) = f a ^^^ f b) → f 0#32 = 0#32 := by
        intro f hf
        have := hf 0#32 0#32
        rw [BitVec.xor_self, BitVec.xor_self] at this
        exact this
      rw [h0, z f hf, z g hg]
    | succ n ih =>
      intro hn a ha
      rcases hb : a.getLsbD n with _ | _
      · exact ih (by omega) a (fun i hi => by
          rcases Nat.eq_or_lt_of_le hi with rfl | h1
          · exact hb
          · exact ha i h1)
      · have hs : a = (a ^^^ BitVec.twoPow 32 n) ^^^ BitVec.twoPow 32 n := by
          rw [BitVec.xor_assoc, BitVec.xor_self]
          simp
        have hl := ih (by omega) (a ^^^ BitVec.twoPow 32 n) (fun i hi => by
          rw [BitVec.getLsbD_xor, BitVec.getLsbD_twoPow]
          rcases Nat.eq_or_lt_of_le hi with rfl | h1
          · rw [hb]; simp; omega
          · rw [ha i h1]; simp; omega)
        rw [hs, hf, hg, hl, h ⟨n, by omega⟩]
  exact key 32 (Nat.le_refl _) a (fun i hi => BitVec.getLsbD_of_ge _ _ hi)

/-- the product, bit by bit: the highest bit of a is the coefficient of x to 0 -/
def mulL : Nat → BitVec 32 → BitVec 32 → BitVec 32
  | 0, _, _ => 0#32
  | n + 1, a, b => (if a.getLsbD 31 then b else 0#32) ^^^ mulL n (a <<< 1) (tx b)
/-- the product -/
def mul (a b : BitVec 32) : BitVec 32 := mulL 32 a b

theorem if_xor (c d : Bool) (b : BitVec 32) : (if (c ^^ d) then b else 0#32) = (if c then b else 0#32) ^^^ (if d then b else 0#32) := by
  cases c <;> cases d <;> simp
theorem if_xor' (c : Bool) (a b : BitVec 32) : (if c then a ^^^ b else 0#32) = (if c then a else 0#32) ^^^ (if c then b else 0#32) := by
  cases c <;> simp
theorem mulL_xor_left (n : Nat) : ∀ a a' b, mulL n (a ^^^ a') b = mulL n a b ^^^ mulL n a' b := by
  induction n with
  | zero => intro a a' b; simp [mulL]
  | succ n ih =>
    intro a a' b
    simp only [mulL, BitVec.getLsbD_xor, BitVec.shiftLeft_xor_distrib, ih, if_xor]
    exact x4 _ _ _ _
theorem mulL_xor_right (n : Nat) : ∀ a b b', mulL n a (b ^^^ b') = mulL n a b ^^^ mulL n a b' := by
  induction n with
  | zero => intro a b b'; simp [mulL]
  | succ n ih =>
    intro a b b'
    simp only [mulL, tx_xor, ih, if_xor']
    exact x4 _ _ _ _
theorem mulL_tx (n : Nat) : ∀ a b, mulL n a (tx b) = tx (mulL n a b) := by
  induction n with
  | zero => intro a b; exact tx_zero.symm
  | succ n ih =>
    intro a b
    simp only [mulL, tx_xor, ih]
    congr 1
    cases a.getLsbD 31
    · simp [tx_zero]
    · simp
theorem mulL_zero (n : Nat) (b : BitVec 32) : mulL n 0#32 b = 0#32 := by
  have := mulL_xor_left n 0#32 0#32 b
  rw [BitVec.xor_self, BitVec.xor_self] at this
  exact this
theorem mul_xor_left (a a' b : BitVec 32) : mul (a ^^^ a') b = mul a b ^^^ mul a' b := mulL_xor_left 32 a a' b
theorem mul_xor_right (a b b' : BitVec 32) : mul a (b ^^^ b') = mul a b ^^^ mul a b' := mulL_xor_right 32 a b b'
theorem mul_zero_right (a : BitVec 32) : mul a 0#32 = 0#32 := by
  have := mul_xor_right a 0#32 0#32
  rw [BitVec.xor_self, BitVec.xor_self] at this
  exact this
theorem mul_zero_left (b : BitVec 32) : mul 0#32 b = 0#32 := mulL_zero 32 b
theorem mul_tp (a : BitVec 32) (n : Nat) (b : BitVec 32) : mul a (tp n b) = tp n (mul a b) := by
  induction n with
  | zero => rfl
  | succ n ih =>
    show mulL 32 a (tx (tp n b)) = tx (tp n (mul a b))
    rw [mulL_tx, ← ih]
    rfl
theorem mul_one (a : BitVec 32) : mul a e0 = a :=
  lin_ext (fun a => mul a e0) (fun a => a) (fun a b => mul_xor_left a b e0) (fun _ _ => rfl) (by decide +kernel) a
theorem mul_mulL (a b : BitVec 32) (n : Nat) : ∀ c, mul a (mulL n b c) = mulL n b (mul a c) := by
  induction n generalizing b with
  | zero => intro c; exact mul_zero_right a
  | succ n ih =>
    intro c
    simp only [mulL, mul_xor_right, ih]
    congr 1
    · cases b.getLsbD 31
      · simp [mul_zero_right]
      · simp
    · have : mul a (tx c) = tx (mul a c) := mulL_tx 32 a c
      rw [this]
theorem mul_left_comm (a b c : BitVec 32) : mul a (mul b c) = mul b (mul a c) := mul_mulL a b 32 c
theorem mul_comm (a b : BitVec 32) : mul a b = mul b a := by
  conv => lhs; rw [← mul_one b]
  rw [mul_left_comm, mul_one]
/-- x to n -/
def xp (n : Nat) : BitVec 32 := tp n e0
theorem mul_xp (a : BitVec 32) (n : Nat) : mul a (xp n) = tp n a := by
  unfold xp
  rw [mul_tp, mul_one]
theorem xp_mul (a : BitVec 32) (n : Nat) : mul (xp n) a = tp n a := by rw [mul_comm, mul_xp]
/-- four bits at once -/
def tab (i : Nat) : BitVec 32 := tp 4 (BitVec.ofNat 32 i)
theorem tp4 (a : BitVec 32) : tp 4 a = (a >>> 4) ^^^ tab (a.toNat % 16) := by
  have h1 : tp 4 ((a >>> 4) <<< 4) = a >>> 4 :=
    lin_ext (fun a => tp 4 ((a >>> 4) <<< 4)) (fun a => a >>> 4) (fun a b => by simp only [BitVec.ushiftRight_xor_distrib, BitVec.shiftLeft_xor_distrib, tp_xor])
      (fun a b => by simp only [BitVec.ushiftRight_xor_distrib]) (by decide +kernel) a
  have h2 : a = ((a >>> 4) <<< 4) ^^^ BitVec.ofNat 32 (a.toNat % 16) := by
    apply BitVec.eq_of_getLsbD_eq
    intro i hi
    rw [BitVec.getLsbD_xor, BitVec.getLsbD_shiftLeft, BitVec.getLsbD_ushiftRight, BitVec.getLsbD_ofNat]
    rw [show a.toNat % 16 = a.toNat % 2 ^ 4 by rfl, Nat.testBit_mod_two_pow]
    rcases Nat.lt_or_ge i 4 with h | h
    · simp [h, hi, BitVec.getLsbD]
    · have : ¬ i < 4 := by omega
      simp [this, hi]
      congr 1
      omega
  conv => lhs; rw [h2]
  rw [tp_xor, h1]
  rfl

/-- a byte as a polynomial's eight last bits -/
def by8 (c : UInt8) : BitVec 32 := BitVec.ofNat 32 c.toNat
/-- the division goes on over bytes -/
def reg : BitVec 32 → List UInt8 → BitVec 32
  | r, [] => r
  | r, c :: l => reg (tp 8 (r ^^^ by8 c)) l
theorem reg_append (r : BitVec 32) (l m : List UInt8) : reg r (l ++ m) = reg (reg r l) m := by
  induction l generalizing r with
  | nil => rfl
  | cons c l ih => exact ih _
theorem reg_snoc (r : BitVec 32) (l : List UInt8) (c : UInt8) : reg r (l ++ [c]) = tp 8 (reg r l ^^^ by8 c) := by
  rw [reg_append]; rfl
theorem reg_xor (r s : BitVec 32) (l : List UInt8) : reg (r ^^^ s) l = reg r l ^^^ tp (8 * l.length) s := by
  induction l generalizing r s with
  | nil => rfl
  | cons c l ih =>
    show reg (tp 8 ((r ^^^ s) ^^^ by8 c)) l = reg (tp 8 (r ^^^ by8 c)) l ^^^ _
    have : (r ^^^ s) ^^^ by8 c = (r ^^^ by8 c) ^^^ s := by
      rw [BitVec.xor_assoc, BitVec.xor_comm s, ← BitVec.xor_assoc]
    rw [this, tp_xor, ih, ← tp_add, List.length_cons]
    congr 2
theorem reg_from (r : BitVec 32) (l : List UInt8) : reg r l = reg 0#32 l ^^^ tp (8 * l.length) r := by
  have := reg_xor 0#32 r l
  rwa [BitVec.zero_xor] at this

def ones : BitVec 32 := 0xffffffff#32
/-- the sum, going on -/
def more (s : BitVec 32) (l : List UInt8) : BitVec 32 := ~~~ (reg (~~~ s) l)
/-- the sum -/
def sum (l : List UInt8) : BitVec 32 := more 0#32 l
theorem not_xor (a : BitVec 32) : ~~~ a = a ^^^ ones := by
  apply BitVec.eq_of_getLsbD_eq
  intro i hi
  have : ones.getLsbD i = true := by
    have : ones = BitVec.allOnes 32 := by decide
    rw [this, BitVec.getLsbD_allOnes]
    simp [hi]
  rw [BitVec.getLsbD_xor, this, BitVec.getLsbD_not]
  simp [hi]
theorem more_append (s : BitVec 32) (l m : List UInt8) : more s (l ++ m) = more (more s l) m := by
  unfold more
  rw [reg_append, BitVec.not_not]
theorem sum_append (l m : List UInt8) : sum (l ++ m) = more (sum l) m := more_append _ _ _
/-- three rows, xored -/
theorem by8_xor (a b : UInt8) : by8 (a ^^^ b) = by8 a ^^^ by8 b := by
  unfold by8
  apply BitVec.eq_of_toNat_eq
  have ha := a.toNat_lt
  have hb := b.toNat_lt
  have h := Nat.xor_lt_two_pow (x := a.toNat) (y := b.toNat) (n := 8) ha hb
  simp only [UInt8.toNat_xor, BitVec.toNat_xor, BitVec.toNat_ofNat]
  rw [Nat.mod_eq_of_lt (by omega), Nat.mod_eq_of_lt (by omega), Nat.mod_eq_of_lt (by omega)]
end Go.Proofs.YtaicibmaogiibaaGreatDoor.Cx

/- CxRun -/

/-
  Layer 2: runs (a row and its sum behind it), as plain functions; turned bits.
-/
set_option linter.unusedVariables false
set_option linter.unusedSimpArgs false
namespace Go.Proofs.YtaicibmaogiibaaGreatDoor.Cx

/-- a digit to the base 256 -/
def dg (n j : Nat) : UInt8 := UInt8.ofNat (n / 2 ^ (8 * j) % 256)
theorem dg_toNat (n j : Nat) : (dg n j).toNat = n / 2 ^ (8 * j) % 256 := by
  unfold dg
  rw [UInt8.toNat_ofNat_of_lt' (by simp only [UInt8.size]; exact Nat.mod_lt _ (by omega))]
/-- the first j digits, the lowest one first -/
def leL (n j : Nat) : List UInt8 := (List.range j).map (dg n)
theorem leL_succ (n j : Nat) : leL n (j + 1) = leL n j ++ [dg n j] := by simp [leL, List.range_succ]
theorem leL_length (n j : Nat) : (leL n j).length = j := by simp [leL]
/-- a run -/
def cover (l : List UInt8) : List UInt8 := l ++ leL (sum l).toNat 4
theorem cover_length (l : List UInt8) : (cover l).length = l.length + 4 := by simp [cover, leL_length]
/-- the number in the first j bytes, the lowest one first -/
def rdN (l : List UInt8) : Nat → Nat
  | 0 => 0
  | j + 1 => rdN l j + (l.getD j 0).toNat * 2 ^ (8 * j)
theorem rdN_lt (l : List UInt8) (j : Nat) : rdN l j < 2 ^ (8 * j) := by
  induction j with
  | zero => simp [rdN]
  | succ j ih =>
    have h := UInt8.toNat_lt (l.getD j 0)
    have e : 2 ^ (8 * (j + 1)) = 256 * 2 ^ (8 * j) := by rw [Nat.mul_add, Nat.pow_add, Nat.mul_comm]
    simp only [rdN]
    rw [e]
    have h2 : (l.getD j 0).toNat * 2 ^ (8 * j) ≤ 255 * 2 ^ (8 * j) := Nat.mul_le_mul_right _ (by omega)
    omega
/-- whether a run is right -/
def right (l : List UInt8) : Bool := decide (4 ≤ l.length) && (rdN (l.drop (l.length - 4)) 4 == (sum (l.take (l.length - 4))).toNat)

theorem rdN_leL (n : Nat) (h : n < 2 ^ 32) : rdN (leL n 4) 4 = n := by
  have e : leL n 4 = [dg n 0, dg n 1, dg n 2, dg n 3] := rfl
  rw [e]
  simp only [rdN, List.getD_cons_zero, List.getD_cons_succ, dg_toNat]
  omega
theorem right_cover (l : List UInt8) : right (cover l) = true := by
  unfold right
  rw [cover_length, Nat.add_sub_cancel]
  unfold cover
  rw [List.drop_left, List.take_left, rdN_leL _ (sum l).isLt]
  simp
/-- one byte is turned -/
theorem reg_set (l : List UInt8) : ∀ (r : BitVec 32) (p : Nat) (c d : UInt8), l[p]? = some c → reg r (l.set p (c ^^^ d)) = reg r l ^^^ tp (8 * (l.length - p)) (by8 d) := by
  induction l with
  | nil => intro r p c d h; simp at h
  | cons x l ih =>
    intro r p c d h
    rcases p with _ | p
    · simp at h
      subst h
      show reg (tp 8 (r ^^^ by8 (x ^^^ d))) l = reg (tp 8 (r ^^^ by8 x)) l ^^^ tp (8 * (l.length + 1 - 0)) (by8 d)
      rw [by8_xor, ← BitVec.xor_assoc, tp_xor, reg_xor, ← tp_add]
      congr 2
    · simp at h
      show reg (tp 8 (r ^^^ by8 x)) (l.set p (c ^^^ d)) = reg (tp 8 (r ^^^ by8 x)) l ^^^ _
      rw [ih _ p c d h]
      congr 2
      simp
theorem tp_two (k : Nat) (h : k < 32) : tp k (BitVec.twoPow 32 k) = 1#32 := by
  have : ∀ k : Fin 32, tp k.val (BitVec.twoPow 32 k) = 1#32 := by decide +kernel
  exact this ⟨k, h⟩
theorem by8_two (q : Nat) (h : q < 8) : by8 (UInt8.ofNat (2 ^ q)) = BitVec.twoPow 32 q := by
  have : ∀ q : Fin 8, by8 (UInt8.ofNat (2 ^ q.val)) = BitVec.twoPow 32 q := by decide +kernel
  exact this ⟨q, h⟩
/-- one bit is turned: where it stands in the row of bits is all that counts -/
theorem turn_bit (l : List UInt8) (p q first k : Nat) (hp : p < l.length) (hq : q < 8) (hk : k < 32) (h : first + k = 8 * p + q) :
    tp (8 * (l.length - p)) (by8 (UInt8.ofNat (2 ^ q))) = tp (8 * l.length - first) (BitVec.twoPow 32 k) := by
  rw [by8_two q hq, show 8 * (l.length - p) = (8 * l.length - first - k) + q by omega, tp_add, tp_two q (by omega), show 8 * l.length - first = (8 * l.length - first - k) + k by omega, tp_add, tp_two k hk]
  congr 1
  omega
/-- the first k bits of what is turned -/
def low (b : BitVec 32) (k : Nat) : BitVec 32 := BitVec.ofNat 32 (b.toNat % 2 ^ k)
theorem low_succ (b : BitVec 32) (k : Nat) (h : k < 32) : low b (k + 1) = low b k ^^^ (if b.getLsbD k then BitVec.twoPow 32 k else 0#32) := by
  apply BitVec.eq_of_getLsbD_eq
  intro i hi
  unfold low
  rw [BitVec.getLsbD_xor, BitVec.getLsbD_ofNat, BitVec.getLsbD_ofNat, Nat.testBit_mod_two_pow, Nat.testBit_mod_two_pow]
  rcases hb : b.getLsbD k with _ | _
  · simp only [Bool.false_eq_true, if_false, BitVec.getLsbD_zero, Bool.xor_false]
    rcases Nat.lt_trichotomy i k with h1 | h1 | h1
    · simp [h1, show i < k + 1 by omega]
    · subst h1
      rw [BitVec.getLsbD] at hb
      simp [hb]
    · simp [show ¬ i < k by omega, show ¬ i < k + 1 by omega]
  · simp only [if_true, BitVec.getLsbD_twoPow]
    rcases Nat.lt_trichotomy i k with h1 | h1 | h1
    · simp [h1, show i < k + 1 by omega, show ¬ k = i by omega]
    · subst h1
      rw [BitVec.getLsbD] at hb
      simp [hb, hi]
    · simp [show ¬ i < k by omega, show ¬ i < k + 1 by omega, show ¬ k = i by omega]
theorem low_zero (b : BitVec 32) : low b 0 = 0#32 := by unfold low; rw [Nat.pow_zero, Nat.mod_one]
/-- the row is turned, bit by bit, beginning at 'first' -/
def turned (r0 : List UInt8) (b : BitVec 32) (first k : Nat) (l : List UInt8) : Prop :=
  l.length = r0.length ∧ reg ones l = reg ones r0 ^^^ tp (8 * r0.length - first) (low b k)
theorem turned_zero (r0 : List UInt8) (b : BitVec 32) (first : Nat) : turned r0 b first 0 r0 := ⟨rfl, by rw [low_zero, tp_zero, BitVec.xor_zero]⟩
theorem turned_same {r0 l : List UInt8} {b : BitVec 32} {first k : Nat} (h : turned r0 b first k l) (hk : k < 32) (hb : b.getLsbD k = false) : turned r0 b first (k + 1) l :=
  ⟨h.1, by rw [low_succ b k hk, hb]; simp [h.2]⟩
theorem turned_bit {r0 l : List UInt8} {b : BitVec 32} {first k p q : Nat} {c : UInt8} (h : turned r0 b first k l) (hk : k < 32) (hb : b.getLsbD k = true) (hp : l[p]? = some c) (hq : q < 8) (hf : first + k = 8 * p + q) :
    turned r0 b first (k + 1) (l.set p (c ^^^ UInt8.ofNat (2 ^ q))) := by
  have hlt : p < l.length := (List.getElem?_eq_some_iff.1 hp).1
  refine ⟨by rw [List.length_set, h.1], ?_⟩
  rw [reg_set l ones p c _ hp, h.2, low_succ b k hk, hb, tp_xor, turn_bit l p q first k hlt hq hk hf, h.1, BitVec.xor_assoc]
  rfl
end Go.Proofs.YtaicibmaogiibaaGreatDoor.Cx

/- HdPlain -/

/-
  Layer 10, plain mathematics: heads of files as bytes, what bytes begin with, turned bits.
-/
set_option linter.unusedVariables false
set_option linter.unusedSimpArgs false
namespace Go.Proofs.YtaicibmaogiibaaGreatDoor.Hd
open Go.RowKit

/-- the seven letters -/
def letters : List UInt8 := [104, 111, 117, 114, 98, 107, 49]
theorem letters_length : letters.length = 7 := rfl
/-- what is covered -/
def bodyL (k n : Nat) : List UInt8 := letters ++ (Px.leL k 1 ++ Px.leL n 4)
theorem bodyL_length (k n : Nat) : (bodyL k n).length = 12 := by simp [bodyL, letters_length, Px.leL_length]
/-- a file's head -/
def headL (k n : Nat) : List UInt8 := Cx.cover (bodyL k n)
theorem headL_length (k n : Nat) : (headL k n).length = 16 := by rw [headL, Cx.cover_length, bodyL_length]
/-- whether there is a head of that kind and id -/
def mayB (k n : Int) : Bool := decide ((k = 1 ∧ 1 ≤ n ∧ n ≤ 16777215) ∨ (k = 2 ∧ n = 0))
def kindN (l : List UInt8) : Nat := Px.rdN (l.drop 7) 1
def idN (l : List UInt8) : Nat := Px.rdN (l.drop 8) 4
/-- what bytes begin with: kind, id, error -/
def getQ (l : List UInt8) : Nat × Nat × Nat :=
  if l.length < 16 then (0, 0, 22)
  else if mayB (kindN l) (idN l) = true ∧ l.take 16 = headL (kindN l) (idN l) then (kindN l, idN l, 0) else (0, 0, 23)
/-- whether they begin with that kind and id: the error -/
def checkN (l : List UInt8) (k n : Int) : Nat :=
  if (getQ l).2.2 = 0 then (if ((getQ l).1 : Int) = k ∧ ((getQ l).2.1 : Int) = n then 0 else 23) else (getQ l).2.2

theorem may_lt {k n : Int} (h : mayB k n = true) : 1 ≤ k ∧ k ≤ 2 ∧ 0 ≤ n ∧ n ≤ 16777215 := by
  simp [mayB] at h
  omega
theorem kind_head {k n : Nat} (h : mayB k n = true) (m : List UInt8) : kindN (headL k n ++ m) = k := by
  have := may_lt h
  unfold kindN headL Cx.cover bodyL
  simp only [List.append_assoc]
  rw [List.drop_left' letters_length, Px.rdN_fix _ _ _ (Nat.div_eq_of_lt (by simp; omega))]
theorem id_head {k n : Nat} (h : mayB k n = true) (m : List UInt8) : idN (headL k n ++ m) = n := by
  have := may_lt h
  unfold idN headL Cx.cover bodyL
  simp only [List.append_assoc]
  rw [show 8 = 7 + 1 by rfl, ← List.drop_drop, List.drop_left' letters_length, List.drop_left' (Px.leL_length _ _), Px.rdN_fix _ _ _ (Nat.div_eq_of_lt (by simp; omega))]
/-- a head, whatever stands behind -/
theorem get_head {k n : Nat} (h : mayB k n = true) (m : List UInt8) : getQ (headL k n ++ m) = (k, n, 0) := by
  unfold getQ
  rw [kind_head h, id_head h, if_neg (by rw [List.length_append, headL_length]; omega), if_pos ⟨h, List.take_left' (headL_length k n)⟩]
/-- a beginning of bytes -/
theorem get_short {l : List UInt8} (h : l.length < 16) : getQ l = (0, 0, 22) := by
  unfold getQ
  rw [if_pos h]
theorem check_head {k n : Nat} (h : mayB k n = true) (m : List UInt8) (k' n' : Int) : checkN (headL k n ++ m) k' n' = if (k : Int) = k' ∧ (n : Int) = n' then 0 else 23 := by
  unfold checkN
  rw [get_head h m]
  simp
end Go.Proofs.YtaicibmaogiibaaGreatDoor.Hd

/- PxPure -/

/-
  Layer 1: the walks of the functions that only compute with numbers.
-/
set_option linter.unusedVariables false
set_option linter.unusedSimpArgs false
namespace Go.Proofs.YtaicibmaogiibaaGreatDoor
open Go.RowKit

theorem digit_any (n i : Int) (w : World) (_h0 : 0 ≤ n) (_h1 : n < 18446744073709551616) (hi : 0 ≤ i) (hj : i ≤ 8) :
    Calls Tryz.prog 156 #[.int .u64 n, .int .i64 i] w fun e w' => e = .returned (.int .u8 (n / 2 ^ (8 * i).toNat % 256)) ∧ w = w' := by
  go_enter Tryz.func156, Tryz.ntmps156
  go_wp2
  go_ret
  exact ⟨rfl, rfl⟩

theorem ret_int {k : IntKind} {a b : Int} (h : a = b) : Ending.returned (.int k a) = .returned (.int k b) := by rw [h]

end Go.Proofs.YtaicibmaogiibaaGreatDoor

/- PxMem -/

/-
  Layer 1: the walks of the functions that read and make bytes.
-/
set_option linter.unusedVariables false
set_option linter.unusedSimpArgs false
namespace Go.Proofs.YtaicibmaogiibaaGreatDoor
open Go.RowKit

theorem byte_info : (Tryz.prog.info? 5).map (fun i => (i.zero, i.size, i.bytes)) = some (some (.int .u8 0), 1, 1) := by kernel_rfl

theorem room_any (A : Option Addr) (l : List UInt8) (c : Nat) (m : Int) (w : World) (h : Rd w w.heap.size A (bvs l)) (hm0 : 0 ≤ m) (hm : l.length + m.toNat ≤ 140737488355328) :
    Calls Tryz.prog 155 #[.slice A l.length c, .int .i64 m] w fun e w' => ∃ v, e = .returned v ∧ w'.ownsRow w.heap.size 5 1 v l.length (bvs l) ∧ Below w.heap.size w w' := by
  obtain ⟨i0, hi0, hz0, hz1, hz2⟩ := info_parts byte_info
  go_enter Tryz.func155, Tryz.ntmps155
  go_wp2_with (first
    | (at_make
       refine wpList_make_own _ rfl _ _ 47 rfl w.heap.size 5 i0 (.int .u8 0) 1 Tryz.underlying47 hi0 hz0 hz1 .i64 .i64 _ (l.length + m.toNat) rfl rfl (by omega) (by rw [hz2]; omega) (by unfold maxLen; omega) (Nat.le_refl _) ?_
       intro w0 hown0 hgrow0)
    | (at_builtin
       refine wpList_append_rd _ rfl _ _ 47 rfl w.heap.size 5 i0 (.int .u8 0) 1 1 Tryz.underlying47 hi0 hz0 hz1 hz2 rfl (by omega) (Value.slice (some { block := w.heap.size, off := 0 }) 0 (l.length + m.toNat)) 0 [] rfl hown0 w.heap.size A l.length c (bvs l) rfl (by simp [bvs]) (h.grown hgrow0 (Nat.le_refl _) (by simp)) (bvs_one l) (by unfold maxLen; omega) (by omega) hgrow0.size ?_
       intro v1 w1 hown1 hbw1 _ _))
  go_ret
  exact ⟨v1, rfl, by simpa using hown1, ((Below.refl _ _).grown hgrow0 (Nat.le_refl _) (by simp)).trans hbw1⟩

end Go.Proofs.YtaicibmaogiibaaGreatDoor

/- PxFix -/

/-
  Layer 1: the walks of Fixed, Read and Narrow.
-/
set_option linter.unusedVariables false
set_option linter.unusedSimpArgs false
namespace Go.Proofs.YtaicibmaogiibaaGreatDoor
open Go.RowKit

theorem fixed_ok (A : Option Addr) (l : List UInt8) (c : Nat) (n b : Int) (w : World) (h : Rd w w.heap.size A (bvs l)) (h0 : 0 ≤ n) (h1 : n < 18446744073709551616) (hb : 1 ≤ b) (hb2 : b ≤ 8) (hf : n / 2 ^ (8 * b).toNat = 0) (hm : l.length + 8 ≤ 140737488355328) :
    Calls Tryz.prog 120 #[.slice A l.length c, .int .u64 n, .int .i64 b] w fun e w' => ∃ v, e = .returned (.tuple #[v, .int .i64 0]) ∧ w'.ownsRow w.heap.size 5 1 v (l.length + b.toNat) (bvs (l ++ Px.leL n.toNat b.toNat)) ∧ Below w.heap.size w w' := by
  obtain ⟨i0, hi0, hz0, hz1, hz2⟩ := info_parts byte_info
  obtain ⟨k, rfl⟩ := Int.eq_ofNat_of_zero_le (by omega : 0 ≤ b)
  rw [Int.toNat_natCast]
  have d1 : decide ((k : Int) < 1) = false := by simp; omega
  have d2 : decide ((8 : Int) < (k : Int)) = false := by simp; omega
  have d3 : (n / 2 ^ (8 * (k : Int)).toNat != 0) = false := by simp [hf]
  go_enter Tryz.func120, Tryz.ntmps120
  go_wp2_with fail
  refine (room_any A l c _ _ h (by omega) (by omega)).mono ?_
  rintro e w1 ⟨v, rfl, hown, hbl⟩
  go_wp2_with fail
  go_loopw [8, 25] (fun o i wr => ∃ j : Nat, j ≤ k ∧ i = .int .i64 j ∧ wr.ownsRow w.heap.size 5 1 o (l.length + j) (bvs (l ++ Px.leL n.toNat j)) ∧ Below w.heap.size w wr) (fun _ i _ => k - (intOf i).toNat)
  case atStart => exact ⟨0, by omega, rfl, by simpa [Px.leL] using hown, hbl⟩
  case round =>
    obtain ⟨j, hj, rfl, hown1, hb1⟩ := hrel
    by_cases hlt : j < k
    · have hd : n / 2 ^ (8 * (j : Int)).toNat % 256 = ((Px.dg n.toNat j).toNat : Int) := Px.dg_val n h0 _ _ (by omega)
      have Hd := Lib.hid hd
      clear hd
      go_wp2_with fail
      refine (digit_any _ _ _ h0 h1 (by omega) (by omega)).mono ?_
      rintro e w2 ⟨rfl, rfl⟩
      rw [Hd.out]
      go_wp2_with (at_builtin; (refine wpList_append_1 _ rfl _ _ 47 rfl w.heap.size 5 i0 (.int .u8 0) 1 Tryz.underlying47 hi0 hz0 hz1 hz2 rfl u8 (l.length + j) (bvs (l ++ Px.leL n.toNat j)) rfl (hown1.alloc _) _ 1 (.int .u8 ((Px.dg n.toNat j).toNat : Int)) rfl (cell_new1 _ _ _) rfl (by unfold maxLen; omega) (by omega) (by have := hb1.size; simp; omega) ?_); intro v2 w2 hown2 hbw2 _ _)
      go_roundw
      case rel => exact ⟨j + 1, by omega, by go_num, by rw [Px.leL_succ, ← List.append_assoc, bvs_append]; exact hown2, (hb1.alloc hb1.size _).trans hbw2⟩
      case measure => simp [intOf]; omega
    · obtain rfl : j = k := by omega
      go_wp2_with fail
      go_ret2
      exact ⟨_, rfl, hown1, hb1⟩

theorem read_ok (A : Option Addr) (l : List UInt8) (c B : Nat) (b : Int) (w : World) (h : Rd w B A (bvs l)) (hb : 1 ≤ b) (hb2 : b ≤ 8) (hl : b.toNat ≤ l.length) (hm : l.length ≤ 9223372036854775807) :
    Calls Tryz.prog 134 #[.slice A l.length c, .int .i64 b] w fun e w' => e = .returned (.tuple #[.int .u64 (Px.rdN l b.toNat : Nat), .int .i64 0]) ∧ w = w' := by
  obtain ⟨k, rfl⟩ := Int.eq_ofNat_of_zero_le (by omega : 0 ≤ b)
  rw [Int.toNat_natCast] at hl ⊢
  obtain ⟨bb, o, rfl, hbb, hc⟩ := h (by intro e; have := congrArg List.length e; simp [bvs] at this; subst this; simp at hl; omega)
  have hcx : ∀ j, j < l.length → w.cell? ⟨bb, o + j, none⟩ = some (.int .u8 ((l.getD j 0).toNat : Int)) := fun j hj => by
    refine hc j _ ?_
    rw [bvs_get _ _ hj]
    simp [bv, List.getD_eq_getElem?_getD, List.getElem?_eq_getElem hj]
  have Hcx := Lib.hid hcx
  clear hc hcx
  have d1 : decide ((k : Int) < 1) = false := by simp; omega
  have d2 : decide ((8 : Int) < (k : Int)) = false := by simp; omega
  have d3 : decide (l.length < k) = false := by simp; omega
  go_enter Tryz.func134, Tryz.ntmps134
  go_wp2_with fail
  go_loop [6, 19] (fun a i => ∃ j : Nat, j ≤ k ∧ i = .int .i64 j ∧ a = .int .u64 (Px.rdN l j : Nat)) (fun _ i => k - (intOf i).toNat)
  case atStart => exact ⟨0, by omega, rfl, rfl⟩
  case round =>
    obtain ⟨j, hj, rfl, rfl⟩ := hrel
    by_cases hlt : j < k
    · have hcj := Hcx.out j (by omega)
      have hy := UInt8.toNat_lt (l.getD j 0)
      have hnx : Px.rdN l (j + 1) = Px.rdN l j + (l.getD j 0).toNat * 2 ^ (8 * j) := rfl
      have hor := Px.or_rd l j (by omega)
      have Hnx := Lib.hid hnx
      have Hor := Lib.hid hor
      clear hnx hor
      generalize l.getD j 0 = y at *
      go_wp2
      go_round
      case rel => exact ⟨j + 1, by omega, by go_num, by rw [Hor.out, Hnx.out]⟩
      case measure => simp [intOf]; omega
    · obtain rfl : j = k := by omega
      go_wp2
      go_ret2
      exact ⟨rfl, rfl⟩
end Go.Proofs.YtaicibmaogiibaaGreatDoor

/- PxCon -/

/-
  Layer 1: the contracts over slices that are values, and of 'wakes'.
-/
set_option linter.unusedVariables false
set_option linter.unusedSimpArgs false
namespace Go.Proofs.YtaicibmaogiibaaGreatDoor
open Go.RowKit

theorem fixed_b (v : Value) (l : List UInt8) (n b : Int) (w : World) (h : Bs w w.heap.size v l) (h0 : 0 ≤ n) (h1 : n < 18446744073709551616) (hb : 1 ≤ b) (hb2 : b ≤ 8) (hf : n / 2 ^ (8 * b).toNat = 0) (hm : l.length + 8 ≤ 140737488355328) :
    Calls Tryz.prog 120 #[v, .int .u64 n, .int .i64 b] w fun e w' => ∃ r, e = .returned (.tuple #[r, .int .i64 0]) ∧ w'.ownsRow w.heap.size 5 1 r (l.length + b.toNat) (bvs (l ++ Px.leL n.toNat b.toNat)) ∧ Below w.heap.size w w' := by
  obtain ⟨A, c, rfl, _, hr⟩ := h
  exact fixed_ok A l c n b w hr h0 h1 hb hb2 hf hm

theorem read_b (v : Value) (l : List UInt8) (B : Nat) (b : Int) (w : World) (h : Bs w B v l) (hb : 1 ≤ b) (hb2 : b ≤ 8) (hl : b.toNat ≤ l.length) (hm : l.length ≤ 9223372036854775807) :
    Calls Tryz.prog 134 #[v, .int .i64 b] w fun e w' => e = .returned (.tuple #[.int .u64 (Px.rdN l b.toNat : Nat), .int .i64 0]) ∧ w = w' := by
  obtain ⟨A, c, rfl, _, hr⟩ := h
  exact read_ok A l c B b w hr hb hb2 hl hm

end Go.Proofs.YtaicibmaogiibaaGreatDoor

/- CxPure -/

/-
  Layer 2: the walks of the functions that only compute with numbers.
-/
set_option linter.unusedVariables false
set_option linter.unusedSimpArgs false
namespace Go.Proofs.YtaicibmaogiibaaGreatDoor.Crc
open Go.RowKit

theorem ret_int {k : IntKind} {a b : Int} (h : a = b) : Ending.returned (.int k a) = .returned (.int k b) := by rw [h]

/-- numbers of 32 bits, as the walk spells what is done with them -/
theorem b_xor (x y : BitVec 32) : bits .xor .u32 (x.toNat : Int) (y.toNat : Int) = ((x ^^^ y).toNat : Int) := by
  rw [u32_xor_nat _ _ x.isLt y.isLt, BitVec.toNat_xor]
theorem b_shr4 (x : BitVec 32) : (x.toNat : Int) / (16 : Int) = ((x >>> 4).toNat : Int) := by
  rw [BitVec.toNat_ushiftRight, Nat.shiftRight_eq_div_pow]; simp
end Go.Proofs.YtaicibmaogiibaaGreatDoor.Crc

/- CxMem -/

/-
  Layer 2: the walks of the functions that read and make rows: More, Sum, squares, product, Power, Join.
-/
set_option linter.unusedVariables false
set_option linter.unusedSimpArgs false
namespace Go.Proofs.YtaicibmaogiibaaGreatDoor.Crc
open Go.RowKit

theorem byte_info : (Tryz.prog.info? 5).map (fun i => (i.zero, i.size, i.bytes)) = some (some (.int .u8 0), 1, 1) := by kernel_rfl
/-- the table of a half byte's steps lies where it was laid -/
def Tab (w : World) : Prop := ∀ i, i < 16 → w.cell? ⟨4, i, none⟩ = some (.int .u32 ((Cx.tab i).toNat : Int))
theorem Tab.below {w w' : World} {B : Nat} (h : Tab w) (hb : Below B w w') (hB : 4 < B) : Tab w' := fun i hi =>
  (hb.cell (p := ⟨4, i, none⟩) hB).trans (h i hi)
theorem Tab.lt {w : World} (h : Tab w) : 4 < w.heap.size := block_lt_of_cell (h 0 (by omega))
theorem Tab.on {w w' : World} (h : Tab w) (hb : Below w.heap.size w w') : Tab w' := h.below hb h.lt

theorem b_and15 (x : BitVec 32) : bits .and .u32 (x.toNat : Int) 15 = ((x.toNat % 16 : Nat) : Int) := by
  rw [show (15 : Int) = ((15 : Nat) : Int) by rfl, u32_and_nat _ _ x.isLt (by omega), nat_mask4]
theorem b_by8 (c : UInt8) : (c.toNat : Int) = ((Cx.by8 c).toNat : Int) := by
  have := c.toNat_lt
  unfold Cx.by8
  rw [BitVec.toNat_ofNat, Nat.mod_eq_of_lt (by omega)]

/-- a half byte's step, as the walk meets it -/
theorem half_step (w : World) (ht : Tab w) (x : BitVec 32) : ∃ (k : Nat) (y t z : BitVec 32), k < 16 ∧ bits .and .u32 (x.toNat : Int) 15 = (k : Int) ∧ (x.toNat : Int) / 16 = (y.toNat : Int) ∧
    w.cell? ⟨4, k, none⟩ = some (.int .u32 (t.toNat : Int)) ∧ bits .xor .u32 (y.toNat : Int) (t.toNat : Int) = (z.toNat : Int) ∧ z = Cx.tp 4 x :=
  ⟨x.toNat % 16, x >>> 4, Cx.tab (x.toNat % 16), _, Nat.mod_lt _ (by omega), b_and15 x, b_shr4 x, ht _ (Nat.mod_lt _ (by omega)), b_xor _ _, (Cx.tp4 x).symm⟩
theorem b_not' (x : BitVec 32) : bits .xor .u32 IntKind.u32.max (x.toNat : Int) = ((~~~ x).toNat : Int) := by
  rw [show IntKind.u32.max = (Cx.ones.toNat : Int) by rfl, b_xor, Cx.not_xor, BitVec.xor_comm]
theorem not_letter (x : BitVec 32) : ∃ y : BitVec 32, bits .xor .u32 IntKind.u32.max (x.toNat : Int) = (y.toNat : Int) ∧ y = ~~~ x := ⟨_, b_not' x, rfl⟩

theorem more_any (A : Option Addr) (l : List UInt8) (c B : Nat) (s : BitVec 32) (w : World) (h : Rd w B A (bvs l)) (ht : Tab w) (hm : l.length ≤ 9223372036854775807) :
    Calls Tryz.prog 167 #[.int .u32 s.toNat, .slice A l.length c] w fun e w' => e = .returned (.int .u32 (Cx.more s l).toNat) ∧ w = w' := by
  have Hh := Lib.hid h
  have Ht := Lib.hid ht
  clear h ht
  have h0 := s.isLt
  obtain ⟨ns, hns, hns'⟩ := not_letter s
  have Hns := Lib.hid hns'
  clear hns'
  have hsg : IntKind.u32.signed = false := rfl
  go_enter Tryz.func167, Tryz.ntmps167
  go_wp2_with fail
  clear hns
  go_loopg [5, 12] l.length (fun k r i wr => w = wr ∧ ∃ (j : Nat), j + k = l.length ∧ i = .int .i64 j ∧ r = .int .u32 (Cx.reg ns (l.take j)).toNat)
  case atStart => exact ⟨rfl, 0, by omega, rfl, rfl⟩
  case round =>
    obtain ⟨rfl, j, hj, rfl, rfl⟩ := hrel
    by_cases hlt : j < l.length
    · obtain ⟨bb, o, rfl, hbb, hc⟩ := Hh.out (by intro e; have := congrArg List.length e; simp [bvs] at this; subst this; simp at hlt)
      have hcell := hc j _ (bvs_get l j hlt)
      unfold bv at hcell
      have hy := UInt8.toNat_lt l[j]
      generalize hr : Cx.reg ns (l.take j) = r
      have Hr := Lib.hid hr
      clear hr hc
      have h1 := b_xor r (Cx.by8 l[j])
      rw [← b_by8] at h1
      generalize hx1 : r ^^^ Cx.by8 l[j] = x1 at h1
      obtain ⟨k1, y1, t1, x2, a1, a2, a3, a4, a5, a6⟩ := half_step w Ht.out x1
      obtain ⟨k2, y2, t2, x3, b1, b2, b3, b4, b5, b6⟩ := half_step w Ht.out x2
      have Hx1 := Lib.hid hx1
      have A6 := Lib.hid a6
      have B6 := Lib.hid b6
      clear hx1 a6 b6
      go_wp2_with fail
      go_roundg (gk - 1)
      case measure => omega
      case rel =>
        refine ⟨rfl, j + 1, by omega, by go_num, ?_⟩
        rw [List.take_succ_eq_append_getElem hlt, Cx.reg_snoc, Hr.out, Hx1.out, B6.out, A6.out, ← Cx.tp_add]
    · obtain rfl : j = l.length := by omega
      rw [List.take_length]
      obtain ⟨nr, hnr, hnr'⟩ := not_letter (Cx.reg ns l)
      have Hnr := Lib.hid hnr'
      clear hnr'
      go_wp2_with fail
      go_ret
      refine ⟨ret_int ?_, rfl⟩
      rw [Hnr.out, Hns.out]
      rfl

theorem sum_any (A : Option Addr) (l : List UInt8) (c B : Nat) (w : World) (h : Rd w B A (bvs l)) (ht : Tab w) (hm : l.length ≤ 9223372036854775807) :
    Calls Tryz.prog 133 #[.slice A l.length c] w fun e w' => e = .returned (.int .u32 (Cx.sum l).toNat) ∧ w = w' := by
  have hc := more_any A l c B 0#32 w h ht hm
  go_enter Tryz.func133, Tryz.ntmps133
  go_wp2_with fail
  refine hc.mono ?_
  rintro e w' ⟨rfl, rfl⟩
  go_wp2_with fail
  go_ret
  exact ⟨rfl, rfl⟩

end Go.Proofs.YtaicibmaogiibaaGreatDoor.Crc

/- CxCov -/

/-
  Layer 2: the walks of Cover and Right, and of the chapter's rows ('knows').
-/
set_option linter.unusedVariables false
set_option linter.unusedSimpArgs false
namespace Go.Proofs.YtaicibmaogiibaaGreatDoor.Crc
open Go.RowKit

theorem dg_val (s : BitVec 32) (j : Nat) : ∃ d : UInt8, (s.toNat : Int) / 2 ^ (8 * j) % 256 = (d.toNat : Int) ∧ d = Cx.dg s.toNat j :=
  ⟨_, by rw [Cx.dg_toNat]; simp, rfl⟩

set_option maxRecDepth 100000 in
theorem cover_any (A : Option Addr) (l : List UInt8) (c : Nat) (w : World) (h : Rd w w.heap.size A (bvs l)) (ht : Tab w) (hm : l.length + 4 ≤ 140737488355328) :
    Calls Tryz.prog 92 #[.slice A l.length c] w fun e w' => ∃ v, e = .returned v ∧ w'.ownsRow w.heap.size 5 1 v (l.length + 4) (bvs (Cx.cover l)) ∧ Below w.heap.size w w' := by
  obtain ⟨i0, hi0, hz0, hz1, hz2⟩ := info_parts byte_info
  have Hh := Lib.hid h
  have Ht := Lib.hid ht
  clear h ht
  go_enter Tryz.func92, Tryz.ntmps92
  go_wp2_with (first
    | (at_make
       refine wpList_make_own _ rfl _ _ 47 rfl w.heap.size 5 i0 (.int .u8 0) 1 Tryz.underlying47 hi0 hz0 hz1 .i64 .i64 _ (l.length + 4) rfl rfl (by omega) (by rw [hz2]; omega) (by unfold maxLen; omega) (Nat.le_refl _) ?_
       intro w0 hown0 hgrow0)
    | (at_builtin
       refine wpList_append_rd _ rfl _ _ 47 rfl w.heap.size 5 i0 (.int .u8 0) 1 1 Tryz.underlying47 hi0 hz0 hz1 hz2 rfl (by omega) (Value.slice (some { block := w.heap.size, off := 0 }) 0 (l.length + 4)) 0 [] rfl hown0 w.heap.size A l.length c (bvs l) rfl (by simp [bvs]) (Hh.out.grown hgrow0 (Nat.le_refl _) (by simp)) (bvs_one l) (by unfold maxLen; omega) (by omega) hgrow0.size ?_
       intro v1 w1 hown1 hbw1 _ _))
  have hb0 : Below w.heap.size w w1 := ((Below.refl _ _).grown hgrow0 (Nat.le_refl _) (by simp)).trans hbw1
  rw [Nat.zero_add, List.nil_append] at hown1
  refine (sum_any A l c w.heap.size w1 (Hh.out.below hb0 (Nat.le_refl _)) (Ht.out.on hb0) (by omega)).mono ?_
  rintro e w2 ⟨rfl, rfl⟩
  generalize hs : Cx.sum l = s
  have Hs := Lib.hid hs
  clear hs hbw1 hgrow0 hown0
  go_wp2_with fail
  go_loopg [3, 15] 4 (fun k o i wr => ∃ j : Nat, j + k = 4 ∧ i = .int .i64 j ∧ wr.ownsRow w.heap.size 5 1 o (l.length + j) (bvs (l ++ Cx.leL s.toNat j)) ∧ Below w.heap.size w wr)
  case atStart => exact ⟨0, by omega, rfl, by simpa [Cx.leL] using hown1, hb0⟩
  case round =>
    obtain ⟨j, hj, rfl, hown2, hb2⟩ := hrel
    by_cases hlt : j < 4
    · obtain ⟨d, hd, hd'⟩ := dg_val s j
      have Hd := Lib.hid hd'
      clear hd'
      go_wp2_with (at_builtin; (refine wpList_append_1 _ rfl _ _ 47 rfl w.heap.size 5 i0 (.int .u8 0) 1 Tryz.underlying47 hi0 hz0 hz1 hz2 rfl u3 (l.length + j) (bvs (l ++ Cx.leL s.toNat j)) rfl (hown2.alloc _) _ 1 (.int .u8 (d.toNat : Int)) rfl (by first | exact cell_new1 _ _ _ | (rw [hd]; exact cell_new1 _ _ _)) rfl (by unfold maxLen; omega) (by omega) (by have := hb2.size; simp; omega) ?_); intro v2 w2 hown3 hbw2 _ _)
      go_roundg (gk - 1)
      case measure => omega
      case rel => exact ⟨j + 1, by omega, by go_num, by rw [Cx.leL_succ, ← List.append_assoc, bvs_append, ← Hd.out]; exact hown3, (hb2.alloc hb2.size _).trans hbw2⟩
    · obtain rfl : j = 4 := by omega
      go_wp2_with fail
      go_ret
      refine ⟨_, rfl, ?_, hb2⟩
      rw [Cx.cover, Hs.out]
      exact hown2

theorem ret_bool {a b : Bool} (h : a = b) : Ending.returned (.bool a) = .returned (.bool b) := by rw [h]
theorem int_beq (a b : Nat) : ((a : Int) == (b : Int)) = (a == b) := by
  rw [Bool.eq_iff_iff]
  simp
  omega
theorem or_rd (t : List UInt8) (j : Nat) (hj : j < 4) : ∃ z : Nat, bits .or .u32 (Cx.rdN t j : Int) (((t.getD j 0).toNat : Int) * 2 ^ (8 * j) % 4294967296) = (z : Int) ∧ z = Cx.rdN t (j + 1) := by
  have h1 := Cx.rdN_lt t j
  have h2 := Cx.rdN_lt t (j + 1)
  have h4 : 2 ^ (8 * (j + 1)) ≤ 2 ^ 32 := Nat.pow_le_pow_right (by omega) (by omega)
  simp only [Cx.rdN] at h2
  have e : ((t.getD j 0).toNat : Int) * 2 ^ (8 * j) % 4294967296 = (((t.getD j 0).toNat * 2 ^ (8 * j) : Nat) : Int) := by
    rw [show (((t.getD j 0).toNat : Int) * 2 ^ (8 * j)) = (((t.getD j 0).toNat * 2 ^ (8 * j) : Nat) : Int) by simp]
    omega
  refine ⟨_, ?_, rfl⟩
  rw [e, u32_or_nat _ _ (by omega) (by omega), Nat.or_comm, nat_join (8 * j) _ _ (Nat.mul_mod_left _ _) h1, Nat.add_comm]
  rfl

theorem right_short (A : Option Addr) (n c : Nat) (w : World) (h : n < 4) :
    Calls Tryz.prog 86 #[.slice A n c] w fun e w' => e = .returned (.bool false) ∧ w = w' := by
  go_enter Tryz.func86, Tryz.ntmps86
  go_wp2_with fail
  go_ret
  exact ⟨rfl, rfl⟩
theorem right_long (A : Option Addr) (l : List UInt8) (c B : Nat) (w : World) (h : Rd w B A (bvs l)) (hc : l.length ≤ c) (ht : Tab w) (hm : l.length ≤ 9223372036854775807) (h4 : 4 ≤ l.length) :
    Calls Tryz.prog 86 #[.slice A l.length c] w fun e w' => e = .returned (.bool (Cx.right l)) ∧ w = w' := by
  obtain ⟨n, hn⟩ : ∃ n, l.length = n + 4 := ⟨l.length - 4, by omega⟩
  obtain ⟨b, o, rfl, hbB, hcell⟩ := h (by intro e; have := congrArg List.length e; simp [bvs] at this; subst this; simp at h4)
  have Hcell := Lib.hid hcell
  have Ht := Lib.hid ht
  clear hcell ht
  have hsum := sum_any (some ⟨b, o, none⟩) (l.take n) c B w (fun hx => ⟨b, o, rfl, hbB, fun j u hu => Hcell.out j u (by
    rw [bvs_take] at hu
    rw [List.getElem?_take] at hu
    split at hu
    · exact hu
    · cases hu)⟩) Ht.out (by rw [List.length_take]; omega)
  rw [List.length_take, show min n l.length = n by omega] at hsum
  have Hsum := Lib.hid hsum
  clear hsum
  have Hn := Lib.hid hn
  rw [hn] at hc hm ⊢
  clear hn h4 h
  have hnc : ¬ (c = n) := by omega
  go_enter Tryz.func86, Tryz.ntmps86
  go_wp2_with fail
  have Ht4 := Lib.hid (show (l.drop n).length = 4 by rw [List.length_drop, Hn.out]; omega)
  have Hct := Lib.hid (show ∀ j, j < 4 → w.cell? ⟨b, o + n + j, none⟩ = some (.int .u8 (((l.drop n).getD j 0).toNat : Int)) from fun j hj => by
    have hlt : n + j < l.length := by rw [Hn.out]; omega
    have := Hcell.out (n + j) _ (bvs_get l (n + j) hlt)
    rw [Nat.add_assoc, this]
    unfold bv
    have e : (l.drop n).getD j 0 = l[n + j] := by rw [List.getD_eq_getElem?_getD, List.getElem?_drop, List.getElem?_eq_getElem hlt]; rfl
    rw [e])
  have Hright := Lib.hid (show Cx.right l = (Cx.rdN (l.drop n) 4 == (Cx.sum (l.take n)).toNat) by
    unfold Cx.right
    rw [show l.length - 4 = n by rw [Hn.out]; omega]
    have : decide (4 ≤ l.length) = true := by simp; rw [Hn.out]; omega
    rw [this, Bool.true_and])
  generalize l.drop n = t at Ht4 Hct Hright
  generalize Cx.sum (l.take n) = s at Hsum Hright
  clear Hcell
  go_loopg [4, 17] 4 (fun k a i wr => w = wr ∧ ∃ j : Nat, j + k = 4 ∧ i = .int .i64 j ∧ a = .int .u32 (Cx.rdN t j : Nat))
  case atStart => exact ⟨rfl, 0, by omega, rfl, rfl⟩
  case round =>
    obtain ⟨rfl, j, hj, rfl, rfl⟩ := hrel
    by_cases hlt : j < 4
    · have hcj := Hct.out j hlt
      have hy := UInt8.toNat_lt (t.getD j 0)
      obtain ⟨z, hz, hz'⟩ := or_rd t j hlt
      have Hz := Lib.hid hz'
      clear hz'
      generalize t.getD j 0 = y at *
      go_wp2_with fail
      go_roundg (gk - 1)
      case measure => omega
      case rel => exact ⟨rfl, j + 1, by omega, by go_num, by rw [Hz.out]⟩
    · obtain rfl : j = 4 := by omega
      go_wp2_with fail
      refine Hsum.out.mono ?_
      rintro e w1 ⟨rfl, rfl⟩
      go_wp2_with fail
      go_ret
      exact ⟨ret_bool (by rw [Hright.out]; exact int_beq _ _), rfl⟩
theorem cover_b (v : Value) (l : List UInt8) (w : World) (h : Bs w w.heap.size v l) (ht : Tab w) (hm : l.length + 4 ≤ 140737488355328) :
    Calls Tryz.prog 92 #[v] w fun e w' => ∃ v, e = .returned v ∧ w'.ownsRow w.heap.size 5 1 v (l.length + 4) (bvs (Cx.cover l)) ∧ Below w.heap.size w w' := by
  obtain ⟨A, c, rfl, _, hr⟩ := h
  exact cover_any A l c w hr ht hm
theorem right_b (v : Value) (l : List UInt8) (B : Nat) (w : World) (h : Bs w B v l) (ht : Tab w) (hm : l.length ≤ 9223372036854775807) :
    Calls Tryz.prog 86 #[v] w fun e w' => e = .returned (.bool (Cx.right l)) ∧ w = w' := by
  obtain ⟨A, c, rfl, hc, hr⟩ := h
  rcases Nat.lt_or_ge l.length 4 with h4 | h4
  · have : Cx.right l = false := by
      unfold Cx.right
      have : decide (4 ≤ l.length) = false := by simp; omega
      rw [this, Bool.false_and]
    rw [this]
    exact right_short A l.length c w h4
  · exact right_long A l c B w hr hc ht hm h4
end Go.Proofs.YtaicibmaogiibaaGreatDoor.Crc

