/-
  SegNames, part 2 of what the law's proof leans on: PxPlain, PxForm, CxPlain, CxRun, HdPlain, PxPure, PxMem, PxFix, PxCon, CxPure, CxMem, CxCov, HdMem, LxPlain, RcPlain, LxPure, KyMem, RcMem, RcHead, RcPut, RcRow, RcFill.
-/
import Derived.Below
import Derived.Laws.BitsAllLaws
import Derived.Test.YtfabodpefbdbjaaGreatDoorSegNamesQ1
import Derived.Lib.Bytealg
import Derived.Test.YtfabodpefbdbjaaGreatDoorProg
import Derived.WalkKit
import Derived.WalkLawsBesides
import Derived.WalkSpells
import Derived.Outline
import Derived.Lib.Hide
import Derived.Deep.QuietTactic
import Derived.BigQuiet
import Derived.StillTailTactics
import Derived.Deep.DeepFit
import Derived.Deep.RegionHeld3
import Derived.Deep.RegionWith
import Derived.Deep.LoopGhost
import Derived.OwnWalk
import Derived.Deep.MidRow
import Derived.Lib.SlBytesConst
import Derived.DeepKeys
import Derived.Lib.BytesEntry
import Derived.Laws.StructEq
import Derived.IntWalk
import Derived.BigRegion
import Derived.RegionTactic
import Derived.Deep.OwnRows
import Derived.Laws.CopyOwn
import Derived.Laws.CopyRow
import Derived.Deep.RegionLaw
/- PxPlain -/

/-
  Layer 1 (numbers in bytes), as plain functions of natural numbers, without any program.
-/
set_option linter.unusedVariables false
set_option linter.unusedSimpArgs false
namespace Go.Proofs.YtfabodpefbdbjaaGreatDoor.Px

/-- how many bytes the shortest form has -/
def sizeN (n : Nat) : Nat :=
  if n < 128 then 1 else if n < 16384 then 2 else if n < 2097152 then 3 else if n < 268435456 then 4 else if n < 34359738368 then 5
  else if n < 4398046511104 then 6 else if n < 562949953421312 then 7 else if n < 72057594037927936 then 8 else 9

/-- how many bytes a form has that begins with x -/
def toldN (x : Nat) : Nat :=
  if x < 128 then 1 else if x < 192 then 2 else if x < 224 then 3 else if x < 240 then 4 else if x < 248 then 5 else if x < 252 then 6
  else if x < 254 then 7 else if x < 255 then 8 else 9

/-- after k shifts to the left: the k highest bits of n were ones; y is what is left -/
def ToldAt (n k y : Nat) : Prop := k ≤ 8 ∧ y = n * 2 ^ k % 256 ∧ 256 - 256 / 2 ^ k ≤ n
theorem ToldAt.lt {n k y : Nat} (h : ToldAt n k y) (hn : n < 256) (hy : 128 ≤ y) : k < 8 := by
  obtain ⟨h1, h2, h3⟩ := h
  have : k = 0 ∨ k = 1 ∨ k = 2 ∨ k = 3 ∨ k = 4 ∨ k = 5 ∨ k = 6 ∨ k = 7 ∨ k = 8 := by omega
  rcases this with rfl | rfl | rfl | rfl | rfl | rfl | rfl | rfl | rfl <;> omega
theorem ToldAt.next {n k y : Nat} (h : ToldAt n k y) (hn : n < 256) (hy : 128 ≤ y) : ToldAt n (k + 1) (y * 2 % 256) := by
  have hk := h.lt hn hy
  obtain ⟨h1, h2, h3⟩ := h
  have : k = 0 ∨ k = 1 ∨ k = 2 ∨ k = 3 ∨ k = 4 ∨ k = 5 ∨ k = 6 ∨ k = 7 := by omega
  unfold ToldAt
  rcases this with rfl | rfl | rfl | rfl | rfl | rfl | rfl | rfl <;> omega
theorem ToldAt.done {n k y : Nat} (h : ToldAt n k y) (hn : n < 256) (hy : y < 128) : toldN n = k + 1 := by
  obtain ⟨h1, h2, h3⟩ := h
  have : k = 0 ∨ k = 1 ∨ k = 2 ∨ k = 3 ∨ k = 4 ∨ k = 5 ∨ k = 6 ∨ k = 7 ∨ k = 8 := by omega
  unfold toldN
  rcases this with rfl | rfl | rfl | rfl | rfl | rfl | rfl | rfl | rfl <;> (repeat' split) <;> omega

/-- a digit to the base 256 -/
def dg (n j : Nat) : UInt8 := UInt8.ofNat (n / 2 ^ (8 * j) % 256)
theorem dg_val (n : Int) (h0 : 0 ≤ n) (j : Nat) (i : Int) (hi : i = j) : n / 2 ^ (8 * i).toNat % 256 = ((dg n.toNat j).toNat : Int) := by
  subst hi
  obtain ⟨n, rfl⟩ := Int.eq_ofNat_of_zero_le h0
  unfold dg
  rw [Int.toNat_natCast, UInt8.toNat_ofNat_of_lt' (by simp only [UInt8.size]; exact Nat.mod_lt _ (by omega))]
  rw [show (8 * (j : Int)).toNat = 8 * j by omega]
  simp
/-- the k lowest digits, the lowest one first -/
def leL (n k : Nat) : List UInt8 := (List.range k).map fun t => dg n t
theorem leL_succ (n k : Nat) : leL n (k + 1) = leL n k ++ [dg n k] := by simp [leL, List.range_succ]
theorem leL_length (n k : Nat) : (leL n k).length = k := by simp [leL]

/-- the number that the first k bytes are -/
def rdN (l : List UInt8) : Nat → Nat
  | 0 => 0
  | k + 1 => rdN l k + (l.getD k 0).toNat * 2 ^ (8 * k)
end Go.Proofs.YtfabodpefbdbjaaGreatDoor.Px

/- PxForm -/

/-
  Layer 1: what forms are like: their first byte, their digits, their order; what Get tells of them. Plain mathematics.
-/
set_option linter.unusedVariables false
set_option linter.unusedSimpArgs false
namespace Go.Proofs.YtfabodpefbdbjaaGreatDoor.Px

theorem dg_toNat (n j : Nat) : (dg n j).toNat = n / 2 ^ (8 * j) % 256 := by
  unfold dg
  exact UInt8.toNat_ofNat_of_lt' (by simp only [UInt8.size]; exact Nat.mod_lt _ (by omega))

/-! fixed numbers -/
end Go.Proofs.YtfabodpefbdbjaaGreatDoor.Px

/- CxPlain -/

/-
  Layer 2 (sums of bytes), as plain functions of 32 bits, without any program: polynomials by x, products, powers, sums.
-/
set_option linter.unusedVariables false
set_option linter.unusedSimpArgs false
namespace Go.Proofs.YtfabodpefbdbjaaGreatDoor.Cx

/-- what x to 32 leaves -/
def md : BitVec 32 := 0x82f63b78#32
/-- x to 0 -/
def e0 : BitVec 32 := 0x80000000#32
/-- a polynomial by x -/
def tx (a : BitVec 32) : BitVec 32 := (a >>> 1) ^^^ (if a.getLsbD 0 then md else 0#32)

theorem x4 (a b c d : BitVec 32) : (a ^^^ b) ^^^ (c ^^^ d) = (a ^^^ c) ^^^ (b ^^^ d) := by
  rw [BitVec.xor_assoc, BitVec.xor_assoc, ← BitVec.xor_assoc b c d, BitVec.xor_comm b c, BitVec.xor_assoc c b d]

theorem tx_xor (a b : BitVec 32) : tx (a ^^^ b) = tx a ^^^ tx b := by
  unfold tx
  rw [BitVec.getLsbD_xor, BitVec.ushiftRight_xor_distrib, x4]
  congr 1
  cases a.getLsbD 0 <;> cases b.getLsbD 0 <;> simp
theorem tx_zero : tx 0#32 = 0#32 := by decide

/-- by x, n times -/
def tp : Nat → BitVec 32 → BitVec 32
  | 0, a => a
  | n + 1, a => tx (tp n a)
theorem tp_xor (n : Nat) (a b : BitVec 32) : tp n (a ^^^ b) = tp n a ^^^ tp n b := by
  induction n with
  | zero => rfl
  | succ n ih => simp only [tp, ih, tx_xor]
theorem tp_zero (n : Nat) : tp n 0#32 = 0#32 := by
  induction n with
  | zero => rfl
  | succ n ih => simp only [tp, ih, tx_zero]
theorem tp_add (m n : Nat) (a : BitVec 32) : tp (m + n) a = tp m (tp n a) := by
  induction m with
  | zero => rw [Nat.zero_add]; rfl
  | succ m ih => rw [Nat.succ_add]; simp only [tp, ih]
/-- linear functions that agree at single bits agree -/
theorem lin_ext (f g : BitVec 32 → BitVec 32) (hf : ∀ a b, f (a ^^^ b) = f a ^^^ f b) (hg : ∀ a b, g (a ^^^ b) = g a ^^^ g b)
    (h : ∀ i : Fin 32, f (BitVec.twoPow 32 i) = g (BitVec.twoPow 32 i)) (a : BitVec 32) : f a = g a := by
  have key : ∀ n, n ≤ 32 → ∀ a : BitVec 32, (∀ i, n ≤ i → a.getLsbD i = false) → f a = g a := by
    intro n
    induction n with
    | zero =>
      intro _ a ha
      have h0 : a = 0#32 := by
        apply BitVec.eq_of_getLsbD_eq
        intro i _
        rw [ha i (Nat.zero_le _)]
        simp
      have z : ∀ f : BitVec 32 → BitVec 32, (∀ a b, f (a ^^^ b) = f a ^^^ f b) → f 0#32 = 0#32 := by
        intro f hf
        have := hf 0#32 0#32
        rw [BitVec.xor_self, BitVec.xor_self] at this
        exact this
      rw [h0, z f hf, z g hg]
    | succ n ih =>
      intro hn a ha
      rcases hb : a.getLsbD n with _ | _
      · exact ih (by omega) a (fun i hi => by
          rcases Nat.eq_or_lt_of_le hi with rfl | h1
          · exact hb
          · exact ha i h1)
      · have hs : a = (a ^^^ BitVec.twoPow 32 n) ^^^ BitVec.twoPow 32 n := by
          rw [BitVec.xor_assoc, BitVec.xor_self]
          simp
        have hl := ih (by omega) (a ^^^ BitVec.twoPow 32 n) (fun i hi => by
          rw [BitVec.getLsbD_xor, BitVec.getLsbD_twoPow]
          rcases Nat.eq_or_lt_of_le hi with rfl | h1
          · rw [hb]; simp; omega
          · rw [ha i h1]; simp; omega)
        rw [hs, hf, hg, hl, h ⟨n, by omega⟩]
  exact key 32 (Nat.le_refl _) a (fun i hi => BitVec.getLsbD_of_ge _ _ hi)

/-- the product, bit by bit: the highest bit of a is the coefficient of x to 0 -/
def mulL : Nat → BitVec 32 → BitVec 32 → BitVec 32
  | 0, _, _ => 0#32
  | n + 1, a, b => (if a.getLsbD 31 then b else 0#32) ^^^ mulL n (a <<< 1) (tx b)
/-- the product -/
def mul (a b : BitVec 32) : BitVec 32 := mulL 32 a b

theorem if_xor (c d : Bool) (b : BitVec 32) : (if (c ^^ d) then b else 0#32) = (if c then b else 0#32) ^^^ (if d then b else 0#32) := by
  cases c <;> cases d <;> simp
theorem mulL_xor_left (n : Nat) : ∀ a a' b, mulL n (a ^^^ a') b = mulL n a b ^^^ mulL n a' b := by
  induction n with
  | zero => intro a a' b; simp [mulL]
  | succ n ih =>
    intro a a' b
    simp only [mulL, BitVec.getLsbD_xor, BitVec.shiftLeft_xor_distrib, ih, if_xor]
    exact x4 _ _ _ _
theorem mul_xor_left (a a' b : BitVec 32) : mul (a ^^^ a') b = mul a b ^^^ mul a' b := mulL_xor_left 32 a a' b
theorem mul_one (a : BitVec 32) : mul a e0 = a :=
  lin_ext (fun a => mul a e0) (fun a => a) (fun a b => mul_xor_left a b e0) (fun _ _ => rfl) (by decide +kernel) a
/-- four bits at once -/
def tab (i : Nat) : BitVec 32 := tp 4 (BitVec.ofNat 32 i)
theorem tp4 (a : BitVec 32) : tp 4 a = (a >>> 4) ^^^ tab (a.toNat % 16) := by
  have h1 : tp 4 ((a >>> 4) <<< 4) = a >>> 4 :=
    lin_ext (fun a => tp 4 ((a >>> 4) <<< 4)) (fun a => a >>> 4) (fun a b => by simp only [BitVec.ushiftRight_xor_distrib, BitVec.shiftLeft_xor_distrib, tp_xor])
      (fun a b => by simp only [BitVec.ushiftRight_xor_distrib]) (by decide +kernel) a
  have h2 : a = ((a >>> 4) <<< 4) ^^^ BitVec.ofNat 32 (a.toNat % 16) := by
    apply BitVec.eq_of_getLsbD_eq
    intro i hi
    rw [BitVec.getLsbD_xor, BitVec.getLsbD_shiftLeft, BitVec.getLsbD_ushiftRight, BitVec.getLsbD_ofNat]
    rw [show a.toNat % 16 = a.toNat % 2 ^ 4 by rfl, Nat.testBit_mod_two_pow]
    rcases Nat.lt_or_ge i 4 with h | h
    · simp [h, hi, BitVec.getLsbD]
    · have : ¬ i < 4 := by omega
      simp [this, hi]
      congr 1
      omega
  conv => lhs; rw [h2]
  rw [tp_xor, h1]
  rfl

/-- a byte as a polynomial's eight last bits -/
def by8 (c : UInt8) : BitVec 32 := BitVec.ofNat 32 c.toNat
/-- the division goes on over bytes -/
def reg : BitVec 32 → List UInt8 → BitVec 32
  | r, [] => r
  | r, c :: l => reg (tp 8 (r ^^^ by8 c)) l
theorem reg_append (r : BitVec 32) (l m : List UInt8) : reg r (l ++ m) = reg (reg r l) m := by
  induction l generalizing r with
  | nil => rfl
  | cons c l ih => exact ih _
theorem reg_snoc (r : BitVec 32) (l : List UInt8) (c : UInt8) : reg r (l ++ [c]) = tp 8 (reg r l ^^^ by8 c) := by
  rw [reg_append]; rfl
theorem reg_xor (r s : BitVec 32) (l : List UInt8) : reg (r ^^^ s) l = reg r l ^^^ tp (8 * l.length) s := by
  induction l generalizing r s with
  | nil => rfl
  | cons c l ih =>
    show reg (tp 8 ((r ^^^ s) ^^^ by8 c)) l = reg (tp 8 (r ^^^ by8 c)) l ^^^ _
    have : (r ^^^ s) ^^^ by8 c = (r ^^^ by8 c) ^^^ s := by
      rw [BitVec.xor_assoc, BitVec.xor_comm s, ← BitVec.xor_assoc]
    rw [this, tp_xor, ih, ← tp_add, List.length_cons]
    congr 2
def ones : BitVec 32 := 0xffffffff#32
/-- the sum, going on -/
def more (s : BitVec 32) (l : List UInt8) : BitVec 32 := ~~~ (reg (~~~ s) l)
/-- the sum -/
def sum (l : List UInt8) : BitVec 32 := more 0#32 l
theorem not_xor (a : BitVec 32) : ~~~ a = a ^^^ ones := by
  apply BitVec.eq_of_getLsbD_eq
  intro i hi
  have : ones.getLsbD i = true := by
    have : ones = BitVec.allOnes 32 := by decide
    rw [this, BitVec.getLsbD_allOnes]
    simp [hi]
  rw [BitVec.getLsbD_xor, this, BitVec.getLsbD_not]
  simp [hi]
theorem more_append (s : BitVec 32) (l m : List UInt8) : more s (l ++ m) = more (more s l) m := by
  unfold more
  rw [reg_append, BitVec.not_not]
theorem sum_append (l m : List UInt8) : sum (l ++ m) = more (sum l) m := more_append _ _ _
/-- three rows, xored -/
theorem by8_xor (a b : UInt8) : by8 (a ^^^ b) = by8 a ^^^ by8 b := by
  unfold by8
  apply BitVec.eq_of_toNat_eq
  have ha := a.toNat_lt
  have hb := b.toNat_lt
  have h := Nat.xor_lt_two_pow (x := a.toNat) (y := b.toNat) (n := 8) ha hb
  simp only [UInt8.toNat_xor, BitVec.toNat_xor, BitVec.toNat_ofNat]
  rw [Nat.mod_eq_of_lt (by omega), Nat.mod_eq_of_lt (by omega), Nat.mod_eq_of_lt (by omega)]
end Go.Proofs.YtfabodpefbdbjaaGreatDoor.Cx

/- CxRun -/

/-
  Layer 2: runs (a row and its sum behind it), as plain functions; turned bits.
-/
set_option linter.unusedVariables false
set_option linter.unusedSimpArgs false
namespace Go.Proofs.YtfabodpefbdbjaaGreatDoor.Cx

/-- a digit to the base 256 -/
def dg (n j : Nat) : UInt8 := UInt8.ofNat (n / 2 ^ (8 * j) % 256)
theorem dg_toNat (n j : Nat) : (dg n j).toNat = n / 2 ^ (8 * j) % 256 := by
  unfold dg
  rw [UInt8.toNat_ofNat_of_lt' (by simp only [UInt8.size]; exact Nat.mod_lt _ (by omega))]
/-- the first j digits, the lowest one first -/
def leL (n j : Nat) : List UInt8 := (List.range j).map (dg n)
theorem leL_succ (n j : Nat) : leL n (j + 1) = leL n j ++ [dg n j] := by simp [leL, List.range_succ]
theorem leL_length (n j : Nat) : (leL n j).length = j := by simp [leL]
/-- a run -/
def cover (l : List UInt8) : List UInt8 := l ++ leL (sum l).toNat 4
theorem cover_length (l : List UInt8) : (cover l).length = l.length + 4 := by simp [cover, leL_length]
/-- the number in the first j bytes, the lowest one first -/
def rdN (l : List UInt8) : Nat → Nat
  | 0 => 0
  | j + 1 => rdN l j + (l.getD j 0).toNat * 2 ^ (8 * j)
/-- whether a run is right -/
def right (l : List UInt8) : Bool := decide (4 ≤ l.length) && (rdN (l.drop (l.length - 4)) 4 == (sum (l.take (l.length - 4))).toNat)

/-- one byte is turned -/
theorem reg_set (l : List UInt8) : ∀ (r : BitVec 32) (p : Nat) (c d : UInt8), l[p]? = some c → reg r (l.set p (c ^^^ d)) = reg r l ^^^ tp (8 * (l.length - p)) (by8 d) := by
  induction l with
  | nil => intro r p c d h; simp at h
  | cons x l ih =>
    intro r p c d h
    rcases p with _ | p
    · simp at h
      subst h
      show reg (tp 8 (r ^^^ by8 (x ^^^ d))) l = reg (tp 8 (r ^^^ by8 x)) l ^^^ tp (8 * (l.length + 1 - 0)) (by8 d)
      rw [by8_xor, ← BitVec.xor_assoc, tp_xor, reg_xor, ← tp_add]
      congr 2
    · simp at h
      show reg (tp 8 (r ^^^ by8 x)) (l.set p (c ^^^ d)) = reg (tp 8 (r ^^^ by8 x)) l ^^^ _
      rw [ih _ p c d h]
      congr 2
      simp
theorem tp_two (k : Nat) (h : k < 32) : tp k (BitVec.twoPow 32 k) = 1#32 := by
  have : ∀ k : Fin 32, tp k.val (BitVec.twoPow 32 k) = 1#32 := by decide +kernel
  exact this ⟨k, h⟩
theorem by8_two (q : Nat) (h : q < 8) : by8 (UInt8.ofNat (2 ^ q)) = BitVec.twoPow 32 q := by
  have : ∀ q : Fin 8, by8 (UInt8.ofNat (2 ^ q.val)) = BitVec.twoPow 32 q := by decide +kernel
  exact this ⟨q, h⟩
/-- one bit is turned: where it stands in the row of bits is all that counts -/
theorem turn_bit (l : List UInt8) (p q first k : Nat) (hp : p < l.length) (hq : q < 8) (hk : k < 32) (h : first + k = 8 * p + q) :
    tp (8 * (l.length - p)) (by8 (UInt8.ofNat (2 ^ q))) = tp (8 * l.length - first) (BitVec.twoPow 32 k) := by
  rw [by8_two q hq, show 8 * (l.length - p) = (8 * l.length - first - k) + q by omega, tp_add, tp_two q (by omega), show 8 * l.length - first = (8 * l.length - first - k) + k by omega, tp_add, tp_two k hk]
  congr 1
  omega
/-- the first k bits of what is turned -/
def low (b : BitVec 32) (k : Nat) : BitVec 32 := BitVec.ofNat 32 (b.toNat % 2 ^ k)
theorem low_succ (b : BitVec 32) (k : Nat) (h : k < 32) : low b (k + 1) = low b k ^^^ (if b.getLsbD k then BitVec.twoPow 32 k else 0#32) := by
  apply BitVec.eq_of_getLsbD_eq
  intro i hi
  unfold low
  rw [BitVec.getLsbD_xor, BitVec.getLsbD_ofNat, BitVec.getLsbD_ofNat, Nat.testBit_mod_two_pow, Nat.testBit_mod_two_pow]
  rcases hb : b.getLsbD k with _ | _
  · simp only [Bool.false_eq_true, if_false, BitVec.getLsbD_zero, Bool.xor_false]
    rcases Nat.lt_trichotomy i k with h1 | h1 | h1
    · simp [h1, show i < k + 1 by omega]
    · subst h1
      rw [BitVec.getLsbD] at hb
      simp [hb]
    · simp [show ¬ i < k by omega, show ¬ i < k + 1 by omega]
  · simp only [if_true, BitVec.getLsbD_twoPow]
    rcases Nat.lt_trichotomy i k with h1 | h1 | h1
    · simp [h1, show i < k + 1 by omega, show ¬ k = i by omega]
    · subst h1
      rw [BitVec.getLsbD] at hb
      simp [hb, hi]
    · simp [show ¬ i < k by omega, show ¬ i < k + 1 by omega, show ¬ k = i by omega]
theorem low_zero (b : BitVec 32) : low b 0 = 0#32 := by unfold low; rw [Nat.pow_zero, Nat.mod_one]
/-- the row is turned, bit by bit, beginning at 'first' -/
def turned (r0 : List UInt8) (b : BitVec 32) (first k : Nat) (l : List UInt8) : Prop :=
  l.length = r0.length ∧ reg ones l = reg ones r0 ^^^ tp (8 * r0.length - first) (low b k)
theorem turned_zero (r0 : List UInt8) (b : BitVec 32) (first : Nat) : turned r0 b first 0 r0 := ⟨rfl, by rw [low_zero, tp_zero, BitVec.xor_zero]⟩
theorem turned_same {r0 l : List UInt8} {b : BitVec 32} {first k : Nat} (h : turned r0 b first k l) (hk : k < 32) (hb : b.getLsbD k = false) : turned r0 b first (k + 1) l :=
  ⟨h.1, by rw [low_succ b k hk, hb]; simp [h.2]⟩
theorem turned_bit {r0 l : List UInt8} {b : BitVec 32} {first k p q : Nat} {c : UInt8} (h : turned r0 b first k l) (hk : k < 32) (hb : b.getLsbD k = true) (hp : l[p]? = some c) (hq : q < 8) (hf : first + k = 8 * p + q) :
    turned r0 b first (k + 1) (l.set p (c ^^^ UInt8.ofNat (2 ^ q))) := by
  have hlt : p < l.length := (List.getElem?_eq_some_iff.1 hp).1
  refine ⟨by rw [List.length_set, h.1], ?_⟩
  rw [reg_set l ones p c _ hp, h.2, low_succ b k hk, hb, tp_xor, turn_bit l p q first k hlt hq hk hf, h.1, BitVec.xor_assoc]
  rfl
end Go.Proofs.YtfabodpefbdbjaaGreatDoor.Cx

/- HdPlain -/

/-
  Layer 10, plain mathematics: heads of files as bytes, what bytes begin with, turned bits.
-/
set_option linter.unusedVariables false
set_option linter.unusedSimpArgs false
namespace Go.Proofs.YtfabodpefbdbjaaGreatDoor.Hd
open Go.RowKit

/-- the seven letters -/
def letters : List UInt8 := [104, 111, 117, 114, 98, 107, 49]
theorem letters_length : letters.length = 7 := rfl
/-- what is covered -/
def bodyL (k n : Nat) : List UInt8 := letters ++ (Px.leL k 1 ++ Px.leL n 4)
theorem bodyL_length (k n : Nat) : (bodyL k n).length = 12 := by simp [bodyL, letters_length, Px.leL_length]
/-- a file's head -/
def headL (k n : Nat) : List UInt8 := Cx.cover (bodyL k n)
theorem headL_length (k n : Nat) : (headL k n).length = 16 := by rw [headL, Cx.cover_length, bodyL_length]
/-- whether there is a head of that kind and id -/
def mayB (k n : Int) : Bool := decide ((k = 1 ∧ 1 ≤ n ∧ n ≤ 16777215) ∨ (k = 2 ∧ n = 0))
theorem may_lt {k n : Int} (h : mayB k n = true) : 1 ≤ k ∧ k ≤ 2 ∧ 0 ≤ n ∧ n ≤ 16777215 := by
  simp [mayB] at h
  omega
end Go.Proofs.YtfabodpefbdbjaaGreatDoor.Hd

/- PxPure -/

/-
  Layer 1: the walks of the functions that only compute with numbers.
-/
set_option linter.unusedVariables false
set_option linter.unusedSimpArgs false
namespace Go.Proofs.YtfabodpefbdbjaaGreatDoor
open Go.RowKit

theorem digit_any (n i : Int) (w : World) (_h0 : 0 ≤ n) (_h1 : n < 18446744073709551616) (hi : 0 ≤ i) (hj : i ≤ 8) :
    Calls Tryz.prog 165 #[.int .u64 n, .int .i64 i] w fun e w' => e = .returned (.int .u8 (n / 2 ^ (8 * i).toNat % 256)) ∧ w = w' := by
  go_enter Tryz.func165, Tryz.ntmps165
  go_wp2
  go_ret
  exact ⟨rfl, rfl⟩

theorem ret_int {k : IntKind} {a b : Int} (h : a = b) : Ending.returned (.int k a) = .returned (.int k b) := by rw [h]

end Go.Proofs.YtfabodpefbdbjaaGreatDoor

/- PxMem -/

/-
  Layer 1: the walks of the functions that read and make bytes.
-/
set_option linter.unusedVariables false
set_option linter.unusedSimpArgs false
namespace Go.Proofs.YtfabodpefbdbjaaGreatDoor
open Go.RowKit

theorem byte_info : (Tryz.prog.info? 5).map (fun i => (i.zero, i.size, i.bytes)) = some (some (.int .u8 0), 1, 1) := by kernel_rfl

theorem room_any (A : Option Addr) (l : List UInt8) (c : Nat) (m : Int) (w : World) (h : Rd w w.heap.size A (bvs l)) (hm0 : 0 ≤ m) (hm : l.length + m.toNat ≤ 140737488355328) :
    Calls Tryz.prog 164 #[.slice A l.length c, .int .i64 m] w fun e w' => ∃ v, e = .returned v ∧ w'.ownsRow w.heap.size 5 1 v l.length (bvs l) ∧ Below w.heap.size w w' := by
  obtain ⟨i0, hi0, hz0, hz1, hz2⟩ := info_parts byte_info
  go_enter Tryz.func164, Tryz.ntmps164
  go_wp2_with (first
    | (at_make
       refine wpList_make_own _ rfl _ _ 51 rfl w.heap.size 5 i0 (.int .u8 0) 1 Tryz.underlying51 hi0 hz0 hz1 .i64 .i64 _ (l.length + m.toNat) rfl rfl (by omega) (by rw [hz2]; omega) (by unfold maxLen; omega) (Nat.le_refl _) ?_
       intro w0 hown0 hgrow0)
    | (at_builtin
       refine wpList_append_rd _ rfl _ _ 51 rfl w.heap.size 5 i0 (.int .u8 0) 1 1 Tryz.underlying51 hi0 hz0 hz1 hz2 rfl (by omega) (Value.slice (some { block := w.heap.size, off := 0 }) 0 (l.length + m.toNat)) 0 [] rfl hown0 w.heap.size A l.length c (bvs l) rfl (by simp [bvs]) (h.grown hgrow0 (Nat.le_refl _) (by simp)) (bvs_one l) (by unfold maxLen; omega) (by omega) hgrow0.size ?_
       intro v1 w1 hown1 hbw1 _ _))
  go_ret
  exact ⟨v1, rfl, by simpa using hown1, ((Below.refl _ _).grown hgrow0 (Nat.le_refl _) (by simp)).trans hbw1⟩

end Go.Proofs.YtfabodpefbdbjaaGreatDoor

/- PxFix -/

/-
  Layer 1: the walks of Fixed, Read and Narrow.
-/
set_option linter.unusedVariables false
set_option linter.unusedSimpArgs false
namespace Go.Proofs.YtfabodpefbdbjaaGreatDoor
open Go.RowKit

theorem fixed_ok (A : Option Addr) (l : List UInt8) (c : Nat) (n b : Int) (w : World) (h : Rd w w.heap.size A (bvs l)) (h0 : 0 ≤ n) (h1 : n < 18446744073709551616) (hb : 1 ≤ b) (hb2 : b ≤ 8) (hf : n / 2 ^ (8 * b).toNat = 0) (hm : l.length + 8 ≤ 140737488355328) :
    Calls Tryz.prog 126 #[.slice A l.length c, .int .u64 n, .int .i64 b] w fun e w' => ∃ v, e = .returned (.tuple #[v, .int .i64 0]) ∧ w'.ownsRow w.heap.size 5 1 v (l.length + b.toNat) (bvs (l ++ Px.leL n.toNat b.toNat)) ∧ Below w.heap.size w w' := by
  obtain ⟨i0, hi0, hz0, hz1, hz2⟩ := info_parts byte_info
  obtain ⟨k, rfl⟩ := Int.eq_ofNat_of_zero_le (by omega : 0 ≤ b)
  rw [Int.toNat_natCast]
  have d1 : decide ((k : Int) < 1) = false := by simp; omega
  have d2 : decide ((8 : Int) < (k : Int)) = false := by simp; omega
  have d3 : (n / 2 ^ (8 * (k : Int)).toNat != 0) = false := by simp [hf]
  go_enter Tryz.func126, Tryz.ntmps126
  go_wp2_with fail
  refine (room_any A l c _ _ h (by omega) (by omega)).mono ?_
  rintro e w1 ⟨v, rfl, hown, hbl⟩
  go_wp2_with fail
  go_loopw [8, 25] (fun o i wr => ∃ j : Nat, j ≤ k ∧ i = .int .i64 j ∧ wr.ownsRow w.heap.size 5 1 o (l.length + j) (bvs (l ++ Px.leL n.toNat j)) ∧ Below w.heap.size w wr) (fun _ i _ => k - (intOf i).toNat)
  case atStart => exact ⟨0, by omega, rfl, by simpa [Px.leL] using hown, hbl⟩
  case round =>
    obtain ⟨j, hj, rfl, hown1, hb1⟩ := hrel
    by_cases hlt : j < k
    · have hd : n / 2 ^ (8 * (j : Int)).toNat % 256 = ((Px.dg n.toNat j).toNat : Int) := Px.dg_val n h0 _ _ (by omega)
      have Hd := Lib.hid hd
      clear hd
      go_wp2_with fail
      refine (digit_any _ _ _ h0 h1 (by omega) (by omega)).mono ?_
      rintro e w2 ⟨rfl, rfl⟩
      rw [Hd.out]
      go_wp2_with (at_builtin; (refine wpList_append_1 _ rfl _ _ 51 rfl w.heap.size 5 i0 (.int .u8 0) 1 Tryz.underlying51 hi0 hz0 hz1 hz2 rfl u8 (l.length + j) (bvs (l ++ Px.leL n.toNat j)) rfl (hown1.alloc _) _ 1 (.int .u8 ((Px.dg n.toNat j).toNat : Int)) rfl (cell_new1 _ _ _) rfl (by unfold maxLen; omega) (by omega) (by have := hb1.size; simp; omega) ?_); intro v2 w2 hown2 hbw2 _ _)
      go_roundw
      case rel => exact ⟨j + 1, by omega, by go_num, by rw [Px.leL_succ, ← List.append_assoc, bvs_append]; exact hown2, (hb1.alloc hb1.size _).trans hbw2⟩
      case measure => simp [intOf]; omega
    · obtain rfl : j = k := by omega
      go_wp2_with fail
      go_ret2
      exact ⟨_, rfl, hown1, hb1⟩

end Go.Proofs.YtfabodpefbdbjaaGreatDoor

/- PxCon -/

/-
  Layer 1: the contracts over slices that are values, and of 'wakes'.
-/
set_option linter.unusedVariables false
set_option linter.unusedSimpArgs false
namespace Go.Proofs.YtfabodpefbdbjaaGreatDoor
open Go.RowKit

theorem fixed_b (v : Value) (l : List UInt8) (n b : Int) (w : World) (h : Bs w w.heap.size v l) (h0 : 0 ≤ n) (h1 : n < 18446744073709551616) (hb : 1 ≤ b) (hb2 : b ≤ 8) (hf : n / 2 ^ (8 * b).toNat = 0) (hm : l.length + 8 ≤ 140737488355328) :
    Calls Tryz.prog 126 #[v, .int .u64 n, .int .i64 b] w fun e w' => ∃ r, e = .returned (.tuple #[r, .int .i64 0]) ∧ w'.ownsRow w.heap.size 5 1 r (l.length + b.toNat) (bvs (l ++ Px.leL n.toNat b.toNat)) ∧ Below w.heap.size w w' := by
  obtain ⟨A, c, rfl, _, hr⟩ := h
  exact fixed_ok A l c n b w hr h0 h1 hb hb2 hf hm

end Go.Proofs.YtfabodpefbdbjaaGreatDoor

/- CxPure -/

/-
  Layer 2: the walks of the functions that only compute with numbers.
-/
set_option linter.unusedVariables false
set_option linter.unusedSimpArgs false
namespace Go.Proofs.YtfabodpefbdbjaaGreatDoor.Crc
open Go.RowKit

theorem ret_int {k : IntKind} {a b : Int} (h : a = b) : Ending.returned (.int k a) = .returned (.int k b) := by rw [h]

/-- numbers of 32 bits, as the walk spells what is done with them -/
theorem b_xor (x y : BitVec 32) : bits .xor .u32 (x.toNat : Int) (y.toNat : Int) = ((x ^^^ y).toNat : Int) := by
  rw [u32_xor_nat _ _ x.isLt y.isLt, BitVec.toNat_xor]
theorem b_shr4 (x : BitVec 32) : (x.toNat : Int) / (16 : Int) = ((x >>> 4).toNat : Int) := by
  rw [BitVec.toNat_ushiftRight, Nat.shiftRight_eq_div_pow]; simp
end Go.Proofs.YtfabodpefbdbjaaGreatDoor.Crc

/- CxMem -/

/-
  Layer 2: the walks of the functions that read and make rows: More, Sum, squares, product, Power, Join.
-/
set_option linter.unusedVariables false
set_option linter.unusedSimpArgs false
namespace Go.Proofs.YtfabodpefbdbjaaGreatDoor.Crc
open Go.RowKit

theorem byte_info : (Tryz.prog.info? 5).map (fun i => (i.zero, i.size, i.bytes)) = some (some (.int .u8 0), 1, 1) := by kernel_rfl
/-- the table of a half byte's steps lies where it was laid -/
def Tab (w : World) : Prop := ∀ i, i < 16 → w.cell? ⟨5, i, none⟩ = some (.int .u32 ((Cx.tab i).toNat : Int))
theorem Tab.below {w w' : World} {B : Nat} (h : Tab w) (hb : Below B w w') (hB : 5 < B) : Tab w' := fun i hi =>
  (hb.cell (p := ⟨5, i, none⟩) hB).trans (h i hi)
theorem Tab.lt {w : World} (h : Tab w) : 5 < w.heap.size := block_lt_of_cell (h 0 (by omega))
theorem Tab.on {w w' : World} (h : Tab w) (hb : Below w.heap.size w w') : Tab w' := h.below hb h.lt

theorem b_and15 (x : BitVec 32) : bits .and .u32 (x.toNat : Int) 15 = ((x.toNat % 16 : Nat) : Int) := by
  rw [show (15 : Int) = ((15 : Nat) : Int) by rfl, u32_and_nat _ _ x.isLt (by omega), nat_mask4]
theorem b_by8 (c : UInt8) : (c.toNat : Int) = ((Cx.by8 c).toNat : Int) := by
  have := c.toNat_lt
  unfold Cx.by8
  rw [BitVec.toNat_ofNat, Nat.mod_eq_of_lt (by omega)]

/-- a half byte's step, as the walk meets it -/
theorem half_step (w : World) (ht : Tab w) (x : BitVec 32) : ∃ (k : Nat) (y t z : BitVec 32), k < 16 ∧ bits .and .u32 (x.toNat : Int) 15 = (k : Int) ∧ (x.toNat : Int) / 16 = (y.toNat : Int) ∧
    w.cell? ⟨5, k, none⟩ = some (.int .u32 (t.toNat : Int)) ∧ bits .xor .u32 (y.toNat : Int) (t.toNat : Int) = (z.toNat : Int) ∧ z = Cx.tp 4 x :=
  ⟨x.toNat % 16, x >>> 4, Cx.tab (x.toNat % 16), _, Nat.mod_lt _ (by omega), b_and15 x, b_shr4 x, ht _ (Nat.mod_lt _ (by omega)), b_xor _ _, (Cx.tp4 x).symm⟩
theorem b_not' (x : BitVec 32) : bits .xor .u32 IntKind.u32.max (x.toNat : Int) = ((~~~ x).toNat : Int) := by
  rw [show IntKind.u32.max = (Cx.ones.toNat : Int) by rfl, b_xor, Cx.not_xor, BitVec.xor_comm]
theorem not_letter (x : BitVec 32) : ∃ y : BitVec 32, bits .xor .u32 IntKind.u32.max (x.toNat : Int) = (y.toNat : Int) ∧ y = ~~~ x := ⟨_, b_not' x, rfl⟩

theorem more_any (A : Option Addr) (l : List UInt8) (c B : Nat) (s : BitVec 32) (w : World) (h : Rd w B A (bvs l)) (ht : Tab w) (hm : l.length ≤ 9223372036854775807) :
    Calls Tryz.prog 180 #[.int .u32 s.toNat, .slice A l.length c] w fun e w' => e = .returned (.int .u32 (Cx.more s l).toNat) ∧ w = w' := by
  have Hh := Lib.hid h
  have Ht := Lib.hid ht
  clear h ht
  have h0 := s.isLt
  obtain ⟨ns, hns, hns'⟩ := not_letter s
  have Hns := Lib.hid hns'
  clear hns'
  have hsg : IntKind.u32.signed = false := rfl
  go_enter Tryz.func180, Tryz.ntmps180
  go_wp2_with fail
  clear hns
  go_loopg [5, 12] l.length (fun k r i wr => w = wr ∧ ∃ (j : Nat), j + k = l.length ∧ i = .int .i64 j ∧ r = .int .u32 (Cx.reg ns (l.take j)).toNat)
  case atStart => exact ⟨rfl, 0, by omega, rfl, rfl⟩
  case round =>
    obtain ⟨rfl, j, hj, rfl, rfl⟩ := hrel
    by_cases hlt : j < l.length
    · obtain ⟨bb, o, rfl, hbb, hc⟩ := Hh.out (by intro e; have := congrArg List.length e; simp [bvs] at this; subst this; simp at hlt)
      have hcell := hc j _ (bvs_get l j hlt)
      unfold bv at hcell
      have hy := UInt8.toNat_lt l[j]
      generalize hr : Cx.reg ns (l.take j) = r
      have Hr := Lib.hid hr
      clear hr hc
      have h1 := b_xor r (Cx.by8 l[j])
      rw [← b_by8] at h1
      generalize hx1 : r ^^^ Cx.by8 l[j] = x1 at h1
      obtain ⟨k1, y1, t1, x2, a1, a2, a3, a4, a5, a6⟩ := half_step w Ht.out x1
      obtain ⟨k2, y2, t2, x3, b1, b2, b3, b4, b5, b6⟩ := half_step w Ht.out x2
      have Hx1 := Lib.hid hx1
      have A6 := Lib.hid a6
      have B6 := Lib.hid b6
      clear hx1 a6 b6
      go_wp2_with fail
      go_roundg (gk - 1)
      case measure => omega
      case rel =>
        refine ⟨rfl, j + 1, by omega, by go_num, ?_⟩
        rw [List.take_succ_eq_append_getElem hlt, Cx.reg_snoc, Hr.out, Hx1.out, B6.out, A6.out, ← Cx.tp_add]
    · obtain rfl : j = l.length := by omega
      rw [List.take_length]
      obtain ⟨nr, hnr, hnr'⟩ := not_letter (Cx.reg ns l)
      have Hnr := Lib.hid hnr'
      clear hnr'
      go_wp2_with fail
      go_ret
      refine ⟨ret_int ?_, rfl⟩
      rw [Hnr.out, Hns.out]
      rfl

theorem sum_any (A : Option Addr) (l : List UInt8) (c B : Nat) (w : World) (h : Rd w B A (bvs l)) (ht : Tab w) (hm : l.length ≤ 9223372036854775807) :
    Calls Tryz.prog 151 #[.slice A l.length c] w fun e w' => e = .returned (.int .u32 (Cx.sum l).toNat) ∧ w = w' := by
  have hc := more_any A l c B 0#32 w h ht hm
  go_enter Tryz.func151, Tryz.ntmps151
  go_wp2_with fail
  refine hc.mono ?_
  rintro e w' ⟨rfl, rfl⟩
  go_wp2_with fail
  go_ret
  exact ⟨rfl, rfl⟩

end Go.Proofs.YtfabodpefbdbjaaGreatDoor.Crc

/- CxCov -/

/-
  Layer 2: the walks of Cover and Right, and of the chapter's rows ('knows').
-/
set_option linter.unusedVariables false
set_option linter.unusedSimpArgs false
namespace Go.Proofs.YtfabodpefbdbjaaGreatDoor.Crc
open Go.RowKit

theorem dg_val (s : BitVec 32) (j : Nat) : ∃ d : UInt8, (s.toNat : Int) / 2 ^ (8 * j) % 256 = (d.toNat : Int) ∧ d = Cx.dg s.toNat j :=
  ⟨_, by rw [Cx.dg_toNat]; simp, rfl⟩

set_option maxRecDepth 100000 in
theorem cover_any (A : Option Addr) (l : List UInt8) (c : Nat) (w : World) (h : Rd w w.heap.size A (bvs l)) (ht : Tab w) (hm : l.length + 4 ≤ 140737488355328) :
    Calls Tryz.prog 105 #[.slice A l.length c] w fun e w' => ∃ v, e = .returned v ∧ w'.ownsRow w.heap.size 5 1 v (l.length + 4) (bvs (Cx.cover l)) ∧ Below w.heap.size w w' := by
  obtain ⟨i0, hi0, hz0, hz1, hz2⟩ := info_parts byte_info
  have Hh := Lib.hid h
  have Ht := Lib.hid ht
  clear h ht
  go_enter Tryz.func105, Tryz.ntmps105
  go_wp2_with (first
    | (at_make
       refine wpList_make_own _ rfl _ _ 51 rfl w.heap.size 5 i0 (.int .u8 0) 1 Tryz.underlying51 hi0 hz0 hz1 .i64 .i64 _ (l.length + 4) rfl rfl (by omega) (by rw [hz2]; omega) (by unfold maxLen; omega) (Nat.le_refl _) ?_
       intro w0 hown0 hgrow0)
    | (at_builtin
       refine wpList_append_rd _ rfl _ _ 51 rfl w.heap.size 5 i0 (.int .u8 0) 1 1 Tryz.underlying51 hi0 hz0 hz1 hz2 rfl (by omega) (Value.slice (some { block := w.heap.size, off := 0 }) 0 (l.length + 4)) 0 [] rfl hown0 w.heap.size A l.length c (bvs l) rfl (by simp [bvs]) (Hh.out.grown hgrow0 (Nat.le_refl _) (by simp)) (bvs_one l) (by unfold maxLen; omega) (by omega) hgrow0.size ?_
       intro v1 w1 hown1 hbw1 _ _))
  have hb0 : Below w.heap.size w w1 := ((Below.refl _ _).grown hgrow0 (Nat.le_refl _) (by simp)).trans hbw1
  rw [Nat.zero_add, List.nil_append] at hown1
  refine (sum_any A l c w.heap.size w1 (Hh.out.below hb0 (Nat.le_refl _)) (Ht.out.on hb0) (by omega)).mono ?_
  rintro e w2 ⟨rfl, rfl⟩
  generalize hs : Cx.sum l = s
  have Hs := Lib.hid hs
  clear hs hbw1 hgrow0 hown0
  go_wp2_with fail
  go_loopg [3, 15] 4 (fun k o i wr => ∃ j : Nat, j + k = 4 ∧ i = .int .i64 j ∧ wr.ownsRow w.heap.size 5 1 o (l.length + j) (bvs (l ++ Cx.leL s.toNat j)) ∧ Below w.heap.size w wr)
  case atStart => exact ⟨0, by omega, rfl, by simpa [Cx.leL] using hown1, hb0⟩
  case round =>
    obtain ⟨j, hj, rfl, hown2, hb2⟩ := hrel
    by_cases hlt : j < 4
    · obtain ⟨d, hd, hd'⟩ := dg_val s j
      have Hd := Lib.hid hd'
      clear hd'
      go_wp2_with (at_builtin; (refine wpList_append_1 _ rfl _ _ 51 rfl w.heap.size 5 i0 (.int .u8 0) 1 Tryz.underlying51 hi0 hz0 hz1 hz2 rfl u3 (l.length + j) (bvs (l ++ Cx.leL s.toNat j)) rfl (hown2.alloc _) _ 1 (.int .u8 (d.toNat : Int)) rfl (by first | exact cell_new1 _ _ _ | (rw [hd]; exact cell_new1 _ _ _)) rfl (by unfold maxLen; omega) (by omega) (by have := hb2.size; simp; omega) ?_); intro v2 w2 hown3 hbw2 _ _)
      go_roundg (gk - 1)
      case measure => omega
      case rel => exact ⟨j + 1, by omega, by go_num, by rw [Cx.leL_succ, ← List.append_assoc, bvs_append, ← Hd.out]; exact hown3, (hb2.alloc hb2.size _).trans hbw2⟩
    · obtain rfl : j = 4 := by omega
      go_wp2_with fail
      go_ret
      refine ⟨_, rfl, ?_, hb2⟩
      rw [Cx.cover, Hs.out]
      exact hown2

theorem ret_bool {a b : Bool} (h : a = b) : Ending.returned (.bool a) = .returned (.bool b) := by rw [h]
theorem cover_b (v : Value) (l : List UInt8) (w : World) (h : Bs w w.heap.size v l) (ht : Tab w) (hm : l.length + 4 ≤ 140737488355328) :
    Calls Tryz.prog 105 #[v] w fun e w' => ∃ v, e = .returned v ∧ w'.ownsRow w.heap.size 5 1 v (l.length + 4) (bvs (Cx.cover l)) ∧ Below w.heap.size w w' := by
  obtain ⟨A, c, rfl, _, hr⟩ := h
  exact cover_any A l c w hr ht hm
end Go.Proofs.YtfabodpefbdbjaaGreatDoor.Crc

/- HdMem -/

/-
  Layer 10: the walks of the program's heads: may, Put, Get, Check; '!=' of arrays of sixteen bytes.
-/
set_option linter.unusedVariables false
set_option linter.unusedSimpArgs false
namespace Go.Proofs.YtfabodpefbdbjaaGreatDoor.Hd
open Go.RowKit

theorem hbstep {a w w' : World} (h : Below a.heap.size a w) (h' : Below w.heap.size w w') : Below a.heap.size a w' := h.trans (h'.mono h.size)
theorem hbnew (w : World) (o : Obj) : Below w.heap.size w (w.alloc o) := (Below.refl _ _).alloc (Nat.le_refl _) _
theorem hret_bool {a b : Bool} (h : a = b) : Ending.returned (.bool a) = .returned (.bool b) := by rw [h]

/-! '!=' of arrays of sixteen bytes -/
def hl (b : UInt8) : Lit := .int .u8 (b.toNat : Int)
theorem bs_newM (w : World) (l : List UInt8) (e : TypeId) (fr : Nat × Nat) : Bs (w.alloc (.cells (bvs l).toArray e fr)) (w.heap.size + 1) (.slice (some ⟨w.heap.size, 0, none⟩) l.length l.length) l := by
  refine ⟨_, _, rfl, Nat.le_refl _, fun _ => ⟨w.heap.size, 0, rfl, by omega, fun j u hu => ?_⟩⟩
  rw [Nat.zero_add, cell_of_row (w.alloc (.cells (bvs l).toArray e fr)) w.heap.size j _ e fr (heap_alloc_new w _)]
  simpa using hu
theorem may_any (k n : Int) (w : World) (h0 : 0 ≤ n) (h1 : n < 4294967296) : Calls Tryz.prog 125 #[.int .i64 k, .int .u32 n] w fun e w' => e = .returned (.bool (mayB k n)) ∧ w = w' := by
  obtain ⟨r, hr⟩ : ∃ r, mayB k n = r := ⟨_, rfl⟩
  rw [hr]
  have H := Lib.hid hr
  clear hr
  by_cases k1 : k = 1
  · subst k1
    have H := Lib.hid (show r = (decide (1 ≤ n) && decide (n ≤ 16777215)) by rw [← H.out, Bool.eq_iff_iff]; simp [mayB])
    by_cases a : 1 ≤ n
    · go_enter Tryz.func125, Tryz.ntmps125
      go_wp2_with fail
      go_ret
      exact ⟨hret_bool (by rw [H.out, decide_eq_true a]; rfl), rfl⟩
    · have d : decide (1 ≤ n) = false := decide_eq_false a
      go_enter Tryz.func125, Tryz.ntmps125
      go_wp2_with fail
      go_ret
      exact ⟨hret_bool (by rw [H.out, d]; rfl), rfl⟩
  · have e1 : (k == 1) = false := by simp [k1]
    by_cases k2 : k = 2
    · subst k2
      have H := Lib.hid (show r = (n == 0) by rw [← H.out, Bool.eq_iff_iff]; simp [mayB])
      clear e1 k1
      go_enter Tryz.func125, Tryz.ntmps125
      go_wp2_with fail
      go_ret
      exact ⟨hret_bool (by rw [H.out]), rfl⟩
    · have e2 : (k == 2) = false := by simp [k2]
      have H := Lib.hid (show r = false by rw [← H.out]; simp [mayB, k1, k2])
      clear k1 k2
      go_enter Tryz.func125, Tryz.ntmps125
      go_wp2_with fail
      go_ret
      exact ⟨hret_bool (by rw [H.out]), rfl⟩
set_option maxRecDepth 100000 in
set_option maxHeartbeats 4000000 in
theorem put_ok (k n : Nat) (w : World) (h : mayB k n = true) (ht : Crc.Tab w) : Calls Tryz.prog 75 #[.int .i64 k, .int .u32 n] w fun e w' => ∃ v, e = .returned (.tuple #[v, .int .i64 0]) ∧ w'.ownsRow w.heap.size 5 1 v 16 (bvs (headL k n)) ∧ Below w.heap.size w w' := by
  obtain ⟨q1, q2, q3, q4⟩ := may_lt h
  have hm := may_any k n w q3 (by omega)
  rw [h] at hm
  clear h
  have z1 : IntKind.u64.wrap (k : Int) = (k : Int) := IntWalk.u64_in _ (by omega)
  have z2 : IntKind.u64.wrap (n : Int) = (n : Int) := IntWalk.u64_in _ (by omega)
  have kc := fun (w : World) (C : Array Value) (n c : Nat) => Lib.run_convert_bytes_const (P := Tryz.prog) w 51 5 C n c Tryz.underlying51 Tryz.underlying5
  go_enter Tryz.func75, Tryz.ntmps75
  go_wp2_with fail
  refine hm.mono ?_
  rintro e w1 ⟨rfl, rfl⟩
  go_wp2_with fail
  have hb0 := hbnew w (.cells #[.int .u8 104, .int .u8 111, .int .u8 117, .int .u8 114, .int .u8 98, .int .u8 107, .int .u8 49] 5 (7, 8))
  have hl0 : Bs (w.alloc (.cells #[.int .u8 104, .int .u8 111, .int .u8 117, .int .u8 114, .int .u8 98, .int .u8 107, .int .u8 49] 5 (7, 8))) (w.alloc (.cells #[.int .u8 104, .int .u8 111, .int .u8 117, .int .u8 114, .int .u8 98, .int .u8 107, .int .u8 49] 5 (7, 8))).heap.size (.slice (some ⟨w.heap.size, 0, none⟩) 7 7) letters := by
    rw [World.size_alloc]
    exact bs_newM w letters 5 (7, 8)
  refine (fixed_b _ letters k 1 _ hl0 (by omega) (by omega) (by omega) (by omega) (Int.ediv_eq_zero_of_lt (by omega) (by show (k : Int) < 2 ^ 8; omega)) (by simp [letters])).mono ?_
  rintro e w2 ⟨v2, rfl, hown2, hb2⟩
  rw [Int.toNat_natCast] at hown2
  have B2 := Lib.hid (hbstep hb0 hb2)
  have O2 := Lib.hid (Bs.of_own hown2)
  clear hb0 hb2 hown2
  go_wp2_with fail
  refine (fixed_b v2 (letters ++ Px.leL k 1) n 4 _ O2.out (by omega) (by omega) (by omega) (by omega) (Int.ediv_eq_zero_of_lt (by omega) (by show (n : Int) < 2 ^ 32; omega)) (by simp [letters, Px.leL_length])).mono ?_
  rintro e w3 ⟨v3, rfl, hown3, hb3⟩
  rw [Int.toNat_natCast, List.append_assoc] at hown3
  have B3 := Lib.hid (hbstep B2.out hb3)
  have O3 := Lib.hid (Bs.of_own hown3)
  clear hb3 hown3
  go_wp2_with fail
  refine (Crc.cover_b v3 (bodyL k n) _ O3.out (ht.on B3.out) (by rw [bodyL_length]; omega)).mono ?_
  rintro e w4 ⟨v4, rfl, hown4, hb4⟩
  rw [bodyL_length] at hown4
  have O4 := Lib.hid (own_base hown4 B3.out.size)
  have B4 := Lib.hid (hbstep B3.out hb4)
  clear hb4 hown4
  go_wp2_with fail
  go_ret2
  exact ⟨v4, rfl, O4.out, B4.out⟩
end Go.Proofs.YtfabodpefbdbjaaGreatDoor.Hd

/- LxPlain -/

/-
  Layer 3, plain mathematics: which locs may be, how they are packed, compared and written.
-/
set_option linter.unusedVariables false
set_option linter.unusedSimpArgs false
namespace Go.Proofs.YtfabodpefbdbjaaGreatDoor
open Go.RowKit

/-- a loc as a value -/
def lv (s o : Int) : Value := .agg #[.int .u32 s, .int .u32 o]

namespace Lx
def noneB (s o : Int) : Bool := decide (s = 0 ∧ o = 0)
def standsB (s o : Int) : Bool := decide (1 ≤ s ∧ s ≤ 16777215 ∧ 16 ≤ o ∧ o ≤ 16777216)
def mayB (s o : Int) : Bool := noneB s o || standsB s o
end Lx
end Go.Proofs.YtfabodpefbdbjaaGreatDoor

/- RcPlain -/

/-
  Layer 8, plain mathematics: records as runs, what bytes begin with, turned bits.
-/
set_option linter.unusedVariables false
set_option linter.unusedSimpArgs false
namespace Go.Proofs.YtfabodpefbdbjaaGreatDoor.Rc
open Go.RowKit

/-- a version of a key -/
structure Rec where
  seq : Int
  kind : Int
  key : List UInt8
  val : List UInt8
  seg : Int
  off : Int

theorem Rec.ext' {a b : Rec} (h1 : a.seq = b.seq) (h2 : a.kind = b.kind) (h3 : a.key = b.key) (h4 : a.val = b.val) (h5 : a.seg = b.seg) (h6 : a.off = b.off) : a = b := by
  cases a; cases b; simp_all

def none : Rec := ⟨0, 0, [], [], 0, 0⟩
/-- the kind, and the value that it may have -/
def kindB (r : Rec) : Bool := decide (r.kind = 1 ∧ r.val.length ≤ 1024) || decide (r.kind = 2 ∧ r.val.length = 0)
def mayB (r : Rec) : Bool := decide (1 ≤ r.seq ∧ r.seq ≤ 1099511627776) && decide (1 ≤ r.key.length ∧ r.key.length ≤ 64) && Lx.mayB r.seg r.off && kindB r
def sizeN (r : Rec) : Nat := 25 + r.key.length + r.val.length
/-- what a head tells, and in how many bytes -/
def told (r : Rec) : List (Nat × Nat) := [(r.kind.toNat, 1), (r.key.length, 1), (r.val.length, 2), (r.seq.toNat, 6), (r.seg.toNat, 3), (r.off.toNat, 4)]
def rowL (l : List (Nat × Nat)) : List UInt8 := l.flatMap fun p => Px.leL p.1 p.2
theorem rowL_snoc (l : List (Nat × Nat)) (p : Nat × Nat) : rowL (l ++ [p]) = rowL l ++ Px.leL p.1 p.2 := by simp [rowL]
def headL (r : Rec) : List UInt8 := rowL (told r)
theorem headL_eq (r : Rec) : headL r = Px.leL r.kind.toNat 1 ++ (Px.leL r.key.length 1 ++ (Px.leL r.val.length 2 ++ (Px.leL r.seq.toNat 6 ++ (Px.leL r.seg.toNat 3 ++ Px.leL r.off.toNat 4)))) := by
  simp [headL, rowL, told]
theorem headL_length (r : Rec) : (headL r).length = 17 := by
  rw [headL_eq]; simp [Px.leL_length]
/-- its run -/
def runL (r : Rec) : List UInt8 := Cx.cover (Cx.cover (headL r) ++ r.key ++ r.val)
theorem runL_length (r : Rec) : (runL r).length = sizeN r := by
  simp [runL, Cx.cover_length, headL_length, sizeN]; omega

theorem may_bounds {r : Rec} (h : mayB r = true) : 1 ≤ r.seq ∧ r.seq ≤ 1099511627776 ∧ 1 ≤ r.key.length ∧ r.key.length ≤ 64 ∧ 0 ≤ r.seg ∧ r.seg ≤ 16777215 ∧ 0 ≤ r.off ∧ r.off ≤ 16777216 ∧
    1 ≤ r.kind ∧ r.kind ≤ 2 ∧ r.val.length ≤ 1024 := by
  simp only [mayB, kindB, Lx.mayB, Lx.noneB, Lx.standsB, Bool.and_eq_true, Bool.or_eq_true, decide_eq_true_eq] at h
  omega
theorem may_size {r : Rec} (h : mayB r = true) : 26 ≤ sizeN r ∧ sizeN r ≤ 1113 := by
  have := may_bounds h
  unfold sizeN
  omega

theorem cover_head_length (r : Rec) : (Cx.cover (headL r)).length = 21 := by rw [Cx.cover_length, headL_length]

/-- the run is turned, bit by bit, beginning at 'first': the whole, and its head -/
def Turns (R : List UInt8) (b : BitVec 32) (first k : Nat) (l : List UInt8) : Prop :=
  Cx.turned R b first k l ∧ (first < 168 → ∃ k', k' ≤ k ∧ (0 < k → 0 < k') ∧ (first + k ≤ 168 → k' = k) ∧ Cx.turned (R.take 21) b first k' (l.take 21)) ∧ (168 ≤ first → l.take 21 = R.take 21)
theorem Turns.zero (R : List UInt8) (b : BitVec 32) (first : Nat) : Turns R b first 0 R :=
  ⟨Cx.turned_zero R b first, fun _ => ⟨0, by omega, by omega, by omega, Cx.turned_zero _ b first⟩, fun _ => rfl⟩
theorem Turns.same {R l : List UInt8} {b : BitVec 32} {first k : Nat} (h : Turns R b first k l) (hk : k < 32) (hb : b.getLsbD k = false) : Turns R b first (k + 1) l := by
  refine ⟨Cx.turned_same h.1 hk hb, fun hf => ?_, h.2.2⟩
  obtain ⟨k', h1, h2, h3, h4⟩ := h.2.1 hf
  by_cases hc : first + k < 168
  · have e := h3 (by omega)
    subst e
    exact ⟨k' + 1, by omega, by omega, by omega, Cx.turned_same h4 hk hb⟩
  · exact ⟨k', by omega, fun _ => h2 (by omega), by omega, h4⟩
theorem Turns.bit {R l : List UInt8} {b : BitVec 32} {first k p q : Nat} {c : UInt8} (h : Turns R b first k l) (hk : k < 32) (hb : b.getLsbD k = true) (hp : l[p]? = some c) (hq : q < 8) (hf : first + k = 8 * p + q) :
    Turns R b first (k + 1) (l.set p (c ^^^ UInt8.ofNat (2 ^ q))) := by
  have hset : (l.set p (c ^^^ UInt8.ofNat (2 ^ q))).take 21 = if p < 21 then (l.take 21).set p (c ^^^ UInt8.ofNat (2 ^ q)) else l.take 21 := by
    split
    · rw [List.take_set]
    · rw [List.take_set, List.set_eq_of_length_le (by rw [List.length_take]; omega)]
  refine ⟨Cx.turned_bit h.1 hk hb hp hq hf, fun hf1 => ?_, fun hf1 => ?_⟩
  · obtain ⟨k', h1, h2, h3, h4⟩ := h.2.1 hf1
    by_cases hc : first + k < 168
    · have e := h3 (by omega)
      subst e
      rw [hset, if_pos (by omega)]
      exact ⟨k' + 1, by omega, by omega, by omega, Cx.turned_bit h4 hk hb (by rw [List.getElem?_take, if_pos (by omega)]; exact hp) hq hf⟩
    · rw [hset, if_neg (by omega)]
      exact ⟨k', by omega, fun _ => h2 (by omega), by omega, h4⟩
  · rw [hset, if_neg (by omega)]
    exact h.2.2 hf1
end Go.Proofs.YtfabodpefbdbjaaGreatDoor.Rc

/- LxPure -/

/-
  Layer 3: the contracts of the functions over locs alone.
-/
set_option linter.unusedVariables false
set_option linter.unusedSimpArgs false
namespace Go.Proofs.YtfabodpefbdbjaaGreatDoor
open Go.RowKit

/-- '==' of locs -/
theorem run_eql_loc (s o s' o' : Int) (w : World) : (binOp .eql 53 (.agg #[.int .u32 s, .int .u32 o]) (.agg #[.int .u32 s', .int .u32 o'])).run Tryz.prog w = .ok (.bool (decide (s = s' ∧ o = o'))) w := by
  have u := Tryz.underlying22
  have a := Tryz.isAgg22
  have z := Tryz.sizeOf22
  have hS : Tryz.prog.underlying 53 = some (.struct (Tryz.prog.fieldsOf 53)) := by kernel_rfl
  have hp : Tryz.prog.stoodInHeld 53 = false := by kernel_rfl
  rw [run_eql_struct, show (10000 : Nat) = 9999 + 1 from rfl, run_equalIn_agg w 9999 53 _ _ hS hp]
  simp only [Program.fieldsOf, Tryz.underlying53]
  go_simp
  by_cases h1 : s = s' <;> by_cases h2 : o = o' <;> simp [h1, h2]

theorem guard_loc : Tryz.prog.eqGuardType Tryz.prog.depth 53 = false := by kernel_rfl

theorem ret_bool {a b : Bool} (h : a = b) : Ending.returned (.bool a) = .returned (.bool b) := by rw [h]
/-- what a box of two cells holds, a call later -/
theorem box2 {w w1 : World} {x y : Value} {t : TypeId} (hb : Below (w.heap.size + 1) (w.alloc (.cells #[x, y] t)) w1) : w1.cell? ⟨w.heap.size, 0, none⟩ = some x ∧ w1.cell? ⟨w.heap.size, 1, none⟩ = some y := by
  refine ⟨(hb.cell (p := ⟨w.heap.size, 0, none⟩) (by simp)).trans (by simp), (hb.cell (p := ⟨w.heap.size, 1, none⟩) (by simp)).trans (by simp)⟩

theorem none_any (s o : Int) (w : World) :
    Calls Tryz.prog 149 #[lv s o] w fun e w' => e = .returned (.bool (Lx.noneB s o)) ∧ Below w.heap.size w w' := by
  unfold lv
  have he := run_eql_loc
  have hg := guard_loc
  go_enter Tryz.func149, Tryz.ntmps149
  go_wp2
  go_ret
  exact ⟨ret_bool (by unfold Lx.noneB; simp), (Below.refl _ _).alloc (Nat.le_refl _) _⟩

set_option maxRecDepth 100000 in
theorem stands_any (s o : Int) (w : World) (h0 : 0 ≤ s) (h1 : s < 4294967296) (h2 : 0 ≤ o) (h3 : o < 4294967296) :
    Calls Tryz.prog 150 #[lv s o] w fun e w' => e = .returned (.bool (Lx.standsB s o)) ∧ Below w.heap.size w w' := by
  unfold lv
  go_enter Tryz.func150, Tryz.ntmps150
  go_wp2
  all_goals go_ret
  all_goals refine ⟨ret_bool ?_, (Below.refl _ _).alloc (Nat.le_refl _) _⟩
  all_goals (unfold Lx.standsB; rw [Bool.eq_iff_iff]; simp; omega)

theorem bstep {a w w' : World} (h : Below a.heap.size a w) (h' : Below w.heap.size w w') : Below a.heap.size a w' := h.trans (h'.mono h.size)
theorem balloc {a w : World} (h : Below a.heap.size a w) (o : Obj) : Below a.heap.size a (w.alloc o) := h.alloc h.size o
theorem bnew (w : World) (o : Obj) : Below w.heap.size w (w.alloc o) := (Below.refl _ _).alloc (Nat.le_refl _) _

theorem none_b (s o : Int) (w : World) (b : Bool) (h : Lx.noneB s o = b) :
    Calls Tryz.prog 149 #[lv s o] w fun e w' => e = .returned (.bool b) ∧ Below w.heap.size w w' := h ▸ none_any s o w
theorem may_any (s o : Int) (w : World) (h0 : 0 ≤ s) (h1 : s < 4294967296) (h2 : 0 ≤ o) (h3 : o < 4294967296) :
    Calls Tryz.prog 97 #[lv s o] w fun e w' => e = .returned (.bool (Lx.mayB s o)) ∧ Below w.heap.size w w' := by
  cases hn : Lx.noneB s o
  · have hm : Lx.mayB s o = Lx.standsB s o := by simp [Lx.mayB, hn]
    rw [hm]
    have Hn := Lib.hid hn
    clear hn hm
    unfold lv
    go_enter Tryz.func97, Tryz.ntmps97
    go_wp2_with fail
    have b0 := bnew w (.cells #[.int .u32 s, .int .u32 o] 53)
    refine (none_b s o _ false Hn.out).mono ?_
    rintro e w1 ⟨rfl, hb⟩
    have b1 := bstep b0 hb
    simp only [World.size_alloc] at hb
    obtain ⟨c0, c1⟩ := box2 hb
    clear hb b0
    go_wp2_with fail
    refine (stands_any s o _ h0 h1 h2 h3).mono ?_
    rintro e w2 ⟨rfl, hb2⟩
    go_wp2_with fail
    go_ret
    exact ⟨rfl, bstep b1 hb2⟩
  · have hm : Lx.mayB s o = true := by simp [Lx.mayB, hn]
    rw [hm]
    have Hn := Lib.hid hn
    clear hn hm
    unfold lv
    go_enter Tryz.func97, Tryz.ntmps97
    go_wp2_with fail
    have b0 := bnew w (.cells #[.int .u32 s, .int .u32 o] 53)
    refine (none_b s o _ true Hn.out).mono ?_
    rintro e w1 ⟨rfl, hb⟩
    have b1 := bstep b0 hb
    clear hb b0
    go_wp2_with fail
    go_ret
    exact ⟨rfl, b1⟩
theorem may_b (s o : Int) (w : World) (h0 : 0 ≤ s) (h1 : s < 4294967296) (h2 : 0 ≤ o) (h3 : o < 4294967296) (b : Bool) (h : Lx.mayB s o = b) :
    Calls Tryz.prog 97 #[lv s o] w fun e w' => e = .returned (.bool b) ∧ Below w.heap.size w w' := h ▸ may_any s o w h0 h1 h2 h3

end Go.Proofs.YtfabodpefbdbjaaGreatDoor

/- KyMem -/

/-
  Layer 4: the walks of May, MayValue, MayName, word.
-/
set_option linter.unusedVariables false
set_option linter.unusedSimpArgs false
namespace Go.Proofs.YtfabodpefbdbjaaGreatDoor
open Go.RowKit

theorem may_yes (A : Option Addr) (n c : Nat) (w : World) (h0 : 0 < n) (h1 : n ≤ 64) :
    Calls Tryz.prog 96 #[.slice A n c] w fun e w' => e = .returned (.bool true) ∧ w = w' := by
  have d0 : (1 : Int) ≤ n := by omega
  have d1 : (n : Int) ≤ 64 := by omega
  go_enter Tryz.func96, Tryz.ntmps96
  go_wp2
  go_ret
  exact ⟨rfl, rfl⟩
theorem may_no (A : Option Addr) (n c : Nat) (w : World) (h : n = 0 ∨ 64 < n) (hb : n ≤ 9223372036854775807) :
    Calls Tryz.prog 96 #[.slice A n c] w fun e w' => e = .returned (.bool false) ∧ w = w' := by
  rcases h with rfl | h
  · go_enter Tryz.func96, Tryz.ntmps96
    go_wp2
    go_ret
    exact ⟨rfl, rfl⟩
  · have d0 : (1 : Int) ≤ n := by omega
    have d1 : decide ((n : Int) ≤ 64) = false := by simp; omega
    go_enter Tryz.func96, Tryz.ntmps96
    go_wp2
    go_ret
    exact ⟨rfl, rfl⟩
/-- a row as a value that can be handed in -/
theorem may_yes_b (v : Value) (l : List UInt8) (B : Nat) (w : World) (h : Bs w B v l) (h0 : 0 < l.length) (h1 : l.length ≤ 64) :
    Calls Tryz.prog 96 #[v] w fun e w' => e = .returned (.bool true) ∧ w = w' := by
  obtain ⟨A, c, rfl, hc, hr⟩ := h
  exact may_yes _ _ _ _ h0 h1
theorem may_no_b (v : Value) (l : List UInt8) (B : Nat) (w : World) (h : Bs w B v l) (h0 : l.length = 0 ∨ 64 < l.length) (h1 : l.length ≤ 9223372036854775807) :
    Calls Tryz.prog 96 #[v] w fun e w' => e = .returned (.bool false) ∧ w = w' := by
  obtain ⟨A, c, rfl, hc, hr⟩ := h
  exact may_no _ _ _ _ h0 h1
theorem mayValue_any (A : Option Addr) (n c : Nat) (w : World) (b : Bool) (hd : decide ((n : Int) ≤ 1024) = b) (hb : n ≤ 9223372036854775807) :
    Calls Tryz.prog 95 #[.slice A n c] w fun e w' => e = .returned (.bool b) ∧ w = w' := by
  have Hd := Lib.hid hd
  clear hd
  go_enter Tryz.func95, Tryz.ntmps95
  go_wp2
  go_ret
  exact ⟨by rw [← Hd.out]; rfl, rfl⟩
end Go.Proofs.YtfabodpefbdbjaaGreatDoor

/- RcMem -/

/-
  Layer 8: records as values; the walks of May, Size, Same.
-/
set_option linter.unusedVariables false
set_option linter.unusedSimpArgs false
namespace Go.Proofs.YtfabodpefbdbjaaGreatDoor
open Go.RowKit

/-- a record as a value -/
def recV (seq kind : Int) (kv vv : Value) (seg off : Int) : Value := .agg #[.int .u64 seq, .int .i64 kind, kv, vv, .int .u32 seg, .int .u32 off]
/-- numbers that their types have -/
structure Rc.Fit (r : Rc.Rec) : Prop where
  seq0 : 0 ≤ r.seq
  seq1 : r.seq < 18446744073709551616
  kind0 : -9223372036854775808 ≤ r.kind
  kind1 : r.kind < 9223372036854775808
  seg0 : 0 ≤ r.seg
  seg1 : r.seg < 4294967296
  off0 : 0 ≤ r.off
  off1 : r.off < 4294967296
  key1 : r.key.length ≤ 9223372036854775807
  val1 : r.val.length ≤ 9223372036854775807
theorem Rc.fit_may {r : Rc.Rec} (h : Rc.mayB r = true) : Rc.Fit r := by
  have := Rc.may_bounds h
  constructor <;> omega
/-- the value v is the record r -/
def RecV (w : World) (B : Nat) (v : Value) (r : Rc.Rec) : Prop := ∃ kv vv, v = recV r.seq r.kind kv vv r.seg r.off ∧ Bs w B kv r.key ∧ Bs w B vv r.val
section
variable {w w' : World} {B B' : Nat} {v : Value} {r : Rc.Rec}
theorem RecV.mono (h : RecV w B v r) (hB : B ≤ B') : RecV w B' v r := by
  obtain ⟨kv, vv, e, h1, h2⟩ := h
  exact ⟨kv, vv, e, h1.mono hB, h2.mono hB⟩
theorem RecV.below {C : Nat} (h : RecV w B v r) (hb : Below C w w') (hC : B ≤ C) : RecV w' B v r := by
  obtain ⟨kv, vv, e, h1, h2⟩ := h
  exact ⟨kv, vv, e, h1.below hb hC, h2.below hb hC⟩
theorem RecV.on (h : RecV w w.heap.size v r) (hb : Below w.heap.size w w') : RecV w' w'.heap.size v r := (h.below hb (Nat.le_refl _)).mono hb.size
theorem RecV.none_ : RecV w B (recV 0 0 (.slice Option.none 0 0) (.slice Option.none 0 0) 0 0) Rc.none := ⟨_, _, rfl, Bs.none_, Bs.none_⟩
end

/-- what a box of a record holds, a call later -/
theorem box6 {w w1 : World} {C : Nat} {x0 x1 x2 x3 x4 x5 : Value} {t : TypeId} (hb : Below C (w.alloc (.cells #[x0, x1, x2, x3, x4, x5] t)) w1) (hC : w.heap.size < C) :
    w1.cell? ⟨w.heap.size, 0, none⟩ = some x0 ∧ w1.cell? ⟨w.heap.size, 1, none⟩ = some x1 ∧ w1.cell? ⟨w.heap.size, 2, none⟩ = some x2 ∧ w1.cell? ⟨w.heap.size, 3, none⟩ = some x3 ∧ w1.cell? ⟨w.heap.size, 4, none⟩ = some x4 ∧ w1.cell? ⟨w.heap.size, 5, none⟩ = some x5 := by
  refine ⟨?_, ?_, ?_, ?_, ?_, ?_⟩
  all_goals exact (hb.cell (p := ⟨w.heap.size, _, none⟩) hC).trans (by simp)
/-- the closure -/
theorem wrong_any (r : Rc.Rec) (w : World) (b B : Nat) (vv : Value) (c1 : w.cell? ⟨b, 1, none⟩ = some (.int .i64 r.kind)) (c3 : w.cell? ⟨b, 3, none⟩ = some vv) (hv : Bs w B vv r.val) (hl : r.val.length ≤ 9223372036854775807) :
    Calls Tryz.prog 94 #[.pointer (some ⟨b, 0, none⟩)] w fun e w' => e = .returned (.bool (!Rc.kindB r)) ∧ w = w' := by
  obtain ⟨A, c, rfl, _, _⟩ := hv
  generalize hn : r.val.length = n at *
  by_cases k1 : r.kind = 1
  · rw [k1] at c1
    obtain ⟨q, hq⟩ : ∃ q, decide ((n : Int) ≤ 1024) = q := ⟨_, rfl⟩
    have hr : Rc.kindB r = q := by unfold Rc.kindB; rw [← hq, k1, hn, Bool.eq_iff_iff]; simp; omega
    rw [hr]
    have hc := mayValue_any A n c w q hq (by omega)
    clear hr hq
    go_enter Tryz.func94, Tryz.ntmps94
    go_wp2_with fail
    refine hc.mono ?_
    rintro e w1 ⟨rfl, rfl⟩
    go_wp2_with fail
    go_ret
    exact ⟨rfl, rfl⟩
  · by_cases k2 : r.kind = 2
    · rw [k2] at c1
      have hr : (!Rc.kindB r) = ((n : Int) != 0) := by unfold Rc.kindB; rw [k2, hn, Bool.eq_iff_iff]; simp
      rw [hr]
      clear hr
      go_enter Tryz.func94, Tryz.ntmps94
      go_wp2_with fail
      go_ret
      exact ⟨rfl, rfl⟩
    · have hr : (!Rc.kindB r) = true := by unfold Rc.kindB; simp [k1, k2]
      rw [hr]
      have e1 : (r.kind == 1) = false := by simp [k1]
      have e2 : (r.kind == 2) = false := by simp [k2]
      clear hr
      go_enter Tryz.func94, Tryz.ntmps94
      go_wp2_with fail
      go_ret
      exact ⟨rfl, rfl⟩

theorem may_false {r : Rc.Rec} (h : decide (1 ≤ r.seq) = false ∨ decide (r.seq ≤ 1099511627776) = false ∨ (r.key.length = 0 ∨ 64 < r.key.length) ∨ Lx.mayB r.seg r.off = false ∨ Rc.kindB r = false) : Rc.mayB r = false := by
  rcases h with h | h | h | h | h
  · simp [Rc.mayB] at h ⊢; omega
  · simp [Rc.mayB] at h ⊢; omega
  · unfold Rc.mayB
    have : decide (1 ≤ r.key.length ∧ r.key.length ≤ 64) = false := by simp; omega
    rw [this]; simp
  · unfold Rc.mayB; rw [h]; simp
  · unfold Rc.mayB; rw [h]; simp
theorem rmay_v (r : Rc.Rec) (w : World) (kv vv : Value) (hk : Bs w w.heap.size kv r.key) (hv : Bs w w.heap.size vv r.val) (f : Rc.Fit r) :
    Calls Tryz.prog 40 #[recV r.seq r.kind kv vv r.seg r.off] w fun e w' => e = .returned (.bool (Rc.mayB r)) ∧ Below w.heap.size w w' := by
  have b0 := bnew w (.cells #[.int .u64 r.seq, .int .i64 r.kind, kv, vv, .int .u32 r.seg, .int .u32 r.off] 55)
  have f0 := f.seq0
  have f1 := f.seq1
  by_cases s1 : 1 ≤ r.seq
  · by_cases s2 : r.seq ≤ 1099511627776
    · by_cases s3 : 1 ≤ r.key.length ∧ r.key.length ≤ 64
      · cases s4 : Lx.mayB r.seg r.off
        · rw [may_false (.inr (.inr (.inr (.inl s4))))]
          have S4 := Lib.hid s4
          clear s4
          unfold recV
          go_enter Tryz.func40, Tryz.ntmps40
          go_wp2_with fail
          refine (may_yes_b _ _ _ _ (hk.alloc (Nat.le_refl _) _) s3.1 s3.2).mono ?_
          rintro e w1 ⟨rfl, rfl⟩
          go_wp2_with fail
          refine (may_b _ _ _ f.seg0 f.seg1 f.off0 f.off1 _ S4.out).mono ?_
          rintro e w1 ⟨rfl, b1⟩
          go_wp2_with fail
          go_ret
          exact ⟨rfl, bstep b0 b1⟩
        · have hm : Rc.mayB r = Rc.kindB r := by
            unfold Rc.mayB
            rw [s4, show decide (1 ≤ r.seq ∧ r.seq ≤ 1099511627776) = true by simp; omega, show decide (1 ≤ r.key.length ∧ r.key.length ≤ 64) = true by simp; omega]
            simp
          rw [hm]
          have S4 := Lib.hid s4
          clear s4 hm
          unfold recV
          go_enter Tryz.func40, Tryz.ntmps40
          go_wp2_with fail
          refine (may_yes_b _ _ _ _ (hk.alloc (Nat.le_refl _) _) s3.1 s3.2).mono ?_
          rintro e w1 ⟨rfl, rfl⟩
          go_wp2_with fail
          refine (may_b _ _ _ f.seg0 f.seg1 f.off0 f.off1 _ S4.out).mono ?_
          rintro e w1 ⟨rfl, b1⟩
          go_wp2_with fail
          obtain ⟨c0, c1, c2, c3, c4, c5⟩ := box6 b1 (by simp)
          refine (wrong_any r _ _ _ vv c1 c3 ((hv.below b0 (Nat.le_refl _)).below b1 (by simp)) f.val1).mono ?_
          rintro e w2 ⟨rfl, rfl⟩
          go_wp2_with fail
          go_ret
          exact ⟨ret_bool (by simp), bstep b0 b1⟩
      · rw [may_false (.inr (.inr (.inl (by omega))))]
        have s4 : r.key.length = 0 ∨ 64 < r.key.length := by omega
        unfold recV
        go_enter Tryz.func40, Tryz.ntmps40
        go_wp2_with fail
        refine (may_no_b _ _ _ _ (hk.alloc (Nat.le_refl _) _) s4 (by have := f.key1; omega)).mono ?_
        rintro e w1 ⟨rfl, rfl⟩
        go_wp2_with fail
        go_ret
        exact ⟨rfl, b0⟩
    · have d2 : decide (r.seq ≤ 1099511627776) = false := by simp; omega
      rw [may_false (.inr (.inl d2))]
      unfold recV
      go_enter Tryz.func40, Tryz.ntmps40
      go_wp2_with fail
      go_ret
      exact ⟨rfl, b0⟩
  · have d1 : decide (1 ≤ r.seq) = false := by simp; omega
    rw [may_false (.inl d1)]
    unfold recV
    go_enter Tryz.func40, Tryz.ntmps40
    go_wp2_with fail
    go_ret
    exact ⟨rfl, b0⟩
theorem rmay_b (v : Value) (r : Rc.Rec) (B : Nat) (w : World) (h : RecV w B v r) (hB : B ≤ w.heap.size) (f : Rc.Fit r) :
    Calls Tryz.prog 40 #[v] w fun e w' => e = .returned (.bool (Rc.mayB r)) ∧ Below w.heap.size w w' := by
  obtain ⟨kv, vv, rfl, h1, h2⟩ := h.mono hB
  exact rmay_v r w kv vv h1 h2 f

end Go.Proofs.YtfabodpefbdbjaaGreatDoor

/- RcHead -/

/-
  Layer 8: the walk of head.
-/
set_option linter.unusedVariables false
set_option linter.unusedSimpArgs false
namespace Go.Proofs.YtfabodpefbdbjaaGreatDoor
open Go.RowKit

/-- the table, read as a whole -/
theorem width_at (i : Nat) (z n : Int) (hz : z = i) (h : [(1 : Int), 1, 2, 6, 3, 4][i]? = some n) (w : World) : (Instr.index 197 (.agg #[.int .i64 1, .int .i64 1, .int .i64 2, .int .i64 6, .int .i64 3, .int .i64 4]) (.int .i64 z)).run Tryz.prog w = .ok (.int .i64 n) w := by
  subst hz
  rcases i with _ | _ | _ | _ | _ | _ | i
  · cases h; kernel_rfl
  · cases h; kernel_rfl
  · cases h; kernel_rfl
  · cases h; kernel_rfl
  · cases h; kernel_rfl
  · cases h; kernel_rfl
  · simp at h
/-- the table of the fields' widths -/
def WTab (w : World) : Prop := w.cell? ⟨0, 0, none⟩ = some (.int .i64 1) ∧ w.cell? ⟨0, 1, none⟩ = some (.int .i64 1) ∧ w.cell? ⟨0, 2, none⟩ = some (.int .i64 2) ∧
  w.cell? ⟨0, 3, none⟩ = some (.int .i64 6) ∧ w.cell? ⟨0, 4, none⟩ = some (.int .i64 3) ∧ w.cell? ⟨0, 5, none⟩ = some (.int .i64 4)
theorem WTab.lt {w : World} (h : WTab w) : 0 < w.heap.size := block_lt_of_cell h.1
theorem WTab.on {w w' : World} (h : WTab w) (hb : Below w.heap.size w w') : WTab w' := by
  have hl := h.lt
  obtain ⟨h0, h1, h2, h3, h4, h5⟩ := h
  exact ⟨(hb.cell (p := ⟨_, 0, none⟩) hl).trans h0, (hb.cell (p := ⟨_, 1, none⟩) hl).trans h1, (hb.cell (p := ⟨_, 2, none⟩) hl).trans h2, (hb.cell (p := ⟨_, 3, none⟩) hl).trans h3, (hb.cell (p := ⟨_, 4, none⟩) hl).trans h4, (hb.cell (p := ⟨_, 5, none⟩) hl).trans h5⟩

theorem row_step {base n : Nat} {w w' : World} {v : Value} {l : List (Nat × Nat)} {p : Nat × Nat} {m : Nat} (hb : base ≤ w.heap.size) (hm : m = n + p.2)
    (h : w'.ownsRow w.heap.size 5 1 v (n + p.2) (bvs (Rc.rowL l ++ Px.leL p.1 p.2))) : w'.ownsRow base 5 1 v m (bvs (Rc.rowL (l ++ [p]))) := by
  subst hm
  rw [Rc.rowL_snoc]
  exact own_base h hb

set_option maxRecDepth 100000 in
set_option maxHeartbeats 4000000 in
theorem rhead_b (v : Value) (r : Rc.Rec) (B : Nat) (w : World) (h : RecV w B v r) (hm : Rc.mayB r = true) (ht : WTab w) :
    Calls Tryz.prog 106 #[v] w fun e w' => ∃ v', e = .returned v' ∧ w'.ownsRow w.heap.size 5 1 v' 17 (bvs (Rc.headL r)) ∧ Below w.heap.size w w' := by
  obtain ⟨kv, vv, rfl, ⟨A, c, rfl, _, _⟩, ⟨A', c', rfl, _, _⟩⟩ := h
  obtain ⟨h1, h2, h3, h4, h5, h6, h7, h8, h9, h10, h11⟩ := Rc.may_bounds hm
  obtain ⟨ht0, ht1, ht2, ht3, ht4, ht5⟩ := ht
  have hlt : 0 < w.heap.size := block_lt_of_cell ht0
  obtain ⟨seq, hseq⟩ := Int.eq_ofNat_of_zero_le (show 0 ≤ r.seq by omega)
  obtain ⟨kind, hkind⟩ := Int.eq_ofNat_of_zero_le (show 0 ≤ r.kind by omega)
  obtain ⟨seg, hseg⟩ := Int.eq_ofNat_of_zero_le (show 0 ≤ r.seg by omega)
  obtain ⟨off, hoff⟩ := Int.eq_ofNat_of_zero_le (show 0 ≤ r.off by omega)
  have hT : Hid (Rc.headL r = Rc.rowL [(kind, 1), (r.key.length, 1), (r.val.length, 2), (seq, 6), (seg, 3), (off, 4)]) := Lib.hid (by
    unfold Rc.headL Rc.told
    rw [hseq, hkind, hseg, hoff]
    rfl)
  unfold recV
  rw [hseq, hkind, hseg, hoff]
  rw [hseq] at h1 h2
  rw [hkind] at h9 h10
  rw [hseg] at h5 h6
  rw [hoff] at h7 h8
  clear hseq hkind hseg hoff hm
  generalize r.key.length = kl at *
  generalize r.val.length = vl at *
  go_enter Tryz.func106, Tryz.ntmps106
  go_wp2_with fail
  have b0 := balloc (bnew w (.cells #[.int .u64 (seq : Int), .int .i64 (kind : Int), .slice A kl c, .slice A' vl c', .int .u32 (seg : Int), .int .u32 (off : Int)] 55)) (.cells #[.int .u64 (kind : Int), .int .u64 (kl : Int), .int .u64 (vl : Int), .int .u64 (seq : Int), .int .u64 (seg : Int), .int .u64 (off : Int)] 144)
  clear ht0 ht1 ht2 ht3 ht4 ht5
  go_loopg [4, 30] 6 (fun k o i wr => ∃ j : Nat, j + k = 6 ∧ i = .int .i64 j ∧ wr.ownsRow w.heap.size 5 1 o (Rc.rowL ([(kind, 1), (kl, 1), (vl, 2), (seq, 6), (seg, 3), (off, 4)].take j)).length (bvs (Rc.rowL ([(kind, 1), (kl, 1), (vl, 2), (seq, 6), (seg, 3), (off, 4)].take j))) ∧ Below w.heap.size w wr ∧
    Below (w.heap.size + 1 + 1) ((w.alloc (.cells #[.int .u64 (seq : Int), .int .i64 (kind : Int), .slice A kl c, .slice A' vl c', .int .u32 (seg : Int), .int .u32 (off : Int)] 55)).alloc (.cells #[.int .u64 (kind : Int), .int .u64 (kl : Int), .int .u64 (vl : Int), .int .u64 (seq : Int), .int .u64 (seg : Int), .int .u64 (off : Int)] 144)) wr)
  case atStart => exact ⟨0, by omega, rfl, World.ownsRow_nil _ _ _ _, b0, Below.refl _ _⟩
  case round =>
    obtain ⟨j, hj, rfl, hown, hb, hb2⟩ := hrel
    by_cases hlt : j < 6
    · obtain ⟨c0, c1, c2, c3, c4, c5⟩ := box6 hb2 (by simp)
      simp only [World.size_alloc] at c0 c1 c2 c3 c4 c5
      have hsz := hb.size
      have hsz2 := hb2.size
      simp only [World.size_alloc] at hsz2
      have Hown := Lib.hid hown
      have Hb := Lib.hid hb
      have Hb2 := Lib.hid hb2
      clear hown hb hb2 b0
      have hjj : j = 0 ∨ j = 1 ∨ j = 2 ∨ j = 3 ∨ j = 4 ∨ j = 5 := by omega
      rcases hjj with rfl | rfl | rfl | rfl | rfl | rfl
      · have hx := width_at 0 0 1 rfl rfl
        go_wp2_with fail
        refine (fixed_b _ (Rc.rowL ([(kind, 1), (kl, 1), (vl, 2), (seq, 6), (seg, 3), (off, 4)].take 0)) kind 1 _ (Bs.of_own Hown.out) (by omega) (by omega) (by omega) (by omega) (Int.ediv_eq_zero_of_lt (by omega) (by simp; omega)) (by simp [Rc.rowL, Px.leL_length])).mono ?_
        rintro e w1 ⟨v2, rfl, hown2, b2⟩
        go_wp2_with fail
        go_roundg (gk - 1)
        case measure => omega
        case rel => exact ⟨1, by omega, by go_num, row_step (p := (kind, 1)) (l := [(kind, 1), (kl, 1), (vl, 2), (seq, 6), (seg, 3), (off, 4)].take 0) hsz (by simp [Rc.rowL, Px.leL_length]) hown2, bstep Hb.out b2, Hb2.out.trans (b2.mono hsz2)⟩
      · have hx := width_at 1 1 1 rfl rfl
        go_wp2_with fail
        refine (fixed_b _ (Rc.rowL ([(kind, 1), (kl, 1), (vl, 2), (seq, 6), (seg, 3), (off, 4)].take 1)) kl 1 _ (Bs.of_own Hown.out) (by omega) (by omega) (by omega) (by omega) (Int.ediv_eq_zero_of_lt (by omega) (by simp; omega)) (by simp [Rc.rowL, Px.leL_length])).mono ?_
        rintro e w1 ⟨v2, rfl, hown2, b2⟩
        go_wp2_with fail
        go_roundg (gk - 1)
        case measure => omega
        case rel => exact ⟨2, by omega, by go_num, row_step (p := (kl, 1)) (l := [(kind, 1), (kl, 1), (vl, 2), (seq, 6), (seg, 3), (off, 4)].take 1) hsz (by simp [Rc.rowL, Px.leL_length]) hown2, bstep Hb.out b2, Hb2.out.trans (b2.mono hsz2)⟩
      · have hx := width_at 2 2 2 rfl rfl
        go_wp2_with fail
        refine (fixed_b _ (Rc.rowL ([(kind, 1), (kl, 1), (vl, 2), (seq, 6), (seg, 3), (off, 4)].take 2)) vl 2 _ (Bs.of_own Hown.out) (by omega) (by omega) (by omega) (by omega) (Int.ediv_eq_zero_of_lt (by omega) (by simp; omega)) (by simp [Rc.rowL, Px.leL_length])).mono ?_
        rintro e w1 ⟨v2, rfl, hown2, b2⟩
        go_wp2_with fail
        go_roundg (gk - 1)
        case measure => omega
        case rel => exact ⟨3, by omega, by go_num, row_step (p := (vl, 2)) (l := [(kind, 1), (kl, 1), (vl, 2), (seq, 6), (seg, 3), (off, 4)].take 2) hsz (by simp [Rc.rowL, Px.leL_length]) hown2, bstep Hb.out b2, Hb2.out.trans (b2.mono hsz2)⟩
      · have hx := width_at 3 3 6 rfl rfl
        go_wp2_with fail
        refine (fixed_b _ (Rc.rowL ([(kind, 1), (kl, 1), (vl, 2), (seq, 6), (seg, 3), (off, 4)].take 3)) seq 6 _ (Bs.of_own Hown.out) (by omega) (by omega) (by omega) (by omega) (Int.ediv_eq_zero_of_lt (by omega) (by simp; omega)) (by simp [Rc.rowL, Px.leL_length])).mono ?_
        rintro e w1 ⟨v2, rfl, hown2, b2⟩
        go_wp2_with fail
        go_roundg (gk - 1)
        case measure => omega
        case rel => exact ⟨4, by omega, by go_num, row_step (p := (seq, 6)) (l := [(kind, 1), (kl, 1), (vl, 2), (seq, 6), (seg, 3), (off, 4)].take 3) hsz (by simp [Rc.rowL, Px.leL_length]) hown2, bstep Hb.out b2, Hb2.out.trans (b2.mono hsz2)⟩
      · have hx := width_at 4 4 3 rfl rfl
        go_wp2_with fail
        refine (fixed_b _ (Rc.rowL ([(kind, 1), (kl, 1), (vl, 2), (seq, 6), (seg, 3), (off, 4)].take 4)) seg 3 _ (Bs.of_own Hown.out) (by omega) (by omega) (by omega) (by omega) (Int.ediv_eq_zero_of_lt (by omega) (by simp; omega)) (by simp [Rc.rowL, Px.leL_length])).mono ?_
        rintro e w1 ⟨v2, rfl, hown2, b2⟩
        go_wp2_with fail
        go_roundg (gk - 1)
        case measure => omega
        case rel => exact ⟨5, by omega, by go_num, row_step (p := (seg, 3)) (l := [(kind, 1), (kl, 1), (vl, 2), (seq, 6), (seg, 3), (off, 4)].take 4) hsz (by simp [Rc.rowL, Px.leL_length]) hown2, bstep Hb.out b2, Hb2.out.trans (b2.mono hsz2)⟩
      · have hx := width_at 5 5 4 rfl rfl
        go_wp2_with fail
        refine (fixed_b _ (Rc.rowL ([(kind, 1), (kl, 1), (vl, 2), (seq, 6), (seg, 3), (off, 4)].take 5)) off 4 _ (Bs.of_own Hown.out) (by omega) (by omega) (by omega) (by omega) (Int.ediv_eq_zero_of_lt (by omega) (by simp; omega)) (by simp [Rc.rowL, Px.leL_length])).mono ?_
        rintro e w1 ⟨v2, rfl, hown2, b2⟩
        go_wp2_with fail
        go_roundg (gk - 1)
        case measure => omega
        case rel => exact ⟨6, by omega, by go_num, row_step (p := (off, 4)) (l := [(kind, 1), (kl, 1), (vl, 2), (seq, 6), (seg, 3), (off, 4)].take 5) hsz (by simp [Rc.rowL, Px.leL_length]) hown2, bstep Hb.out b2, Hb2.out.trans (b2.mono hsz2)⟩
    · obtain rfl : j = 6 := by omega
      go_wp2_with fail
      go_ret
      refine ⟨_, rfl, ?_, hb⟩
      rw [hT.out]
      have e : (Rc.rowL [(kind, 1), (kl, 1), (vl, 2), (seq, 6), (seg, 3), (off, 4)]).length = 17 := by simp [Rc.rowL, Px.leL_length]
      have h6 : [(kind, 1), (kl, 1), (vl, 2), (seq, 6), (seg, 3), (off, 4)].take 6 = [(kind, 1), (kl, 1), (vl, 2), (seq, 6), (seg, 3), (off, 4)] := rfl
      rw [h6, e] at hown
      exact hown
end Go.Proofs.YtfabodpefbdbjaaGreatDoor

/- RcPut -/

/-
  Layer 8: the walk of Put.
-/
set_option linter.unusedVariables false
set_option linter.unusedSimpArgs false
namespace Go.Proofs.YtfabodpefbdbjaaGreatDoor
open Go.RowKit

/-- the tables lie where they were laid -/
def RTab (w : World) : Prop := Crc.Tab w ∧ WTab w
theorem RTab.on {w w' : World} (h : RTab w) (hb : Below w.heap.size w w') : RTab w' := ⟨h.1.on hb, h.2.on hb⟩

theorem rput_no (v : Value) (r : Rc.Rec) (B : Nat) (w : World) (h : RecV w B v r) (hB : B ≤ w.heap.size) (f : Rc.Fit r) (hm : Rc.mayB r = false) :
    Calls Tryz.prog 52 #[v] w fun e w' => e = .returned (.tuple #[.slice none 0 0, .int .i64 1]) ∧ Below w.heap.size w w' := by
  obtain ⟨kv, vv, rfl, h1, h2⟩ := h.mono hB
  have b0 := bnew w (.cells #[.int .u64 r.seq, .int .i64 r.kind, kv, vv, .int .u32 r.seg, .int .u32 r.off] 55)
  have hc := rmay_b _ r _ _ ((show RecV w w.heap.size (recV r.seq r.kind kv vv r.seg r.off) r from ⟨_, _, rfl, h1, h2⟩).below b0 (Nat.le_refl _)) (by simp) f
  rw [hm] at hc
  unfold recV at hc ⊢
  clear hm
  go_enter Tryz.func52, Tryz.ntmps52
  go_wp2_with fail
  refine hc.mono ?_
  rintro e w1 ⟨rfl, b1⟩
  go_wp2_with fail
  go_ret2
  exact ⟨rfl, bstep b0 b1⟩

set_option maxRecDepth 100000 in
set_option maxHeartbeats 4000000 in
theorem rput_ok (v : Value) (r : Rc.Rec) (B : Nat) (w : World) (h : RecV w B v r) (hB : B ≤ w.heap.size) (hm : Rc.mayB r = true) (ht : RTab w) :
    Calls Tryz.prog 52 #[v] w fun e w' => ∃ v', e = .returned (.tuple #[v', .int .i64 0]) ∧ w'.ownsRow w.heap.size 5 1 v' (Rc.sizeN r) (bvs (Rc.runL r)) ∧ Below w.heap.size w w' := by
  obtain ⟨i0, hi0, hz0, hz1, hz2⟩ := info_parts byte_info
  have f := Rc.fit_may hm
  obtain ⟨kv, vv, rfl, h1, h2⟩ := h.mono hB
  have b0 := bnew w (.cells #[.int .u64 r.seq, .int .i64 r.kind, kv, vv, .int .u32 r.seg, .int .u32 r.off] 55)
  have hR := Lib.hid ((show RecV w w.heap.size (recV r.seq r.kind kv vv r.seg r.off) r from ⟨_, _, rfl, h1, h2⟩).on b0)
  have hc := rmay_b _ r _ _ hR.out (Nat.le_refl _) f
  rw [hm] at hc
  have Hm := Lib.hid hm
  have Ht0 := Lib.hid ht
  have Ht := Lib.hid (ht.on b0)
  have H1 := Lib.hid h1
  have H2 := Lib.hid h2
  have hbd := Rc.may_bounds hm
  have hkl := hbd.2.2.2.1
  have hvl := hbd.2.2.2.2.2.2.2.2.2.2
  clear hm ht h1 h2 h hbd
  unfold recV at hc hR ⊢
  go_enter Tryz.func52, Tryz.ntmps52
  go_wp2_with fail
  refine hc.mono ?_
  rintro e w1 ⟨rfl, b1⟩
  obtain ⟨c0, c1, c2, c3, c4, c5⟩ := box6 b1 (by simp)
  have Ht1 := Lib.hid (Ht.out.on b1)
  have hR1 := Lib.hid (hR.out.on b1)
  have hb1 := bstep b0 b1
  go_wp2_with fail
  refine (rhead_b _ r _ _ hR1.out Hm.out Ht1.out.2).mono ?_
  rintro e w2 ⟨v2, rfl, hown2, b2⟩
  have hs2 := Bs.of_own hown2
  have Ht2 := Lib.hid (Ht1.out.on b2)
  go_wp2_with fail
  refine (Crc.cover_b _ _ _ hs2 Ht2.out.1 (by rw [Rc.headL_length]; omega)).mono ?_
  rintro e w3 ⟨v3, rfl, hown3, b3⟩
  have Ht3 := Lib.hid (Ht2.out.on b3)
  have hb3 := bstep (bstep hb1 b2) b3
  have hb13 := bstep (bstep b1 b2) b3
  obtain ⟨d0, d1, d2, d3, d4, d5⟩ := box6 hb13 (by simp)
  have H1' := H1.out.below hb3 (Nat.le_refl _)
  have H2' := H2.out.below hb3 (Nat.le_refl _)
  obtain ⟨A, c, rfl, hkc, hrk⟩ := H1'
  obtain ⟨A', c', rfl, hvc, hrv⟩ := H2'
  rw [Rc.headL_length] at hown3
  simp only [World.size_alloc] at hb13
  have hsz2 : w.heap.size + 1 ≤ w2.heap.size := by have := (bstep b1 b2).size; simpa using this
  have hown3' := own_base (base' := w.heap.size + 1) hown3 hsz2
  have hsz3 := hb13.size
  simp only [World.size_alloc] at hsz3
  have HB13 := Lib.hid hb13
  have HB3 := Lib.hid hb3
  clear hown2 hown3 hs2 c0 c1 c2 c3 c4 c5 hb13 hb3 hb1 b1 b2 b3 b0
  go_wp2_with (first
    | (at_builtin; (refine wpList_append_rd _ rfl _ _ 51 rfl (w.heap.size + 1) 5 i0 (.int .u8 0) 1 1 Tryz.underlying51 hi0 hz0 hz1 hz2 rfl (by omega) v3 21 (bvs (Cx.cover (Rc.headL r))) rfl hown3' w.heap.size A r.key.length c (bvs r.key) rfl (by simp [bvs]) hrk (bvs_one _) (by unfold maxLen; omega) (by omega) hsz3 ?_); intro v4 w4 hown4 b4 hg4 _; obtain ⟨e0, e1, e2, e3, e4, e5⟩ := box6 (HB13.out.trans b4) (by omega); have hrv4 := hrv.below b4 (by omega))
    | (at_builtin; (refine wpList_append_rd _ rfl _ _ 51 rfl (w.heap.size + 1) 5 i0 (.int .u8 0) 1 1 Tryz.underlying51 hi0 hz0 hz1 hz2 rfl (by omega) v4 (21 + r.key.length) _ rfl hown4 w.heap.size A' r.val.length c' (bvs r.val) rfl (by simp [bvs]) hrv4 (bvs_one _) (by unfold maxLen; omega) (by omega) (by have := b4.size; omega) ?_); intro v5 w5 hown5 b5 hg5 _))
  rw [← bvs_append, ← bvs_append] at hown5
  have hs5 := Bs.of_own hown5
  have hb5 := HB13.out.trans (b4.trans b5)
  have hb5' := HB3.out.trans ((b4.trans b5).mono (by omega))
  have hl : (Cx.cover (Rc.headL r) ++ r.key ++ r.val).length = 21 + r.key.length + r.val.length := by
    rw [List.length_append, List.length_append, Rc.cover_head_length]
  refine (Crc.cover_b _ _ _ hs5 (Ht0.out.on hb5').1 (by rw [hl]; omega)).mono ?_
  rintro e w6 ⟨v6, rfl, hown6, b6⟩
  rw [hl] at hown6
  go_wp2_with fail
  go_ret2
  refine ⟨_, rfl, ?_, bstep hb5' b6⟩
  have e : 21 + r.key.length + r.val.length + 4 = Rc.sizeN r := by unfold Rc.sizeN; omega
  rw [e] at hown6
  exact own_base hown6 hb5'.size
end Go.Proofs.YtfabodpefbdbjaaGreatDoor

/- RcRow -/

/-
  Layer 8: blocks of bytes.
-/
set_option linter.unusedVariables false
set_option linter.unusedSimpArgs false
namespace Go.Proofs.YtfabodpefbdbjaaGreatDoor
open Go.RowKit

/-- a new row of zeros -/
def zer (n : Nat) : Array Value := (bvs (List.replicate n 0)).toArray
/-- a block of bytes -/
def RowAt (w : World) (g : Nat) (l : List UInt8) : Prop := w.heap[g]? = some (.cells (bvs l).toArray 5 (0, 0))
theorem RowAt.bs {w : World} {g B : Nat} {l : List UInt8} (h : RowAt w g l) (hg : g < B) : Bs w B (.slice (some ⟨g, 0, none⟩) l.length l.length) l :=
  ⟨_, _, rfl, Nat.le_refl _, fun _ => ⟨g, 0, rfl, hg, fun j u hu => by
    rw [Nat.zero_add, cell_of_row w g j _ _ _ h]
    simpa using hu⟩⟩
theorem RowAt.below {w w' : World} {g C : Nat} {l : List UInt8} (h : RowAt w g l) (hb : Below C w w') (hC : g < C) : RowAt w' g l := (hb.block g hC).trans h
theorem RowAt.lt {w : World} {g : Nat} {l : List UInt8} (h : RowAt w g l) : g < w.heap.size := (Array.getElem?_eq_some_iff.1 h).1
theorem RowAt.on {w w' : World} {g : Nat} {l : List UInt8} (h : RowAt w g l) (hb : Below w.heap.size w w') : RowAt w' g l := h.below hb h.lt
theorem RowAt.new (w : World) (n : Nat) : RowAt (w.alloc (.cells (zer n) 5)) w.heap.size (List.replicate n 0) := heap_alloc_new w _
end Go.Proofs.YtfabodpefbdbjaaGreatDoor

/- RcFill -/

/-
  Layer 8: the walk of fill.
-/
set_option linter.unusedVariables false
set_option linter.unusedSimpArgs false
namespace Go.Proofs.YtfabodpefbdbjaaGreatDoor
open Go.RowKit

theorem box6h {w : World} {g : Nat} {x0 x1 x2 x3 x4 x5 : Value} {t : TypeId} {fr : Nat × Nat} (h : w.heap[g]? = some (.cells #[x0, x1, x2, x3, x4, x5] t fr)) :
    w.cell? ⟨g, 0, none⟩ = some x0 ∧ w.cell? ⟨g, 1, none⟩ = some x1 ∧ w.cell? ⟨g, 2, none⟩ = some x2 ∧ w.cell? ⟨g, 3, none⟩ = some x3 ∧ w.cell? ⟨g, 4, none⟩ = some x4 ∧ w.cell? ⟨g, 5, none⟩ = some x5 := by
  refine ⟨?_, ?_, ?_, ?_, ?_, ?_⟩
  all_goals (rw [cell_of_row w g _ _ _ _ h]; simp)
end Go.Proofs.YtfabodpefbdbjaaGreatDoor

