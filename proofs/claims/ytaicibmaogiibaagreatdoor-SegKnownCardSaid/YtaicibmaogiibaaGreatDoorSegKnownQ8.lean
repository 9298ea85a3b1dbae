/-
  SegKnown, part 8 of what the law's proof leans on: SgPlain, Shelf11P, SgParse, SgFmt, Shelf11R, SgName.
-/
import Derived.Lib.Strings
import Derived.Lib.ParseIntB
import Derived.Test.YtaicibmaogiibaaGreatDoorProg
import Derived.Shelf.Pu.ToError
import Derived.Shelf.Pu.ToErrorRange
import Derived.Shelf.Pu.Lower
import Derived.Lib.Walk
import Derived.Lib.ConvBytes
import Derived.Lib.ParseIntBMem
import Derived.Lib.AtoiErrMem
import Derived.Lib.Hide
import Derived.Laws.Strings3
import Derived.Laws.Closers25
import Derived.Laws.Closers25b
import Derived.WalkKit
import Derived.BigCall
import Derived.BigGuard
import Derived.Laws.Bits64b
import Derived.Laws.Strings
import Derived.Lib.BufferMore
import Derived.Lib.SmallJoins
import Derived.Test.YtaicibmaogiibaaGreatDoorSegKnownQ1
import Derived.Shelf.Strings.Repeat
import Derived.Shelf.Strings.Prefix
/- SgPlain -/

/-
  Layer 11: segments' names as plain mathematics: an id in six digits to the base 16; what a name's id is, asked by reading the number and laying it again (the program's way), and digit by digit (the document's): the same.
-/
set_option linter.unusedVariables false
set_option linter.unusedSimpArgs false
namespace Go.Proofs.YtaicibmaogiibaaGreatDoor.Sg
open Go Go.Lib

/-- a digit to the base 16 -/
def dg16 (k : Nat) : UInt8 := UInt8.ofNat (if k < 10 then 48 + k else 87 + k)
/-- the last k digits of n -/
def hexK : Nat → Nat → List UInt8
  | 0, _ => []
  | k + 1, n => dg16 (n / 16 ^ k % 16) :: hexK k n
/-- 'seg-' -/
def pre : List UInt8 := [115, 101, 103, 45]
/-- a segment's name: P11.1 -/
def nameL (n : Nat) : List UInt8 := if 1 ≤ n ∧ n ≤ 16777215 then pre ++ hexK 6 n else []
def nameB (n : Nat) : ByteArray := ⟨(nameL n).toArray⟩
/-- what a digit is, small letters alone -/
def dl (c : UInt8) : Option Nat := if 48 ≤ c.toNat ∧ c.toNat ≤ 57 then some (c.toNat - 48) else if 97 ≤ c.toNat ∧ c.toNat ≤ 102 then some (c.toNat - 87) else none
/-- what a digit is, great letters too -/
def dv (c : UInt8) : Option Nat := if 48 ≤ c.toNat ∧ c.toNat ≤ 57 then some (c.toNat - 48) else if 97 ≤ c.toNat ∧ c.toNat ≤ 102 then some (c.toNat - 87) else if 65 ≤ c.toNat ∧ c.toNat ≤ 70 then some (c.toNat - 55) else none
def low16 (acc : Nat) : List UInt8 → Option Nat
  | [] => some acc
  | c :: r => match dl c with
    | some d => low16 (16 * acc + d) r
    | none => none
/-- a number of 32 bits, to the base 16 -/
def parse16 (acc : Nat) : List UInt8 → NumEnd Nat
  | [] => .ok acc
  | c :: r => match dv c with
    | some d => if 4294967295 < 16 * acc + d then .range else parse16 (16 * acc + d) r
    | none => NumEnd.syntax
/-- the document's own way -/
def refId (l : List UInt8) : Nat × Bool :=
  if l.length = 10 ∧ l.take 4 = pre then
    match low16 0 (l.drop 4) with
    | some n => (n, decide (0 < n))
    | none => (0, false)
  else (0, false)
def trim (l : List UInt8) : List UInt8 := if l.take 4 = pre then l.drop 4 else l
def read16 (l : List UInt8) : NumEnd Nat := if l = [] then NumEnd.syntax else parse16 0 l
/-- the program's way: what is read is laid again, and compared -/
def idP (l : List UInt8) : Nat × Bool :=
  match read16 (trim l) with
  | .ok n => if nameL n = l then (n, true) else (0, false)
  | _ => (0, false)

theorem dl_dg {k : Nat} (h : k < 16) : dl (dg16 k) = some k := by
  have : ∀ k : Fin 16, dl (dg16 k.1) = some k.1 := by decide
  exact this ⟨k, h⟩
theorem dg_dl {c : UInt8} {d : Nat} (h : dl c = some d) : d < 16 ∧ dg16 d = c := by
  have hc := c.toNat_lt
  have hb : c = UInt8.ofNat c.toNat := by simp
  unfold dl at h
  split at h
  · simp only [Option.some.injEq] at h
    refine ⟨by omega, ?_⟩
    unfold dg16
    rw [if_pos (by omega), show 48 + d = c.toNat by omega, ← hb]
  · split at h
    · simp only [Option.some.injEq] at h
      refine ⟨by omega, ?_⟩
      unfold dg16
      rw [if_neg (by omega), show 87 + d = c.toNat by omega, ← hb]
    · cases h
theorem dv_dl {c : UInt8} {d : Nat} (h : dl c = some d) : dv c = some d := by
  unfold dl at h
  unfold dv
  split at h
  · rename_i h1; rw [if_pos h1]; exact h
  · rename_i h1
    rw [if_neg h1]
    split at h
    · rename_i h2; rw [if_pos h2]; exact h
    · cases h
theorem hexK_len (k n : Nat) : (hexK k n).length = k := by induction k with
  | zero => rfl
  | succ k ih => simp [hexK, ih]
theorem div_next (n k : Nat) : n / 16 ^ (k + 1) = n / 16 ^ k / 16 := by rw [Nat.pow_succ, Nat.div_div_eq_div_mul]
theorem low_hex : ∀ {l : List UInt8} {acc n : Nat}, low16 acc l = some n → hexK l.length n = l ∧ n / 16 ^ l.length = acc
  | [], acc, n, h => by simp only [low16, Option.some.injEq] at h; subst h; simp [hexK]
  | c :: r, acc, n, h => by
    rw [low16] at h
    cases hd : dl c with
    | none => rw [hd] at h; cases h
    | some d =>
      rw [hd] at h
      obtain ⟨h1, h2⟩ := low_hex h
      obtain ⟨h3, h4⟩ := dg_dl hd
      refine ⟨?_, ?_⟩
      · rw [List.length_cons, hexK, h1, h2, show (16 * acc + d) % 16 = d by omega, h4]
      · rw [List.length_cons, div_next, h2]; omega
theorem hex_low : ∀ {k acc n : Nat}, n / 16 ^ k = acc → low16 acc (hexK k n) = some n
  | 0, acc, n, h => by simp at h; simp [hexK, low16, h]
  | k + 1, acc, n, h => by
    rw [div_next] at h
    rw [hexK, low16, dl_dg (Nat.mod_lt _ (by omega))]
    exact hex_low (by omega)
theorem low_le : ∀ {l : List UInt8} {acc n : Nat}, low16 acc l = some n → acc ≤ n
  | [], acc, n, h => by simp only [low16, Option.some.injEq] at h; omega
  | c :: r, acc, n, h => by
    rw [low16] at h
    cases hd : dl c with
    | none => rw [hd] at h; cases h
    | some d => rw [hd] at h; have := low_le h; omega
theorem parse_low : ∀ {l : List UInt8} {acc n : Nat}, low16 acc l = some n → n ≤ 4294967295 → parse16 acc l = .ok n
  | [], acc, n, h, _ => by simp only [low16, Option.some.injEq] at h; rw [parse16, h]
  | c :: r, acc, n, h, hn => by
    rw [low16] at h
    cases hd : dl c with
    | none => rw [hd] at h; cases h
    | some d =>
      rw [hd] at h
      have := low_le h
      rw [parse16, dv_dl hd]
      show (if 4294967295 < 16 * acc + d then _ else parse16 (16 * acc + d) r) = _
      rw [if_neg (by omega)]
      exact parse_low h hn
theorem parse_le : ∀ {l : List UInt8} {acc n : Nat}, parse16 acc l = .ok n → acc ≤ 4294967295 → n ≤ 4294967295
  | [], acc, n, h, ha => by rw [parse16] at h; injection h with h; omega
  | c :: r, acc, n, h, ha => by
    rw [parse16] at h
    cases hd : dv c with
    | none => rw [hd] at h; cases h
    | some d =>
      rw [hd] at h
      have h : (if 4294967295 < 16 * acc + d then NumEnd.range else parse16 (16 * acc + d) r) = .ok n := h
      split at h
      · cases h
      · exact parse_le h (by omega)
theorem read_le {l : List UInt8} {n : Nat} (h : read16 l = .ok n) : n ≤ 4294967295 := by
  unfold read16 at h
  split at h
  · cases h
  · exact parse_le h (by omega)
theorem id_ref (l : List UInt8) : idP l = refId l := by
  unfold refId
  split
  · rename_i h
    obtain ⟨h1, h2⟩ := h
    have ht : trim l = l.drop 4 := by unfold trim; rw [if_pos h2]
    have hsp : pre ++ l.drop 4 = l := by rw [← h2]; exact List.take_append_drop 4 l
    have hl : (l.drop 4).length = 6 := by simp; omega
    unfold idP
    rw [ht]
    have hne : l.drop 4 ≠ [] := fun e => by rw [e] at hl; cases hl
    cases hlow : low16 0 (l.drop 4) with
    | some n =>
      obtain ⟨h3, h4⟩ := low_hex hlow
      rw [hl] at h3 h4
      have hn : n < 16 ^ 6 := by rcases Nat.lt_or_ge n (16 ^ 6) with h | h; exact h; have := Nat.div_pos h (by decide); omega
      have hn : n < 16777216 := hn
      rw [show read16 (l.drop 4) = .ok n by unfold read16; rw [if_neg hne]; exact parse_low hlow (by omega)]
      show (if nameL n = l then (n, true) else (0, false)) = (n, decide (0 < n))
      by_cases h0 : 0 < n
      · rw [if_pos (by unfold nameL; rw [if_pos ⟨by omega, by omega⟩, h3, hsp]), decide_eq_true h0]
      · have : n = 0 := by omega
        subst this
        rw [if_neg (by unfold nameL; rw [if_neg (by omega)]; intro e; rw [← e] at h1; cases h1)]
        rfl
    | none =>
      show _ = (0, false)
      rcases hr : read16 (l.drop 4) with n | _ | _
      · skip
        show (if nameL n = l then (n, true) else (0, false)) = (0, false)
        rw [if_neg]
        intro e
        unfold nameL at e
        split at e
        · have e2 : hexK 6 n = l.drop 4 := List.append_cancel_left (e.trans hsp.symm)
          rename_i hn
          have := hex_low (k := 6) (acc := 0) (n := n) (Nat.div_eq_of_lt (show n < 16777216 by omega))
          rw [e2, hlow] at this
          cases this
        · rw [← e] at h1; cases h1
      · skip; rfl
      · skip; rfl
  · rename_i h
    unfold idP
    rcases hr : read16 (trim l) with n | _ | _
    · skip
      show (if nameL n = l then (n, true) else (0, false)) = (0, false)
      rw [if_neg]
      intro e
      unfold nameL at e
      split at e
      · refine h ⟨?_, ?_⟩
        · rw [← e]; simp [hexK_len, pre]
        · rw [← e]; simp [pre]
      · subst e
        rw [show read16 (trim []) = NumEnd.syntax from rfl] at hr
        cases hr
    · skip; rfl
    · skip; rfl
/-- the digits of a number with zeros ahead -/
theorem hex_zeros {n : Nat} : ∀ {j k : Nat}, n < 16 ^ k → List.replicate j 48 ++ hexK k n = hexK (j + k) n
  | 0, k, h => by simp
  | j + 1, k, h => by
    rw [show j + 1 + k = (j + k) + 1 by omega, hexK, ← hex_zeros h, List.replicate_succ, List.cons_append]
    rw [show n / 16 ^ (j + k) = 0 from Nat.div_eq_of_lt (Nat.lt_of_lt_of_le h (Nat.pow_le_pow_right (by omega) (by omega)))]
    rfl
theorem nameL_len {n : Nat} (h : 1 ≤ n ∧ n ≤ 16777215) : (nameL n).length = 10 := by unfold nameL; rw [if_pos h]; simp [hexK_len, pre]
theorem nameB_size (n : Nat) : (nameB n).size ≤ 10 := by
  show (nameL n).toArray.size ≤ 10
  simp only [List.size_toArray]
  unfold nameL
  split
  · simp [hexK_len, pre]
  · simp
end Go.Proofs.YtaicibmaogiibaaGreatDoor.Sg

/- Shelf11P -/

/-
  The shelf's contracts laid at this dump, in plain words (tools/shelf.py): tables of numbers, and for each laying one theorem, a field a fact of the dump.
-/
namespace Go.Proofs.YtaicibmaogiibaaGreatDoor
open Go.Shelf

def Tryz.toErr_ren : Go.Shelf.Ren := ⟨fun | 17 => 131 | 21 => 163 | 22 => 164 | 23 => 165 | 24 => 166 | 25 => 182 | 27 => 184 | 26 => 183 | 28 => 199 | 29 => 215 | 30 => 142 | 31 => 143 | 32 => 144 | 33 => 145 | 35 => 176 | 34 => 175 | 36 => 177 | 37 => 178 | 38 => 179 | 39 => 197 | 40 => 198 | n => n, fun | 9 => 9 | 3 => 3 | 24 => 127 | 34 => 212 | 4 => 4 | 39 => 214 | 44 => 231 | 37 => 47 | 0 => 0 | 47 => 205 | 50 => 248 | 48 => 246 | 2 => 2 | 52 => 196 | 22 => 37 | 5 => 5 | 55 => 199 | 59 => 224 | 60 => 23 | 20 => 20 | 61 => 225 | 36 => 158 | 65 => 259 | 66 => 260 | 67 => 91 | n => n, fun | 0 => 2 | 1 => 3 | 2 => 1 | 3 => 6 | 4 => 7 | n => n⟩
theorem Tryz.toErr : Go.Proofs.LaysPu.n17 Tryz.prog Tryz.toErr_ren := {
  mixed := by kernel_rfl
  f17 := Tryz.func131.trans (congrArg some (by kernel_rfl))
  f21 := Tryz.func163.trans (congrArg some (by kernel_rfl))
  f22 := Tryz.func164.trans (congrArg some (by kernel_rfl))
  f23 := Tryz.func165.trans (congrArg some (by kernel_rfl))
  f24 := Tryz.func166.trans (congrArg some (by kernel_rfl))
  f25 := Tryz.func182.trans (congrArg some (by kernel_rfl))
  f26 := Tryz.func183.trans (congrArg some (by kernel_rfl))
  f27 := Tryz.func184.trans (congrArg some (by kernel_rfl))
  f28 := Tryz.func199.trans (congrArg some (by kernel_rfl))
  f29 := Tryz.func215.trans (congrArg some (by kernel_rfl))
  f30 := Tryz.func142.trans (congrArg some (by kernel_rfl))
  f31 := Tryz.func143.trans (congrArg some (by kernel_rfl))
  f32 := Tryz.func144.trans (congrArg some (by kernel_rfl))
  f33 := Tryz.func145.trans (congrArg some (by kernel_rfl))
  f34 := Tryz.func175.trans (congrArg some (by kernel_rfl))
  f35 := Tryz.func176.trans (congrArg some (by kernel_rfl))
  f36 := Tryz.func177.trans (congrArg some (by kernel_rfl))
  f37 := Tryz.func178.trans (congrArg some (by kernel_rfl))
  f38 := Tryz.func179.trans (congrArg some (by kernel_rfl))
  f39 := Tryz.func197.trans (congrArg some (by kernel_rfl))
  f40 := Tryz.func198.trans (congrArg some (by kernel_rfl))
  t0 := Tryz.underlying0
  a0 := Tryz.isAgg0
  z0 := Tryz.sizeOf0
  v0 := Tryz.zeroValue0
  i0 := by kernel_rfl
  t2 := Tryz.underlying2
  a2 := Tryz.isAgg2
  z2 := Tryz.sizeOf2
  v2 := Tryz.zeroValue2
  i2 := by kernel_rfl
  t3 := Tryz.underlying3
  a3 := Tryz.isAgg3
  z3 := Tryz.sizeOf3
  v3 := Tryz.zeroValue3
  i3 := by kernel_rfl
  t4 := Tryz.underlying4
  a4 := Tryz.isAgg4
  z4 := Tryz.sizeOf4
  v4 := Tryz.zeroValue4
  i4 := by kernel_rfl
  t5 := Tryz.underlying5
  a5 := Tryz.isAgg5
  z5 := Tryz.sizeOf5
  v5 := Tryz.zeroValue5
  i5 := by kernel_rfl
  t9 := Tryz.underlying9
  a9 := Tryz.isAgg9
  z9 := Tryz.sizeOf9
  v9 := Tryz.zeroValue9
  i9 := by kernel_rfl
  t20 := Tryz.underlying20
  a20 := Tryz.isAgg20
  z20 := Tryz.sizeOf20
  v20 := Tryz.zeroValue20
  i20 := by kernel_rfl
  t22 := Tryz.underlying37
  a22 := Tryz.isAgg37
  z22 := Tryz.sizeOf37
  v22 := Tryz.zeroValue37
  i22 := by kernel_rfl
  t24 := Tryz.underlying127
  a24 := Tryz.isAgg127
  z24 := Tryz.sizeOf127
  v24 := Tryz.zeroValue127
  i24 := by kernel_rfl
  t34 := Tryz.underlying212
  a34 := Tryz.isAgg212
  z34 := Tryz.sizeOf212
  v34 := Tryz.zeroValue212
  i34 := by kernel_rfl
  c34 := by kernel_rfl
  t36 := Tryz.underlying158
  a36 := Tryz.isAgg158
  z36 := Tryz.sizeOf158
  v36 := Tryz.zeroValue158
  i36 := by kernel_rfl
  t37 := Tryz.underlying47
  a37 := Tryz.isAgg47
  z37 := Tryz.sizeOf47
  v37 := Tryz.zeroValue47
  i37 := by kernel_rfl
  t39 := Tryz.underlying214
  a39 := Tryz.isAgg214
  z39 := Tryz.sizeOf214
  v39 := Tryz.zeroValue214
  i39 := by kernel_rfl
  t44 := Tryz.underlying231
  a44 := Tryz.isAgg231
  z44 := Tryz.sizeOf231
  v44 := Tryz.zeroValue231
  i44 := by kernel_rfl
  t47 := Tryz.underlying205
  a47 := Tryz.isAgg205
  z47 := Tryz.sizeOf205
  v47 := Tryz.zeroValue205
  i47 := by kernel_rfl
  t48 := Tryz.underlying246
  a48 := Tryz.isAgg246
  z48 := Tryz.sizeOf246
  v48 := Tryz.zeroValue246
  i48 := by kernel_rfl
  t50 := Tryz.underlying248
  a50 := Tryz.isAgg248
  z50 := Tryz.sizeOf248
  v50 := Tryz.zeroValue248
  i50 := by kernel_rfl
  t52 := Tryz.underlying196
  a52 := Tryz.isAgg196
  z52 := Tryz.sizeOf196
  v52 := Tryz.zeroValue196
  i52 := by kernel_rfl
  t55 := Tryz.underlying199
  a55 := Tryz.isAgg199
  z55 := Tryz.sizeOf199
  v55 := Tryz.zeroValue199
  i55 := by kernel_rfl
  t59 := Tryz.underlying224
  a59 := Tryz.isAgg224
  z59 := Tryz.sizeOf224
  v59 := Tryz.zeroValue224
  i59 := by kernel_rfl
  t60 := Tryz.underlying23
  a60 := Tryz.isAgg23
  z60 := Tryz.sizeOf23
  v60 := Tryz.zeroValue23
  i60 := by kernel_rfl
  t61 := Tryz.underlying225
  a61 := Tryz.isAgg225
  z61 := Tryz.sizeOf225
  t65 := Tryz.underlying259
  a65 := Tryz.isAgg259
  z65 := Tryz.sizeOf259
  v65 := Tryz.zeroValue259
  i65 := by kernel_rfl
  t66 := Tryz.underlying260
  a66 := Tryz.isAgg260
  z66 := Tryz.sizeOf260
  v66 := Tryz.zeroValue260
  i66 := by kernel_rfl
  t67 := Tryz.underlying91
  a67 := Tryz.isAgg91
  z67 := Tryz.sizeOf91
  v67 := Tryz.zeroValue91
  i67 := by kernel_rfl
  g0 := by kernel_rfl
  m0 := by kernel_rfl
  g1 := by kernel_rfl
  m1 := by kernel_rfl
  g2 := by kernel_rfl
  m2 := by kernel_rfl
  g3 := by kernel_rfl
  m3 := by kernel_rfl
  g4 := by kernel_rfl
  m4 := by kernel_rfl }

def Tryz.lowerP_ren : Go.Shelf.Ren := ⟨fun | 19 => 161 | n => n, fun | 5 => 5 | n => n, fun | n => n⟩
theorem Tryz.lowerP : Go.Proofs.LaysPu.n19 Tryz.prog Tryz.lowerP_ren := {
  mixed := by kernel_rfl
  f19 := Tryz.func161.trans (congrArg some (by kernel_rfl))
  t5 := Tryz.underlying5
  a5 := Tryz.isAgg5
  z5 := Tryz.sizeOf5
  v5 := Tryz.zeroValue5
  i5 := by kernel_rfl }

end Go.Proofs.YtaicibmaogiibaaGreatDoor

/- SgParse -/

/-
  Layer 11: strconv.ParseUint of a text to the base 16 and 32 bits: what 'Sg.read16' tells, or an error.
-/
set_option linter.unusedVariables false
set_option linter.unusedSimpArgs false
namespace Go.Proofs.YtaicibmaogiibaaGreatDoor.Sg
open Go Go.RowKit Go.Lib

theorem lower_any (c : Int) (w : World) : Calls Tryz.prog 161 #[.int .u8 c] w fun e w' => e = .returned (.int .u8 (bits .or .u8 c 32)) ∧ w' = w := AnyPu.internal_strconv_lower Tryz.lowerP c w

theorem parse_step {acc : Nat} {c : UInt8} {r : List UInt8} {d : Nat} (h : dv c = some d) (hn : ¬ 4294967295 < 16 * acc + d) : parse16 acc (c :: r) = parse16 (16 * acc + d) r := by
  rw [parse16, h]
  show (if 4294967295 < 16 * acc + d then _ else _) = _
  rw [if_neg hn]
theorem parse_over {acc : Nat} {c : UInt8} {r : List UInt8} {d : Nat} (h : dv c = some d) (hn : 4294967295 < 16 * acc + d) : parse16 acc (c :: r) = .range := by
  rw [parse16, h]
  show (if 4294967295 < 16 * acc + d then _ else _) = _
  rw [if_pos hn]
theorem parse_no {acc : Nat} {c : UInt8} {r : List UInt8} (h : dv c = none) : parse16 acc (c :: r) = NumEnd.syntax := by rw [parse16, h]
/-- 'lower' of a byte: what the walk wants of it -/
theorem low_bits (c : UInt8) : bits .or .u8 (c.toNat : Int) 32 = ((c.toNat ||| 32 : Nat) : Int) := by
  have : ∀ k : Fin 256, bits .or .u8 ((k.1 : Nat) : Int) 32 = ((k.1 ||| 32 : Nat) : Int) := by decide +kernel
  exact this ⟨c.toNat, c.toNat_lt⟩
theorem or_lt (c : Nat) (hc : c < 256) : c ||| 32 < 256 := by
  have : ∀ c : Fin 256, c.1 ||| 32 < 256 := by decide +kernel
  exact this ⟨c, hc⟩
theorem low_cases (c : Nat) (hc : c < 256) : (c ||| 32 = c ∨ c ||| 32 = c + 32) ∧ (97 ≤ (c ||| 32) ∧ (c ||| 32) ≤ 122 → (97 ≤ c ∧ c ≤ 122 ∧ c ||| 32 = c) ∨ (65 ≤ c ∧ c ≤ 90 ∧ c ||| 32 = c + 32)) ∧ (97 ≤ c ∧ c ≤ 122 → c ||| 32 = c) ∧ (65 ≤ c ∧ c ≤ 90 → c ||| 32 = c + 32) := by
  have : ∀ c : Fin 256, (c.1 ||| 32 = c.1 ∨ c.1 ||| 32 = c.1 + 32) ∧ (97 ≤ (c.1 ||| 32) ∧ (c.1 ||| 32) ≤ 122 → (97 ≤ c.1 ∧ c.1 ≤ 122 ∧ c.1 ||| 32 = c.1) ∨ (65 ≤ c.1 ∧ c.1 ≤ 90 ∧ c.1 ||| 32 = c.1 + 32)) ∧ (97 ≤ c.1 ∧ c.1 ≤ 122 → c.1 ||| 32 = c.1) ∧ (65 ≤ c.1 ∧ c.1 ≤ 90 → c.1 ||| 32 = c.1 + 32) := by decide +kernel
  exact this ⟨c, hc⟩
set_option maxHeartbeats 32000000 in
set_option maxRecDepth 100000 in
/-- internal/strconv.ParseUint(s, 16, 32), s not empty -/
theorem inner16 (t : ByteArray) (hne : t.size ≠ 0) (hmax : t.size ≤ 9223372036854775806) (w : World) :
    Calls Tryz.prog 130 #[.string t, .int .i64 16, .int .i64 32] w fun e w' => e = .returned (Lib.uintTupleM 212 4294967295 (parse16 0 t.data.toList)) ∧ w' = Lib.bytesWorld w 5 t := by
  have hemp : t.toList.isEmpty = false := by
    rw [← decide_eq_emptyBytes]
    exact decide_eq_false (fun h => hne (by rw [h]; rfl))
  have hcv := Lib.run_convert_string_bytes (P := Tryz.prog) w 9 47 5 t (u := .string) Tryz.underlying9 Tryz.underlying47 Tryz.underlying5
  have hB : ∀ j, j < t.size → (Lib.bytesWorld w 5 t).cell? ⟨w.heap.size, j, none⟩ = some (.int .u8 (t.data.toList.getD j 0).toNat) := fun j hj => Lib.bytesWorld_cell w 5 t j hj
  obtain ⟨W1, hW1⟩ : ∃ W1, W1 = Lib.bytesWorld w 5 t := ⟨_, rfl⟩
  rw [← hW1] at hcv hB ⊢
  clear hW1
  obtain ⟨bs, hL⟩ : ∃ bs, bs = t.data.toList := ⟨_, rfl⟩
  have hLn : bs.length = t.size := by rw [hL, Lib.size_eq]
  rw [← hL] at hB ⊢
  clear hL
  have hmv : IntKind.u64.wrap (IntKind.u64.wrap 4294967296 - 1) = 4294967295 := by
    rw [IntKind.wrap_u64, IntKind.wrap_u64]
    decide
  go_enter Tryz.func130, Tryz.ntmps130
  go_wp2
  go_loop [12, 13, 101] (fun vu vn vi => ∃ (k acc : Nat) (a : Int), vu = .bool false ∧ vn = .int .u64 a ∧ vi = .int .i64 k ∧ k ≤ t.size ∧ Hid (a = (acc : Int) ∧ acc ≤ 4294967295 ∧ parse16 0 bs = parse16 acc (bs.drop k)))
    (fun _ _ vi => t.size - (RowKit.intOf vi).toNat)
  case atStart => exact ⟨0, 0, 0, rfl, rfl, rfl, by omega, rfl, by omega, rfl⟩
  case round =>
    obtain ⟨k, acc, a, rfl, rfl, rfl, hk, hh⟩ := hrel
    obtain ⟨ha, hacc, hdec⟩ := hh.out
    clear hh
    have a0 : 0 ≤ a := by omega
    have a1 : a ≤ 4294967295 := by omega
    by_cases hkn : k < t.size
    · have hc := hB k hkn
      have hdrop : bs.drop k = bs[k]'(by omega) :: bs.drop (k + 1) := List.drop_eq_getElem_cons (by omega)
      have hget : bs.getD k 0 = bs[k]'(by omega) := by simp [List.getD, List.getElem?_eq_getElem (show k < bs.length by omega)]
      rw [hdrop] at hdec
      rw [hget] at hc
      generalize bs[k]'(by omega) = c at hc hdec
      have hc256 : c.toNat < 256 := c.toNat_lt
      have hlw := low_bits c
      have hlc := low_cases c.toNat hc256
      have hdv : dv c = (if 48 ≤ c.toNat ∧ c.toNat ≤ 57 then some (c.toNat - 48) else if 97 ≤ c.toNat ∧ c.toNat ≤ 102 then some (c.toNat - 87) else if 65 ≤ c.toNat ∧ c.toNat ≤ 70 then some (c.toNat - 55) else none) := rfl
      obtain ⟨cn, hcn⟩ : ∃ cn, cn = c.toNat := ⟨_, rfl⟩
      rw [← hcn] at hc hc256 hlw hlc hdv
      obtain ⟨lo, hlo⟩ : ∃ lo, lo = (cn ||| 32) := ⟨_, rfl⟩
      have hlow256 : lo < 256 := by rw [hlo]; exact or_lt cn hc256
      have hlo95 : cn = 95 → lo = 127 := fun e => by rw [hlo, e]; rfl
      rw [← hlo] at hlw hlc
      clear hB hdrop hget hcn hlo
      by_cases hdig : 48 ≤ cn ∧ cn ≤ 57
      · obtain ⟨hd0, hd1⟩ := hdig
        have hd : dv c = some (cn - 48) := by rw [hdv, if_pos ⟨hd0, hd1⟩]
        clear hlw hlc hdv hlo95 hlow256
        by_cases hov : 4294967295 < 16 * acc + (cn - 48)
        · have hF := parse_over (r := bs.drop (k + 1)) hd hov
          rw [hF] at hdec
          have iov : 4294967295 < a * 16 + ((cn : Int) - 48) := by omega
          clear hacc hF hov ha hd
          go_wp2
          go_ret2
          exact ⟨rfl, rfl⟩
        · have hF := parse_step (r := bs.drop (k + 1)) hd hov
          have HN : Hid (a * 16 + ((cn : Int) - 48) = ((16 * acc + (cn - 48) : Nat) : Int) ∧ 16 * acc + (cn - 48) ≤ 4294967295 ∧ parse16 0 bs = parse16 (16 * acc + (cn - 48)) (bs.drop (k + 1))) := Lib.hid ⟨by omega, by omega, hdec.trans hF⟩
          have iov : a * 16 + ((cn : Int) - 48) ≤ 4294967295 := by omega
          clear hacc hF hov hdec ha hd
          go_wp2
          refine ⟨⟨k + 1, 16 * acc + (cn - 48), a * 16 + ((cn : Int) - 48), rfl, (by first | rfl | (congr 1; omega)), (by first | rfl | (congr 1; omega)), by omega, HN⟩, by simp [RowKit.intOf]; omega⟩
      · have hlow : ∀ w, Calls Tryz.prog 161 #[.int .u8 (cn : Int)] w fun e w' => e = .returned (.int .u8 (lo : Int)) ∧ w' = w := fun w => (lower_any _ w).mono fun e w' h => ⟨by rw [← hlw]; exact h.1, h.2⟩
        by_cases hlet : 97 ≤ lo ∧ lo ≤ 102
        · have h95 : ¬ cn = 95 := fun e => by omega
          have h57 : 57 < cn := by rcases hlc.2.1 ⟨hlet.1, by omega⟩ with q | q <;> omega
          have hd : dv c = some (lo - 87) := by
            rw [hdv, if_neg hdig]
            rcases hlc.2.1 ⟨hlet.1, by omega⟩ with ⟨q1, q2, q3⟩ | ⟨q1, q2, q3⟩
            · rw [if_pos (by omega), q3]
            · rw [if_neg (by omega), if_pos (by omega), q3, show cn + 32 - 87 = cn - 55 by omega]
          obtain ⟨hd0, hd1⟩ := hlet
          clear hdig hlw hlc hdv hlo95 hlow256
          by_cases hov : 4294967295 < 16 * acc + (lo - 87)
          · have hF := parse_over (r := bs.drop (k + 1)) hd hov
            rw [hF] at hdec
            have iov : 4294967295 < a * 16 + ((lo : Int) - 87) := by omega
            clear hacc hF hov ha hd
            go_wp2_with fail
            refine (hlow _).mono ?_
            rintro e w' ⟨rfl, rfl⟩
            go_wp2_with fail
            refine (hlow _).mono ?_
            rintro e w' ⟨rfl, rfl⟩
            go_wp2_with fail
            refine (hlow _).mono ?_
            rintro e w' ⟨rfl, rfl⟩
            go_wp2_with fail
            go_ret2
            first | exact ⟨rfl, rfl⟩ | exact ⟨by rw [hdec]; rfl, rfl⟩
          · have hF := parse_step (r := bs.drop (k + 1)) hd hov
            have HN : Hid (a * 16 + ((lo : Int) - 87) = ((16 * acc + (lo - 87) : Nat) : Int) ∧ 16 * acc + (lo - 87) ≤ 4294967295 ∧ parse16 0 bs = parse16 (16 * acc + (lo - 87)) (bs.drop (k + 1))) := Lib.hid ⟨by omega, by omega, hdec.trans hF⟩
            have iov : a * 16 + ((lo : Int) - 87) ≤ 4294967295 := by omega
            clear hacc hF hov hdec ha hd
            go_wp2_with fail
            refine (hlow _).mono ?_
            rintro e w' ⟨rfl, rfl⟩
            go_wp2_with fail
            refine (hlow _).mono ?_
            rintro e w' ⟨rfl, rfl⟩
            go_wp2_with fail
            refine (hlow _).mono ?_
            rintro e w' ⟨rfl, rfl⟩
            go_wp2_with fail
            refine ⟨⟨k + 1, 16 * acc + (lo - 87), a * 16 + ((lo : Int) - 87), rfl, (by first | rfl | (congr 1; omega)), (by first | rfl | (congr 1; omega)), by omega, HN⟩, by simp [RowKit.intOf]; omega⟩
        · have hd : dv c = none := by
            rw [hdv, if_neg hdig]
            have q4 := hlc.2.2.1
            have q5 := hlc.2.2.2
            rw [if_neg (by omega), if_neg (by omega)]
          have hF := parse_no (acc := acc) (r := bs.drop (k + 1)) hd
          rw [hF] at hdec
          clear hacc hF ha hd hdv hlw
          have hlo256 : lo < 256 := by
            rcases hlc.1 with q | q
            · omega
            · exact hlow256
          clear hlc
          rcases (show cn < 48 ∨ 57 < cn by omega) with h57 | h57
          all_goals clear hdig
          all_goals (
            by_cases h95 : cn = 95
            · subst h95
              have e127 : lo = 127 := hlo95 rfl
              subst e127
              go_wp2_with fail
              refine (hlow _).mono ?_
              rintro e w' ⟨rfl, rfl⟩
              go_wp2_with fail
              refine (hlow _).mono ?_
              rintro e w' ⟨rfl, rfl⟩
              go_wp2_with fail
              go_ret2
              first | exact ⟨rfl, rfl⟩ | exact ⟨by rw [hdec]; rfl, rfl⟩
            · by_cases q1 : 97 ≤ lo
              · by_cases q2 : lo ≤ 122
                · have q3 : 103 ≤ lo := by omega
                  clear hlet
                  go_wp2_with fail
                  refine (hlow _).mono ?_
                  rintro e w' ⟨rfl, rfl⟩
                  go_wp2_with fail
                  refine (hlow _).mono ?_
                  rintro e w' ⟨rfl, rfl⟩
                  go_wp2_with fail
                  refine (hlow _).mono ?_
                  rintro e w' ⟨rfl, rfl⟩
                  go_wp2_with fail
                  go_ret2
                  first | exact ⟨rfl, rfl⟩ | exact ⟨by rw [hdec]; rfl, rfl⟩
                · clear hlet
                  go_wp2_with fail
                  refine (hlow _).mono ?_
                  rintro e w' ⟨rfl, rfl⟩
                  go_wp2_with fail
                  refine (hlow _).mono ?_
                  rintro e w' ⟨rfl, rfl⟩
                  go_wp2_with fail
                  go_ret2
                  first | exact ⟨rfl, rfl⟩ | exact ⟨by rw [hdec]; rfl, rfl⟩
              · clear hlet
                go_wp2_with fail
                refine (hlow _).mono ?_
                rintro e w' ⟨rfl, rfl⟩
                go_wp2_with fail
                go_ret2
                first | exact ⟨rfl, rfl⟩ | exact ⟨by rw [hdec]; rfl, rfl⟩)
    · have hkk : k = t.size := by omega
      subst hkk
      have hF : parse16 acc (bs.drop t.size) = .ok acc := by rw [List.drop_eq_nil_of_le (by omega)]; rfl
      rw [hF] at hdec
      subst ha
      clear hacc hF a0 a1
      go_wp2
      go_ret2
      exact ⟨rfl, rfl⟩

set_option maxHeartbeats 4000000 in
set_option maxRecDepth 100000 in
/-- .. of an empty text -/
theorem inner16_nil (w : World) : Calls Tryz.prog 130 #[.string ⟨#[]⟩, .int .i64 16, .int .i64 32] w fun e w' => e = .returned (.tuple #[.int .u64 0, .iface 212 (.int .i64 2)]) ∧ w' = w := by
  go_enter Tryz.func130, Tryz.ntmps130
  go_wp2
  go_ret2
  exact ⟨rfl, rfl⟩
/-- what strconv's own variables hold: an error each -/
structure Errs (w : World) : Prop where
  syn : ∃ te pe, w.cell? ⟨2, 0, none⟩ = some (.iface te pe)
  rng : ∃ te pe, w.cell? ⟨3, 0, none⟩ = some (.iface te pe)
theorem Errs.on {w w' : World} (h : Errs w) (hb : Below w.heap.size w w') : Errs w' := by
  obtain ⟨⟨t1, p1, h1⟩, ⟨t2, p2, h2⟩⟩ := h
  exact ⟨⟨t1, p1, (hb.cell (Lib.lt_of_cell h1)).trans h1⟩, ⟨t2, p2, (hb.cell (Lib.lt_of_cell h2)).trans h2⟩⟩
/-- what strconv.ParseUint tells -/
def Tells (r : NumEnd Nat) (v : Value) : Prop := match r with
  | .ok n => v = .tuple #[.int .u64 n, .nilIface]
  | NumEnd.syntax => ∃ t p, v = .tuple #[.int .u64 0, .iface t p]
  | .range => ∃ t p, v = .tuple #[.int .u64 4294967295, .iface t p]
theorem data_nil {t : ByteArray} (h : t.size = 0) : t = ⟨#[]⟩ := by
  obtain ⟨d⟩ := t
  have : d = #[] := Array.eq_empty_of_size_eq_zero h
  rw [this]
set_option maxHeartbeats 4000000 in
set_option maxRecDepth 100000 in
theorem number16 (t : ByteArray) (hmax : t.size ≤ 100000) (w : World) (hE : Errs w) :
    Calls Tryz.prog 83 #[.string t, .int .i64 16, .int .i64 32] w fun e w' => ∃ v, e = .returned v ∧ Tells (read16 t.data.toList) v ∧ Below w.heap.size w w' := by
  have hI : Calls Tryz.prog 130 #[.string t, .int .i64 16, .int .i64 32] w fun e w' => e = .returned (Lib.uintTupleM 212 4294967295 (read16 t.data.toList)) ∧ Below w.heap.size w w' := by
    by_cases h0 : t.size = 0
    · rw [data_nil h0]
      exact (inner16_nil w).mono fun e w' h => ⟨h.1, by rw [h.2]; exact Below.refl _ _⟩
    · refine (inner16 t h0 (by omega) w).mono fun e w' h => ⟨?_, by rw [h.2]; exact Lib.bytesWorld_below _ _ _⟩
      rw [h.1]
      unfold read16
      rw [if_neg]
      intro e
      have := congrArg List.length e
      rw [← Lib.size_eq] at this
      exact h0 this
  obtain ⟨r, hr⟩ : ∃ r, r = read16 t.data.toList := ⟨_, rfl⟩
  rw [← hr] at hI ⊢
  clear hr
  rcases r with n | _ | _
  · skip
    go_enter Tryz.func83, Tryz.ntmps83
    go_wp2_with fail
    refine hI.mono ?_
    rintro e W1 ⟨rfl, hb⟩
    have HB := Lib.hid hb
    clear hb
    unfold Lib.uintTupleM
    go_wp2_with fail
    go_ret2
    exact ⟨_, rfl, rfl, HB.out⟩
  · skip
    go_enter Tryz.func83, Tryz.ntmps83
    go_wp2_with fail
    refine hI.mono ?_
    rintro e W1 ⟨rfl, hb⟩
    obtain ⟨te, pe, hv⟩ := (hE.on hb).syn
    have HB := Lib.hid hb
    clear hb
    unfold Lib.uintTupleM
    go_wp2_with fail
    refine (AnyPu.strconv_toError_syntax Tryz.toErr ⟨#[80, 97, 114, 115, 101, 85, 105, 110, 116]⟩ t 16 32 (.iface te pe) W1 (by omega) hv (.inr ⟨te, pe, rfl⟩)).mono ?_
    rintro e W2 ⟨N, rfl, h1, h2, h3⟩
    have HB2 := Lib.hid (HB.out.trans (h3.mono HB.out.size))
    clear h1 h2 h3
    go_wp2_with fail
    go_ret2
    exact ⟨_, rfl, ⟨_, _, rfl⟩, HB2.out⟩
  · skip
    go_enter Tryz.func83, Tryz.ntmps83
    go_wp2_with fail
    refine hI.mono ?_
    rintro e W1 ⟨rfl, hb⟩
    obtain ⟨te, pe, hv⟩ := (hE.on hb).rng
    have HB := Lib.hid hb
    clear hb
    unfold Lib.uintTupleM
    go_wp2_with fail
    refine (AnyPu.strconv_toError_range Tryz.toErr ⟨#[80, 97, 114, 115, 101, 85, 105, 110, 116]⟩ t 16 32 (.iface te pe) W1 (by omega) hv (.inr ⟨te, pe, rfl⟩)).mono ?_
    rintro e W2 ⟨N, rfl, h1, h2, h3⟩
    have HB2 := Lib.hid (HB.out.trans (h3.mono HB.out.size))
    clear h1 h2 h3
    go_wp2_with fail
    go_ret2
    exact ⟨_, rfl, ⟨_, _, rfl⟩, HB2.out⟩

end Go.Proofs.YtaicibmaogiibaaGreatDoor.Sg

/- SgFmt -/

/-
  Layer 11: strconv.FormatUint of a number to the base 16.
-/
set_option linter.unusedVariables false
set_option linter.unusedSimpArgs false
namespace Go.Proofs.YtaicibmaogiibaaGreatDoor.Sg
open Go Go.RowKit

/-- the digits of strconv's text -/
def dtxt : ByteArray := ⟨#[48, 49, 50, 51, 52, 53, 54, 55, 56, 57, 97, 98, 99, 100, 101, 102, 103, 104, 105, 106, 107, 108, 109, 110, 111, 112, 113, 114, 115, 116, 117, 118, 119, 120, 121, 122]⟩
theorem dtxt_at (x : Nat) (h : x < 16) : ∀ (hx : x < dtxt.size), dtxt[x]'hx = dg16 x := by
  have : ∀ x : Fin 16, ∀ (hx : x.1 < dtxt.size), dtxt[x.1]'hx = dg16 x.1 := by decide +kernel
  exact this ⟨x, h⟩
theorem and15 (u : Nat) (h : u < 16777216) : bits .and .u64 (u : Int) 15 = ((u % 16 : Nat) : Int) := by
  have := bits_and_u64_nat u 15 (by omega) (by omega)
  rw [show ((15 : Nat) : Int) = 15 from rfl] at this
  rw [this, Nat.and_two_pow_sub_one_eq_mod u 4]
theorem hexK_next (k n : Nat) : hexK (k + 1) n = dg16 (n / 16 ^ k % 16) :: hexK k n := rfl
/-- a digit more, ahead of those that stand -/
theorem row_step {l : List UInt8} {i k n : Nat} (hl : l.length = 65) (hi : i + k = 64) (h : l.drop (i + 1) = hexK k n) : (l.set i (dg16 (n / 16 ^ k % 16))).length = 65 ∧ (l.set i (dg16 (n / 16 ^ k % 16))).drop i = hexK (k + 1) n := by
  refine ⟨by simp [hl], ?_⟩
  rw [hexK_next, ← h]
  rw [List.drop_eq_getElem_cons (by simp; omega)]
  simp only [List.getElem_set_self, List.cons.injEq, true_and]
  rw [List.drop_set, if_pos (by omega)]
theorem row_cell {W : World} {g : Nat} {l : List UInt8} {T : TypeId} (h : W.heap[g]? = some (.cells (bvs l).toArray T (0, 0))) {j : Nat} (hj : j < l.length) : ∃ c : UInt8, W.cell? ⟨g, j, none⟩ = some (.int .u8 (c.toNat : Int)) := by
  refine ⟨l[j], ?_⟩
  rw [cell_of_row W g j _ _ _ h]
  simp [bvs, bv, hj]
theorem row_frozen {W : World} {g : Nat} {l : List UInt8} {T : TypeId} (h : W.heap[g]? = some (.cells (bvs l).toArray T (0, 0))) (j : Nat) : W.frozen? ⟨g, j, none⟩ = false := by
  simp [World.frozen?, h]
theorem bvs_set (l : List UInt8) (i : Nat) (c : UInt8) : (bvs l).toArray.setIfInBounds i (.int .u8 (c.toNat : Int)) = (bvs (l.set i c)).toArray := by
  simp [bvs, List.map_set, bv]
set_option maxRecDepth 100000 in
theorem pow16 (w : World) : Calls Tryz.prog 178 #[.int .i64 16] w fun e w' => e = .returned (.bool true) ∧ w = w' := by
  have hb : bits .and .i64 16 15 = 0 := by decide +kernel
  go_enter Tryz.func178, Tryz.ntmps178
  go_wp2_with fail
  go_ret
  exact ⟨rfl, rfl⟩
set_option maxRecDepth 100000 in
theorem tz16 (w : World) (hT : w.cell? ⟨7, 15, none⟩ = some (.int .u8 4)) : Calls Tryz.prog 198 #[.int .u64 16] w fun e w' => e = .returned (.int .i64 4) ∧ w = w' := by
  have hz : IntKind.u64.wrap (bits .and .u64 16 (IntKind.u64.wrap (-16)) * 285870213051353865) / 288230376151711744 = 15 := by decide +kernel
  go_enter Tryz.func198, Tryz.ntmps198
  go_wp2_with fail
  go_ret
  exact ⟨rfl, rfl⟩
set_option maxRecDepth 100000 in
theorem tz16' (w : World) (hT : w.cell? ⟨7, 15, none⟩ = some (.int .u8 4)) : Calls Tryz.prog 179 #[.int .u64 16] w fun e w' => e = .returned (.int .i64 4) ∧ w = w' := by
  have h := tz16 w hT
  go_enter Tryz.func179, Tryz.ntmps179
  go_wp2_with fail
  refine h.mono ?_
  rintro e w' ⟨rfl, rfl⟩
  go_wp2_with fail
  go_ret
  exact ⟨rfl, rfl⟩
theorem few16 {n k : Nat} (hn : n < 16777216) (h : 16 ≤ n / 16 ^ k) : k ≤ 4 := by
  rcases Nat.lt_or_ge 4 k with h5 | h5
  · have h1 : 16 ^ 5 ≤ 16 ^ k := Nat.pow_le_pow_right (by omega) (by omega)
    have h2 : n / 16 ^ k ≤ n / 16 ^ 5 := Nat.div_le_div_left h1 (by decide)
    have h3 : n / 16 ^ 5 < 16 := Nat.div_lt_of_lt_mul (by omega)
    omega
  · exact h5
set_option maxHeartbeats 8000000 in
set_option maxRecDepth 100000 in
theorem bits16 (n : Nat) (hn : n < 16777216) (w : World) (hT : w.cell? ⟨7, 15, none⟩ = some (.int .u8 4)) :
    Calls Tryz.prog 145 #[.slice none 0 0, .int .u64 n, .int .i64 16, .bool false, .bool false] w fun e w' => ∃ k, e = .returned (.tuple #[.slice none 0 0, .string ⟨(hexK (k + 1) n).toArray⟩]) ∧ k < 6 ∧ n < 16 ^ (k + 1) ∧ Below w.heap.size w w' := by
  obtain ⟨W0, hW0⟩ : ∃ W0, W0 = w.alloc (Obj.cells Tryz.zeroCells225 225) := ⟨_, rfl⟩
  have hb0 : Below w.heap.size w W0 := by rw [hW0]; exact (Below.refl _ _).alloc (Nat.le_refl _) _
  have hblk : W0.heap[w.heap.size]? = some (.cells (bvs (List.replicate 65 0)).toArray 225 (0, 0)) := by rw [hW0]; exact heap_alloc_new w _
  have hT0 : W0.cell? ⟨7, 15, none⟩ = some (.int .u8 4) := (hb0.cell (Lib.lt_of_cell hT)).trans hT
  have hsz : W0.heap.size = w.heap.size + 1 := by rw [hW0]; simp
  go_enter Tryz.func145, Tryz.ntmps145
  go_wp2_with fail
  rw [← hW0]
  clear hW0
  refine (pow16 _).mono ?_
  rintro e w1 ⟨rfl, rfl⟩
  go_wp2_with fail
  refine (tz16' _ hT0).mono ?_
  rintro e w1 ⟨rfl, rfl⟩
  clear hT hT0
  have HB0 := Lib.hid hb0
  clear hb0
  obtain ⟨g, hg⟩ : ∃ g, g = w.heap.size := ⟨_, rfl⟩
  rw [← hg] at hblk hsz HB0 ⊢
  have HG := Lib.hid hg
  clear hg
  go_wp2_with fail
  go_loopw [1, 13] (fun vu vi wr => ∃ (u i : Nat), vu = .int .u64 u ∧ vi = .int .i64 i ∧ u < 16777216 ∧ 60 ≤ i ∧ i ≤ 65 ∧ Hid (∃ (k : Nat) (l : List UInt8), u = n / 16 ^ k ∧ i + k = 65 ∧ l.length = 65 ∧ l.drop i = hexK k n ∧ wr.heap[g]? = some (.cells (bvs l).toArray 225 (0, 0)) ∧ Below g w wr ∧ wr.heap.size = g + 1)) (fun _ vi _ => (RowKit.intOf vi).toNat)
  case atStart => exact ⟨n, 65, rfl, rfl, hn, by omega, by omega, Lib.hid ⟨0, _, by simp, rfl, by simp, rfl, hblk, HB0.out, hsz⟩⟩
  case round =>
    obtain ⟨u, i, rfl, rfl, hu, hi1, hi2, hh⟩ := hrel
    rename World => W
    obtain ⟨k, l, hk1, hk2, hk3, hk4, hk5, hk6, hk7⟩ := hh.out
    clear hh
    obtain ⟨j, rfl⟩ : ∃ j, i = j + 1 := ⟨i - 1, by omega⟩
    obtain ⟨c0, hc⟩ := row_cell hk5 (show j < l.length by omega)
    have hf := row_frozen hk5 j
    have hr := row_step hk3 (show j + k = 64 by omega) hk4
    have hset := Go.Joins.block_setCell (i := j) hk5 (.int .u8 ((dg16 (u % 16)).toNat : Int))
    rw [bvs_set] at hset
    rw [← hk1] at hr
    by_cases h16 : 16 ≤ u
    · have h15 := and15 u hu
      have hE : ∀ hx, (⟨#[48, 49, 50, 51, 52, 53, 54, 55, 56, 57, 97, 98, 99, 100, 101, 102, 103, 104, 105, 106, 107, 108, 109, 110, 111, 112, 113, 114, 115, 116, 117, 118, 119, 120, 121, 122]⟩ : ByteArray)[u % 16]'hx = dg16 (u % 16) := dtxt_at (u % 16) (by omega)
      have HK := Lib.hid (show _ ∧ _ ∧ _ ∧ _ ∧ _ ∧ _ ∧ _ ∧ _ from ⟨hk1, hk2, hk3, hk6, hk7, hr, hset, hi1⟩)
      clear hk1 hk2 hk3 hk4 hk5 hk6 hk7 hr hset
      go_wp2_with fail
      obtain ⟨q1, q2, q3, q6, q7, q8, q9, _⟩ := HK.out
      have h4 : k ≤ 4 := few16 hn (q1 ▸ h16)
      exact ⟨⟨u / 16, j, (by first | rfl | (congr 1; omega)), rfl, by omega, by omega, by omega, Lib.hid ⟨k + 1, _, by rw [div_next, ← q1], by omega, q8.1, q8.2, q9, q6.setCell (Nat.le_refl _) _, by simpa using q7⟩⟩, by simp [RowKit.intOf]⟩
    · have hE : ∀ hx, (⟨#[48, 49, 50, 51, 52, 53, 54, 55, 56, 57, 97, 98, 99, 100, 101, 102, 103, 104, 105, 106, 107, 108, 109, 110, 111, 112, 113, 114, 115, 116, 117, 118, 119, 120, 121, 122]⟩ : ByteArray)[u]'hx = dg16 (u % 16) := by rw [Nat.mod_eq_of_lt (show u < 16 by omega)]; exact dtxt_at u (by omega)
      have hSl : ∀ w, (Instr.sliceAt 225 (.pointer (some ⟨g, 0, none⟩)) (some (.int .i64 (j : Int))) none none).run Tryz.prog w = .ok (.slice (some ⟨g, j, none⟩) (65 - j) (65 - j)) w := fun w => by
        have ha : Tryz.prog.arrayLen 225 = 65 := by kernel_rfl
        have he : Tryz.prog.elem 225 = 5 := by kernel_rfl
        rw [run_sliceAt_array_l w 225 ⟨g, 0, none⟩ (by kernel_rfl) .i64 (j : Int) (by omega) (by rw [ha]; omega), he, Tryz.sizeOf5]
        show Result.ok (slicedAt _ _ _ _ _) w = _
        rw [ha]
        unfold slicedAt
        rw [if_neg (by omega), show ((j : Int)).toNat = j by omega]
        simp [Addr.add]
        omega
      have hcv : ∀ w', w'.heap[g]? = some (.cells (bvs (l.set j (dg16 (u % 16)))).toArray 225 (0, 0)) → (convert 47 9 (.slice (some ⟨g, j, none⟩) (65 - j) (65 - j))).run Tryz.prog w' = .ok (.string ⟨(hexK (k + 1) n).toArray⟩) w' := fun w' hw => by
        have hrd : Rd w' (g + 1) (some ⟨g, j, none⟩) (bvs (hexK (k + 1) n)) := fun _ => ⟨g, j, rfl, by omega, fun x v hv => by
          rw [cell_of_row w' g (j + x) _ _ _ hw]
          rw [← hr.2] at hv
          simp only [bvs, List.map_drop, List.getElem?_drop] at hv
          simpa [bvs] using hv⟩
        have h1 := convert_rd (P := Tryz.prog) hrd (65 - j) 47 5 9 Tryz.underlying47 Tryz.underlying5 Tryz.underlying9
        rw [hexK_len, show k + 1 = 65 - j by omega] at h1
        rw [show k + 1 = 65 - j by omega]
        exact h1
      have hcv1 := hcv _ hset
      have HK := Lib.hid (show _ ∧ _ ∧ _ ∧ _ ∧ _ ∧ _ ∧ _ ∧ _ from ⟨hk1, hk2, hk3, hk6, hk7, hr, hset, hi1⟩)
      clear hk1 hk2 hk3 hk4 hk5 hk6 hk7 hr hset
      clear hcv
      go_wp2_with fail
      obtain ⟨q1, q2, q3, q6, q7, q8, q9, _⟩ := HK.out
      have h5 : k < 6 := by omega
      have hlt : n < 16 ^ (k + 1) := by
        have h1 : n / 16 ^ k < 16 := by omega
        have := (Nat.div_lt_iff_lt_mul (Nat.pow_pos (by decide : 0 < 16))).1 h1
        rw [Nat.pow_succ]
        omega
      go_ret2
      exact ⟨k, rfl, h5, hlt, HG.out ▸ q6.setCell (Nat.le_refl _) _⟩
set_option maxRecDepth 100000 in
theorem inner_fmt (n : Nat) (hn : n < 16777216) (w : World) (hT : w.cell? ⟨7, 15, none⟩ = some (.int .u8 4)) :
    Calls Tryz.prog 107 #[.int .u64 n, .int .i64 16] w fun e w' => ∃ k, e = .returned (.string ⟨(hexK (k + 1) n).toArray⟩) ∧ k < 6 ∧ n < 16 ^ (k + 1) ∧ Below w.heap.size w w' := by
  have h := bits16 n hn w hT
  clear hT
  go_enter Tryz.func107, Tryz.ntmps107
  go_wp2_with fail
  refine h.mono ?_
  rintro e w1 ⟨k, rfl, h1, h2, h3⟩
  have HB := Lib.hid (And.intro h1 (And.intro h2 h3))
  clear h1 h2 h3
  go_wp2_with fail
  go_ret
  exact ⟨k, rfl, HB.out.1, HB.out.2.1, HB.out.2.2⟩
set_option maxRecDepth 100000 in
theorem fmt16 (n : Nat) (hn : n < 16777216) (w : World) (hT : w.cell? ⟨7, 15, none⟩ = some (.int .u8 4)) :
    Calls Tryz.prog 63 #[.int .u64 n, .int .i64 16] w fun e w' => ∃ k, e = .returned (.string ⟨(hexK (k + 1) n).toArray⟩) ∧ k < 6 ∧ n < 16 ^ (k + 1) ∧ Below w.heap.size w w' := by
  have h := inner_fmt n hn w hT
  clear hT
  go_enter Tryz.func63, Tryz.ntmps63
  go_wp2_with fail
  refine h.mono ?_
  rintro e w1 ⟨k, rfl, h1, h2, h3⟩
  have HB := Lib.hid (And.intro h1 (And.intro h2 h3))
  clear h1 h2 h3
  go_wp2_with fail
  go_ret
  exact ⟨k, rfl, HB.out.1, HB.out.2.1, HB.out.2.2⟩

end Go.Proofs.YtaicibmaogiibaaGreatDoor.Sg

/- Shelf11R -/

/-
  The shelf's contracts laid at this dump, in plain words (tools/shelf.py): tables of numbers, and for each laying one theorem, a field a fact of the dump.
-/
namespace Go.Proofs.YtaicibmaogiibaaGreatDoor
open Go.Shelf

def Tryz.repeatS_ren : Go.Shelf.Ren := ⟨fun | 105 => 64 | 212 => 108 | 99 => 109 | 165 => 110 | 166 => 111 | 170 => 112 | 169 => 113 | 263 => 146 | 264 => 147 | 206 => 148 | 240 => 149 | 241 => 150 | 276 => 180 | 277 => 181 | n => n, fun | 9 => 9 | 3 => 3 | 4 => 4 | 20 => 20 | 0 => 0 | 46 => 158 | 109 => 159 | 5 => 5 | 72 => 164 | 76 => 165 | 51 => 23 | 146 => 201 | 53 => 37 | 148 => 203 | 70 => 162 | 37 => 47 | 75 => 127 | 127 => 205 | 164 => 226 | 80 => 91 | n => n, fun | n => n⟩
theorem Tryz.repeatS : Go.Proofs.Lays.n105 Tryz.prog Tryz.repeatS_ren := {
  mixed := by kernel_rfl
  f99 := Tryz.func109.trans (congrArg some (by kernel_rfl))
  f105 := Tryz.func64.trans (congrArg some (by kernel_rfl))
  f165 := Tryz.func110.trans (congrArg some (by kernel_rfl))
  f166 := Tryz.func111.trans (congrArg some (by kernel_rfl))
  f169 := Tryz.func113.trans (congrArg some (by kernel_rfl))
  f170 := Tryz.func112.trans (congrArg some (by kernel_rfl))
  f206 := Tryz.func148.trans (congrArg some (by kernel_rfl))
  f212 := Tryz.func108.trans (congrArg some (by kernel_rfl))
  f240 := Tryz.func149.trans (congrArg some (by kernel_rfl))
  f241 := Tryz.func150.trans (congrArg some (by kernel_rfl))
  f263 := Tryz.func146.trans (congrArg some (by kernel_rfl))
  f264 := Tryz.func147.trans (congrArg some (by kernel_rfl))
  f276 := Tryz.func180.trans (congrArg some (by kernel_rfl))
  f277 := Tryz.func181.trans (congrArg some (by kernel_rfl))
  t0 := Tryz.underlying0
  a0 := Tryz.isAgg0
  z0 := Tryz.sizeOf0
  v0 := Tryz.zeroValue0
  t3 := Tryz.underlying3
  a3 := Tryz.isAgg3
  z3 := Tryz.sizeOf3
  v3 := Tryz.zeroValue3
  t4 := Tryz.underlying4
  a4 := Tryz.isAgg4
  z4 := Tryz.sizeOf4
  v4 := Tryz.zeroValue4
  t5 := Tryz.underlying5
  a5 := Tryz.isAgg5
  z5 := Tryz.sizeOf5
  v5 := Tryz.zeroValue5
  t9 := Tryz.underlying9
  a9 := Tryz.isAgg9
  z9 := Tryz.sizeOf9
  v9 := Tryz.zeroValue9
  t20 := Tryz.underlying20
  a20 := Tryz.isAgg20
  z20 := Tryz.sizeOf20
  v20 := Tryz.zeroValue20
  t37 := Tryz.underlying47
  a37 := Tryz.isAgg47
  z37 := Tryz.sizeOf47
  v37 := Tryz.zeroValue47
  t46 := Tryz.underlying158
  a46 := Tryz.isAgg158
  z46 := Tryz.sizeOf158
  v46 := Tryz.zeroValue158
  t51 := Tryz.underlying23
  a51 := Tryz.isAgg23
  z51 := Tryz.sizeOf23
  v51 := Tryz.zeroValue23
  t53 := Tryz.underlying37
  a53 := Tryz.isAgg37
  z53 := Tryz.sizeOf37
  v53 := Tryz.zeroValue37
  t70 := Tryz.underlying162
  a70 := Tryz.isAgg162
  z70 := Tryz.sizeOf162
  v70 := Tryz.zeroValue162
  t72 := Tryz.underlying164
  a72 := Tryz.isAgg164
  z72 := Tryz.sizeOf164
  v72 := Tryz.zeroValue164
  t75 := Tryz.underlying127
  a75 := Tryz.isAgg127
  z75 := Tryz.sizeOf127
  v75 := Tryz.zeroValue127
  t76 := Tryz.underlying165
  a76 := Tryz.isAgg165
  z76 := Tryz.sizeOf165
  v76 := Tryz.zeroValue165
  t109 := Tryz.underlying159
  a109 := Tryz.isAgg159
  z109 := Tryz.sizeOf159
  v109 := Tryz.zeroValue159
  t127 := Tryz.underlying205
  a127 := Tryz.isAgg205
  z127 := Tryz.sizeOf205
  v127 := Tryz.zeroValue205
  t146 := Tryz.underlying201
  a146 := Tryz.isAgg201
  z146 := Tryz.sizeOf201
  v146 := Tryz.zeroValue201
  t148 := Tryz.underlying203
  a148 := Tryz.isAgg203
  z148 := Tryz.sizeOf203
  v148 := Tryz.zeroValue203
  t164 := Tryz.underlying226
  a164 := Tryz.isAgg226
  z164 := Tryz.sizeOf226
  v164 := Tryz.zeroValue226 }

def Tryz.trimP_ren : Go.Shelf.Ren := ⟨fun | 101 => 84 | 208 => 132 | 206 => 148 | n => n, fun | 9 => 9 | 4 => 4 | 3 => 3 | n => n, fun | n => n⟩
theorem Tryz.trimP : Go.Proofs.Lays.n101 Tryz.prog Tryz.trimP_ren := {
  mixed := by kernel_rfl
  f101 := Tryz.func84.trans (congrArg some (by kernel_rfl))
  f206 := Tryz.func148.trans (congrArg some (by kernel_rfl))
  f208 := Tryz.func132.trans (congrArg some (by kernel_rfl))
  t3 := Tryz.underlying3
  a3 := Tryz.isAgg3
  z3 := Tryz.sizeOf3
  v3 := Tryz.zeroValue3
  t4 := Tryz.underlying4
  a4 := Tryz.isAgg4
  z4 := Tryz.sizeOf4
  v4 := Tryz.zeroValue4
  t9 := Tryz.underlying9
  a9 := Tryz.isAgg9
  z9 := Tryz.sizeOf9
  v9 := Tryz.zeroValue9 }

end Go.Proofs.YtaicibmaogiibaaGreatDoor

/- SgName -/

/-
  Layer 11: a segment's name, and its id: the program's and the document's.
-/
set_option linter.unusedVariables false
set_option linter.unusedSimpArgs false
namespace Go.Proofs.YtaicibmaogiibaaGreatDoor.Sg
open Go Go.RowKit

set_option maxRecDepth 100000 in
theorem extraB : Builder.Extra Tryz.prog Tryz.repeatS_ren where
  sizeBuilder := by kernel_rfl
  liesBuilder := by kernel_rfl
  t5 := Tryz.underlying5
  a5 := Tryz.isAgg5
  z5 := Tryz.sizeOf5
  v5 := Tryz.zeroValue5
  infoByte := by kernel_rfl
  cellsByte := by kernel_rfl
  sizeByte := by kernel_rfl
  neB5 := by decide
theorem repeat_zero : ∀ c, Lib.repeatL [48] c = List.replicate c 48
  | 0 => rfl
  | c + 1 => by rw [Lib.repeatL, repeat_zero c]; rfl
theorem zeros (c : Nat) (hc : c ≤ 6) (w : World) : Calls Tryz.prog 64 #[.string ⟨#[48]⟩, .int .i64 c] w fun e w' => e = .returned (.string ⟨(List.replicate c 48).toArray⟩) ∧ Below w.heap.size w w' := by
  have h := Any.strings_Repeat Tryz.repeatS extraB ⟨#[48]⟩ c w (by omega) (by show 1 * c ≤ _; omega)
  rw [show (⟨#[48]⟩ : ByteArray).data.toList = [48] from rfl, repeat_zero] at h
  exact h
/-- what the walks of names lean on: the variables of the standard library -/
structure Std (w : World) : Prop where
  errs : Errs w
  tz : w.cell? ⟨7, 15, none⟩ = some (.int .u8 4)
theorem Std.on {w w' : World} (h : Std w) (hb : Below w.heap.size w w') : Std w' := ⟨h.errs.on hb, (hb.cell (Lib.lt_of_cell h.tz)).trans h.tz⟩
theorem smay_any (n : Nat) (w : World) : Calls Tryz.prog 62 #[.int .u32 n] w fun e w' => e = .returned (.bool (decide (1 ≤ n ∧ n ≤ 16777215))) ∧ w = w' := by
  by_cases h1 : 1 ≤ n
  · have i1 : (1 : Int) ≤ n := by omega
    by_cases h2 : n ≤ 16777215
    · have i2 : (n : Int) ≤ 16777215 := by omega
      rw [decide_eq_true ⟨h1, h2⟩]
      go_enter Tryz.func62, Tryz.ntmps62
      go_wp2_with fail
      go_ret
      exact ⟨rfl, rfl⟩
    · have i2 : ¬ (n : Int) ≤ 16777215 := by omega
      rw [decide_eq_false (fun e => h2 e.2)]
      go_enter Tryz.func62, Tryz.ntmps62
      go_wp2_with fail
      go_ret
      exact ⟨rfl, rfl⟩
  · have i1 : ¬ (1 : Int) ≤ n := by omega
    rw [decide_eq_false (fun e => h1 e.1)]
    go_enter Tryz.func62, Tryz.ntmps62
    go_wp2_with fail
    go_ret
    exact ⟨rfl, rfl⟩
theorem mk_size (l : List UInt8) : (⟨l.toArray⟩ : ByteArray).size = l.length := by
  show l.toArray.size = _
  simp
theorem mk_app (a b : List UInt8) : (⟨a.toArray⟩ : ByteArray) ++ ⟨b.toArray⟩ = ⟨(a ++ b).toArray⟩ := by
  apply ByteArray.ext
  simp
set_option maxRecDepth 100000 in
theorem name_any (n : Nat) (hn : n < 4294967296) (w : World) (hS : Std w) : Calls Tryz.prog 22 #[.int .u32 n] w fun e w' => e = .returned (.string (nameB n)) ∧ Below w.heap.size w w' := by
  have hm := smay_any n w
  have HS := Lib.hid hS
  clear hS
  by_cases h : 1 ≤ n ∧ n ≤ 16777215
  · rw [decide_eq_true h] at hm
    have HN : Hid (nameB n = ⟨(pre ++ hexK 6 n).toArray⟩) := by unfold nameB nameL; rw [if_pos h]; exact rfl
    obtain ⟨h1, h2⟩ := h
    have hw : IntKind.u64.wrap (n : Int) = n := IntWalk.u64_in _ (by omega)
    go_enter Tryz.func22, Tryz.ntmps22
    go_wp2_with fail
    refine hm.mono ?_
    rintro e w1 ⟨rfl, rfl⟩
    go_wp2_with fail
    refine (fmt16 n (by omega) w HS.out.tz).mono ?_
    rintro e w1 ⟨k, rfl, h3, h4, h5⟩
    have hsz := mk_size (hexK (k + 1) n)
    rw [hexK_len] at hsz
    obtain ⟨T, hT⟩ : ∃ T, T = (⟨(hexK (k + 1) n).toArray⟩ : ByteArray) := ⟨_, rfl⟩
    rw [← hT] at hsz ⊢
    have HT := Lib.hid hT
    have H3 := Lib.hid (And.intro h4 h5)
    clear hT h4 h5
    go_wp2_with fail
    rw [show (6 - ((k : Int) + 1)) = ((5 - k : Nat) : Int) by omega]
    have hz := zeros (5 - k) (by omega) w1
    obtain ⟨Z, hZ⟩ : ∃ Z, Z = (⟨(List.replicate (5 - k) 48).toArray⟩ : ByteArray) := ⟨_, rfl⟩
    rw [← hZ] at hz
    have HZ := Lib.hid hZ
    have hZs : Z.size = 5 - k := by rw [hZ, mk_size, List.length_replicate]
    clear hZ
    refine hz.mono ?_
    rintro e w2 ⟨rfl, hb⟩
    clear hz
    have HB := Lib.hid (H3.out.2.trans (hb.mono H3.out.2.size))
    clear hb
    have hfin : Hid ((⟨#[115, 101, 103, 45]⟩ : ByteArray) ++ Z ++ T = nameB n) := Lib.hid <| by
      rw [HN.out, HT.out, HZ.out, show (⟨#[115, 101, 103, 45]⟩ : ByteArray) = ⟨pre.toArray⟩ from rfl, mk_app, mk_app, List.append_assoc, hex_zeros H3.out.1, show 5 - k + (k + 1) = 6 by omega]
    go_wp2_with fail
    go_ret
    exact ⟨by rw [← hfin.out]; rfl, HB.out⟩
  · rw [decide_eq_false h] at hm
    have HN : Hid (nameB n = ⟨#[]⟩) := by unfold nameB nameL; rw [if_neg h]; exact rfl
    clear h
    go_enter Tryz.func22, Tryz.ntmps22
    go_wp2_with fail
    refine hm.mono ?_
    rintro e w1 ⟨rfl, rfl⟩
    go_wp2_with fail
    go_ret
    exact ⟨by rw [HN.out]; rfl, Below.refl _ _⟩
theorem beq_no {a b : ByteArray} (h : ¬ a = b) : (a.toList == b.toList) = false := by
  rw [Lib.toList_data, Lib.toList_data]
  simp [ByteArray.ext_iff] at h ⊢
  exact h
theorem trim_eq (l : List UInt8) : Lib.trimPrefix l pre = trim l := by
  unfold Lib.trimPrefix Lib.hasPrefix trim
  have h : pre.isPrefixOf l = true ↔ l.take 4 = pre := by
    rw [List.isPrefixOf_iff_prefix, List.prefix_iff_eq_take]
    exact ⟨fun e => e.symm, fun e => e.symm⟩
  by_cases h1 : l.take 4 = pre
  · rw [if_pos h1, if_pos (h.2 h1)]; rfl
  · rw [if_neg h1, if_neg (fun e => h1 (h.1 e))]
def told (l : List UInt8) (r : Lib.NumEnd Nat) : Nat × Bool := match r with
  | .ok n => if nameL n = l then (n, true) else (0, false)
  | _ => (0, false)
set_option maxRecDepth 100000 in
theorem id_any (t : ByteArray) (ht : t.size ≤ 1000) (w : World) (hS : Std w) : Calls Tryz.prog 35 #[.string t] w fun e w' => e = .returned (.tuple #[.int .u32 ((refId t.data.toList).1 : Int), .bool (refId t.data.toList).2]) ∧ Below w.heap.size w w' := by
  rw [← id_ref]
  have hp : Calls Tryz.prog 84 #[.string t, .string ⟨#[115, 101, 103, 45]⟩] w fun e w' => e = .returned (.string ⟨(trim t.data.toList).toArray⟩) ∧ w' = w := by
    rw [← trim_eq]
    exact Any.strings_TrimPrefix Tryz.trimP t ⟨#[115, 101, 103, 45]⟩ w
  have HS := Lib.hid hS
  obtain ⟨T, hT⟩ : ∃ T, T = (⟨(trim t.data.toList).toArray⟩ : ByteArray) := ⟨_, rfl⟩
  have hTl : T.data.toList = trim t.data.toList := by rw [hT]
  have hTs : T.size ≤ 1000 := by
    rw [Lib.size_eq, hTl]
    have : (trim t.data.toList).length ≤ t.data.toList.length := by unfold trim; split <;> simp
    rw [← Lib.size_eq] at this
    omega
  rw [← hT] at hp
  have hI : idP t.data.toList = told t.data.toList (read16 T.data.toList) := by rw [hTl]; rfl
  have hN := number16 T (by omega) w hS.errs
  have hle := @read_le T.data.toList
  rw [hI]
  obtain ⟨r, hr⟩ : ∃ r, r = read16 T.data.toList := ⟨_, rfl⟩
  rw [← hr] at hN hle ⊢
  obtain ⟨R, hR⟩ : ∃ R : Nat × Bool, R = told t.data.toList r := ⟨_, rfl⟩
  rw [← hR]
  have HR := Lib.hid hR
  clear hI hTl hT hr hS hTs hR
  go_enter Tryz.func35, Tryz.ntmps35
  go_wp2_with fail
  refine hp.mono ?_
  rintro e w1 ⟨rfl, rfl⟩
  clear hp
  go_wp2_with fail
  refine hN.mono ?_
  rintro e w1 ⟨v, rfl, hv, hb⟩
  rcases r with n | _ | _
  · skip
    have hn := hle rfl
    obtain rfl : v = .tuple #[.int .u64 n, .nilIface] := hv
    have hS1 := HS.out.on hb
    have HB := Lib.hid hb
    have hw : IntKind.u32.wrap (n : Int) = n := IntWalk.u32_in _ (by omega)
    clear hb
    go_wp2_with fail
    refine (name_any n (by omega) w1 hS1).mono ?_
    rintro e w2 ⟨rfl, hb2⟩
    have HB2 := Lib.hid (HB.out.trans (hb2.mono HB.out.size))
    clear hb2 hS1
    by_cases hq : nameL n = t.data.toList
    · have hnb : nameB n = t := by
        show (⟨(nameL n).toArray⟩ : ByteArray) = t
        rw [hq]
      have hf : Hid (R = (n, true)) := Lib.hid (by rw [HR.out]; exact if_pos hq)
      clear hq HR
      rw [hnb]
      clear hnb
      go_wp2_with fail
      go_ret2
      exact ⟨by rw [hf.out]; rfl, HB2.out⟩
    · have hnb : ¬ nameB n = t := fun e => hq (by rw [← e]; rfl)
      have hf : Hid (R = (0, false)) := Lib.hid (by rw [HR.out]; exact if_neg hq)
      clear hq HR
      have hnl := beq_no hnb
      generalize nameB n = nn at *
      go_wp2_with fail
      go_ret2
      exact ⟨by rw [hf.out]; rfl, HB2.out⟩
  · skip
    obtain ⟨t1, p1, rfl⟩ := hv
    have HB := Lib.hid hb
    clear hb
    go_wp2_with fail
    go_ret2
    exact ⟨by rw [HR.out]; rfl, HB.out⟩
  · skip
    obtain ⟨t1, p1, rfl⟩ := hv
    have HB := Lib.hid hb
    clear hb
    go_wp2_with fail
    go_ret2
    exact ⟨by rw [HR.out]; rfl, HB.out⟩

end Go.Proofs.YtaicibmaogiibaaGreatDoor.Sg

