
/-
  Layer 9: edits as plain mathematics: which seals and edits may be, their bytes, and how bytes are read.
-/
import Derived.Test.YtggijjknfcofoaaDoorPxForm
set_option linter.unusedVariables false
set_option linter.unusedSimpArgs false
namespace Go.Proofs.YtggijjknfcofoaaDoor.Ed

structure Sl where
  id : Nat
  size : Nat
  many : Nat
  first : Nat
  last : Nat
deriving DecidableEq

structure E where
  kind : Int
  name : ByteArray
  seq : Nat
  id : Nat
  seals : List Sl
deriving DecidableEq

def none : E := ⟨0, ⟨#[]⟩, 0, 0, []⟩
def nameL (e : E) : List UInt8 := e.name.data.toList

def mayS (s : Sl) : Bool :=
  decide (1 ≤ s.id ∧ s.id ≤ 16777215 ∧ 16 ≤ s.size ∧ s.size ≤ 16777216 ∧ s.many ≤ 4294967295 ∧
    ((s.many = 0 ∧ s.first = 0 ∧ s.last = 0) ∨ (1 ≤ s.many ∧ 1 ≤ s.first ∧ s.last ≤ 1099511627776 ∧ s.first + s.many ≤ s.last + 1)))

/-- seals that may be, of rising ids above a -/
def upS : Nat → List Sl → Bool
  | _, [] => true
  | a, s :: r => mayS s && decide (a < s.id) && upS s.id r

/-- bounds of a number, by the kind -/
def seqB (k : Int) : Nat × Nat := if k = 1 ∨ k = 2 ∨ k = 6 then (0, 1099511627776) else (0, 0)
def nameT (k : Int) : Bool := decide (k = 2 ∨ k = 3)
def idB (k : Int) : Nat × Nat := if k = 4 then (1, 16777215) else (0, 0)
def manyB (k : Int) : Nat × Nat := if k = 5 then (1, 1) else if k = 6 then (0, 200) else (0, 0)
def inB (b : Nat × Nat) (n : Nat) : Bool := decide (b.1 ≤ n ∧ n ≤ b.2)
def nameOk (k : Int) (n : Nat) : Bool := if nameT k then decide (1 ≤ n ∧ n ≤ 32) else decide (n = 0)

def mayE (e : E) : Bool :=
  decide (1 ≤ e.kind ∧ e.kind ≤ 6) && inB (seqB e.kind) e.seq && nameOk e.kind e.name.size && inB (idB e.kind) e.id && inB (manyB e.kind) e.seals.length && upS 0 e.seals

def partL (b : Nat × Nat) (n : Nat) : List UInt8 := if b.1 = b.2 then [] else Px.formL n
def sealL (s : Sl) : List UInt8 := Px.formL s.id ++ (Px.formL s.size ++ (Px.formL s.many ++ if s.many = 0 then [] else Px.formL s.first ++ Px.formL (s.last - s.first)))
def sealsL : List Sl → List UInt8
  | [] => []
  | s :: r => sealL s ++ sealsL r
def namePart (e : E) : List UInt8 := if nameT e.kind then Px.formL e.name.size ++ nameL e else []
def bodyL (e : E) : List UInt8 := partL (seqB e.kind) e.seq ++ (namePart e ++ (partL (idB e.kind) e.id ++ (partL (manyB e.kind) e.seals.length ++ sealsL e.seals)))
def bytesE (e : E) : List UInt8 := UInt8.ofNat e.kind.toNat :: bodyL e

/-- what reads bytes: what it tells and what is left, or an error -/
abbrev P (α : Type) := List UInt8 → Except Nat (α × List UInt8)
def ret {α : Type} (x : α) : P α := fun l => .ok (x, l)
def bnd {α β : Type} (p : P α) (q : α → P β) : P β := fun l => match p l with
  | .ok (x, r) => q x r
  | .error e => .error e
def num (lo hi : Nat) : P Nat := fun l => match Px.getN l with
  | (n, k, e) => if e = 0 then (if lo ≤ n ∧ n ≤ hi then .ok (n, l.drop k) else .error 5) else .error e
def tk (n : Nat) : P (List UInt8) := fun l => if l.length < n then .error 4 else .ok (l.take n, l.drop n)
def part (b : Nat × Nat) : P Nat := if b.1 = b.2 then ret b.1 else num b.1 b.2
def name : P (List UInt8) := bnd (num 1 32) tk
def nameP (k : Int) : P (List UInt8) := if nameT k then name else ret []
def sealTail (id size many : Nat) : P Sl := if many = 0 then ret ⟨id, size, 0, 0, 0⟩ else
  bnd (num 1 1099511627776) fun first => bnd (num (many - 1) (1099511627776 - first)) fun d => ret ⟨id, size, many, first, first + d⟩
def sealP (a : Nat) : P Sl := bnd (num (a + 1) 16777215) fun id => bnd (num 16 16777216) fun size => bnd (num 0 4294967295) fun many => sealTail id size many
def sealsP : Nat → Nat → P (List Sl)
  | 0, _ => ret []
  | n + 1, a => bnd (sealP a) fun s => bnd (sealsP n s.id) fun r => ret (s :: r)
def kindP : P Int := fun l => match l with
  | [] => .error 4
  | x :: r => .ok ((x.toNat : Int), r)
def bodyP (k : Int) : P E := bnd (part (seqB k)) fun seq => bnd (nameP k) fun nm => bnd (part (idB k)) fun id => bnd (part (manyB k)) fun many => bnd (sealsP many 0) fun ss => ret ⟨k, ⟨nm.toArray⟩, seq, id, ss⟩
def getP : P E := bnd kindP fun k => if 1 ≤ k ∧ k ≤ 6 then bodyP k else fun _ => .error 5
def getE (l : List UInt8) : Except Nat E := match getP l with
  | .ok (e, []) => .ok e
  | .ok (_, _ :: _) => .error 5
  | .error c => .error c

/-- s is just what p reads as x -/
def Fwd {α : Type} (p : P α) (s : List UInt8) (x : α) : Prop := (∀ r, p (s ++ r) = .ok (x, r)) ∧ ∀ j, j < s.length → p (s.take j) = .error 4
theorem ret_fwd {α : Type} (x : α) : Fwd (ret x) [] x := ⟨fun r => rfl, fun j h => by simp at h⟩
theorem bnd_fwd {α β : Type} {p : P α} {q : α → P β} {s t : List UInt8} {x : α} {y : β} (hp : Fwd p s x) (hq : Fwd (q x) t y) : Fwd (bnd p q) (s ++ t) y := by
  refine ⟨fun r => ?_, fun j hj => ?_⟩
  · unfold bnd
    rw [List.append_assoc, hp.1]
    exact hq.1 r
  · unfold bnd
    rcases Nat.lt_or_ge j s.length with h | h
    · rw [List.take_append_of_le_length (by omega), hp.2 j h]
    · rw [List.take_append, List.take_of_length_le h, hp.1]
      exact hq.2 _ (by simp at hj; omega)
theorem num_fwd {lo hi n : Nat} (h1 : lo ≤ n) (h2 : n ≤ hi) (h3 : n < 18446744073709551616) : Fwd (num lo hi) (Px.formL n) n := by
  refine ⟨fun r => ?_, fun j hj => ?_⟩
  · unfold num
    rw [Px.get_form n h3]
    simp only [if_true]
    rw [if_pos ⟨h1, h2⟩, ← Px.formL_length n, List.drop_left]
  · unfold num
    rw [Px.formL_lt_short n h3 j (by rw [← Px.formL_length]; exact hj)]
    rfl
theorem tk_fwd {n : Nat} {s : List UInt8} (h : s.length = n) : Fwd (tk n) s s := by
  subst h
  refine ⟨fun r => ?_, fun j hj => ?_⟩
  · unfold tk
    rw [if_neg (by simp), List.take_left, List.drop_left]
  · unfold tk
    rw [if_pos (by simp; omega)]
theorem part_fwd {b : Nat × Nat} {n : Nat} (h : inB b n = true) (hb : b.2 < 18446744073709551616) : Fwd (part b) (partL b n) n := by
  simp only [inB, decide_eq_true_eq] at h
  unfold part partL
  split
  · rw [show n = b.1 by omega]
    exact ret_fwd _
  · exact num_fwd h.1 h.2 (by omega)
theorem sealP_fwd {a : Nat} {s : Sl} (h : mayS s = true) (ha : a < s.id) : Fwd (sealP a) (sealL s) s := by
  simp only [mayS, decide_eq_true_eq] at h
  obtain ⟨h1, h2, h3, h4, h4', h5⟩ := h
  unfold sealP sealL
  refine bnd_fwd (num_fwd (by omega) h2 (by omega)) (bnd_fwd (num_fwd h3 h4 (by omega)) ?_)
  refine bnd_fwd (x := s.many) (num_fwd (by omega) (by omega) (by omega)) ?_
  unfold sealTail
  rcases h5 with ⟨h5, h6, h7⟩ | ⟨h5, h6, h7, h8⟩
  · rw [if_pos h5, if_pos h5]
    obtain ⟨i, z, m, f, l⟩ := s
    simp only at h5 h6 h7
    subst h5 h6 h7
    exact ret_fwd _
  · rw [if_neg (by omega), if_neg (by omega)]
    refine bnd_fwd (num_fwd h6 (by omega) (by omega)) ?_
    have := bnd_fwd (p := num (s.many - 1) (1099511627776 - s.first)) (q := fun d => ret (⟨s.id, s.size, s.many, s.first, s.first + d⟩ : Sl)) (t := []) (num_fwd (n := s.last - s.first) (by omega) (by omega) (by omega)) (ret_fwd _)
    rw [List.append_nil] at this
    rw [show s.first + (s.last - s.first) = s.last by omega] at this
    exact this
theorem sealsP_fwd : ∀ (l : List Sl) (a : Nat), upS a l = true → Fwd (sealsP l.length a) (sealsL l) l
  | [], _, _ => ret_fwd _
  | s :: r, a, h => by
    simp only [upS, Bool.and_eq_true, decide_eq_true_eq] at h
    have := bnd_fwd (q := fun r => ret (s :: r)) (sealsP_fwd r s.id h.2) (ret_fwd (s :: r))
    rw [List.append_nil] at this
    exact bnd_fwd (q := fun s => bnd (sealsP r.length s.id) fun r => ret (s :: r)) (sealP_fwd h.1.1 h.1.2) this
theorem seqB_lt (k : Int) : (seqB k).2 < 18446744073709551616 := by unfold seqB; split <;> simp only <;> omega
theorem idB_lt (k : Int) : (idB k).2 < 18446744073709551616 := by unfold idB; split <;> simp only <;> omega
theorem manyB_lt (k : Int) : (manyB k).2 < 18446744073709551616 := by by_cases h1 : k = 5 <;> by_cases h2 : k = 6 <;> simp [manyB, h1, h2]
structure May (e : E) : Prop where
  k1 : 1 ≤ e.kind
  k6 : e.kind ≤ 6
  seq : inB (seqB e.kind) e.seq = true
  name : nameOk e.kind e.name.size = true
  id : inB (idB e.kind) e.id = true
  many : inB (manyB e.kind) e.seals.length = true
  seals : upS 0 e.seals = true
theorem may_iff {e : E} : mayE e = true ↔ May e := by
  unfold mayE
  simp only [Bool.and_eq_true, decide_eq_true_eq]
  constructor
  · rintro ⟨⟨⟨⟨⟨⟨h1, h2⟩, h3⟩, h4⟩, h5⟩, h6⟩, h7⟩
    exact ⟨h1, h2, h3, h4, h5, h6, h7⟩
  · rintro ⟨h1, h2, h3, h4, h5, h6, h7⟩
    exact ⟨⟨⟨⟨⟨⟨h1, h2⟩, h3⟩, h4⟩, h5⟩, h6⟩, h7⟩
theorem size_nameL (e : E) : (nameL e).length = e.name.size := by
  obtain ⟨k, ⟨d⟩, q, i, ss⟩ := e
  simp [nameL, ByteArray.size]
theorem name_fwd {e : E} (h : May e) : Fwd (nameP e.kind) (namePart e) (nameL e) := by
  have hn := h.name
  unfold nameP namePart
  unfold nameOk at hn
  split
  · rename_i hk
    rw [if_pos hk] at hn
    simp only [decide_eq_true_eq] at hn
    exact bnd_fwd (num_fwd hn.1 hn.2 (by omega)) (tk_fwd (size_nameL e))
  · rename_i hk
    rw [if_neg hk] at hn
    simp only [decide_eq_true_eq] at hn
    have : nameL e = [] := List.eq_nil_of_length_eq_zero (by rw [size_nameL]; exact hn)
    rw [this]
    exact ret_fwd _
theorem body_fwd {e : E} (h : May e) : Fwd (bodyP e.kind) (bodyL e) e := by
  unfold bodyP bodyL
  refine bnd_fwd (part_fwd h.seq (seqB_lt _)) (bnd_fwd (name_fwd h) (bnd_fwd (part_fwd h.id (idB_lt _)) (bnd_fwd (part_fwd h.many (manyB_lt _)) ?_)))
  have := bnd_fwd (q := fun ss => ret (⟨e.kind, ⟨(nameL e).toArray⟩, e.seq, e.id, ss⟩ : E)) (sealsP_fwd e.seals 0 h.seals) (ret_fwd (⟨e.kind, ⟨(nameL e).toArray⟩, e.seq, e.id, e.seals⟩ : E))
  rw [List.append_nil] at this
  exact this
theorem kind_fwd {k : Int} (h1 : 1 ≤ k) (h6 : k ≤ 6) : Fwd kindP [UInt8.ofNat k.toNat] k := by
  refine ⟨fun r => ?_, fun j hj => ?_⟩
  · simp only [kindP, List.cons_append, List.nil_append]
    rw [UInt8.toNat_ofNat_of_lt' (by simp [UInt8.size]; omega)]
    simp
    omega
  · simp at hj
    subst hj
    rfl
theorem getP_fwd {e : E} (h : May e) : Fwd getP (bytesE e) e := by
  refine bnd_fwd (s := [UInt8.ofNat e.kind.toNat]) (kind_fwd h.k1 h.k6) ?_
  rw [if_pos ⟨h.k1, h.k6⟩]
  exact body_fwd h
theorem get_bytes {e : E} (h : mayE e = true) : getE (bytesE e) = .ok e := by
  have := (getP_fwd (may_iff.1 h)).1 []
  rw [List.append_nil] at this
  unfold getE
  rw [this]
theorem get_behind {e : E} (h : mayE e = true) {r : List UInt8} (hr : r ≠ []) : getE (bytesE e ++ r) = .error 5 := by
  unfold getE
  rw [(getP_fwd (may_iff.1 h)).1 r]
  rcases r with _ | ⟨x, r⟩
  · exact absurd rfl hr
  · rfl
theorem get_cut {e : E} (h : mayE e = true) {j : Nat} (hj : j < (bytesE e).length) : getE ((bytesE e).take j) = .error 4 := by
  unfold getE
  rw [(getP_fwd (may_iff.1 h)).2 j hj]

theorem num_bwd {lo hi n : Nat} {l r : List UInt8} (h : num lo hi l = .ok (n, r)) : lo ≤ n ∧ n ≤ hi ∧ n < 18446744073709551616 ∧ l = Px.formL n ++ r := by
  unfold num at h
  rcases Px.getN_cases l with (h1 | h1) | ⟨m, k, h1, h2, h3, h4, h5, h6⟩
  · rw [h1] at h; simp at h
  · rw [h1] at h; simp at h
  · rw [h1] at h
    simp only [if_true] at h
    split at h
    · rename_i hb
      injection h with h
      injection h with ha hb'
      subst ha hb'
      refine ⟨hb.1, hb.2, h2, ?_⟩
      rw [h6, List.take_append_drop]
    · cases h
theorem num_err {lo hi c : Nat} {l : List UInt8} (h : num lo hi l = .error c) : c = 4 ∨ c = 5 := by
  unfold num at h
  rcases Px.getN_cases l with (h1 | h1) | ⟨m, k, h1, h2, h3, h4, h5, h6⟩
  · rw [h1] at h; simp at h; omega
  · rw [h1] at h; simp at h; omega
  · rw [h1] at h
    simp only [if_true] at h
    split at h
    · cases h
    · injection h with h; omega
def Err {α : Type} (p : P α) : Prop := ∀ l c, p l = .error c → c = 4 ∨ c = 5
theorem bnd_ok {α β : Type} {p : P α} {q : α → P β} {l r : List UInt8} {y : β} (h : bnd p q l = .ok (y, r)) : ∃ x m, p l = .ok (x, m) ∧ q x m = .ok (y, r) := by
  unfold bnd at h
  split at h
  · rename_i x m hp
    exact ⟨x, m, hp, h⟩
  · cases h
theorem bnd_err {α β : Type} {p : P α} {q : α → P β} (hp : Err p) (hq : ∀ x, Err (q x)) : Err (bnd p q) := by
  intro l c h
  unfold bnd at h
  split at h
  · exact hq _ _ _ h
  · rename_i e he
    injection h with h
    subst h
    exact hp _ _ he
theorem ret_err {α : Type} (x : α) : Err (ret x) := fun l c h => by cases h
theorem num_Err (lo hi : Nat) : Err (num lo hi) := fun l c h => num_err h
theorem tk_Err (n : Nat) : Err (tk n) := fun l c h => by
  unfold tk at h
  split at h
  · injection h with h; omega
  · cases h
theorem part_Err (b : Nat × Nat) : Err (part b) := by
  unfold part
  split
  · exact ret_err _
  · exact num_Err _ _
theorem sealP_Err (a : Nat) : Err (sealP a) := by
  refine bnd_err (num_Err _ _) fun id => bnd_err (num_Err _ _) fun size => bnd_err (num_Err _ _) fun many => ?_
  unfold sealTail
  split
  · exact ret_err _
  · exact bnd_err (num_Err _ _) fun first => bnd_err (num_Err _ _) fun d => ret_err _
theorem sealsP_Err : ∀ (n a : Nat), Err (sealsP n a)
  | 0, _ => ret_err _
  | n + 1, a => bnd_err (sealP_Err a) fun s => bnd_err (sealsP_Err n s.id) fun r => ret_err _
theorem nameP_Err (k : Int) : Err (nameP k) := by
  unfold nameP
  split
  · exact bnd_err (num_Err _ _) fun n => tk_Err n
  · exact ret_err _
theorem getP_Err : Err getP := by
  refine bnd_err (fun l c h => ?_) fun k => ?_
  · unfold kindP at h
    split at h
    · injection h with h; omega
    · cases h
  · split
    · exact bnd_err (part_Err _) fun seq => bnd_err (nameP_Err k) fun nm => bnd_err (part_Err _) fun id => bnd_err (part_Err _) fun many => bnd_err (sealsP_Err _ _) fun ss => ret_err _
    · exact fun l c h => by injection h with h; omega
theorem get_err {l : List UInt8} {c : Nat} (h : getE l = .error c) : c = 4 ∨ c = 5 := by
  unfold getE at h
  split at h
  · cases h
  · injection h with h; omega
  · rename_i e he
    injection h with h
    subst h
    exact getP_Err _ _ he
theorem part_bwd {b : Nat × Nat} {n : Nat} {l r : List UInt8} (h : part b l = .ok (n, r)) : inB b n = true ∧ l = partL b n ++ r := by
  unfold part at h
  unfold partL inB
  split at h
  · rename_i hb
    rw [if_pos hb]
    injection h with h
    injection h with h1 h2
    subst h1 h2
    simp
    omega
  · rename_i hb
    rw [if_neg hb]
    obtain ⟨h1, h2, _, h3⟩ := num_bwd h
    exact ⟨by simp; omega, h3⟩
theorem sealP_bwd {a : Nat} {s : Sl} {l r : List UInt8} (h : sealP a l = .ok (s, r)) : mayS s = true ∧ a < s.id ∧ l = sealL s ++ r := by
  obtain ⟨id, l1, h1, g1⟩ := bnd_ok h
  clear h
  obtain ⟨size, l2, h2, g2⟩ := bnd_ok g1
  clear g1
  obtain ⟨many, l3, h3, h⟩ := bnd_ok g2
  clear g2
  obtain ⟨a1, a2, _, rfl⟩ := num_bwd h1
  obtain ⟨b1, b2, _, rfl⟩ := num_bwd h2
  obtain ⟨c1, c2, _, rfl⟩ := num_bwd h3
  replace h : sealTail id size many l3 = _ := h
  unfold sealTail at h
  split at h
  · rename_i hm
    injection h with h
    injection h with e1 e2
    subst e1 e2 hm
    refine ⟨?_, by simp only; omega, ?_⟩
    · simp only [mayS, decide_eq_true_eq]
      refine ⟨by omega, by omega, by omega, by omega, by omega, .inl (by simp)⟩
    · simp [sealL]
  · rename_i hm
    obtain ⟨first, l4, h4, g3⟩ := bnd_ok h
    clear h
    obtain ⟨d, l5, h5, h⟩ := bnd_ok g3
    clear g3
    obtain ⟨d1, d2, _, rfl⟩ := num_bwd h4
    obtain ⟨e1, e2, _, rfl⟩ := num_bwd h5
    injection h with h
    injection h with f1 f2
    subst f1 f2
    refine ⟨?_, by simp only; omega, ?_⟩
    · simp only [mayS, decide_eq_true_eq]
      omega
    · simp only [sealL, if_neg hm, List.append_assoc]
      rw [show first + d - first = d by omega]
theorem sealsP_bwd : ∀ (n a : Nat) {ss : List Sl} {l r : List UInt8}, sealsP n a l = .ok (ss, r) → upS a ss = true ∧ ss.length = n ∧ l = sealsL ss ++ r
  | 0, a, ss, l, r, h => by
    injection h with h
    injection h with h1 h2
    subst h1 h2
    exact ⟨rfl, rfl, rfl⟩
  | n + 1, a, ss, l, r, h => by
    obtain ⟨s, l1, h1, h⟩ := bnd_ok h
    obtain ⟨rs, l2, h2, h⟩ := bnd_ok h
    injection h with h
    injection h with e1 e2
    subst e1 e2
    obtain ⟨a1, a2, rfl⟩ := sealP_bwd h1
    obtain ⟨b1, b2, rfl⟩ := sealsP_bwd n s.id h2
    refine ⟨by simp [upS, a1, a2, b1], by simp [b2], by simp [sealsL]⟩
theorem name_bwd {k : Int} {nm l r : List UInt8} (h : nameP k l = .ok (nm, r)) : nameOk k nm.length = true ∧ l = (if nameT k then Px.formL nm.length ++ nm else []) ++ r := by
  unfold nameP at h
  unfold nameOk
  split at h
  · rename_i hk
    rw [if_pos hk, if_pos hk]
    obtain ⟨n, l1, h1, g⟩ := bnd_ok h
    clear h
    have h := g
    clear g
    obtain ⟨a1, a2, _, rfl⟩ := num_bwd h1
    replace h : tk n l1 = _ := h
    unfold tk at h
    split at h
    · cases h
    · rename_i hl
      injection h with h
      injection h with e1 e2
      subst e1 e2
      have hn : (l1.take n).length = n := by simp; omega
      rw [hn]
      exact ⟨by simp; omega, by simp⟩
  · rename_i hk
    rw [if_neg hk, if_neg hk]
    injection h with h
    injection h with e1 e2
    subst e1 e2
    exact ⟨rfl, rfl⟩
theorem get_back {l : List UInt8} {e : E} (h : getE l = .ok e) : mayE e = true ∧ bytesE e = l := by
  unfold getE at h
  split at h
  · rename_i e' hg
    injection h with h
    subst h
    obtain ⟨k, l1, h1, h⟩ := bnd_ok hg
    unfold kindP at h1
    split at h1
    · cases h1
    · rename_i x r
      injection h1 with h1
      injection h1 with e1 e2
      subst e1 e2
      split at h
      · rename_i hk
        obtain ⟨seq, m1, a1, h⟩ := bnd_ok h
        obtain ⟨nm, m2, a2, h⟩ := bnd_ok h
        obtain ⟨id, m3, a3, h⟩ := bnd_ok h
        obtain ⟨many, m4, a4, h⟩ := bnd_ok h
        obtain ⟨ss, m5, a5, h⟩ := bnd_ok h
        injection h with h
        injection h with e3 e4
        subst e3 e4
        obtain ⟨b1, rfl⟩ := part_bwd a1
        obtain ⟨b2, rfl⟩ := name_bwd a2
        obtain ⟨b3, rfl⟩ := part_bwd a3
        obtain ⟨b4, rfl⟩ := part_bwd a4
        obtain ⟨b5, b6, rfl⟩ := sealsP_bwd _ _ a5
        have hsz : (⟨nm.toArray⟩ : ByteArray).size = nm.length := by simp [ByteArray.size]
        refine ⟨may_iff.2 ⟨hk.1, hk.2, b1, by rw [hsz]; exact b2, b3, by rw [b6]; exact b4, b5⟩, ?_⟩
        unfold bytesE bodyL namePart nameL
        rw [hsz, b6]
        simp
      · cases h
  · cases h
  · cases h
/-- two edits: their bytes -/
theorem apart {x y : E} (hx : mayE x = true) (hy : mayE y = true) {r : List UInt8} (h : bytesE x = bytesE y ++ r) : x = y ∧ r = [] := by
  by_cases hr : r = []
  · subst hr
    rw [List.append_nil] at h
    have h1 := get_bytes hx
    rw [h, get_bytes hy] at h1
    injection h1 with h1
    exact ⟨h1.symm, rfl⟩
  · have h1 := get_bytes hx
    rw [h, get_behind hy hr] at h1
    cases h1
theorem bytes_eq {x y : E} (hx : mayE x = true) (hy : mayE y = true) : (bytesE x == bytesE y) = decide (x = y) := by
  rw [Bool.eq_iff_iff, beq_iff_eq, decide_eq_true_eq]
  constructor
  · intro h
    exact (apart hx hy (r := []) (by rw [List.append_nil]; exact h)).1
  · intro h
    rw [h]
theorem upS_mem : ∀ (l : List Sl) (a : Nat), upS a l = true → ∀ s ∈ l, mayS s = true
  | [], _, _, s, hs => by cases hs
  | x :: r, a, h, s, hs => by
    simp only [upS, Bool.and_eq_true, decide_eq_true_eq] at h
    rcases List.mem_cons.1 hs with rfl | hs
    · exact h.1.1
    · exact upS_mem r x.id h.2 s hs
theorem mayS_order {s : Sl} (h : mayS s = true) (hm : s.many ≠ 0) : s.first ≤ s.last := by
  simp only [mayS, decide_eq_true_eq] at h
  omega
theorem many_le (k : Int) (n : Nat) (h : inB (manyB k) n = true) : n ≤ 200 := by
  simp only [inB, decide_eq_true_eq] at h
  unfold manyB at h
  by_cases h1 : k = 5
  · simp [h1] at h; omega
  · by_cases h2 : k = 6
    · simp [h2] at h; omega
    · simp [h1, h2] at h; omega
theorem sealL_len (s : Sl) : (sealL s).length ≤ 45 := by
  have := Px.sizeN_pos s.id
  have := Px.sizeN_pos s.size
  have := Px.sizeN_pos s.many
  have := Px.sizeN_pos s.first
  have := Px.sizeN_pos (s.last - s.first)
  unfold sealL
  split <;> simp [Px.formL_length] <;> omega
theorem sealsL_len : ∀ l : List Sl, (sealsL l).length ≤ 45 * l.length
  | [] => by simp [sealsL]
  | s :: r => by
    have := sealsL_len r
    have := sealL_len s
    simp [sealsL]
    omega
theorem bytesE_len {e : E} (h : mayE e = true) : (bytesE e).length ≤ 9223372036854775807 := by
  have hm := may_iff.1 h
  have h1 := many_le _ _ hm.many
  have h2 := sealsL_len e.seals
  have hp : ∀ (b : Nat × Nat) n, (partL b n).length ≤ 9 := fun b n => by
    unfold partL
    split
    · simp
    · rw [Px.formL_length]; exact (Px.sizeN_pos n).2
  have h3 : (namePart e).length ≤ 41 := by
    unfold namePart
    split
    · rename_i hk
      have hn := hm.name
      unfold nameOk at hn
      rw [if_pos hk] at hn
      simp at hn
      have := (Px.sizeN_pos e.name.size).2
      rw [List.length_append, Px.formL_length, size_nameL]
      omega
    · simp
  have h4 := hp (seqB e.kind) e.seq
  have h5 := hp (idB e.kind) e.id
  have h6 := hp (manyB e.kind) e.seals.length
  unfold bytesE bodyL
  simp only [List.length_cons, List.length_append]
  omega
theorem sealsL_append : ∀ l m : List Sl, sealsL (l ++ m) = sealsL l ++ sealsL m
  | [], m => rfl
  | s :: r, m => by simp [sealsL, sealsL_append r m]
end Go.Proofs.YtggijjknfcofoaaDoor.Ed
