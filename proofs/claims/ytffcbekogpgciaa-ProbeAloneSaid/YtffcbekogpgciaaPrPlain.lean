
/-
  Layer 14 (a table of keys by their hashes), as plain mathematics: the lay, slot by slot; what finding, laying and taking do to it; there is one lay only.
-/
import Derived.Lib.Bytealg
set_option linter.unusedVariables false
set_option linter.unusedSimpArgs false
namespace Go.Proofs.Ytffcbekogpgciaa.Pr
open Go.Lib (compareBytes)

/-! ## the order of keys -/
theorem cmp_cons (x y : UInt8) (a b : List UInt8) : compareBytes (x :: a) (y :: b) = if x.toNat < y.toNat then -1 else if y.toNat < x.toNat then 1 else compareBytes a b := by
  simp only [compareBytes, UInt8.lt_iff_toNat_lt]
theorem cmp_neg : ∀ a b : List UInt8, compareBytes b a = - compareBytes a b
  | [], [] => by simp [compareBytes]
  | [], _ :: _ => by simp [compareBytes]
  | _ :: _, [] => by simp [compareBytes]
  | x :: a, y :: b => by
    have ih := cmp_neg a b
    rw [cmp_cons, cmp_cons]
    split <;> split <;> (try split) <;> omega
theorem cmp_zero : ∀ a b : List UInt8, compareBytes a b = 0 ↔ a = b
  | [], [] => by simp [compareBytes]
  | [], _ :: _ => by simp [compareBytes]
  | _ :: _, [] => by simp [compareBytes]
  | x :: a, y :: b => by
    have ih := cmp_zero a b
    have h3 := @UInt8.toNat_inj x y
    rw [cmp_cons, List.cons.injEq, ← ih, ← h3]
    split
    · omega
    · split <;> omega
theorem cmp_trans : ∀ a b c : List UInt8, compareBytes a b ≤ 0 → compareBytes b c ≤ 0 → compareBytes a c ≤ 0
  | [], _, [], _, _ => by simp [compareBytes]
  | [], _, _ :: _, _, _ => by simp [compareBytes]
  | _ :: _, [], _, h, _ => by simp [compareBytes] at h
  | _ :: _, _ :: _, [], _, h => by simp [compareBytes] at h
  | x :: a, y :: b, z :: c, h, k => by
    have ih := cmp_trans a b c
    rw [cmp_cons] at h k ⊢
    split
    · omega
    · split
      · split at h
        · split at k
          · omega
          · split at k <;> omega
        · split at h
          · omega
          · split at k
            · omega
            · split at k <;> omega
      · split at h
        · split at k
          · omega
          · split at k <;> omega
        · split at h
          · omega
          · split at k
            · omega
            · split at k
              · omega
              · exact ih h k
/-- a key below another one -/
def kl (a b : List UInt8) : Prop := compareBytes a b < 0
theorem kl_irrefl (a : List UInt8) : ¬ kl a a := by have := (cmp_zero a a).2 rfl; unfold kl; omega
theorem kl_asymm {a b : List UInt8} (h : kl a b) : ¬ kl b a := by have := cmp_neg a b; unfold kl at *; omega
theorem kl_ne {a b : List UInt8} (h : kl a b) : a ≠ b := fun e => kl_irrefl a (by rw [← e] at h; exact h)
theorem kl_total {a b : List UInt8} (h : a ≠ b) : kl a b ∨ kl b a := by
  have h1 := cmp_neg a b
  have h2 : compareBytes a b ≠ 0 := fun e => h ((cmp_zero a b).1 e)
  unfold kl
  omega
theorem kl_trans {a b c : List UInt8} (h : kl a b) (k : kl b c) : kl a c := by
  have h1 := cmp_trans a b c (by unfold kl at h; omega) (by unfold kl at k; omega)
  have h2 : compareBytes a c ≠ 0 := fun e => by
    have := (cmp_zero a c).1 e
    subst this
    exact kl_asymm h k
  unfold kl
  omega

/-- not above -/
def kle (a b : List UInt8) : Prop := compareBytes a b ≤ 0
theorem kl_le {a b : List UInt8} (h : kl a b) : kle a b := by unfold kl kle at *; omega
theorem kle_trans {a b c : List UInt8} (h : kle a b) (k : kle b c) : kle a c := cmp_trans a b c h k
theorem kle_anti {a b : List UInt8} (h : kle a b) (k : kle b a) : a = b := by
  have h1 := cmp_neg a b
  unfold kle at *
  exact (cmp_zero a b).1 (by omega)
theorem kl_not {a b : List UInt8} (h : ¬ kl a b) : kle b a := by
  have h1 := cmp_neg a b
  unfold kl kle at *
  omega
theorem kle_not {a b : List UInt8} (h : kle a b) : ¬ kl b a := by
  have h1 := cmp_neg a b
  unfold kl kle at *
  omega
theorem kle_ne {a b : List UInt8} (h : kle a b) (hn : a ≠ b) : kl a b := by
  rcases kl_total hn with h1 | h1
  · exact h1
  · exact absurd h1 (kle_not h)

/-! ## slots -/
/-- who stands in a slot: its key, number, distance -/
structure E where
  key : List UInt8
  n : Nat
  far : Nat
/-- being ahead in one slot -/
def Ahead (a b : E) : Prop := b.far < a.far ∨ (a.far = b.far ∧ kl a.key b.key)
instance (a b : List UInt8) : Decidable (kl a b) := by unfold kl; infer_instance
instance (a b : E) : Decidable (Ahead a b) := by unfold Ahead; infer_instance
/-- the slots, gone round -/
def at_ (sl : List (Option E)) (i : Nat) : Option E := sl.getD (i % sl.length) none
/-- e may stand behind x -/
def Fol (x : Option E) (e : E) : Prop := e.far = 0 ∨ ∃ y, x = some y ∧ (e.far < y.far + 1 ∨ (e.far = y.far + 1 ∧ kle y.key e.key))
structure Lay (h : List UInt8 → Nat) (sl : List (Option E)) : Prop where
  home : ∀ i e, at_ sl i = some e → (h e.key + e.far) % sl.length = i % sl.length
  fol : ∀ i e, at_ sl (i + 1) = some e → Fol (at_ sl i) e
/-- no key twice -/
def Once (sl : List (Option E)) : Prop := ∀ i j e e', at_ sl i = some e → at_ sl j = some e' → e.key = e'.key → i % sl.length = j % sl.length
def Emp (sl : List (Option E)) : Prop := ∃ p, at_ sl p = none

section
variable {h : List UInt8 → Nat} {sl : List (Option E)}
theorem at_mod {i j : Nat} (e : i % sl.length = j % sl.length) : at_ sl i = at_ sl j := by unfold at_; rw [e]
theorem at_lt {i : Nat} (hi : i < sl.length) : at_ sl i = sl[i] := by
  unfold at_
  rw [Nat.mod_eq_of_lt hi, List.getD_eq_getElem?_getD, List.getElem?_eq_getElem hi]
  rfl
theorem at_get {i : Nat} {e : E} (hi : at_ sl i = some e) : sl[i % sl.length]? = some (some e) := by
  unfold at_ at hi
  rw [List.getD_eq_getElem?_getD] at hi
  cases hg : sl[i % sl.length]? with
  | none => rw [hg] at hi; cases hi
  | some v => rw [hg] at hi; simp at hi; rw [hi]
theorem len_pos {i : Nat} {e : E} (hi : at_ sl i = some e) : 0 < sl.length := by
  have := (List.getElem?_eq_some_iff.1 (at_get hi)).1
  omega
theorem mod_cancel {a b k n : Nat} (hh : (a + k) % n = (b + k) % n) : a % n = b % n := by
  rcases Nat.eq_zero_or_pos n with h0 | h0
  · subst h0; simp at hh; rw [hh]
  have e : ∀ x, (x + k + (n - k % n)) % n = x % n := by
    intro x
    have h1 := Nat.mod_lt k h0
    have h2 := Nat.mod_add_div k n
    rw [show x + k + (n - k % n) = x + n * (k / n + 1) by rw [Nat.mul_add, Nat.mul_one]; omega]
    exact Nat.add_mul_mod_self_left x n _
  rw [← e a, ← e b, Nat.add_mod, hh, ← Nat.add_mod]
theorem mod_add {a b k n : Nat} (hh : a % n = b % n) : (a + k) % n = (b + k) % n := by rw [Nat.add_mod, hh, ← Nat.add_mod]
/-- two of n places in a row are two slots -/
theorem mod_inj {a i j n : Nat} (hi : i < n) (hj : j < n) (hh : (a + i) % n = (a + j) % n) : i = j := by
  have : i % n = j % n := mod_cancel (k := a) (by rw [Nat.add_comm i, Nat.add_comm j]; exact hh)
  rwa [Nat.mod_eq_of_lt hi, Nat.mod_eq_of_lt hj] at this
/-- each slot is come to -/
theorem reach (a p n : Nat) (hn : 0 < n) : ∃ j, j < n ∧ (a + j) % n = p % n := by
  refine ⟨(p + (n - a % n)) % n, Nat.mod_lt _ hn, ?_⟩
  have h1 := Nat.mod_lt a hn
  have h2 := Nat.mod_add_div a n
  rw [Nat.add_mod, Nat.mod_mod, ← Nat.add_mod, show a + (p + (n - a % n)) = p + n * (a / n + 1) by rw [Nat.mul_add, Nat.mul_one]; omega]
  exact Nat.add_mul_mod_self_left p n _

theorem Lay.chain (L : Lay h sl) : ∀ (j i : Nat) (e : E), at_ sl (i + j) = some e → j ≤ e.far → ∃ y, at_ sl i = some y ∧ (e.far < y.far + j ∨ (e.far = y.far + j ∧ (0 < j → kle y.key e.key)))
  | 0, i, e, he, _ => ⟨e, he, .inr ⟨rfl, fun c => absurd c (by omega)⟩⟩
  | j + 1, i, e, he, hj => by
    rcases L.fol (i + j) e he with h0 | ⟨y, hy, hr⟩
    · omega
    · obtain ⟨z, hz, hq⟩ := L.chain j i y hy (by omega)
      refine ⟨z, hz, ?_⟩
      rcases hr with h1 | ⟨h1, k1⟩
      · rcases hq with h2 | ⟨h2, _⟩ <;> exact .inl (by omega)
      · rcases hq with h2 | ⟨h2, k2⟩
        · exact .inl (by omega)
        · refine .inr ⟨by omega, fun _ => ?_⟩
          rcases Nat.eq_zero_or_pos j with hj0 | hj0
          · subst hj0
            have : some y = some z := hy.symm.trans hz
            injection this with this
            subst this
            exact k1
          · exact kle_trans (k2 hj0) k1
/-- in each slot from its home on there is one that is ahead of it -/
theorem Lay.run (L : Lay h sl) {i j : Nat} {e : E} (hi : at_ sl i = some e) (hj : j < e.far) : ∃ y, at_ sl (h e.key + j) = some y ∧ (j < y.far ∨ (j = y.far ∧ kle y.key e.key)) := by
  have hh := L.home i e hi
  have he : at_ sl (h e.key + j + (e.far - j)) = some e := by
    rw [show h e.key + j + (e.far - j) = h e.key + e.far by omega, at_mod hh]; exact hi
  obtain ⟨y, hy, hr⟩ := L.chain (e.far - j) _ e he (by omega)
  refine ⟨y, hy, ?_⟩
  rcases hr with h1 | ⟨h1, k1⟩
  · exact .inl (by omega)
  · exact .inr ⟨by omega, k1 (by omega)⟩
theorem Lay.far_lt (L : Lay h sl) (hE : Emp sl) {i : Nat} {e : E} (hi : at_ sl i = some e) : e.far < sl.length := by
  obtain ⟨p, hp⟩ := hE
  obtain ⟨j, hj, hjp⟩ := reach (h e.key) p sl.length (len_pos hi)
  rcases Nat.lt_or_ge j e.far with h1 | h1
  · obtain ⟨y, hy, _⟩ := L.run hi h1
    rw [at_mod hjp, hp] at hy
    cases hy
  · omega
theorem Lay.at_home (L : Lay h sl) {i : Nat} {e : E} (hi : at_ sl i = some e) : at_ sl (h e.key + e.far) = some e := (at_mod (L.home i e hi)).trans hi

/-! ## finding -/
/-- k's way has not ended ahead of its j-th slot -/
def Way (sl : List (Option E)) (a : Nat) (k : List UInt8) (j : Nat) : Prop := ∀ i, i < j → ∃ y, at_ sl (a + i) = some y ∧ ¬ Ahead ⟨k, 0, i⟩ y ∧ y.key ≠ k
theorem Way.start {a : Nat} {k : List UInt8} : Way sl a k 0 := fun i hi => absurd hi (by omega)
theorem Way.step {a : Nat} {k : List UInt8} {j : Nat} {y : E} (W : Way sl a k j) (hy : at_ sl (a + j) = some y) (ha : ¬ Ahead ⟨k, 0, j⟩ y) (hk : y.key ≠ k) : Way sl a k (j + 1) := fun i hi => by
  rcases Nat.lt_succ_iff_lt_or_eq.1 hi with h1 | rfl
  · exact W i h1
  · exact ⟨y, hy, ha, hk⟩
/-- it ends -/
theorem Way.lt {a : Nat} {k : List UInt8} {j : Nat} (W : Way sl a k j) (hn : 0 < sl.length) (hE : Emp sl) : j < sl.length := by
  obtain ⟨p, hp⟩ := hE
  obtain ⟨i, hi, hip⟩ := reach a p sl.length hn
  rcases Nat.lt_or_ge i j with h1 | h1
  · obtain ⟨y, hy, _⟩ := W i h1
    rw [at_mod hip, hp] at hy
    cases hy
  · omega
theorem Way.out (L : Lay h sl) {k : List UInt8} {j : Nat} (W : Way sl (h k) k j) (hh : at_ sl (h k + j) = none ∨ ∃ y, at_ sl (h k + j) = some y ∧ Ahead ⟨k, 0, j⟩ y) : ∀ i e, at_ sl i = some e → e.key ≠ k := by
  intro i e he hk
  subst hk
  have h1 := L.at_home he
  rcases Nat.lt_trichotomy e.far j with hl | hl | hl
  · obtain ⟨y, hy, _, hne⟩ := W e.far hl
    rw [h1] at hy
    injection hy with hy
    exact hne (by rw [← hy])
  · subst hl
    rcases hh with hh | ⟨y, hy, ha⟩
    · rw [h1] at hh; cases hh
    · rw [h1] at hy
      injection hy with hy
      subst hy
      rcases ha with ha | ⟨_, ha⟩
      · exact absurd ha (Nat.lt_irrefl _)
      · exact kl_irrefl _ ha
  · obtain ⟨y, hy, hr⟩ := L.run he hl
    rcases hh with hh | ⟨z, hz, ha⟩
    · rw [hy] at hh; cases hh
    · rw [hy] at hz
      injection hz with hz
      subst hz
      rcases ha with ha | ⟨ha, hb⟩
      · simp only at ha; omega
      · simp only at ha hb
        rcases hr with hr | ⟨_, hr⟩
        · omega
        · exact kle_not hr hb

/-! ## one slot is set -/
theorem at_set {p i : Nat} {v : Option E} (hn : 0 < sl.length) : at_ (sl.set (p % sl.length) v) i = if i % sl.length = p % sl.length then v else at_ sl i := by
  unfold at_
  rw [List.length_set, List.getD_eq_getElem?_getD, List.getElem?_set]
  have h1 := Nat.mod_lt p hn
  by_cases e : i % sl.length = p % sl.length
  · rw [if_pos e.symm, if_pos e, if_pos h1]; rfl
  · rw [if_neg (fun c => e c.symm), if_neg e, List.getD_eq_getElem?_getD]
theorem at_set_same {p i : Nat} {v : Option E} (hn : 0 < sl.length) (e : i % sl.length = p % sl.length) : at_ (sl.set (p % sl.length) v) i = v := by rw [at_set hn, if_pos e]
theorem at_set_other {p i : Nat} {v : Option E} (hn : 0 < sl.length) (e : i % sl.length ≠ p % sl.length) : at_ (sl.set (p % sl.length) v) i = at_ sl i := by rw [at_set hn, if_neg e]
theorem succ_ne {q n : Nat} (hn : 2 ≤ n) : q % n ≠ (q + 1) % n := fun e => by
  have := mod_inj (a := q) (i := 0) (j := 1) (by omega) (by omega) (show (q + 0) % n = (q + 1) % n from e)
  omega
theorem two_ne {q n : Nat} (hn : 3 ≤ n) : q % n ≠ (q + 2) % n := fun e => by
  have := mod_inj (a := q) (i := 0) (j := 2) (by omega) (by omega) (show (q + 0) % n = (q + 2) % n from e)
  omega
/-- a number is told anew -/
theorem Lay.number (L : Lay h sl) {p : Nat} {e : E} (he : at_ sl p = some e) (v : Nat) : Lay h (sl.set (p % sl.length) (some { e with n := v })) := by
  have hn := len_pos he
  have hget : ∀ i x, at_ (sl.set (p % sl.length) (some { e with n := v })) i = some x → ∃ y, at_ sl i = some y ∧ y.key = x.key ∧ y.far = x.far := by
    intro i x hx
    rw [at_set hn] at hx
    split at hx
    · rename_i hip
      injection hx with hx
      exact ⟨e, (at_mod hip).trans he, by rw [← hx], by rw [← hx]⟩
    · exact ⟨x, hx, rfl, rfl⟩
  have hput : ∀ i y, at_ sl i = some y → ∃ x, at_ (sl.set (p % sl.length) (some { e with n := v })) i = some x ∧ y.key = x.key ∧ y.far = x.far := by
    intro i y hy
    rw [at_set hn]
    split
    · rename_i hip
      have : some y = some e := hy.symm.trans ((at_mod hip).trans he)
      injection this with this
      subst this
      exact ⟨_, rfl, rfl, rfl⟩
    · exact ⟨y, hy, rfl, rfl⟩
  refine ⟨fun i x hx => ?_, fun i x hx => ?_⟩
  · obtain ⟨y, hy, h1, h2⟩ := hget i x hx
    rw [List.length_set, ← h1, ← h2]
    exact L.home i y hy
  · obtain ⟨y, hy, h1, h2⟩ := hget _ x hx
    rcases L.fol i y hy with h0 | ⟨z, hz, hr⟩
    · exact .inl (by omega)
    · obtain ⟨z', hz', k1, k2⟩ := hput i z hz
      exact .inr ⟨z', hz', by rw [← h1, ← h2, ← k1, ← k2]; exact hr⟩

/-! ## laying -/
/-- s is carried to the slot behind q -/
structure Car (h : List UInt8 → Nat) (sl : List (Option E)) (s : E) (q : Nat) : Prop where
  home : (h s.key + s.far) % sl.length = (q + 1) % sl.length
  fol : Fol (at_ sl q) s
theorem Lay.put_empty (L : Lay h sl) {s : E} {q : Nat} (hn : 2 ≤ sl.length) (C : Car h sl s q) (hq : at_ sl (q + 1) = none) : Lay h (sl.set ((q + 1) % sl.length) (some s)) := by
  have h0 : 0 < sl.length := by omega
  refine ⟨fun i e he => ?_, fun i e he => ?_⟩
  · rw [List.length_set]
    rw [at_set h0] at he
    split at he
    · rename_i hi
      injection he with he
      subst he
      exact C.home.trans hi.symm
    · exact L.home i e he
  · rw [at_set h0] at he
    split at he
    · rename_i hi
      injection he with he
      subst he
      have hi' : i % sl.length = q % sl.length := mod_cancel hi
      rw [at_set_other h0 (fun c => succ_ne hn (hi'.symm.trans c)), at_mod hi']
      exact C.fol
    · have hf := L.fol i e he
      by_cases hi : i % sl.length = (q + 1) % sl.length
      · rcases hf with h1 | ⟨y, hy, _⟩
        · exact .inl h1
        · rw [at_mod hi, hq] at hy; cases hy
      · rw [at_set_other h0 hi]; exact hf
theorem Lay.put_over (L : Lay h sl) {s y : E} {q : Nat} (hn : 2 ≤ sl.length) (C : Car h sl s q) (hq : at_ sl (q + 1) = some y) (ha : Ahead s y) :
    Lay h (sl.set ((q + 1) % sl.length) (some s)) ∧ Car h (sl.set ((q + 1) % sl.length) (some s)) { y with far := y.far + 1 } (q + 1) := by
  have h0 : 0 < sl.length := by omega
  refine ⟨⟨fun i e he => ?_, fun i e he => ?_⟩, ?_, ?_⟩
  · rw [List.length_set]
    rw [at_set h0] at he
    split at he
    · rename_i hi
      injection he with he
      subst he
      exact C.home.trans hi.symm
    · exact L.home i e he
  · rw [at_set h0] at he
    split at he
    · rename_i hi
      injection he with he
      subst he
      have hi' : i % sl.length = q % sl.length := mod_cancel hi
      rw [at_set_other h0 (fun c => succ_ne hn (hi'.symm.trans c)), at_mod hi']
      exact C.fol
    · have hf := L.fol i e he
      by_cases hi : i % sl.length = (q + 1) % sl.length
      · rw [at_set_same h0 hi]
        rcases hf with h1 | ⟨z, hz, hr⟩
        · exact .inl h1
        · rw [at_mod hi, hq] at hz
          injection hz with hz
          subst hz
          refine .inr ⟨s, rfl, ?_⟩
          rcases ha with ha | ⟨ha, hk⟩
          · exact .inl (by omega)
          · rcases hr with hr | ⟨hr, hk'⟩
            · exact .inl (by omega)
            · exact .inr ⟨by omega, kle_trans (kl_le hk) hk'⟩
      · rw [at_set_other h0 hi]; exact hf
  · rw [List.length_set]
    have := L.home _ _ hq
    show (h y.key + (y.far + 1)) % sl.length = (q + 1 + 1) % sl.length
    rw [← Nat.add_assoc]
    exact mod_add this
  · rw [at_set_same h0 rfl]
    refine .inr ⟨s, rfl, ?_⟩
    rcases ha with ha | ⟨ha, hk⟩
    · exact .inl (by simp only; omega)
    · exact .inr ⟨by simp only; omega, kl_le hk⟩
theorem Car.next {s y : E} {q : Nat} (C : Car h sl s q) (hq : at_ sl (q + 1) = some y) (ha : ¬ Ahead s y) : Car h sl { s with far := s.far + 1 } (q + 1) := by
  refine ⟨?_, .inr ⟨y, hq, ?_⟩⟩
  · show (h s.key + (s.far + 1)) % sl.length = (q + 1 + 1) % sl.length
    rw [← Nat.add_assoc]
    exact mod_add C.home
  · show s.far + 1 < y.far + 1 ∨ (s.far + 1 = y.far + 1 ∧ kle y.key s.key)
    rcases Nat.lt_trichotomy s.far y.far with h1 | h1 | h1
    · exact .inl (by omega)
    · exact .inr ⟨by omega, kl_not fun h2 => ha (.inr ⟨h1, h2⟩)⟩
    · exact absurd (.inl h1) ha
theorem Car.start {k : List UInt8} {v : Nat} (hn : 0 < sl.length) : Car h sl ⟨k, v, 0⟩ (h k + (sl.length - 1)) := by
  refine ⟨?_, .inl rfl⟩
  show (h k + 0) % sl.length = (h k + (sl.length - 1) + 1) % sl.length
  rw [show h k + (sl.length - 1) + 1 = h k + sl.length by omega, Nat.add_mod_right, Nat.add_zero]

/-! ## taking -/
/-- a lay with a hole behind b, into which who stands behind it may yet come -/
structure Hole (h : List UInt8 → Nat) (S : List (Option E)) (b : Nat) : Prop where
  home : ∀ i e, at_ S i = some e → (h e.key + e.far) % S.length = i % S.length
  none_ : at_ S (b + 1) = none
  fol : ∀ i e, i % S.length ≠ (b + 1) % S.length → at_ S (i + 1) = some e → Fol (at_ S i) e
  gap : ∀ e, at_ S (b + 2) = some e → 0 < e.far → Fol (at_ S b) { e with far := e.far - 1 }
theorem Lay.hole (L : Lay h sl) (hn : 3 ≤ sl.length) {b : Nat} {z : E} (hz : at_ sl (b + 1) = some z) : Hole h (sl.set ((b + 1) % sl.length) none) b := by
  have h0 : 0 < sl.length := by omega
  have h1 := succ_ne (q := b) (n := sl.length) (by omega)
  have h2 := succ_ne (q := b + 1) (n := sl.length) (by omega)
  refine ⟨fun i e he => ?_, at_set_same h0 rfl, fun i e hi he => ?_, fun e he hf => ?_⟩
  · rw [List.length_set]
    rw [at_set h0] at he
    split at he
    · cases he
    · exact L.home i e he
  · rw [List.length_set] at hi
    rw [at_set_other h0 hi]
    rw [at_set h0] at he
    split at he
    · cases he
    · exact L.fol i e he
  · rw [at_set_other h0 h1]
    rw [at_set_other h0 (fun c => h2 c.symm)] at he
    rcases L.fol _ _ he with k0 | ⟨y, hy, hr⟩
    · omega
    · rw [hz] at hy
      injection hy with hy
      subst hy
      rcases Nat.eq_zero_or_pos (e.far - 1) with e0 | e0
      · exact .inl e0
      · rcases L.fol _ _ hz with k0 | ⟨x, hx, hq⟩
        · omega
        · refine .inr ⟨x, hx, ?_⟩
          show e.far - 1 < x.far + 1 ∨ (e.far - 1 = x.far + 1 ∧ kle x.key e.key)
          rcases hr with hr | ⟨hr, k1⟩
          · rcases hq with hq | ⟨hq, _⟩ <;> exact .inl (by omega)
          · rcases hq with hq | ⟨hq, k2⟩
            · exact .inl (by omega)
            · exact .inr ⟨by omega, kle_trans k2 k1⟩
theorem Hole.step {b : Nat} {S : List (Option E)} (H : Hole h S b) (hn : 3 ≤ S.length) {e : E} (he : at_ S (b + 2) = some e) (hf : 0 < e.far) :
    Hole h ((S.set ((b + 1) % S.length) (some { e with far := e.far - 1 })).set ((b + 2) % S.length) none) (b + 1) := by
  have h0 : 0 < S.length := by omega
  have h1 := succ_ne (q := b) (n := S.length) (by omega)
  have h2 := succ_ne (q := b + 1) (n := S.length) (by omega)
  have h2' : (b + 1) % S.length ≠ (b + 2) % S.length := h2
  have h3 := two_ne (q := b) (n := S.length) hn
  have h4 := two_ne (q := b + 1) (n := S.length) hn
  have h5 := succ_ne (q := b + 2) (n := S.length) (by omega)
  have h01 : 0 < (S.set ((b + 1) % S.length) (some { e with far := e.far - 1 })).length := by simpa using h0
  have hat : ∀ i, at_ ((S.set ((b + 1) % S.length) (some { e with far := e.far - 1 })).set ((b + 2) % S.length) none) i =
      if i % S.length = (b + 2) % S.length then none else if i % S.length = (b + 1) % S.length then some { e with far := e.far - 1 } else at_ S i := by
    intro i
    have := at_set (sl := S.set ((b + 1) % S.length) (some { e with far := e.far - 1 })) (p := b + 2) (i := i) (v := none) h01
    simp only [List.length_set] at this
    rw [this]
    split
    · rfl
    · exact at_set h0
  refine ⟨fun i x hx => ?_, ?_, fun i x hi hx => ?_, fun x hx hxf => ?_⟩
  · simp only [List.length_set]
    rw [hat] at hx
    split at hx
    · cases hx
    · split at hx
      · rename_i hi
        injection hx with hx
        subst hx
        have k := H.home _ _ he
        show (h e.key + (e.far - 1)) % S.length = i % S.length
        rw [hi]
        refine mod_cancel (k := 1) ?_
        rw [show h e.key + (e.far - 1) + 1 = h e.key + e.far by omega]
        exact k
      · exact H.home _ _ hx
  · rw [hat, if_pos rfl]
  · simp only [List.length_set] at hi
    rw [hat] at hx
    rw [hat]
    have hi' : i % S.length ≠ (b + 2) % S.length := hi
    rw [if_neg hi']
    split at hx
    · cases hx
    · rename_i hx2
      split at hx
      · rename_i hx1
        injection hx with hx
        subst hx
        have hib : i % S.length = b % S.length := mod_cancel hx1
        rw [if_neg (by rw [hib]; exact h1), at_mod hib]
        exact H.gap e he hf
      · rename_i hx1
        have hib : i % S.length ≠ (b + 1) % S.length := fun c => hx2 (mod_add (k := 1) c)
        rw [if_neg hib]
        exact H.fol i x hib hx
  · rw [hat] at hx
    rw [hat, if_neg h2', if_pos rfl]
    have k5 : (b + 1 + 2) % S.length ≠ (b + 2) % S.length := fun c => h5 c.symm
    rw [if_neg k5, if_neg (fun c => h4 c.symm)] at hx
    have hf2 := H.fol (b + 2) x (fun c => h2' c.symm) hx
    rcases hf2 with k0 | ⟨y, hy, hr⟩
    · omega
    · rw [he] at hy
      injection hy with hy
      subst hy
      refine .inr ⟨_, rfl, ?_⟩
      show x.far - 1 < e.far - 1 + 1 ∨ (x.far - 1 = e.far - 1 + 1 ∧ kle e.key x.key)
      rcases hr with hr | ⟨hr, k⟩
      · exact .inl (by omega)
      · exact .inr ⟨by omega, k⟩
theorem Hole.done {b : Nat} {S : List (Option E)} (H : Hole h S b) (he : ∀ e, at_ S (b + 2) = some e → e.far = 0) : Lay h S := by
  refine ⟨H.home, fun i e hi => ?_⟩
  by_cases c : i % S.length = (b + 1) % S.length
  · exact .inl (he e ((at_mod (mod_add (k := 1) c)).symm.trans hi))
  · exact H.fol i e c hi

/-! ## one lay -/
theorem Lay.le {A B : List (Option E)} (LA : Lay h A) (LB : Lay h B) (hl : A.length = B.length) {p0 : Nat} (hp : at_ A p0 = none) (oA : Once A)
    (sub : ∀ i e, at_ A i = some e → ∃ j e', at_ B j = some e' ∧ e'.key = e.key) :
    ∀ (c : Nat), c < A.length → ∀ (e e' : E) (j : Nat), at_ A (p0 + 1 + c) = some e → at_ B j = some e' → e'.key = e.key → e.far ≤ e'.far := by
  intro c
  induction c using Nat.strongRecOn with
  | ind c ih =>
    intro hc e e' j he he' hk
    rcases Nat.lt_or_ge e'.far e.far with hlt | hge
    · exfalso
      have hfc : e.far ≤ c := by
        rcases Nat.lt_or_ge c e.far with h1 | h1
        · obtain ⟨y, hy, _⟩ := LA.chain (c + 1) p0 e (by rw [show p0 + (c + 1) = p0 + 1 + c by omega]; exact he) (by omega)
          rw [hp] at hy; cases hy
        · exact h1
      obtain ⟨x, hx, hr⟩ := LA.chain (e.far - e'.far) (p0 + 1 + (c - (e.far - e'.far))) e (by rw [show p0 + 1 + (c - (e.far - e'.far)) + (e.far - e'.far) = p0 + 1 + c by omega]; exact he) (by omega)
      have hxd : e'.far < x.far ∨ (e'.far = x.far ∧ kle x.key e.key) := by
        rcases hr with h1 | ⟨h1, k1⟩
        · exact .inl (by omega)
        · exact .inr ⟨by omega, k1 (by omega)⟩
      obtain ⟨j', x', hx', hxk⟩ := sub _ _ hx
      have hle := ih (c - (e.far - e'.far)) (by omega) (by omega) x x' j' hx hx' hxk
      -- where e' stands in B
      have q1 := LA.home _ _ he
      have q2 := LB.at_home he'
      have q3 := LA.home _ _ hx
      have hq : (p0 + 1 + (c - (e.far - e'.far))) % A.length = (h e.key + e'.far) % A.length := by
        refine mod_cancel (k := e.far - e'.far) ?_
        rw [show p0 + 1 + (c - (e.far - e'.far)) + (e.far - e'.far) = p0 + 1 + c by omega, show h e.key + e'.far + (e.far - e'.far) = h e.key + e.far by omega]
        exact q1.symm
      have hB : at_ B (h x.key + x.far) = some e' := by
        rw [← hk] at hq
        exact (at_mod (i := h x.key + x.far) (j := h e'.key + e'.far) (by rw [← hl]; exact q3.trans hq)).trans q2
      rcases Nat.lt_or_ge x.far x'.far with h1 | h1
      · obtain ⟨y, hy, hyr⟩ := LB.run hx' h1
        rw [hxk, hB] at hy
        injection hy with hy
        subst hy
        rcases hyr with h2 | ⟨h2, k2⟩
        · rcases hxd with h3 | ⟨h3, _⟩ <;> omega
        · rcases hxd with h3 | ⟨h3, k3⟩
          · omega
          · rw [hk, hxk] at k2
            have h5 := oA _ _ _ _ hx he (kle_anti k3 k2)
            have := mod_inj (a := p0 + 1) (i := c - (e.far - e'.far)) (j := c) (n := A.length) (by omega) hc h5
            omega
      · have h2 : x'.far = x.far := by omega
        have h3 := LB.at_home hx'
        rw [hxk, h2, hB] at h3
        injection h3 with h3
        have h4 : x.key = e.key := by rw [← hxk, ← h3, hk]
        have h5 := oA _ _ _ _ hx he h4
        have := mod_inj (a := p0 + 1) (i := c - (e.far - e'.far)) (j := c) (n := A.length) (by omega) hc h5
        omega
    · exact hge
/-- pairs of keys and numbers -/
def kn (sl : List (Option E)) : List (List UInt8 × Nat) := sl.filterMap fun o => o.map fun e => (e.key, e.n)
theorem mem_kn {k : List UInt8} {v : Nat} : (k, v) ∈ kn sl ↔ ∃ i e, i < sl.length ∧ at_ sl i = some e ∧ e.key = k ∧ e.n = v := by
  unfold kn
  rw [List.mem_filterMap]
  constructor
  · rintro ⟨o, ho, hv⟩
    obtain ⟨e, rfl, he⟩ := Option.map_eq_some_iff.1 hv
    obtain ⟨i, hi, hie⟩ := List.mem_iff_getElem.1 ho
    injection he with h1 h2
    exact ⟨i, e, hi, (at_lt hi).trans hie, h1, h2⟩
  · rintro ⟨i, e, hi, he, rfl, rfl⟩
    rw [at_lt hi] at he
    exact ⟨some e, he ▸ List.getElem_mem hi, rfl⟩
theorem at_lt_mod {i : Nat} {e : E} (he : at_ sl i = some e) : i % sl.length < sl.length ∧ at_ sl (i % sl.length) = some e :=
  ⟨Nat.mod_lt _ (len_pos he), (at_mod (Nat.mod_mod _ _)).trans he⟩
theorem once_of {hd : ((kn sl).map (·.1)).Nodup} : Once sl := by
  intro i j e e' hi hj hk
  have hp : sl.Pairwise (fun a b => ∀ x y, a = some x → b = some y → x.key ≠ y.key) := by
    have h1 : (kn sl).Pairwise (fun a b => a.1 ≠ b.1) := by
      unfold List.Nodup at hd
      rwa [List.pairwise_map] at hd
    unfold kn at h1
    rw [List.pairwise_filterMap] at h1
    refine h1.imp ?_
    intro a b hab x y hx hy
    subst hx; subst hy
    exact hab _ rfl _ rfl
  rw [List.pairwise_iff_getElem] at hp
  obtain ⟨i1, i2⟩ := at_lt_mod hi
  obtain ⟨j1, j2⟩ := at_lt_mod hj
  rw [at_lt i1] at i2
  rw [at_lt j1] at j2
  rcases Nat.lt_trichotomy (i % sl.length) (j % sl.length) with h1 | h1 | h1
  · exact absurd hk (hp _ _ i1 j1 h1 _ _ i2 j2)
  · exact h1
  · exact absurd hk.symm (hp _ _ j1 i1 h1 _ _ j2 i2)
theorem Lay.unique {A B : List (Option E)} (LA : Lay h A) (LB : Lay h B) (hl : A.length = B.length) (eA : Emp A) (eB : Emp B)
    (dA : ((kn A).map (·.1)).Nodup) (hAB : List.Perm (kn A) (kn B)) : A = B := by
  have dB : ((kn B).map (·.1)).Nodup := (hAB.map _).nodup_iff.1 dA
  have oA : Once A := once_of (hd := dA)
  have oB : Once B := once_of (hd := dB)
  have key : ∀ {A B : List (Option E)}, Lay h A → Lay h B → A.length = B.length → Emp A → Emp B → Once A → Once B → List.Perm (kn A) (kn B) → ((kn B).map (·.1)).Nodup → ∀ i e, at_ A i = some e → at_ B i = some e := by
    intro A B LA LB hl eA eB oA oB hAB dB i e he
    have hsub : ∀ {A B : List (Option E)}, List.Perm (kn A) (kn B) → ∀ i e, at_ A i = some e → ∃ j e', j < B.length ∧ at_ B j = some e' ∧ e'.key = e.key ∧ e'.n = e.n := by
      intro A B hAB i e he
      obtain ⟨h1, h2⟩ := at_lt_mod he
      have : (e.key, e.n) ∈ kn B := hAB.mem_iff.1 (mem_kn.2 ⟨_, e, h1, h2, rfl, rfl⟩)
      obtain ⟨j, e', h3, h4, h5, h6⟩ := mem_kn.1 this
      exact ⟨j, e', h3, h4, h5, h6⟩
    obtain ⟨j, e', hj, he', hk, hv⟩ := hsub hAB i e he
    have hn := len_pos he
    obtain ⟨p, hp⟩ := eA
    obtain ⟨q, hq⟩ := eB
    have le1 : e.far ≤ e'.far := by
      obtain ⟨c, hc, hcp⟩ := reach (p + 1) i A.length hn
      exact LA.le LB hl hp oA (fun i e he => by obtain ⟨j, e', _, h1, h2, _⟩ := hsub hAB i e he; exact ⟨j, e', h1, h2⟩) c hc e e' j ((at_mod hcp).trans he) he' hk
    have le2 : e'.far ≤ e.far := by
      obtain ⟨c, hc, hcp⟩ := reach (q + 1) j B.length (by omega)
      exact LB.le LA hl.symm hq oB (fun i e he => by obtain ⟨j, e', _, h1, h2, _⟩ := hsub hAB.symm i e he; exact ⟨j, e', h1, h2⟩) c hc e' e i ((at_mod hcp).trans he') he hk.symm
    have hfar : e'.far = e.far := by omega
    have h1 := LB.at_home he'
    rw [hk, hfar] at h1
    have h2 := LA.home _ _ he
    have h1 := (at_mod (sl := B) (i := i) (j := h e.key + e.far) (by rw [← hl]; exact h2.symm)).trans h1
    rw [h1]
    obtain ⟨a, b, c⟩ := e
    obtain ⟨a', b', c'⟩ := e'
    simp only at hk hv hfar
    subst hk hv hfar
    rfl
  apply List.ext_getElem hl
  intro i hi hi'
  have e1 := at_lt (sl := A) hi
  have e2 := at_lt (sl := B) hi'
  rw [← e1, ← e2]
  cases hA : at_ A i with
  | some e => rw [key LA LB hl eA eB oA oB hAB dB i e hA]
  | none =>
    cases hB : at_ B i with
    | none => rfl
    | some e => rw [key LB LA hl.symm eB eA oB oA hAB.symm dA i e hB] at hA; cases hA
/-! ## pairs when a slot is set -/
def pr1 (o : Option E) : List (List UInt8 × Nat) := [o].filterMap fun o => o.map fun e => (e.key, e.n)
theorem kn_set (p : Nat) (v : Option E) (hp : p < sl.length) : List.Perm (pr1 sl[p] ++ kn (sl.set p v)) (pr1 v ++ kn sl) := by
  have e1 : sl.set p v = sl.take p ++ v :: sl.drop (p + 1) := List.set_eq_take_append_cons_drop.trans (if_pos hp)
  have e2 : sl = sl.take p ++ sl[p] :: sl.drop (p + 1) := by rw [← List.drop_eq_getElem_cons hp, List.take_append_drop]
  have f : ∀ (a : List (Option E)) (x : Option E) (b : List (Option E)), kn (a ++ x :: b) = kn a ++ (pr1 x ++ kn b) := by
    intro a x b
    unfold kn pr1
    rw [List.filterMap_append, show x :: b = [x] ++ b from rfl, List.filterMap_append]
  have h1 : kn (sl.set p v) = kn (sl.take p) ++ (pr1 v ++ kn (sl.drop (p + 1))) := by rw [e1, f]
  have h2 : kn sl = kn (sl.take p) ++ (pr1 sl[p] ++ kn (sl.drop (p + 1))) := (congrArg kn e2).trans (f _ _ _)
  rw [h1, h2]
  generalize kn (sl.take p) = a
  generalize kn (sl.drop (p + 1)) = b
  generalize pr1 sl[p] = x
  generalize pr1 v = y
  refine (List.perm_append_comm_assoc x a (y ++ b)).trans ?_
  refine List.Perm.trans ?_ (List.perm_append_comm_assoc y a (x ++ b)).symm
  exact List.Perm.append_left a (List.perm_append_comm_assoc x y b)
theorem pr1_some (e : E) : pr1 (some e) = [(e.key, e.n)] := rfl
theorem pr1_none : pr1 none = [] := rfl
end
/-! ## how many slots -/
def roomS (k s : Nat) : Nat := if h : 0 < s ∧ 3 * s < 4 * k then roomS k (s * 2) else s
termination_by 4 * k - s
def room (k : Nat) : Nat := roomS k 8
theorem roomS_step {k s : Nat} (h0 : 0 < s) (h : 3 * s < 4 * k) : roomS k s = roomS k (s * 2) := by rw [roomS, dif_pos ⟨h0, h⟩]
theorem roomS_done {k s : Nat} (h : ¬ 3 * s < 4 * k) : roomS k s = s := by rw [roomS, dif_neg (fun c => h c.2)]
theorem roomS_all : ∀ (f k s : Nat), 4 * k - s ≤ f → 0 < s → 4 * k ≤ 3 * roomS k s ∧ (∃ j, roomS k s = s * 2 ^ j) ∧ (s < roomS k s → 3 * roomS k s < 8 * k) := by
  intro f
  induction f with
  | zero => intro k s hf h0; rw [roomS_done (by omega)]; exact ⟨by omega, ⟨0, by simp⟩, fun h => by omega⟩
  | succ f ih =>
    intro k s hf h0
    by_cases h : 3 * s < 4 * k
    · rw [roomS_step h0 h]
      obtain ⟨h1, ⟨j, hj⟩, h3⟩ := ih k (s * 2) (by omega) (by omega)
      refine ⟨h1, ⟨j + 1, by rw [hj, Nat.pow_succ, Nat.mul_assoc, Nat.mul_comm 2]⟩, fun _ => ?_⟩
      rcases Nat.lt_or_ge (s * 2) (roomS k (s * 2)) with h4 | h4
      · exact h3 h4
      · have : s * 2 ≤ roomS k (s * 2) := by rw [hj]; exact Nat.le_mul_of_pos_right _ (Nat.two_pow_pos _)
        omega
    · rw [roomS_done h]; exact ⟨by omega, ⟨0, by simp⟩, fun h => by omega⟩
theorem room_fits (k : Nat) : 4 * k ≤ 3 * room k := (roomS_all _ k 8 (Nat.le_refl _) (by omega)).1
theorem room_pow (k : Nat) : ∃ j, room k = 8 * 2 ^ j := (roomS_all _ k 8 (Nat.le_refl _) (by omega)).2.1
theorem room_least (k : Nat) (h : 8 < room k) : 3 * room k < 8 * k := (roomS_all _ k 8 (Nat.le_refl _) (by omega)).2.2 h
theorem room_ge (k : Nat) : 8 ≤ room k := by
  obtain ⟨j, hj⟩ := room_pow k
  have := Nat.two_pow_pos j
  omega
theorem room_le (k : Nat) : room k ≤ 8 + 3 * k := by
  rcases Nat.lt_or_ge 8 (room k) with h | h
  · have := room_least k h; omega
  · omega
theorem room_more (k : Nat) : k < room k := by have := room_fits k; have := room_ge k; omega
/-- fewer keys than slots: one slot is empty -/
theorem emp_of {sl : List (Option E)} (h : (kn sl).length < sl.length) : Emp sl := by
  have key : ∀ sl : List (Option E), (kn sl).length < sl.length → ∃ i, i < sl.length ∧ sl[i]? = some none := by
    intro sl
    induction sl with
    | nil => intro h; simp [kn] at h
    | cons o r ih =>
      intro h
      cases o with
      | none => exact ⟨0, by simp, rfl⟩
      | some e =>
        obtain ⟨i, hi, he⟩ := ih (by simp [kn] at h ⊢; omega)
        exact ⟨i + 1, by simp; omega, by simpa using he⟩
  obtain ⟨i, hi, he⟩ := key sl h
  refine ⟨i, ?_⟩
  rw [at_lt hi]
  rw [List.getElem?_eq_getElem hi] at he
  injection he
end Go.Proofs.Ytffcbekogpgciaa.Pr
