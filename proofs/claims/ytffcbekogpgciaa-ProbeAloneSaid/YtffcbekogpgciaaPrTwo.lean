
/-
  Layer 14 (probe): several tables at once, each apart from the others.
-/
import Derived.Test.YtffcbekogpgciaaPrAny
import Derived.Test.YtffcbekogpgciaaPrKeys
set_option linter.unusedVariables false
set_option linter.unusedSimpArgs false
namespace Go.Proofs.Ytffcbekogpgciaa.Pr
open Go Go.RowKit

/-- tables that live apart, all their blocks in N -/
def Tabs (N : Nat → Prop) (w : World) (l : List (Nat × PT)) : Prop :=
  ∃ M R : Nat → Nat → Prop, (∀ (i T : Nat) (s : PT), l[i]? = some (T, s) → TabM w T (M i) (R i) s) ∧ (∀ i x, i < l.length → M i x ∨ R i x → N x) ∧ ∀ i j x, i < l.length → j < l.length → i ≠ j → M i x → ¬ M j x ∧ ¬ R j x
section
variable {N N' K : Nat → Prop} {w w' : World} {l : List (Nat × PT)} {i T : Nat} {s s' : PT}
theorem Tabs.nil : Tabs N w [] := ⟨fun _ _ => False, fun _ _ => False, fun i T s h => by simp at h, fun i x hi => by simp at hi, fun i j x hi => by simp at hi⟩
theorem Tabs.chg (h : Tabs N w l) (hc : Chg K w w') (hK : ∀ x, K x → ¬ N x) : Tabs N w' l := by
  obtain ⟨M, R, h1, h2, h3⟩ := h
  refine ⟨M, R, fun i T s hi => (h1 i T s hi).chg hc (fun x hx => ?_), h2, h3⟩
  have hl := (List.getElem?_eq_some_iff.1 hi).1
  exact ⟨fun c => hK x hx (h2 i x hl (.inl c)), fun c => hK x hx (h2 i x hl (.inr c))⟩
theorem Tabs.on (h : Tabs N w l) (hb : Below w.heap.size w w') : Tabs N w' l := h.chg (Chg.of_below (M := fun _ => False) hb) (fun _ e => e.elim)
/-- they lie in what there is -/
theorem Tabs.narrow (h : Tabs N w l) : Tabs (fun x => N x ∧ x < w.heap.size) w l := by
  obtain ⟨M, R, h1, h2, h3⟩ := h
  refine ⟨M, R, h1, fun i x hi hx => ⟨h2 i x hi hx, ?_⟩, h3⟩
  obtain ⟨p, hp⟩ : ∃ p, l[i]? = some p := ⟨_, List.getElem?_eq_getElem hi⟩
  obtain ⟨T, s⟩ := p
  have := h1 i T s hp
  exact hx.elim (this.2.2.1 x) (this.2.2.2.1 x)
theorem Tabs.mono (h : Tabs N w l) (hN : ∀ x, N x → x < w.heap.size → N' x) : Tabs N' w l := by
  obtain ⟨M, R, h1, h2, h3⟩ := h.narrow
  exact ⟨M, R, h1, fun i x hi hx => hN x (h2 i x hi hx).1 (h2 i x hi hx).2, h3⟩
theorem Tabs.ok (h : Tabs N w l) (hi : l[i]? = some (T, s)) : s.Ok := by
  obtain ⟨M, R, h1, _⟩ := h
  exact (h1 i T s hi).ok
theorem Tabs.live (h : Tabs N w l) (hi : l[i]? = some (T, s)) {B : Nat} (hB : ∀ x, N x → B ≤ x) : PLive B w T s := by
  obtain ⟨M, R, h1, h2, _⟩ := h
  have hl := (List.getElem?_eq_some_iff.1 hi).1
  exact ⟨M i, R i, h1 i T s hi, fun x hx => hB x (h2 i x hl (.inl hx)), fun x hx => hB x (h2 i x hl (.inr hx))⟩
theorem Tabs.swap {x y : Nat × PT} (h : Tabs N w [x, y]) : Tabs N w [y, x] := by
  obtain ⟨M, R, h1, h2, h3⟩ := h
  refine ⟨fun i => M (1 - i), fun i => R (1 - i), fun i T s hi => h1 (1 - i) T s ?_, fun i x hi hx => h2 (1 - i) x (by simp; omega) hx, fun i j x hi hj hij hx => h3 (1 - i) (1 - j) x (by simp; omega) (by simp; omega) (by simp at hi hj; omega) hx⟩
  rcases i with _ | _ | i
  · exact hi
  · exact hi
  · simp at hi
/-- one table changed -/
theorem Tabs.mut {M R : Nat → Nat → Prop} (h1 : ∀ (i T : Nat) (s : PT), l[i]? = some (T, s) → TabM w T (M i) (R i) s) (h2 : ∀ i x, i < l.length → M i x ∨ R i x → N x) (h3 : ∀ i j x, i < l.length → j < l.length → i ≠ j → M i x → ¬ M j x ∧ ¬ R j x)
    (hi : l[i]? = some (T, s)) (hP : PMut w w' T (M i) (R i) s') (hN : ∀ x, w.heap.size ≤ x → N x) : Tabs N w' (l.set i (T, s')) ∧ Chg N w w' := by
  obtain ⟨M', R', p1, p2, p3, p4⟩ := hP
  have hl := (List.getElem?_eq_some_iff.1 hi).1
  have hlt : ∀ j x, j < l.length → M j x ∨ R j x → x < w.heap.size := fun j x hj hx => by
    obtain ⟨p, hp⟩ : ∃ p, l[j]? = some p := ⟨_, List.getElem?_eq_getElem hj⟩
    obtain ⟨T, s⟩ := p
    have := h1 j T s hp
    exact hx.elim (this.2.2.1 x) (this.2.2.2.1 x)
  refine ⟨⟨fun j => if j = i then M' else M j, fun j => if j = i then R' else R j, fun j T2 s2 hj => ?_, fun j x hj hx => ?_, fun j k x hj hk hjk hx => ?_⟩, p2.mono (fun x hx => h2 i x hl (.inl hx))⟩
  · by_cases e : j = i
    · subst e
      rw [List.getElem?_set_self hl] at hj
      injection hj with hj
      injection hj with e1 e2
      subst e1
      subst e2
      simp only [if_pos]
      exact p1
    · rw [List.getElem?_set_ne (fun c => e c.symm)] at hj
      simp only [if_neg e]
      have hjl := (List.getElem?_eq_some_iff.1 hj).1
      exact (h1 j T2 s2 hj).chg p2 (fun x hx => h3 i j x hl hjl (fun c => e c.symm) hx)
  · rw [List.length_set] at hj
    by_cases e : j = i
    · simp only [if_pos e] at hx
      rcases hx with hx | hx
      · exact (p3 x hx).elim (fun c => h2 i x hl (.inl c)) (hN x)
      · exact (p4 x hx).elim (fun c => h2 i x hl (.inr c)) (hN x)
    · simp only [if_neg e] at hx
      exact h2 j x hj hx
  · rw [List.length_set] at hj hk
    by_cases e : j = i
    · have e2 : k ≠ i := fun c => hjk (e.trans c.symm)
      simp only [if_pos e] at hx
      simp only [if_neg e2]
      rcases p3 x hx with c | c
      · exact h3 i k x hl hk (fun c => e2 c.symm) c
      · exact ⟨fun d => by have := hlt k x hk (.inl d); omega, fun d => by have := hlt k x hk (.inr d); omega⟩
    · simp only [if_neg e] at hx
      by_cases e2 : k = i
      · simp only [if_pos e2]
        have hx' := hlt j x hj (.inl hx)
        exact ⟨fun d => (p3 x d).elim (fun c => (h3 j i x hj hl e hx).1 c) (fun c => by omega), fun d => (p4 x d).elim (fun c => (h3 j i x hj hl e hx).2 c) (fun c => by omega)⟩
      · simp only [if_neg e2]
        exact h3 j k x hj hk hjk hx
theorem tabs_new (h : Tabs N w l) (seed : Nat) (hs : seed < 18446744073709551616) (hN : ∀ x, w.heap.size ≤ x → N x) :
    Calls Try.prog 8 #[.int .u64 (seed : Int)] w fun e w' => ∃ T, e = .returned (.pointer (some ⟨T, 0, none⟩)) ∧ Tabs N w' (l ++ [(T, PT.new seed)]) ∧ Below w.heap.size w w' := by
  refine (new_b seed w hs).mono ?_
  rintro e w' ⟨T, rfl, ht, hb⟩
  obtain ⟨M, R, h1, h2, h3⟩ := h
  have hlt : ∀ j x, j < l.length → M j x ∨ R j x → x < w.heap.size := fun j x hj hx => by
    obtain ⟨p, hp⟩ : ∃ p, l[j]? = some p := ⟨_, List.getElem?_eq_getElem hj⟩
    obtain ⟨T, s⟩ := p
    have := h1 j T s hp
    exact hx.elim (this.2.2.1 x) (this.2.2.2.1 x)
  refine ⟨T, rfl, ⟨fun j => if j < l.length then M j else fun i => w.heap.size ≤ i ∧ i < w'.heap.size, fun j => if j < l.length then R j else fun _ => False, fun j T2 s2 hj => ?_, fun j x hj hx => ?_, fun j k x hj hk hjk hx => ?_⟩, hb⟩
  · by_cases e : j < l.length
    · rw [List.getElem?_append_left e] at hj
      simp only [if_pos e]
      exact (h1 j T2 s2 hj).on hb
    · rw [List.getElem?_append_right (by omega)] at hj
      obtain ⟨hj2, hj3⟩ := List.getElem?_eq_some_iff.1 hj
      simp at hj2
      have e0 : j - l.length = 0 := by omega
      simp only [e0] at hj3
      have hj4 : (T, PT.new seed) = (T2, s2) := by simpa using hj3
      injection hj4 with e1 e2
      subst e1
      subst e2
      simp only [if_neg e]
      exact ht
  · by_cases e : j < l.length
    · simp only [if_pos e] at hx
      exact h2 j x e hx
    · simp only [if_neg e] at hx
      exact hx.elim (fun c => hN x c.1) (fun c => c.elim)
  · rw [List.length_append] at hj hk
    simp at hj hk
    by_cases e : j < l.length
    · simp only [if_pos e] at hx
      by_cases e2 : k < l.length
      · simp only [if_pos e2]
        exact h3 j k x e e2 hjk hx
      · simp only [if_neg e2]
        have := hlt j x e (.inl hx)
        exact ⟨fun c => by omega, fun c => c⟩
    · simp only [if_neg e] at hx
      have e2 : k < l.length := by omega
      simp only [if_pos e2]
      exact ⟨fun c => by have := hlt k x e2 (.inl c); omega, fun c => by have := hlt k x e2 (.inr c); omega⟩
theorem tabs_set (h : Tabs N w l) (hi : l[i]? = some (T, s)) (kv : Value) (k : List UInt8) (hk : Bs w w.heap.size kv k) (hkl : k.length < 1000000) (v : Nat) (hv : v < 18446744073709551616) (hfew : s.prs.length < 900000) (hka : 0 < k.length → ∀ b, kv.ownBlock = some b → ¬ N b) (hN : ∀ x, w.heap.size ≤ x → N x) :
    Calls Try.prog 9 #[.pointer (some ⟨T, 0, none⟩), kv, .int .u64 (v : Int)] w fun e w' => ∃ (r : Nat) (s' : PT), e = .returned (.int .i64 (r : Int)) ∧ ((Vk k ∧ r = 0 ∧ List.Perm s'.prs ((k, v) :: remA s.prs k)) ∨ (¬ Vk k ∧ r = 1 ∧ s' = s)) ∧ s'.seed = s.seed ∧ Tabs N w' (l.set i (T, s')) ∧ Chg N w w' := by
  obtain ⟨M, R, h1, h2, h3⟩ := h
  have hl := (List.getElem?_eq_some_iff.1 hi).1
  by_cases hV : Vk k
  · refine (set_yes T (M i) (R i) s w (h1 i T s hi) kv k hk hV.1 hV.2 v hv hfew (fun b hb c => hka hV.1 b hb (h2 i b hl (.inl c)))).mono ?_
    rintro e w' ⟨rfl, s', e1, e2, e3⟩
    have := Tabs.mut h1 h2 h3 hi e3 hN
    exact ⟨0, s', rfl, .inl ⟨hV, rfl, e2⟩, e1, this.1, this.2⟩
  · refine (set_no T (M i) (R i) s w (h1 i T s hi) kv k hk (by unfold Vk at hV; omega) hkl v).mono ?_
    rintro e w' ⟨rfl, rfl⟩
    refine ⟨1, s, rfl, .inr ⟨hV, rfl, rfl⟩, rfl, ?_, Chg.refl⟩
    rw [show l.set i (T, s) = l from List.ext_getElem? fun j => by
      by_cases e : i = j
      · subst e; rw [List.getElem?_set_self hl, hi]
      · rw [List.getElem?_set_ne e]]
    exact ⟨M, R, h1, h2, h3⟩
theorem tabs_rem (h : Tabs N w l) (hi : l[i]? = some (T, s)) (kv : Value) (k : List UInt8) (hk : Bs w w.heap.size kv k) (hkl : k.length < 1000000) (hN : ∀ x, w.heap.size ≤ x → N x) :
    Calls Try.prog 11 #[.pointer (some ⟨T, 0, none⟩), kv] w fun e w' => ∃ (r : Nat) (s' : PT), e = .returned (.int .i64 (r : Int)) ∧ ((Vk k ∧ r = 0 ∧ ∃ v, (k, v) ∈ s.prs) ∨ (Vk k ∧ r = 6 ∧ ∀ p ∈ s.prs, p.1 ≠ k) ∨ (¬ Vk k ∧ r = 1)) ∧ List.Perm s'.prs (remA s.prs k) ∧ s'.seed = s.seed ∧ Tabs N w' (l.set i (T, s')) ∧ Chg N w w' := by
  obtain ⟨M, R, h1, h2, h3⟩ := h
  have hl := (List.getElem?_eq_some_iff.1 hi).1
  have hsame : l.set i (T, s) = l := List.ext_getElem? fun j => by
    by_cases e : i = j
    · subst e; rw [List.getElem?_set_self hl, hi]
    · rw [List.getElem?_set_ne e]
  have hok := (h1 i T s hi).ok
  by_cases hV : Vk k
  · by_cases hin : ∃ v, (k, v) ∈ s.prs
    · obtain ⟨v, hv⟩ := hin
      refine (rem_yes T (M i) (R i) s w (h1 i T s hi) kv k hk hV.1 hV.2 v hv).mono ?_
      rintro e w' ⟨rfl, s', e1, e2, e3⟩
      have := Tabs.mut h1 h2 h3 hi e3 hN
      exact ⟨0, s', rfl, .inl ⟨hV, rfl, v, hv⟩, e2, e1, this.1, this.2⟩
    · have hno : ∀ p ∈ s.prs, p.1 ≠ k := fun p hp e => hin ⟨p.2, by rw [← e]; exact hp⟩
      refine (rem_none T (M i) (R i) s w (h1 i T s hi) kv k hk hV.1 hV.2 hno).mono ?_
      rintro e w' ⟨rfl, hb⟩
      refine ⟨6, s, rfl, .inr (.inl ⟨hV, rfl, hno⟩), by rw [remA_none hno], rfl, ?_, Chg.of_below hb⟩
      rw [hsame]
      exact Tabs.on ⟨M, R, h1, h2, h3⟩ hb
  · have hno : ∀ p ∈ s.prs, p.1 ≠ k := fun p hp e => hV (e ▸ hok.keys p hp)
    refine (rem_no T (M i) (R i) s w (h1 i T s hi) kv k hk (by unfold Vk at hV; omega) hkl).mono ?_
    rintro e w' ⟨rfl, rfl⟩
    refine ⟨1, s, rfl, .inr (.inr ⟨hV, rfl⟩), by rw [remA_none hno], rfl, ?_, Chg.refl⟩
    rw [hsame]
    exact ⟨M, R, h1, h2, h3⟩
theorem live_keys {B : Nat} (h : PLive B w T s) :
    Calls Try.prog 18 #[.pointer (some ⟨T, 0, none⟩)] w fun e w' => ∃ (A : Option Addr) (cap : Nat) (ks : List (List UInt8)), e = .returned (.slice A s.prs.length cap) ∧ s.prs.length ≤ cap ∧ List.Perm ks (s.prs.map (·.1)) ∧ ks.Pairwise kl ∧ KeysAt w' w.heap.size A ks ∧ Below w.heap.size w w' := by
  obtain ⟨M, R, ⟨ho, _, _, _, S, c, h4, _⟩, _⟩ := h
  exact keys_b T S c R s.seed _ s.sl w h4 (by have := ho.l9; omega) ho.few rfl ho.once (fun i e hi => ho.slot_key i e hi)
end
/-- strictly rising rows of the same keys are the same -/
theorem kl_sorted_eq {a b : List (List UInt8)} (ha : a.Pairwise kl) (hb : b.Pairwise kl) (hp : List.Perm a b) : a = b :=
  hp.eq_of_pairwise (fun x y _ _ h1 h2 => absurd h2 (kl_asymm h1)) ha hb
theorem Gets.same {A B : List (List UInt8 × Nat)} {k : List UInt8} {v v' : Nat} {b b' : Bool} (h : Gets A k v b) (h' : Gets B k v' b') (hd : (A.map (·.1)).Nodup) (hp : List.Perm A B) : v = v' ∧ b = b' := by
  rcases h with ⟨rfl, h⟩ | ⟨rfl, rfl, h⟩
  · rcases h' with ⟨rfl, h'⟩ | ⟨rfl, rfl, h'⟩
    · exact ⟨once_mem hd h (hp.mem_iff.2 h'), rfl⟩
    · exact absurd rfl (h' _ (hp.mem_iff.1 h))
  · rcases h' with ⟨rfl, h'⟩ | ⟨rfl, rfl, h'⟩
    · exact absurd rfl (h _ (hp.mem_iff.2 h'))
    · exact ⟨rfl, rfl⟩
end Go.Proofs.Ytffcbekogpgciaa.Pr
