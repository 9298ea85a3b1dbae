
/-
  Layer 14 (a table of keys), plainly: laying and taking, from their beginning to their end.
-/
import Derived.Test.YtffcbekogpgciaaPrPlain
set_option linter.unusedVariables false
set_option linter.unusedSimpArgs false
namespace Go.Proofs.Ytffcbekogpgciaa.Pr

/-- s is carried, behind q; all that was there, and the new one, is there or carried -/
structure Carry (h : List UInt8 → Nat) (sl0 : List (Option E)) (l : List UInt8) (v : Nat) (sl : List (Option E)) (s : E) (q : Nat) : Prop where
  lay : Lay h sl
  car : Car h sl s q
  len : sl.length = sl0.length
  perm : List.Perm ((s.key, s.n) :: kn sl) ((l, v) :: kn sl0)
section
variable {h : List UInt8 → Nat} {sl0 sl : List (Option E)} {l : List UInt8} {v : Nat} {s : E} {q : Nat}
theorem Carry.start (L : Lay h sl0) (hn : 0 < sl0.length) : Carry h sl0 l v sl0 ⟨l, v, 0⟩ (h l + (sl0.length - 1)) := ⟨L, Car.start hn, rfl, List.Perm.refl _⟩
theorem Carry.mem {i : Nat} {y : E} (hy : at_ sl i = some y) : (y.key, y.n) ∈ kn sl := by
  obtain ⟨h1, h2⟩ := at_lt_mod hy
  exact mem_kn.2 ⟨_, y, h1, h2, rfl, rfl⟩
theorem at_idx {q : Nat} (hn : 0 < sl.length) : sl[q % sl.length]'(Nat.mod_lt _ hn) = at_ sl q := by
  rw [← at_lt (Nat.mod_lt q hn)]
  exact at_mod (Nat.mod_mod _ _)
theorem Carry.place (C : Carry h sl0 l v sl s q) (hn : 2 ≤ sl.length) (hq : at_ sl (q + 1) = none) :
    Lay h (sl.set ((q + 1) % sl.length) (some s)) ∧ List.Perm (kn (sl.set ((q + 1) % sl.length) (some s))) ((l, v) :: kn sl0) := by
  refine ⟨C.lay.put_empty hn C.car hq, ?_⟩
  have hp := kn_set ((q + 1) % sl.length) (some s) (Nat.mod_lt (q + 1) (show 0 < sl.length by omega))
  rw [at_idx (by omega), hq, pr1_none, pr1_some, List.nil_append] at hp
  exact hp.trans C.perm
theorem Carry.swap (C : Carry h sl0 l v sl s q) (hn : 2 ≤ sl.length) {y : E} (hq : at_ sl (q + 1) = some y) (ha : Ahead s y) :
    Carry h sl0 l v (sl.set ((q + 1) % sl.length) (some s)) { y with far := y.far + 1 } (q + 1) := by
  obtain ⟨h1, h2⟩ := C.lay.put_over hn C.car hq ha
  refine ⟨h1, h2, by rw [List.length_set]; exact C.len, ?_⟩
  have hp := kn_set ((q + 1) % sl.length) (some s) (Nat.mod_lt (q + 1) (show 0 < sl.length by omega))
  rw [at_idx (by omega), hq, pr1_some, pr1_some] at hp
  exact hp.trans C.perm
theorem Carry.next (C : Carry h sl0 l v sl s q) {y : E} (hq : at_ sl (q + 1) = some y) (ha : ¬ Ahead s y) :
    Carry h sl0 l v sl { s with far := s.far + 1 } (q + 1) := ⟨C.lay, C.car.next hq ha, C.len, C.perm⟩

/-! ## taking -/
/-- S is what stands but the hole behind b; all that was there but the one that is taken stands -/
structure Gone (h : List UInt8 → Nat) (sl0 : List (Option E)) (z : E) (S : List (Option E)) (b : Nat) : Prop where
  hole : Hole h S b
  len : S.length = sl0.length
  perm : List.Perm ((z.key, z.n) :: kn S) (kn sl0)
theorem Gone.start (L : Lay h sl0) (hn : 3 ≤ sl0.length) {b : Nat} {z : E} (hz : at_ sl0 (b + 1) = some z) : Gone h sl0 z (sl0.set ((b + 1) % sl0.length) none) b := by
  refine ⟨L.hole hn hz, by simp, ?_⟩
  have hp := kn_set ((b + 1) % sl0.length) none (Nat.mod_lt (b + 1) (show 0 < sl0.length by omega))
  rw [at_idx (by omega), hz, pr1_none, pr1_some] at hp
  exact hp
theorem Gone.step {z : E} {S : List (Option E)} {b : Nat} (G : Gone h sl0 z S b) (hn : 3 ≤ S.length) {e : E} (he : at_ S (b + 2) = some e) (hf : 0 < e.far) :
    Gone h sl0 z ((S.set ((b + 1) % S.length) (some { e with far := e.far - 1 })).set ((b + 2) % S.length) none) (b + 1) := by
  have h0 : 0 < S.length := by omega
  refine ⟨G.hole.step hn he hf, by simp; exact G.len, ?_⟩
  have hp := kn_set (sl := S) ((b + 1) % S.length) (some { e with far := e.far - 1 }) (Nat.mod_lt _ h0)
  rw [at_idx h0, G.hole.none_, pr1_none, pr1_some, List.nil_append] at hp
  have h1 : 0 < (S.set ((b + 1) % S.length) (some { e with far := e.far - 1 })).length := by simpa using h0
  have hq := kn_set (sl := S.set ((b + 1) % S.length) (some { e with far := e.far - 1 })) ((b + 2) % S.length) none (by simpa using Nat.mod_lt (b + 2) h0)
  have hne : (b + 2) % S.length ≠ (b + 1) % S.length := fun c => succ_ne (q := b + 1) (n := S.length) (by omega) c.symm
  have hx : (S.set ((b + 1) % S.length) (some { e with far := e.far - 1 }))[(b + 2) % S.length]'(by simpa using Nat.mod_lt (b + 2) h0) = some e := by
    rw [List.getElem_set, if_neg (fun c => hne c.symm), at_idx h0]
    exact he
  rw [hx, pr1_some, pr1_none, List.nil_append] at hq
  have hr : List.Perm ((e.key, e.n) :: kn ((S.set ((b + 1) % S.length) (some { e with far := e.far - 1 })).set ((b + 2) % S.length) none)) ((e.key, e.n) :: kn S) := hq.trans hp
  exact ((List.perm_cons _).1 hr |>.cons _).trans G.perm
theorem Gone.done {z : E} {S : List (Option E)} {b : Nat} (G : Gone h sl0 z S b) (he : ∀ e, at_ S (b + 2) = some e → e.far = 0) : Lay h S := G.hole.done he
end
end Go.Proofs.Ytffcbekogpgciaa.Pr
