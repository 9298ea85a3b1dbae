
/-
  Layer 14 (probe): a map[string]uint64 in memory that reads as keys with numbers.
-/
import Derived.Test.YtffcbekogpgciaaPrTwo
import Derived.Sort.Walk0
import Derived.Sort.KeysCollected
import Derived.Laws.Cover3
import Derived.Lib.ConvBytes
import Derived.IntWalk
set_option linter.unusedVariables false
set_option linter.unusedSimpArgs false
namespace Go.Proofs.Ytffcbekogpgciaa.Pr
open Go Go.RowKit Go.Maps

abbrev Prs := List (List UInt8 × Nat)
theorem keyedS14 : Keyed Try.prog 9 := string_keyed Try.underlying9
theorem keyOf_k {k : List UInt8} (h : k.length ≤ maxLen) : keyOf Try.prog 9 (.string ⟨k.toArray⟩) = some (.string k) := by
  have : (⟨k.toArray⟩ : ByteArray).size ≤ maxLen := by simpa [ByteArray.size] using h
  simp [keyOf, Try.underlying9, mapKey, this]
theorem isKey_k (k : List UInt8) : WideAt.IsKeyLit (.string k) := trivial
/-- the datum D reads as the keys and numbers A -/
structure ReadsP (D : DataW Unit) (A : Prs) : Prop where
  yes : ∀ k v, (k, v) ∈ A → ∀ zd, D.atKey (.string k) zd = .lit (.int .u64 (v : Int))
  no : ∀ k, (∀ p ∈ A, p.1 ≠ k) → Maps.has D (.string k) = false
theorem ReadsP.perm {D : DataW Unit} {A B : Prs} (h : ReadsP D A) (hp : List.Perm A B) : ReadsP D B := ⟨fun k v hm => h.yes k v (hp.mem_iff.2 hm), fun k hk => h.no k (fun p hp' => hk p (hp.mem_iff.1 hp'))⟩
theorem ReadsP.gets {D : DataW Unit} {A : Prs} (h : ReadsP D A) {k : List UInt8} {v : Nat} {b : Bool} (hg : Gets A k v b) : Maps.has D (.string k) = b ∧ D.atKey (.string k) (.lit (.int .u64 0)) = .lit (.int .u64 (v : Int)) := by
  rcases hg with ⟨rfl, hm⟩ | ⟨rfl, rfl, hno⟩
  · exact ⟨has_true_of_atKey (h.yes k v hm), h.yes k v hm _⟩
  · exact ⟨h.no k hno, atKey_of_not_has (h.no k hno) _⟩
theorem ReadsP.empty : ReadsP (.map []) [] := ⟨fun k v hm => by simp at hm, fun k _ => by show Maps.has _ _ = false; rfl⟩
theorem lit_ne {a b : List UInt8} (h : a ≠ b) : (Lit.string a) ≠ .string b := fun e => h (by injection e)
theorem ReadsP.put {D : DataW Unit} {A : Prs} (h : ReadsP D A) (hD : IsMap D) (k : List UInt8) (v : Nat) : ReadsP (D.put (.string k) (.lit (.int .u64 (v : Int)))) ((k, v) :: remA A k) := by
  refine ⟨fun k' v' hm zd => ?_, fun k' hk => ?_⟩
  · rcases List.mem_cons.1 hm with e | hm
    · injection e with e1 e2
      subst e1
      subst e2
      exact atKey_put_same hD (isKey_k k') _ _
    · obtain ⟨h1, h2⟩ := remA_mem.1 hm
      exact (atKey_put_other (lit_ne h2) _ _).trans (h.yes k' v' h1 zd)
  · have h1 : k' ≠ k := fun e => hk (k, v) (List.mem_cons_self ..) e.symm
    refine (has_put_other (lit_ne h1) _).trans (h.no k' (fun p hp e => ?_))
    exact hk p (List.mem_cons_of_mem _ (remA_mem.2 ⟨hp, by rw [e]; exact h1⟩)) e
theorem ReadsP.del {D : DataW Unit} {A : Prs} (h : ReadsP D A) (k : List UInt8) : ReadsP (D.del (.string k)) (remA A k) := by
  refine ⟨fun k' v' hm zd => ?_, fun k' hk => ?_⟩
  · obtain ⟨h1, h2⟩ := remA_mem.1 hm
    exact (atKey_del_other (lit_ne h2) _).trans (h.yes k' v' h1 zd)
  · by_cases e : k' = k
    · subst e
      exact has_del_same
    · exact (has_del_other (lit_ne e)).trans (h.no k' (fun p hp e2 => hk p (remA_mem.2 ⟨hp, by rw [e2]; exact e⟩) e2))
abbrev OMP (w : World) (b n : Nat) (D : DataW Unit) : Prop := w.ownsMap Try.prog 9 (plainElem Try.prog 22) b n D
theorem keys_perm {w : World} {b n : Nat} {D : DataW Unit} {A : Prs} (h : OMP w b n D) (hr : ReadsP D A) (hd : (A.map (·.1)).Nodup) : (A.map fun x => x.1).Perm (strKeys D) := by
  obtain ⟨es', hD, hpw, _⟩ := h.entries keyedS14
  obtain ⟨es2, hD2, hko⟩ := h.keysOf
  obtain rfl : es' = es2 := by rw [hD] at hD2; simpa using hD2
  subst hD
  refine perm_strKeys hpw (fun p hp => by obtain ⟨v, hv⟩ := hko p hp; obtain ⟨x, _, hx, _⟩ := Maps.keyOf_str Try.underlying9 hv; exact ⟨x, hx⟩) ?_ (fun x => ?_)
  · exact hd
  · rw [List.mem_map]
    constructor
    · rintro ⟨y, hy, rfl⟩
      exact has_true_of_atKey (hr.yes y.1 y.2 hy)
    · intro hx
      refine Classical.byContradiction fun c => ?_
      have := hr.no x (fun p hp e => c ⟨p, hp, e⟩)
      rw [this] at hx
      cases hx
theorem size_p {w : World} {b n : Nat} {D : DataW Unit} {A : Prs} (h : OMP w b n D) (hr : ReadsP D A) (hd : (A.map (·.1)).Nodup) : Maps.size D = A.length := by
  have h1 := (keys_perm h hr hd).length_eq
  obtain ⟨es', hD, _⟩ := h.entries keyedS14
  subst hD
  simp only [List.length_map, strKeys] at h1
  rw [Maps.size_eq]
  exact h1.symm
theorem OMP.tight {w : World} {b n : Nat} {D : DataW Unit} (h : OMP w b n D) : OMP w b (Maps.size D) D := by
  obtain ⟨es, clock, hb, F, _, rfl⟩ := h
  exact ⟨es, clock, hb, F, by rw [Maps.size_eq, length_read]; exact Nat.le_refl _, rfl⟩
/-- block b is a map that reads as A -/
def MapP (w : World) (b : Nat) (A : Prs) : Prop := (A.map (·.1)).Nodup ∧ ∃ D, OMP w b A.length D ∧ ReadsP D A
section
variable {w w' : World} {b : Nat} {A B : Prs} {M : Nat → Prop}
theorem MapP.of {n : Nat} {D : DataW Unit} (h : OMP w b n D) (hr : ReadsP D A) (hd : (A.map (·.1)).Nodup) : MapP w b A := ⟨hd, D, by have := OMP.tight h; rw [size_p h hr hd] at this; exact this, hr⟩
theorem MapP.perm (h : MapP w b A) (hp : List.Perm A B) : MapP w b B := by
  obtain ⟨hd, D, h1, h2⟩ := h
  exact MapP.of h1 (h2.perm hp) (((hp.map (·.1)).nodup_iff).1 hd)
theorem MapP.lt (h : MapP w b A) : b < w.heap.size := by obtain ⟨_, D, h, _⟩ := h; exact h.lt
theorem MapP.of_block (h : MapP w b A) (hb : w'.heap[b]? = w.heap[b]?) : MapP w' b A := by
  obtain ⟨ho, D, ⟨es', clock, h1, h2⟩, hr⟩ := h
  exact ⟨ho, D, ⟨es', clock, hb.trans h1, h2⟩, hr⟩
theorem MapP.chg (h : MapP w b A) (hc : Chg M w w') (hM : ¬ M b) : MapP w' b A := h.of_block (hc.block b h.lt hM)
theorem MapP.on (h : MapP w b A) (hb : Below w.heap.size w w') : MapP w' b A := h.of_block (hb.block b h.lt)
theorem MapP.new (w : World) : MapP (w.alloc (.map #[] 0)) w.heap.size [] := ⟨List.nodup_nil, _, World.ownsMap_made w _ _ _, ReadsP.empty⟩
theorem zeroU64p (w : World) : (zeroValue 22).run Try.prog w = .ok (.int .u64 0) w := by kernel_rfl
set_option maxRecDepth 100000 in
theorem MapP.look (h : MapP w b A) {k : List UInt8} (hk : k.length ≤ maxLen) {v : Nat} {q : Bool} (hg : Gets A k v q) :
    (Instr.lookup 55 (.map (some b)) (.string ⟨k.toArray⟩) true).run Try.prog w = .ok (.tuple #[.int .u64 (v : Int), .bool q]) w := by
  obtain ⟨ho, D, hown, hr⟩ := h
  obtain ⟨v', ps, hrun, hv⟩ := hown.look_ok keyedS14 Try.underlying55 (zeroU64p w) (plainElem_int Try.underlying22 (by decide)) (keyOf_k hk)
  obtain ⟨c, rfl, e, hw⟩ := plainElem_int_inv Try.underlying22 hv
  obtain ⟨g1, g2⟩ := hr.gets hg
  injection e with e _
  rw [g2] at e
  injection e with e
  injection e with _ e
  rw [hrun, g1, e]
theorem MapP.len (h : MapP w b A) (ty : TypeId) : (Builtin.len_ #[55] ty #[.map (some b)]).run Try.prog w = .ok (.int .i64 (A.length : Int)) w := by
  obtain ⟨ho, D, hown, hr⟩ := h
  rw [hown.len Try.underlying55 ty, size_p hown hr ho]
theorem wf_u64p {i : Nat} (hi : i < 18446744073709551616) : (Lit.int .u64 (i : Int)).wf = true := by
  have h1 : (0 : Int) ≤ (i : Int) := by omega
  have h2 : (i : Int) < 18446744073709551616 := by omega
  have e1 : IntKind.u64.min = 0 := by decide
  have e2 : IntKind.u64.max = 18446744073709551615 := by decide
  simp only [Lit.wf, e1, e2, Bool.and_eq_true, decide_eq_true_eq]
  omega
set_option maxRecDepth 100000 in
theorem MapP.store (h : MapP w b A) (hl : A.length ≤ 1000000) {k : List UInt8} (hk : k.length ≤ 1000000) {v : Nat} (hv : v < 18446744073709551616) :
    ∃ w', (Instr.mapUpdate 55 (.map (some b)) (.string ⟨k.toArray⟩) (.int .u64 (v : Int))).run Try.prog w = .ok () w' ∧ MapP w' b ((k, v) :: remA A k) ∧ w.mapTurned w' b := by
  obtain ⟨ho, D, hown, hr⟩ := h
  obtain ⟨w', hrun, r1, r2⟩ := hown.store keyedS14 Try.underlying55 (by unfold maxLen; omega) (keyOf_k (k := k) (by unfold maxLen; omega)) (plainElem_int Try.underlying22 (wf_u64p hv))
  exact ⟨w', hrun, MapP.of r1 (hr.put hown.isMap k v) (remA_nodup ho k v), r2⟩
set_option maxRecDepth 100000 in
theorem MapP.drop (h : MapP w b A) {k : List UInt8} (hk : k.length ≤ 1000000) (ty : TypeId) :
    ∃ w', (Builtin.delete_ #[55, 9] ty #[.map (some b), .string ⟨k.toArray⟩]).run Try.prog w = .ok (.tuple #[]) w' ∧ MapP w' b (remA A k) ∧ w.mapTurned w' b := by
  obtain ⟨ho, D, hown, hr⟩ := h
  obtain ⟨w', hrun, r1, r2⟩ := hown.drop keyedS14 Try.underlying55 (keyOf_k (k := k) (by unfold maxLen; omega)) ty
  exact ⟨w', hrun, MapP.of r1 (hr.del k) (remA_nodup' ho k), r2⟩
theorem chg_turned (h : w.mapTurned w' b) : Chg (fun i => i = b) w w' := Chg.of_grown h.grown (by intro g hg; injection hg with hg; exact hg.symm)
/-- whether a key is there, and its number -/
theorem gets_ex (A : Prs) (k : List UInt8) : ∃ v q, Gets A k v q := by
  by_cases h : ∃ v, (k, v) ∈ A
  · obtain ⟨v, hv⟩ := h
    exact ⟨v, true, .inl ⟨rfl, hv⟩⟩
  · exact ⟨0, false, .inr ⟨rfl, rfl, fun p hp e => h ⟨p.2, by rw [← e]; exact hp⟩⟩⟩
end
end Go.Proofs.Ytffcbekogpgciaa.Pr
