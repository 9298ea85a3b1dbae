
/-
  Layer 6: a map of names in memory that reads as a row of entries.
-/
import Derived.Test.YtpjmjcjikaekiaaHxPlain
import Derived.Sort.KeysCollected
import Derived.Laws.Cover3
set_option linter.unusedVariables false
set_option linter.unusedSimpArgs false
namespace Go.Proofs.Ytpjmjcjikaekiaa
open Go.RowKit Go.Maps

def kn (n : ByteArray) : Lit := .string n.data.toList
theorem kn_inj {a b : ByteArray} (h : kn a = kn b) : a = b := by
  unfold kn at h
  injection h with h
  exact toList_inj (by rw [ByteArray.toList_eq, ByteArray.toList_eq]; exact h)
theorem keyedS : Keyed Try.prog 9 := string_keyed Try.underlying9
theorem keyOf_kn {n : ByteArray} (h : n.size ≤ maxLen) : keyOf Try.prog 9 (.string n) = some (kn n) := by
  simp [keyOf, Try.underlying9, mapKey, kn, h]
theorem isKey_kn (n : ByteArray) : WideAt.IsKeyLit (kn n) := trivial
/-- the datum D reads as the entries es -/
def Reads (D : DataW Unit) (es : List Ent) : Prop := ∀ n : ByteArray, match findL es n with
  | some i => ∀ zd, D.atKey (kn n) zd = .lit (.int .u64 (i : Int))
  | none => Maps.has D (kn n) = false
theorem Reads.some_ {D : DataW Unit} {es : List Ent} (h : Reads D es) {n : ByteArray} {i : Nat} (hf : findL es n = some i) (zd : DataW Unit) : D.atKey (kn n) zd = .lit (.int .u64 (i : Int)) := by
  have := h n
  rw [hf] at this
  exact this zd
theorem Reads.none_ {D : DataW Unit} {es : List Ent} (h : Reads D es) {n : ByteArray} (hf : findL es n = none) : Maps.has D (kn n) = false := by
  have := h n
  rw [hf] at this
  exact this
theorem Reads.has {D : DataW Unit} {es : List Ent} (h : Reads D es) (n : ByteArray) : Maps.has D (kn n) = (findL es n).isSome := by
  cases hf : findL es n with
  | none => exact h.none_ hf
  | some i => exact has_true_of_atKey (h.some_ hf)
theorem Reads.at0 {D : DataW Unit} {es : List Ent} (h : Reads D es) (n : ByteArray) : D.atKey (kn n) (.lit (.int .u64 0)) = .lit (.int .u64 (((findL es n).getD 0 : Nat) : Int)) := by
  cases hf : findL es n with
  | none => exact atKey_of_not_has (h.none_ hf) _
  | some i => exact h.some_ hf _
theorem Reads.empty : Reads (.map []) [] := fun n => by
  show Maps.has _ _ = false
  rfl
theorem Reads.put {D : DataW Unit} {es : List Ent} (h : Reads D es) (hD : IsMap D) (hs : SortE es) (n : ByteArray) (i : Nat) : Reads (D.put (kn n) (.lit (.int .u64 (i : Int)))) (withL es n i) := fun k => by
  by_cases hk : k = n
  · subst hk
    rw [findL_with_same hs]
    exact fun zd => atKey_put_same hD (isKey_kn k) _ _
  · rw [findL_with_other hs _ hk]
    have hne : kn k ≠ kn n := fun e => hk (kn_inj e)
    have := h k
    cases hf : findL es k with
    | none => rw [hf] at this; exact (has_put_other hne _).trans this
    | some j => rw [hf] at this; exact fun zd => (atKey_put_other hne _ _).trans (this zd)
theorem Reads.del {D : DataW Unit} {es : List Ent} (h : Reads D es) (hs : SortE es) (n : ByteArray) : Reads (D.del (kn n)) (withoutL es n) := fun k => by
  by_cases hk : k = n
  · subst hk
    rw [findL_without_same]
    exact has_del_same
  · rw [findL_without_other hs hk]
    have hne : kn k ≠ kn n := fun e => hk (kn_inj e)
    have := h k
    cases hf : findL es k with
    | none => rw [hf] at this; exact (has_del_other hne).trans this
    | some j => rw [hf] at this; exact fun zd => (atKey_del_other hne _).trans (this zd)

abbrev OMS (w : World) (b n : Nat) (D : DataW Unit) : Prop := w.ownsMap Try.prog 9 (plainElem Try.prog 29) b n D
theorem names_perm {w : World} {b n : Nat} {D : DataW Unit} {es : List Ent} (h : OMS w b n D) (hr : Reads D es) (hs : SortE es) : (es.map fun x => x.1.data.toList).Perm (strKeys D) := by
  obtain ⟨es', hD, hpw, _⟩ := h.entries keyedS
  obtain ⟨es2, hD2, hko⟩ := h.keysOf
  obtain rfl : es' = es2 := by rw [hD] at hD2; simpa using hD2
  subst hD
  refine perm_strKeys hpw (fun p hp => by obtain ⟨v, hv⟩ := hko p hp; obtain ⟨x, _, hx, _⟩ := Maps.keyOf_str Try.underlying9 hv; exact ⟨x, hx⟩) ?_ (fun x => ?_)
  · exact List.pairwise_map.2 (hs.ne.imp (fun hn e => hn (toList_inj (by rw [ByteArray.toList_eq, ByteArray.toList_eq]; exact e))))
  · have e : (.string x : Lit) = kn ⟨x.toArray⟩ := by simp [kn]
    rw [e, hr.has, List.mem_map]
    constructor
    · rintro ⟨y, hy, rfl⟩
      have : findL es y.1 = some y.2 := (findL_iff hs).2 hy
      have e2 : (⟨y.1.data.toList.toArray⟩ : ByteArray) = y.1 := by simp
      rw [e2, this]
      rfl
    · intro hx
      obtain ⟨i, hi⟩ := Option.isSome_iff_exists.1 hx
      exact ⟨_, findL_mem hi, by simp⟩
theorem size_es {w : World} {b n : Nat} {D : DataW Unit} {es : List Ent} (h : OMS w b n D) (hr : Reads D es) (hs : SortE es) : Maps.size D = es.length := by
  have h1 := (names_perm h hr hs).length_eq
  obtain ⟨es', hD, _⟩ := h.entries keyedS
  subst hD
  simp only [List.length_map, strKeys] at h1
  rw [Maps.size_eq]
  exact h1.symm
theorem OMS.tight {w : World} {b n : Nat} {D : DataW Unit} (h : OMS w b n D) : OMS w b (Maps.size D) D := by
  obtain ⟨es, clock, hb, F, _, rfl⟩ := h
  exact ⟨es, clock, hb, F, by rw [Maps.size_eq, length_read]; exact Nat.le_refl _, rfl⟩
/-- block b is a map that reads as the entries es -/
def MapAt (w : World) (b : Nat) (es : List Ent) : Prop := OkE es ∧ ∃ D, OMS w b es.length D ∧ Reads D es
theorem MapAt.of {w : World} {b n : Nat} {D : DataW Unit} {es : List Ent} (h : OMS w b n D) (hr : Reads D es) (ho : OkE es) : MapAt w b es := ⟨ho, D, by have := OMS.tight h; rw [size_es h hr ho.1] at this; exact this, hr⟩
section
variable {w w' : World} {b : Nat} {es : List Ent} {M : Nat → Prop}
theorem MapAt.lt (h : MapAt w b es) : b < w.heap.size := by obtain ⟨_, D, h, _⟩ := h; exact h.lt
theorem MapAt.of_block (h : MapAt w b es) (hb : w'.heap[b]? = w.heap[b]?) : MapAt w' b es := by
  obtain ⟨ho, D, ⟨es', clock, h1, h2⟩, hr⟩ := h
  exact ⟨ho, D, ⟨es', clock, hb.trans h1, h2⟩, hr⟩
theorem MapAt.chg (h : MapAt w b es) (hc : Chg M w w') (hM : ¬ M b) : MapAt w' b es := h.of_block (hc.block b h.lt hM)
theorem MapAt.on (h : MapAt w b es) (hb : Below w.heap.size w w') : MapAt w' b es := h.of_block (hb.block b h.lt)
theorem MapAt.new (w : World) : MapAt (w.alloc (.map #[] 0)) w.heap.size [] := ⟨OkE.nil_, _, World.ownsMap_made w _ _ _, Reads.empty⟩
theorem MapAt.no_cell (h : MapAt w b es) (o : Nat) : w.cell? ⟨b, o, none⟩ = none := by
  obtain ⟨_, D, ⟨es', clock, h1, _⟩, _⟩ := h
  simp [World.cell?, h1]
theorem zeroU64m (w : World) : (zeroValue 29).run Try.prog w = .ok (.int .u64 0) w := by kernel_rfl
set_option maxRecDepth 100000 in
theorem MapAt.look (h : MapAt w b es) {n : ByteArray} (hn : n.size ≤ maxLen) :
    (Instr.lookup 62 (.map (some b)) (.string n) true).run Try.prog w = .ok (.tuple #[.int .u64 (((findL es n).getD 0 : Nat) : Int), .bool (findL es n).isSome]) w ∧
    (Instr.lookup 62 (.map (some b)) (.string n) false).run Try.prog w = .ok (.int .u64 (((findL es n).getD 0 : Nat) : Int)) w := by
  obtain ⟨ho, D, hown, hr⟩ := h
  constructor
  · obtain ⟨v, ps, hrun, hv⟩ := hown.look_ok keyedS Try.underlying62 (zeroU64m w) (plainElem_int Try.underlying29 (by decide)) (keyOf_kn hn)
    obtain ⟨c, rfl, e, hw⟩ := plainElem_int_inv Try.underlying29 hv
    injection e with e _
    rw [hr.at0] at e
    injection e with e
    injection e with _ e
    rw [hrun, hr.has, e]
  · obtain ⟨c, hrun, e, hw⟩ := hown.lookup_int keyedS Try.underlying62 Try.underlying29 (zeroU64m w) (keyOf_kn hn)
    rw [hr.at0] at e
    injection e with e
    injection e with _ e
    rw [hrun, e]
theorem MapAt.len (h : MapAt w b es) (ty : TypeId) : (Builtin.len_ #[62] ty #[.map (some b)]).run Try.prog w = .ok (.int .i64 (es.length : Int)) w := by
  obtain ⟨ho, D, hown, hr⟩ := h
  rw [hown.len Try.underlying62 ty, size_es hown hr ho.1]
theorem wf_u64 {i : Nat} (hi : i < 1000000000) : (Lit.int .u64 (i : Int)).wf = true := by
  have h1 : (0 : Int) ≤ (i : Int) := by omega
  have h2 : (i : Int) < 18446744073709551616 := by omega
  have e1 : IntKind.u64.min = 0 := by decide
  have e2 : IntKind.u64.max = 18446744073709551615 := by decide
  simp only [Lit.wf, e1, e2, Bool.and_eq_true, decide_eq_true_eq]
  omega
set_option maxRecDepth 100000 in
theorem MapAt.store (h : MapAt w b es) (hl : es.length ≤ 1000000) {n : ByteArray} (hn : n.size ≤ 1000) {i : Nat} (hi : i < 1000000000) :
    ∃ w', (Instr.mapUpdate 62 (.map (some b)) (.string n) (.int .u64 (i : Int))).run Try.prog w = .ok () w' ∧ MapAt w' b (withL es n i) ∧ w.mapTurned w' b := by
  obtain ⟨ho, D, hown, hr⟩ := h
  obtain ⟨w', hrun, r1, r2⟩ := hown.store keyedS Try.underlying62 (by unfold maxLen; omega) (keyOf_kn (n := n) (by unfold maxLen; omega)) (plainElem_int Try.underlying29 (wf_u64 hi))
  exact ⟨w', hrun, MapAt.of r1 (hr.put hown.isMap ho.1 n i) (Dd.app_ok (d := .mk n i) ⟨hn, hi⟩ ho), r2⟩
set_option maxRecDepth 100000 in
theorem MapAt.drop (h : MapAt w b es) {n : ByteArray} (hn : n.size ≤ 1000) (ty : TypeId) :
    ∃ w', (Builtin.delete_ #[62, 9] ty #[.map (some b), .string n]).run Try.prog w = .ok (.tuple #[]) w' ∧ MapAt w' b (withoutL es n) ∧ w.mapTurned w' b := by
  obtain ⟨ho, D, hown, hr⟩ := h
  obtain ⟨w', hrun, r1, r2⟩ := hown.drop keyedS Try.underlying62 (keyOf_kn (n := n) (by unfold maxLen; omega)) ty
  exact ⟨w', hrun, MapAt.of r1 (hr.del ho.1 n) (Dd.app_ok (d := .rm n) hn ho), r2⟩
theorem Chg.of_turned (h : w.mapTurned w' b) : Chg (fun i => i = b) w w' := Chg.of_grown h.grown (by intro g hg; injection hg with hg; exact hg.symm)
end
end Go.Proofs.Ytpjmjcjikaekiaa
