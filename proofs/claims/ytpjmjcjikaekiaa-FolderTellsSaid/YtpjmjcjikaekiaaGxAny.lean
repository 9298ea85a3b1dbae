
/-
  Layer 6: the document's folder: each call, whatever its outcome.
-/
import Derived.Test.YtpjmjcjikaekiaaGxLive
set_option linter.unusedVariables false
set_option linter.unusedSimpArgs false
namespace Go.Proofs.Ytpjmjcjikaekiaa
open Go.RowKit

def curL (sts : List (List Ent)) : List Ent := sts.getLastD []
theorem curL_get {sts : List (List Ent)} (h : 0 < sts.length) : sts[sts.length - 1]? = some (curL sts) := by
  unfold curL
  rw [List.getLastD_eq_getLast?, List.getLast?_eq_getElem?]
  cases hh : sts[sts.length - 1]? with
  | none => rw [List.getElem?_eq_none_iff] at hh; omega
  | some x => rfl
/-- what Create tells and makes -/
def createF (sts : List (List Ent)) (last : Nat) (n : ByteArray) : Nat × Nat × List (List Ent) × Nat :=
  if mayN n = false then (0, 1, sts, last) else if (findL (curL sts) n).isSome then (0, 9, sts, last) else if 256 ≤ (curL sts).length then (0, 7, sts, last) else (last + 1, 0, sts ++ [withL (curL sts) n (last + 1)], last + 1)
def renameF (sts : List (List Ent)) (n to : ByteArray) : Nat × List (List Ent) :=
  if mayN n = false ∨ mayN to = false then (1, sts) else match findL (curL sts) n with
    | none => (6, sts)
    | some i => if n.toList == to.toList then (0, sts) else (0, sts ++ [withL (withoutL (curL sts) n) to i])
def removeF (sts : List (List Ent)) (n : ByteArray) : Nat × List (List Ent) :=
  if mayN n = false then (1, sts) else if (findL (curL sts) n).isSome then (0, sts ++ [withoutL (curL sts) n]) else (6, sts)
def crashF (sts : List (List Ent)) (q : Int) : List (List Ent) := [(sts[min q.toNat (sts.length - 1)]?).getD []]
section
variable {w : World} {X : Nat} {N : Nat → Prop} {vs : Value} {vals : List Value} {sts : List (List Ent)} {last : Nat}
theorem RMut.of_below {w' : World} (h : RFol w X N vs vals sts last) (hb : Below w.heap.size w w') : RMut w w' X N vs sts last :=
  ⟨vs, vals, N, h.on hb, Chg.of_below hb, .inl rfl, fun _ h => .inl h⟩
theorem rcreate_any (h : RFol w X N vs vals sts last) (hl : sts.length ≤ 100000) (hk : (curL sts).length ≤ 100000) (hla : last ≤ 1000000) (n : ByteArray) (hn : n.size ≤ 9223372036854775807) :
    Calls Try.prog 36 #[.pointer (some ⟨X, 0, none⟩), .string n] w fun e w' => e = .returned (.tuple #[.int .u64 ((createF sts last n).1 : Int), .int .i64 ((createF sts last n).2.1 : Int)]) ∧ RMut w w' X N vs (createF sts last n).2.2.1 (createF sts last n).2.2.2 := by
  have hst := curL_get h.pos
  unfold createF
  cases hm : mayN n
  · rw [if_pos rfl]
    exact (rcreate_arg h hl _ hst hk n hn hm).mono fun e w' ⟨he, hb⟩ => ⟨he, RMut.of_below h hb⟩
  · rw [if_neg (by simp)]
    cases hf : (findL (curL sts) n).isSome
    · rw [if_neg (by simp)]
      by_cases h256 : 256 ≤ (curL sts).length
      · rw [if_pos h256]
        exact (rcreate_full h hl _ hst hk n hn hm hf h256).mono fun e w' ⟨he, hb⟩ => ⟨he, RMut.of_below h hb⟩
      · rw [if_neg h256]
        exact rcreate h hl _ hst (by omega) hla n hn hm (by simpa using hf)
    · rw [if_pos rfl]
      exact (rcreate_there h hl _ hst hk n hn hm hf).mono fun e w' ⟨he, hb⟩ => ⟨he, RMut.of_below h hb⟩
theorem rremove_any (h : RFol w X N vs vals sts last) (hl : sts.length ≤ 100000) (hk : (curL sts).length ≤ 100000) (n : ByteArray) (hn : n.size ≤ 9223372036854775807) :
    Calls Try.prog 38 #[.pointer (some ⟨X, 0, none⟩), .string n] w fun e w' => e = .returned (.int .i64 ((removeF sts n).1 : Int)) ∧ RMut w w' X N vs (removeF sts n).2 last := by
  have hst := curL_get h.pos
  unfold removeF
  cases hm : mayN n
  · rw [if_pos rfl]
    exact (rremove_arg h n hn hm).mono fun e w' ⟨he, hb⟩ => ⟨he, RMut.of_below h hb⟩
  · rw [if_neg (by simp)]
    cases hf : (findL (curL sts) n).isSome
    · rw [if_neg (by simp)]
      exact (rremove_none h hl _ hst hk n hn hm hf).mono fun e w' ⟨he, hb⟩ => ⟨he, RMut.of_below h hb⟩
    · rw [if_pos rfl]
      exact rremove h hl _ hst hk n hn hm hf
theorem rrename_any (h : RFol w X N vs vals sts last) (hl : sts.length ≤ 100000) (hk : (curL sts).length ≤ 100000) (hin : ∀ x ∈ curL sts, x.2 < 18446744073709551616) (n to : ByteArray) (hn : n.size ≤ 9223372036854775807) (ht : to.size ≤ 9223372036854775807) :
    Calls Try.prog 37 #[.pointer (some ⟨X, 0, none⟩), .string n, .string to] w fun e w' => e = .returned (.int .i64 ((renameF sts n to).1 : Int)) ∧ RMut w w' X N vs (renameF sts n to).2 last := by
  have hst := curL_get h.pos
  unfold renameF
  cases hm : mayN n
  · rw [if_pos (.inl rfl)]
    exact (rrename_arg h hl _ hst hk n to hn ht hm).mono fun e w' ⟨he, hb⟩ => ⟨he, RMut.of_below h hb⟩
  · cases hm2 : mayN to
    · rw [if_pos (.inr rfl)]
      exact (rrename_arg2 h hl _ hst hk n to hn ht hm hm2).mono fun e w' ⟨he, hb⟩ => ⟨he, RMut.of_below h hb⟩
    · rw [if_neg (by simp)]
      cases hf : findL (curL sts) n with
      | none => exact (rrename_none h hl _ hst hk n to hn ht hm hm2 (by rw [hf]; rfl)).mono fun e w' ⟨he, hb⟩ => ⟨he, RMut.of_below h hb⟩
      | some i =>
        simp only []
        cases hne : (n.toList == to.toList)
        · have hi : i < 18446744073709551616 := by
            unfold findL at hf
            obtain ⟨x, hx, rfl⟩ := Option.map_eq_some_iff.1 hf
            exact hin x (List.mem_of_find?_eq_some hx)
          exact rrename h hl _ hst hk n to hn ht hm hm2 i hi hf hne
        · exact (rrename_same h hl _ hst hk n to hn ht hm hm2 (by rw [hf]; rfl) hne).mono fun e w' ⟨he, hb⟩ => ⟨he, RMut.of_below h hb⟩
theorem rcrash_any (h : RFol w X N vs vals sts last) (hl : sts.length ≤ 100000) (q : Int) :
    Calls Try.prog 39 #[.pointer (some ⟨X, 0, none⟩), .int .i64 q] w fun e w' => e = .returned (.tuple #[]) ∧ RMut w w' X N vs (crashF sts q) last := by
  have hpos := h.pos
  unfold crashF
  obtain ⟨k, hk⟩ : ∃ k, k = min q.toNat (sts.length - 1) := ⟨_, rfl⟩
  rw [← hk]
  obtain ⟨l, hst⟩ : ∃ l, sts[k]? = some l := ⟨sts[k]'(by omega), List.getElem?_eq_getElem _⟩
  rw [hst]
  refine rcrash h hl q k ?_ l hst
  by_cases h0 : q < 0
  · exact .inl ⟨h0, by omega⟩
  · by_cases h1 : (sts.length : Int) - 1 < q
    · exact .inr (.inr ⟨h1, by omega, by omega⟩)
    · exact .inr (.inl ⟨by omega, by omega, by omega⟩)
end
end Go.Proofs.Ytpjmjcjikaekiaa
