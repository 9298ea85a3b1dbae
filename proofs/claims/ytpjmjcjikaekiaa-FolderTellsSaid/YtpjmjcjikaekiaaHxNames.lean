
/-
  Layer 6: the program's folder: the names of a map, sorted.
-/
import Derived.Test.YtpjmjcjikaekiaaHxCopy
import Derived.Test.YtpjmjcjikaekiaaShelf6S
set_option linter.unusedVariables false
set_option linter.unusedSimpArgs false
namespace Go.Proofs.Ytpjmjcjikaekiaa
open Go.RowKit Go.Maps Go.Sort Go.Shelf

theorem hkeys (mb : Option Nat) (W : World) : Calls Try.prog 41 #[.map mb] W fun e w' => e = .returned (.func (.func 51) #[] #[.pointer (some ⟨W.heap.size, 0, none⟩)]) ∧ w' = W.alloc (.cells #[.map mb] 62) :=
  callsIn_wide.1 (AnyZ.keys_in Try.keysS Fence.wide 5 trivial rfl mb W)
theorem hsorts (m : Nat) : AnyZ.SortsIn Try.prog Try.sortedS_ren Fence.wide m :=
  ⟨fun blk off cap ss W hH hblk hsz => callsIn_wide.2 (AnyM.slices_Sort_string Try.sortS blk off cap ss W hH hblk hsz),
   fun p cap W => callsIn_wide.2 (AnyM.slices_Sort_string_none Try.sortS p cap W)⟩
theorem mergeSort_names {es : List Ent} (h : SortE es) : (es.map fun x => x.1.data.toList).mergeSort leB = es.map fun x => x.1.data.toList := by
  apply List.mergeSort_of_pairwise
  rw [List.pairwise_map]
  refine h.imp ?_
  intro a b hl
  have h2 := ltN_iff.1 hl
  rw [ByteArray.toList_eq, ByteArray.toList_eq] at h2
  simp only [leB, decide_eq_true_eq]
  exact List.le_of_lt h2
set_option maxHeartbeats 1000000 in
theorem hnames {w : World} {b : Nat} {es : List Ent} (h : MapAt w b es) (hl : es.length ≤ 1000000) :
    Calls Try.prog 40 #[.func (.func 51) #[] #[.pointer (some ⟨w.heap.size, 0, none⟩)]] (w.alloc (.cells #[.map (some b)] 62)) fun e w' => ∃ v, e = .returned v ∧
      w'.ownsRow (w.heap.size + 1) 9 1 v es.length (es.map fun x => Value.string x.1) ∧ Below (w.heap.size + 1) (w.alloc (.cells #[.map (some b)] 62)) w' := by
  obtain ⟨ho, D0, hown, hr⟩ := h
  have hsz := size_es hown hr ho.1
  have hbl := hown.lt
  have hseq : SeqGives Fence.wide 2 Try.prog 51 #[.pointer (some ⟨w.heap.size, 0, none⟩)] encStr (fun ss => ss.Perm (strKeys D0)) (Maps.size D0) (w.alloc (.cells #[.map (some b)] 62)) :=
    AnyZ.keys_gives (ρ := Try.keysS_ren) { Try.keysS with } Fence.wide _ trivial rfl (by omega) w.heap.size b es.length D0 _ (by simp) (by simp) (by
      obtain ⟨es', clock, hb, Ft, hs, hD⟩ := hown
      exact ⟨es', clock, (Below.heap_alloc _ _ b hbl).trans hb, Ft, hs, hD⟩)
  have hcon := AnyZ.sorted_in Try.sortedS Fence.wide 5 trivial trivial trivial trivial rfl (by omega) (hsorts _) (enters_of Try.func50 (by kernel_rfl) rfl) 51 #[.pointer (some ⟨w.heap.size, 0, none⟩)] trivial (enters_of Try.func51 (by kernel_rfl) rfl) _ _ (by unfold maxLen; omega) (by omega) _ hseq
  have hcon2 := callsIn_wide.1 hcon
  change Calls Try.prog 40 _ _ _ at hcon2
  refine hcon2.mono ?_
  rintro e w' ⟨v, ss, rfl, hS, hrow, hnil, hb⟩
  have hperm := (names_perm hown hr ho.1)
  have hms : ss.mergeSort leB = es.map fun x => x.1.data.toList := by rw [mergeSort_of_perm (hS.trans hperm.symm), mergeSort_names ho.1]
  have hlen : ss.length = es.length := by have := (hS.trans hperm.symm).length_eq; simpa using this
  refine ⟨v, rfl, ?_, ?_⟩
  · have e1 : (ss.mergeSort leB).map encStr = es.map fun x => Value.string x.1 := by
      rw [hms, List.map_map]
      refine List.map_congr_left fun x _ => ?_
      simp [encStr]
    rw [e1, hlen] at hrow
    have hrow2 : w'.ownsRow (w.alloc (.cells #[.map (some b)] 62)).heap.size 9 1 v es.length (es.map fun x => Value.string x.1) := hrow
    simpa using hrow2
  · simpa using hb
end Go.Proofs.Ytpjmjcjikaekiaa
