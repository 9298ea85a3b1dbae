
/-
  Layer 6: the document's folder: Find.
-/
import Derived.Test.YtpjmjcjikaekiaaGxFol
set_option linter.unusedVariables false
set_option linter.unusedSimpArgs false
namespace Go.Proofs.Ytpjmjcjikaekiaa
open Go.RowKit

def findL (l : List Ent) (n : ByteArray) : Option Nat := (l.find? fun x => x.1.toList == n.toList).map (·.2)
theorem findL_no {l : List Ent} {n : ByteArray} (h : ∀ x ∈ l, x.1.toList ≠ n.toList) : findL l n = none := by
  unfold findL
  rw [List.find?_eq_none.2 (fun x hx => by simpa using h x hx)]
  rfl
theorem findL_yes {l : List Ent} {n : ByteArray} {j : Nat} {x : Ent} (hx : l[j]? = some x) (h : ∀ y ∈ l.take j, y.1.toList ≠ n.toList) (he : x.1.toList = n.toList) : findL l n = some x.2 := by
  unfold findL
  have hj := (List.getElem?_eq_some_iff.1 hx).1
  have e : l = l.take j ++ x :: l.drop (j + 1) := by
    conv => lhs; rw [← List.take_append_drop j l]
    rw [List.drop_eq_getElem_cons hj, (List.getElem?_eq_some_iff.1 hx).2]
  rw [e, List.find?_append, List.find?_eq_none.2 (fun y hy => by simpa using h y hy)]
  simp [he]
set_option maxRecDepth 100000 in
set_option maxHeartbeats 4000000 in
theorem rfind {w : World} {X : Nat} {N : Nat → Prop} {vs : Value} {vals : List Value} {sts : List (List Ent)} {last : Nat} (h : RFol w X N vs vals sts last) (hl : sts.length ≤ 1000000) (l : List Ent) (hst : sts[sts.length - 1]? = some l) (hk : l.length ≤ 1000000) (n : ByteArray) :
    Calls Try.prog 16 #[.pointer (some ⟨X, 0, none⟩), .string n] w fun e w' => e = .returned (.tuple #[.int .u64 (((findL l n).getD 0 : Nat) : Int), .bool (findL l n).isSome]) ∧ Below w.heap.size w w' := by
  obtain ⟨v, l', hv, hst', hE, hcall⟩ := rlist h hl
  rw [hst] at hst'
  injection hst' with hst'
  subst hst'
  have HC := Lib.hid hcall
  have HE := Lib.hid hE.es
  obtain ⟨A, c, rfl, hc, _⟩ := hE
  obtain ⟨k, hke⟩ : ∃ k, k = l.length := ⟨_, rfl⟩
  rw [← hke] at HC HE hc hk
  have Hk := Lib.hid hke
  have HR : Hid (Rd w w.heap.size A (evs l)) := by obtain ⟨A', c', e, _, hr⟩ := HE.out; injection e with e1 _ _; subst e1; exact hr
  clear hcall hst hv h hke
  go_enter Try.func16, Try.ntmps16
  go_wp2_with fail
  refine HC.out.mono ?_
  rintro e w1 ⟨rfl, hb1⟩
  have HB1 := Lib.hid hb1
  clear hb1
  go_wp2_with fail
  go_loopw [7] (fun i wr => ∃ j : Nat, j ≤ k ∧ i = .int .i64 j ∧ (∀ x ∈ l.take j, x.1.toList ≠ n.toList) ∧ Below w.heap.size w wr) (fun i _ => k - (intOf i).toNat)
  case atStart => exact ⟨0, by omega, rfl, by simp, HB1.out⟩
  case round =>
    obtain ⟨j, hj, rfl, hno, hb⟩ := hrel
    have HN := Lib.hid hno
    have HB := Lib.hid hb
    clear hno
    by_cases hjk : j < k
    · obtain ⟨x, hx⟩ : ∃ x, l[j]? = some x := ⟨l[j]'(by have := Hk.out; omega), List.getElem?_eq_getElem _⟩
      obtain ⟨bb, oo, rfl, hbb, hcc⟩ := HR.out (by intro e; have := congrArg List.length e; rw [evs_length] at this; have := Hk.out; simp at *; omega)
      have hg := evs_get l j x hx
      have c0 : wr.cell? ⟨bb, oo + j * 2, none⟩ = some (.string x.1) := (hb.cell (p := ⟨bb, oo + j * 2, none⟩) hbb).trans (hcc _ _ hg.1)
      have c1 : wr.cell? ⟨bb, oo + j * 2 + 1, none⟩ = some (.int .u64 (x.2 : Int)) := (hb.cell (p := ⟨bb, oo + j * 2 + 1, none⟩) hbb).trans (hcc _ _ hg.2)
      have Hx := Lib.hid hx
      clear hcc hg hb hx
      by_cases hne : x.1.toList = n.toList
      · have h2 : (x.1.toList == n.toList) = true := by simp [hne]
        have HF := Lib.hid (findL_yes Hx.out HN.out hne)
        clear hne
        go_wp2_with fail
        go_ret2
        exact ⟨by rw [HF.out]; rfl, HB.out⟩
      · have h2 : (x.1.toList == n.toList) = false := by simpa using hne
        have HNe := Lib.hid hne
        clear hne
        go_wp2_with fail
        go_roundw
        case rel => exact ⟨j + 1, by omega, by go_num, fun y hy => by
          rw [take_next6 Hx.out] at hy
          rcases List.mem_append.1 hy with hy | hy
          · exact HN.out y hy
          · obtain rfl := List.mem_singleton.1 hy
            exact HNe.out, HB.out⟩
        case measure => simp [intOf]; omega
    · obtain rfl : j = k := by omega
      have he : l.take j = l := List.take_of_length_le (by have := Hk.out; omega)
      have HF : Hid (findL l n = none) := Lib.hid (findL_no (by have := HN.out; rw [he] at this; exact this))
      clear hb he
      go_wp2_with fail
      go_ret2
      exact ⟨by rw [HF.out]; rfl, HB.out⟩
end Go.Proofs.Ytpjmjcjikaekiaa
