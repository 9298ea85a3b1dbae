
/-
  Layer 6: the document's folder: rows of entries in memory; without, with, May.
-/
import Derived.Test.YtpjmjcjikaekiaaProg
import Derived.Test.YtpjmjcjikaekiaaWords
import Derived.Test.YtpjmjcjikaekiaaRegion
import Derived.Test.YtpjmjcjikaekiaaOrdL
import Derived.Deep.QuietTactic
import Derived.BigQuiet
import Derived.StillTailTactics
import Derived.Deep.DeepFit
import Derived.Deep.RegionHeld3
import Derived.Deep.LoopGhost
import Derived.Lib.Hide
import Derived.IntWalk
set_option linter.unusedVariables false
set_option linter.unusedSimpArgs false
namespace Go.Proofs.Ytpjmjcjikaekiaa
open Go.RowKit

/-- a name and an inode -/
abbrev Ent := ByteArray × Nat
def encE (x : Ent) : List Value := [.string x.1, .int .u64 (x.2 : Int)]
/-- entries as cells -/
def evs (l : List Ent) : List Value := l.flatMap encE
theorem evs_length (l : List Ent) : (evs l).length = l.length * 2 := by
  induction l with
  | nil => rfl
  | cons x r ih => simp [evs, encE] at *; omega
theorem evs_append (l m : List Ent) : evs (l ++ m) = evs l ++ evs m := by simp [evs]
theorem evs_one (l : List Ent) : ∀ u ∈ evs l, u.oneCell' = true := by
  intro u hu
  simp only [evs, List.mem_flatMap, encE, List.mem_cons, List.not_mem_nil, or_false] at hu
  obtain ⟨x, _, rfl | rfl⟩ := hu <;> rfl
theorem evs_get : ∀ (l : List Ent) (j : Nat) (x : Ent), l[j]? = some x → (evs l)[j * 2]? = some (.string x.1) ∧ (evs l)[j * 2 + 1]? = some (.int .u64 (x.2 : Int))
  | [], _, _, h => by simp at h
  | y :: r, 0, x, h => by
    simp at h
    subst h
    exact ⟨rfl, rfl⟩
  | y :: r, j + 1, x, h => by
    have := evs_get r j x (by simpa using h)
    have e : evs (y :: r) = .string y.1 :: .int .u64 (y.2 : Int) :: evs r := rfl
    rw [e, show (j + 1) * 2 = j * 2 + 1 + 1 by omega]
    exact this
/-- The value v is a slice that reads as the entries l, and lies below block B. -/
def Es (w : World) (B : Nat) (v : Value) (l : List Ent) : Prop := ∃ A c, v = .slice A l.length c ∧ l.length ≤ c ∧ Rd w B A (evs l)
section
variable {w w' : World} {B B' : Nat} {v : Value} {l : List Ent}
theorem Es.none_ : Es w B (.slice none 0 0) [] := ⟨none, 0, rfl, Nat.le_refl _, Rd.nil_⟩
theorem Es.below {C : Nat} (h : Es w B v l) (hb : Below C w w') (hC : B ≤ C) : Es w' B v l := by
  obtain ⟨A, c, e, hc, hr⟩ := h
  exact ⟨A, c, e, hc, hr.below hb hC⟩
theorem Es.mono (h : Es w B v l) (hB : B ≤ B') : Es w B' v l := by
  obtain ⟨A, c, e, hc, hr⟩ := h
  exact ⟨A, c, e, hc, hr.mono hB⟩
theorem Es.on (h : Es w w.heap.size v l) (hb : Below w.heap.size w w') : Es w' w'.heap.size v l := (h.below hb (Nat.le_refl _)).mono hb.size
theorem Es.of_own {base n : Nat} {e : TypeId} (h : w.ownsRow base e 2 v n (evs l)) : Es w w.heap.size v l := by
  have hn : l.length = n := by have := h.1; rw [evs_length] at this; omega
  subst hn
  obtain ⟨A, c, rfl, hc, _⟩ := own_slice h
  exact ⟨A, c, rfl, hc, Rd.of_own h⟩
end
theorem ent_info : (Try.prog.info? 53).map (fun i => (i.zero, i.size, i.bytes)) = some (some (.agg #[.string .empty, .int .u64 0]), 2, 24) := by kernel_rfl

def withoutL (l : List Ent) (n : ByteArray) : List Ent := l.filter fun x => x.1.toList != n.toList
theorem take_next6 {α : Type} {l : List α} {j : Nat} {x : α} (hx : l[j]? = some x) : l.take (j + 1) = l.take j ++ [x] := by
  rw [List.take_add_one, hx]
  rfl

set_option maxRecDepth 100000 in
set_option maxHeartbeats 4000000 in
theorem rwithout {w : World} {v : Value} {l : List Ent} (h : Es w w.heap.size v l) (n : ByteArray) (hl : l.length ≤ 1000000) :
    Calls Try.prog 48 #[v, .string n] w fun e w' => ∃ r, e = .returned r ∧ w'.ownsRow w.heap.size 53 2 r (withoutL l n).length (evs (withoutL l n)) ∧ Below w.heap.size w w' := by
  obtain ⟨i0, hi0, hz0, hz1, hz2⟩ := info_parts ent_info
  obtain ⟨A, c, rfl, hc, hr⟩ := h
  obtain ⟨k, hk⟩ : ∃ k, k = l.length := ⟨_, rfl⟩
  rw [← hk] at hc hl
  rw [← hk]
  have Hk := Lib.hid hk
  have HR := Lib.hid hr
  clear hk hr
  go_enter Try.func48, Try.ntmps48
  go_wp2_with fail
  go_loopw [5, 6] (fun o i wr => ∃ j : Nat, j ≤ k ∧ i = .int .i64 j ∧ wr.ownsRow w.heap.size 53 2 o (withoutL (l.take j) n).length (evs (withoutL (l.take j) n)) ∧ Below w.heap.size w wr) (fun _ i _ => k - (intOf i).toNat)
  case atStart => exact ⟨0, by omega, rfl, by simpa [withoutL, evs] using World.ownsRow_nil _ _ _ _, Below.refl _ _⟩
  case round =>
    obtain ⟨j, hj, rfl, hown, hb⟩ := hrel
    by_cases hjl : j < k
    · obtain ⟨x, hx⟩ : ∃ x, l[j]? = some x := ⟨l[j]'(by have := Hk.out; omega), List.getElem?_eq_getElem _⟩
      obtain ⟨bb, oo, rfl, hbb, hcc⟩ := HR.out (by intro e; have := congrArg List.length e; rw [evs_length] at this; have := Hk.out; simp at *; omega)
      have hg := evs_get l j x hx
      have c0 : wr.cell? ⟨bb, oo + j * 2, none⟩ = some (.string x.1) := (hb.cell (p := ⟨bb, oo + j * 2, none⟩) hbb).trans (hcc _ _ hg.1)
      have c1 : wr.cell? ⟨bb, oo + j * 2 + 1, none⟩ = some (.int .u64 (x.2 : Int)) := (hb.cell (p := ⟨bb, oo + j * 2 + 1, none⟩) hbb).trans (hcc _ _ hg.2)
      have HO := Lib.hid hown
      have HB := Lib.hid hb
      have Hx := Lib.hid hx
      clear hcc hg hown hb hx
      by_cases hne : x.1.toList = n.toList
      · have h1 : (x.1.toList != n.toList) = false := by simp [hne]
        have h2 : (x.1.toList == n.toList) = true := by simp [hne]
        have h3 : decide (x.1.toList = n.toList) = true := by simpa using hne
        have HE : Hid (withoutL (l.take (j + 1)) n = withoutL (l.take j) n) := Lib.hid (by rw [take_next6 Hx.out]; simp [withoutL, hne])
        have HN := Lib.hid hne
        clear hne
        go_wp2_with fail
        go_roundw
        case rel => exact ⟨j + 1, by omega, by go_num, by rw [HE.out]; exact HO.out, HB.out⟩
        case measure => simp [intOf]; omega
      · have h1 : (x.1.toList != n.toList) = true := by simpa using hne
        have h2 : (x.1.toList == n.toList) = false := by simpa using hne
        have h3 : decide (x.1.toList = n.toList) = false := by simpa using hne
        have HE : Hid (withoutL (l.take (j + 1)) n = withoutL (l.take j) n ++ [x]) := Lib.hid (by rw [take_next6 Hx.out]; simp [withoutL, h1])
        have HN := Lib.hid hne
        clear hne
        have hln : (withoutL (l.take j) n).length ≤ 1000000 := by have h4 := List.length_filter_le (fun x : Ent => x.1.toList != n.toList) (l.take j); have h5 : (l.take j).length ≤ j := by rw [List.length_take]; omega
                                                                  unfold withoutL; omega
        have Hln := Lib.hid hln
        clear hln
        obtain ⟨Ao, co, heo, _, _, _⟩ := own_slice HO.out
        obtain ⟨no, hno⟩ : ∃ no, no = (withoutL (l.take j) n).length := ⟨_, rfl⟩
        rw [← hno] at heo
        have HO2 : Hid (wr.ownsRow w.heap.size 53 2 (.slice Ao no co) no (evs (withoutL (l.take j) n))) := by have := HO.out; rw [← hno, heo] at this; exact this
        have hno2 : no ≤ 1000000 := by rw [hno]; exact Hln.out
        have Hno := Lib.hid hno
        clear hno HO
        subst heo
        have hwb : w.heap.size ≤ wr.heap.size := HB.out.size
        have HRn : Hid (Rd (wr.alloc (.cells #[.string x.1, .int .u64 (x.2 : Int)] 53)) (wr.heap.size + 1) (some ⟨wr.heap.size, 0, none⟩) (evs [x])) := fun _ => ⟨wr.heap.size, 0, rfl, by omega, fun i u hu => by
          rw [Nat.zero_add, World.cell?_alloc_new]
          simpa [evs, encE] using hu⟩
        go_wp2_with (at_builtin; (refine wpList_append_rd _ rfl _ _ 44 rfl w.heap.size 53 i0 (.agg #[.string .empty, .int .u64 0]) 2 24 Try.underlying44 hi0 hz0 hz1 hz2 rfl (by omega) (.slice Ao no co) no (evs (withoutL (l.take j) n)) rfl (HO2.out.alloc _) (wr.heap.size + 1) (some ⟨wr.heap.size, 0, none⟩) 1 1 (evs [x]) rfl rfl HRn.out (evs_one _) (by unfold maxLen; omega) (by omega) (by simp; omega) ?_); intro v3 w3 hown3 hb3 hg3 hv3)
        have hfin : w3.ownsRow w.heap.size 53 2 v3 (withoutL (l.take (j + 1)) n).length (evs (withoutL (l.take (j + 1)) n)) := by
          rw [HE.out, List.length_append, ← Hno.out, evs_append]
          exact hown3
        have hbw : Below w.heap.size w w3 := (HB.out.alloc HB.out.size _).trans hb3
        go_roundw
        case rel => exact ⟨j + 1, by omega, by go_num, hfin, hbw⟩
        case measure => simp [intOf]; omega
    · obtain rfl : j = k := by omega
      have HO := Lib.hid hown
      have HB := Lib.hid hb
      clear hown hb
      go_wp2_with fail
      go_ret
      have he : l.take j = l := List.take_of_length_le (by have := Hk.out; omega)
      have h1 := HO.out
      rw [he] at h1
      exact ⟨_, rfl, h1, HB.out⟩
end Go.Proofs.Ytpjmjcjikaekiaa
