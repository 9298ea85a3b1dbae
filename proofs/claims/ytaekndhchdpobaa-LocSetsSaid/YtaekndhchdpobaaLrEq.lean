
/-
  Layer 3: slices.Equal of two rows of the same places tells true.
-/
import Derived.Test.YtaekndhchdpobaaLrOf
import Derived.Test.YtaekndhchdpobaaLrMove
import Derived.Shelf.SlicesQ.Equal
set_option linter.unusedVariables false
set_option linter.unusedSimpArgs false
namespace Go.Proofs.Ytaekndhchdpobaa
open Go.RowKit Go.Maps Go.Lib

theorem neq_locs : NeqAt Try.prog 31 (fun x : Int × Int => .agg (encL x).toArray) (fun x y => decide (x.1 = y.1 ∧ x.2 = y.2)) :=
  ⟨fun x y w => run_neq_loc x.1 x.2 y.1 y.2 w, GuardAt.agg (fun x => (encL x).toArray) guard_loc⟩
theorem allEq_same : ∀ l : List (Int × Int), Lib.allEq (fun x y : Int × Int => decide (x.1 = y.1 ∧ x.2 = y.2)) l l = true
  | [] => rfl
  | x :: r => by
    show (decide (x.1 = x.1 ∧ x.2 = x.2) && Lib.allEq (fun x y : Int × Int => decide (x.1 = y.1 ∧ x.2 = y.2)) r r) = true
    rw [allEq_same r]
    simp
theorem equalL_same {w : World} {B B' : Nat} {v u : Value} {l : List (Int × Int)} (h : Ls w B v l) (h' : Ls w B' u l) (hl : l.length ≤ 1000000) :
    Calls Try.prog 20 #[v, u] w fun e w' => e = .returned (.bool true) ∧ ∃ q, w' = w.drewN q := by
  obtain ⟨A, c, rfl, hc, hr⟩ := h
  obtain ⟨A', c', rfl, hc', hr'⟩ := h'
  by_cases h0 : l = []
  · subst h0
    clear hr hr'
    simp only [List.length_nil]
    go_enter Try.func20, Try.ntmps20
    go_wp2_with fail
    go_loop [13] (fun i => i = .int .i64 0) (fun _ => 0)
    case atStart => exact rfl
    case round =>
      subst hrel
      go_wp2_with fail
      go_ret
      exact ⟨rfl, 0, rfl⟩
  · have hpos : 0 < l.length := List.length_pos_iff.2 h0
    have hne : lvs l ≠ [] := by intro e; have := congrArg List.length e; rw [lvs_length, List.length_nil] at this; omega
    obtain ⟨b, o, rfl, _, hb⟩ := hr hne
    obtain ⟨b', o', rfl, _, hb'⟩ := hr' hne
    have cells : ∀ {bb oo : Nat}, (∀ j u, (lvs l)[j]? = some u → w.cell? ⟨bb, oo + j, none⟩ = some u) → ∀ j, j < l.length → ∀ i v, (encL l[j]!)[i]? = some v → w.cell? ⟨bb, oo + j * 2 + i, none⟩ = some v := by
      intro bb oo hbb j hj i v hi
      have e : l[j]! = l[j] := by simp [hj]
      rw [e] at hi
      have hg := lvs_get l j l[j] (List.getElem?_eq_getElem hj)
      rcases i with _ | _ | i
      · simp [encL] at hi
        subst hi
        exact hbb _ _ hg.1
      · simp [encL] at hi
        subst hi
        have := hbb _ _ hg.2
        rw [← Nat.add_assoc] at this
        exact this
      · simp [encL] at hi
    have := AnyQ.slices_Equal Try.equalL 2 Try.isAgg31 Try.sizeOf31 encL (fun _ => rfl) _ neq_locs b o l.length c b' o' l.length c' l l w (Nat.le_refl _) (Nat.le_refl _) (by omega) (by omega) (cells hb) (cells hb')
    refine (show Calls Try.prog 20 _ w _ from this).mono fun e w' ⟨he, hq⟩ => ⟨?_, hq⟩
    rw [he, List.take_length, allEq_same]
end Go.Proofs.Ytaekndhchdpobaa
