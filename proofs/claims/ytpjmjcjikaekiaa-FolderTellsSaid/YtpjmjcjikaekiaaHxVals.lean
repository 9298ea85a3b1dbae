
/-
  Layer 6: the program's folder: the inodes of a map, in whatever order: maps.Values, slices.AppendSeq, slices.Collect at uint64.
-/
import Derived.Test.YtpjmjcjikaekiaaHxList
import Derived.RangeFuncNested
import Derived.RangeFuncBound
import Derived.RangeFuncCalls
import Derived.RangeFuncLeaves
import Derived.RangeFuncBox
import Derived.RangeFuncMany
import Derived.Shelf.Abstract
import Derived.Shelf.RegionOpen
import Derived.OwnWalkIn
import Derived.TacticsInMore
import Derived.LoopNIn
import Derived.LoopIn
import Derived.RegionIn
import Derived.Sort.MapsRangeIn
import Derived.Maps.OwnIn
import Derived.Maps.AppendAt
set_option linter.unusedVariables false
set_option linter.unusedSimpArgs false
namespace Go.Proofs.Ytpjmjcjikaekiaa
open Go.RowKit Go.Maps Go.Sort Go.Shelf
attribute [local go_sem] Oper.semAt_some

abbrev encU (i : Nat) : Value := .int .u64 (i : Int)
/-- some of the entries have come, in some order -/
def Come (es ps : List Ent) : Prop := (ps.map (·.1)).Nodup ∧ ∀ p ∈ ps, p ∈ es
theorem Come.perm {es ps : List Ent} (h : Come es ps) (hs : SortE es) (hall : ∀ x ∈ es, x.1 ∈ ps.map (·.1)) : ps.Perm es := by
  have hnd : ps.Nodup := (List.pairwise_map.1 h.1).imp (by intro a b hn e; exact hn (by rw [e]))
  refine (List.perm_ext_iff_of_nodup hnd hs.nodup).2 fun x => ⟨h.2 x, fun hx => ?_⟩
  obtain ⟨y, hy, e⟩ := List.mem_map.1 (hall x hx)
  have hy2 := h.2 y hy
  have : x.2 = y.2 := hs.one (n := x.1) hx (by rw [← e]; exact hy2)
  have e2 : x = y := Prod.ext e.symm this
  rw [e2]
  exact hy
set_option maxRecDepth 100000 in
set_option maxHeartbeats 1000000 in
theorem hvals1_in (n : Nat) (hn : 1 ≤ n) (l Bm b : Nat) (es : List Ent) (J Jx : List Nat → World → Prop)
    (hY : ∀ pre x W, J pre W → pre.length < es.length → YieldAt Fence.wide (n - 1) Try.prog l #[encU x] W fun e W' =>
      (e = .returned (.bool true) ∧ J (pre ++ [x]) W' ∧ KeepsWalks W W') ∨ (e = .returned (.bool false) ∧ Jx (pre ++ [x]) W'))
    (W : World) (hJ : AbidesFrom W.heap.size J) (hm : W.cell? ⟨Bm, 0, none⟩ = some (.map (some b))) (hmap : MapAt W b es) (h0 : J [] W) :
    CallsIn Fence.wide n Try.prog 54 #[.func (.yield l) #[] #[], .pointer (some ⟨Bm, 0, none⟩)] W fun e W' => (∃ v, e = .returned v) ∧
      ((∃ xs, (∃ ps, Come es ps ∧ ps.Perm es ∧ xs = ps.map (·.2)) ∧ J xs W') ∨ (∃ pre, True ∧ Jx pre W')) := by
  obtain ⟨ho, D0, hown, hr⟩ := hmap
  have hsz := size_es hown hr ho.1
  refine callsIn_of_wp Try.func54 rfl trivial ?_ rfl
  simp only [Try.ntmps54, List.size_toArray, List.length_cons, List.length_nil, Nat.reduceAdd, Nat.reduceSub, Array.replicate_succ, Array.replicate_zero, List.push_toArray, List.append_toArray, List.nil_append, List.cons_append]
  gi_wp2_with (first
    | (gi_at_range; refine wpListIn_range_own _ rfl _ 62 rfl 9 29 keyedS Try.underlying62 _ b es.length _ rfl hown ?_; intro w0 hrg0 hg0 hs0)
    | gi_in)
  go_frame
  gi_loopw [4] (fun _ wr => ∃ (left : Lit → Bool) (cnt : Nat) (ps : List Ent), wr.ranges Try.prog 9 (plainElem Try.prog 29) b W.heap.size es.length D0 left cnt ∧ ps.length + cnt ≤ es.length ∧ Collected D0 left (ps.map (·.1.data.toList)) ∧ Come es ps ∧ J (ps.map (·.2)) wr)
    (fun _ wr => wr.rangeLeft b W.heap.size)
  case atStart =>
    exact ⟨_, _, [], hrg0, by simp [hsz], Collected.start D0, ⟨by simp, by simp⟩, hJ [] W w0 none h0 hg0 (fun r e => by cases e)⟩
  case round =>
    obtain ⟨left, cnt, ps, hrg, hcs, hC, hV, hJs⟩ := hrel
    gi_wp2_with (first
      | (gi_at_next; refine wpListIn_next_ranges _ rfl _ rfl 9 keyedS (plainElem Try.prog 29) encStr (Value.int .u64) (fun key kl hk => by obtain ⟨x, hx, _⟩ := Maps.keyOf_str Try.underlying9 hk; exact ⟨x, hx⟩) (fun v z hv => by obtain ⟨a, ha, _⟩ := plainElem_int_inv Try.underlying29 hv; exact ⟨a, ha⟩) b W.heap.size es.length _ _ _ rfl hrg ?_ ?_)
      | gi_in)
    · -- nothing is left
      intro hc0 hl0
      gi_wp2
      go_end0
      refine ⟨⟨_, rfl⟩, .inl ⟨_, ⟨ps, hV, hV.perm ho.1 (fun x hx => ?_), rfl⟩, hJs⟩⟩
      have h1 : x.1.data.toList ∈ ps.map (·.1.data.toList) := (hC.2 _).2 ⟨by
        have := hr.has x.1
        rw [(findL_iff ho.1).2 hx] at this
        exact this, hl0 _⟩
      obtain ⟨y, hy, e⟩ := List.mem_map.1 h1
      exact List.mem_map.2 ⟨y, hy, toList_inj (by rw [ByteArray.toList_eq, ByteArray.toList_eq]; exact e)⟩
    · -- an entry has come
      intro x c kl yd yp w2 cnt2 hkey hlk hv hat hrg2 hlt hg2 hs2 hen
      obtain ⟨x', ex, rfl, _⟩ := Maps.keyOf_str Try.underlying9 hkey
      obtain rfl : x = x' := encStr_inj ex
      obtain ⟨c', ec, ez, _⟩ := plainElem_int_inv Try.underlying29 hv
      obtain rfl : c = c' := by simpa using ec
      obtain rfl : yd = .lit (.int .u64 c) := (Prod.mk.inj ez).1
      have hhas : Maps.has D0 (.string x) = true := has_true_of_atKey hat
      have ekn : (.string x : Lit) = kn ⟨x.toArray⟩ := by simp [kn]
      rw [ekn, hr.has] at hhas
      obtain ⟨i, hi⟩ := Option.isSome_iff_exists.1 hhas
      have hci : c = (i : Int) := by
        have h1 := hat (.lit (.int .u64 0))
        rw [ekn, hr.some_ hi] at h1
        injection h1 with h1
        injection h1 with _ h1
        exact h1.symm
      subst hci
      have hmem := findL_mem hi
      have hJ2 : J (ps.map (·.2)) w2 := hJ _ wr w2 (some W.heap.size) hJs hg2 (fun r e => by cases e; exact ⟨Nat.le_refl _, hrg.iter_walk⟩)
      obtain ⟨fn, tmps, assign, body, hy, hR⟩ := hY (ps.map (·.2)) i w2 hJ2 (by simp; omega)
      dsimp only [encU] at hy
      clear hs2
      gi_wp2
      refine hR.mono ?_
      have hC2 : Collected D0 (fun z => left z && !z.sameKey (.string x)) ((ps ++ [((⟨x.toArray⟩ : ByteArray), i)]).map (fun p : Ent => p.1.data.toList)) := by simpa using hC.step hlk hat
      have hV2 : Come es (ps ++ [(⟨x.toArray⟩, i)]) := by
        refine ⟨?_, fun p hp => (List.mem_append.1 hp).elim (hV.2 p) (fun e => by simp at e; subst e; exact hmem)⟩
        have h1 := hC2.1
        have h2 : ((ps ++ [((⟨x.toArray⟩ : ByteArray), i)]).map (·.1)).Pairwise (fun a b => a.data.toList ≠ b.data.toList) := by
          rw [List.pairwise_map]
          rw [List.nodup_iff_pairwise_ne, List.pairwise_map] at h1
          exact h1
        exact h2.imp (by intro a b hn e; exact hn (by rw [e]))
      rintro e W3 (⟨rfl, hJ3, hk3⟩ | ⟨rfl, hJx3⟩)
      · gi_wp2
        have hrg3 := hrg2.of_walks hk3
        go_roundw
        case rel => exact ⟨_, cnt2, ps ++ [(⟨x.toArray⟩, i)], hrg3, by simp; omega, hC2, hV2, by simpa using hJ3⟩
        case measure => rw [hrg3.left_eq, hrg.left_eq]; exact hlt
      · gi_wp2
        refine bodyPost_ret (results_none rfl _ _ _) rfl ?_
        exact ⟨⟨_, rfl⟩, .inr ⟨_, trivial, hJx3⟩⟩
theorem hvals_stops (n : Nat) (hn : 1 ≤ n) (Bm b : Nat) (es : List Ent) (w : World) (hBm : Bm < w.heap.size) (hm : w.cell? ⟨Bm, 0, none⟩ = some (.map (some b))) (hmap : MapAt w b es) :
    SeqStops Fence.wide n Try.prog 54 #[.pointer (some ⟨Bm, 0, none⟩)] encU (fun xs => ∃ ps, Come es ps ∧ ps.Perm es ∧ xs = ps.map (·.2)) (fun _ => True) es.length w := fun l J Jx W hW hJ _ hY h0 =>
  hvals1_in n hn l Bm b es J Jx hY W hJ ((hW.cell (p := ⟨Bm, 0, none⟩) hBm).trans hm) (hmap.on hW) h0
theorem hvalues (mb : Option Nat) (w : World) : Calls Try.prog 43 #[.map mb] w fun e w' => e = .returned (.func (.func 54) #[] #[.pointer (some ⟨w.heap.size, 0, none⟩)]) ∧ w' = w.alloc (.cells #[.map mb] 62) := by
  go_enter Try.func43, Try.ntmps43
  go_wp2
  go_ret
  exact ⟨rfl, rfl⟩
end Go.Proofs.Ytpjmjcjikaekiaa
