
/-
  Layer 6: the program's folder: Live, over whatever slices.Sorted tells of the safe inodes.
-/
import Derived.Test.YtpjmjcjikaekiaaHxColl
set_option linter.unusedVariables false
set_option linter.unusedSimpArgs false
namespace Go.Proofs.Ytpjmjcjikaekiaa
open Go.RowKit Go.Maps Go.Sort Go.Shelf

/-- what Live tells -/
def liveP (xs : List Nat) (settled last : Nat) : List Nat := xs ++ List.range' (settled + 1) (last - settled)
theorem liveP_next {xs : List Nat} {s j : Nat} : xs ++ List.range' (s + 1) (j + 1) = (xs ++ List.range' (s + 1) j) ++ [s + 1 + j] := by
  rw [List.range'_concat, List.append_assoc]
  simp
/-- slices.Sorted's contract at the inodes of the map in block b -/
def SortedAt (w : World) (b : Nat) (xs : List Nat) : Prop :=
  Calls Try.prog 42 #[.func (.func 54) #[] #[.pointer (some ⟨w.heap.size, 0, none⟩)]] (w.alloc (.cells #[.map (some b)] 62)) fun e w' => ∃ v, e = .returned v ∧
    w'.ownsRow (w.heap.size + 1) 29 1 v xs.length (xs.map encU) ∧ Below (w.heap.size + 1) (w.alloc (.cells #[.map (some b)] 62)) w'
set_option maxRecDepth 100000 in
set_option maxHeartbeats 4000000 in
theorem hlive_c {w : World} {X bs bn : Nat} {vd : Value} {last settled : Nat} {xs : List Nat} (hc : HCells w X bs bn vd last settled) (hs : SortedAt w bs xs) (hx : xs.length ≤ 100000) (hl : settled ≤ last) (hl2 : last ≤ 100000) :
    Calls Try.prog 18 #[.pointer (some ⟨X, 0, none⟩)] w fun e w' => ∃ v, e = .returned v ∧ w'.ownsRow w.heap.size 29 1 v (liveP xs settled last).length ((liveP xs settled last).map encU) ∧ Below w.heap.size w w' := by
  obtain ⟨i0, hi0, hz0, hz1, hz2⟩ := info_parts u64_info
  have HC := Lib.hid hc
  have HS := Lib.hid hs
  have c0 := hc.c0
  clear hc hs
  go_enter Try.func18, Try.ntmps18
  go_wp2_with fail
  refine (hmade HC.out).mono ?_
  rintro e w' ⟨rfl, rfl⟩
  go_wp2_with fail
  refine (hvalues _ _).mono ?_
  rintro e w' ⟨rfl, rfl⟩
  go_wp2_with fail
  refine Calls.mono HS.out ?_
  rintro e w1 ⟨v, rfl, ho1, hb1⟩
  have hbw1 : Below w.heap.size w w1 := ((Below.refl _ _).alloc (Nat.le_refl _) _).trans (hb1.mono (by omega))
  have HBW := Lib.hid hbw1
  have HC1 := Lib.hid (HC.out.on hbw1)
  have HO1 := Lib.hid (own_base ho1 (Nat.le_succ _))
  have c4 := HC1.out.c4
  have hw1 : IntKind.u64.wrap ((settled : Int) + 1) = ((settled + 1 : Nat) : Int) := by
    rw [show ((settled : Int) + 1) = ((settled + 1 : Nat) : Int) by omega]
    exact IntWalk.u64_in _ (by omega)
  clear hb1 hbw1 ho1 c0
  go_wp2_with fail
  clear c4
  go_loopw [3, 4] (fun o i wr => ∃ j : Nat, settled + j ≤ last ∧ i = .int .u64 ((settled + 1 + j : Nat) : Int) ∧ wr.ownsRow w.heap.size 29 1 o (xs.length + j) ((xs ++ List.range' (settled + 1) j).map encU) ∧ Below w.heap.size w wr) (fun _ i _ => last + 1 - (intOf i).toNat)
  case atStart => exact ⟨0, by omega, by go_num, by simpa using HO1.out, HBW.out⟩
  case round =>
    obtain ⟨j, hj, rfl, hown, hb⟩ := hrel
    have hcr := HC.out.on hb
    have c3 := hcr.c3
    have HO := Lib.hid hown
    have HB := Lib.hid hb
    obtain ⟨q, hq⟩ : ∃ q, q = settled + 1 + j := ⟨_, rfl⟩
    have hq2 : q ≤ 200000 := by omega
    rw [← hq]
    have Hq := Lib.hid hq
    by_cases hjl : q ≤ last
    · obtain ⟨Ao, co, rfl, _, _, _⟩ := own_slice hown
      have hd : decide ((q : Int) ≤ (last : Int)) = true := decide_eq_true (by omega)
      have hw2 : IntKind.u64.wrap ((q : Int) + 1) = ((q + 1 : Nat) : Int) := by
        rw [show ((q : Int) + 1) = ((q + 1 : Nat) : Int) by omega]
        exact IntWalk.u64_in _ (by omega)
      have hxj : xs.length + j ≤ 300000 := by omega
      have hwb : w.heap.size ≤ wr.heap.size := hb.size
      clear hcr hown hb hq
      go_wp2_with (at_builtin; (refine wpList_append_1 _ rfl _ _ 42 rfl w.heap.size 29 i0 (.int .u64 0) 8 Try.underlying42 hi0 hz0 hz1 hz2 rfl (.slice Ao (xs.length + j) co) (xs.length + j) ((xs ++ List.range' (settled + 1) j).map encU) rfl (HO.out.alloc _) ⟨wr.heap.size, 0, none⟩ 1 (.int .u64 (q : Int)) rfl (by simp) rfl (by unfold maxLen; omega) (by omega) (by simp; omega) ?_); intro v3 w3 hown3 hb3 _ _; (have HO3 := Lib.hid hown3); (have HB3 := Lib.hid hb3); clear hown3 hb3)
      have hfin : w3.ownsRow w.heap.size 29 1 v3 (xs.length + (j + 1)) ((xs ++ List.range' (settled + 1) (j + 1)).map encU) := by
        have e : (xs ++ List.range' (settled + 1) (j + 1)).map encU = (xs ++ List.range' (settled + 1) j).map encU ++ [.int .u64 (q : Int)] := by
          rw [liveP_next, List.map_append, Hq.out]
          rfl
        rw [e]
        exact HO3.out
      have hbf : Below w.heap.size w w3 := (HB.out.alloc HB.out.size _).trans HB3.out
      have HF := Lib.hid hfin
      have HBF := Lib.hid hbf
      clear hfin hbf
      go_roundw
      case rel => exact ⟨j + 1, by have := Hq.out; omega, by have := Hq.out; go_num, HF.out, HBF.out⟩
      case measure => simp [intOf]; have := Hq.out; omega
    · have hd : decide ((q : Int) ≤ (last : Int)) = false := decide_eq_false (by omega)
      clear hcr hown hb hq
      go_wp2_with fail
      go_ret
      have he : j = last - settled := by have := Hq.out; omega
      refine ⟨_, rfl, ?_, HB.out⟩
      have h1 := HO.out
      rw [he] at h1
      have h2 : (liveP xs settled last).length = xs.length + (last - settled) := by simp [liveP]
      rw [h2]
      exact h1
theorem sortedAt0 {w : World} {b : Nat} (h : MapAt w b []) : SortedAt w b [] := by
  have h1 : MapAt (w.alloc (.cells #[.map (some b)] 62)) b [] := h.on ((Below.refl _ _).alloc (Nat.le_refl _) _)
  refine (hsorted0 54 #[.pointer (some ⟨w.heap.size, 0, none⟩)] (enters_of Try.func54 (by kernel_rfl) rfl) (fun n hn => ?_)).mono ?_
  · have h2 := hvals_stops n hn w.heap.size b [] _ (by simp) (by simp) h1
    intro l J Jx W hW hJ hJx hY h0
    refine (h2 l J Jx W hW hJ hJx hY h0).mono ?_
    rintro e W' ⟨hv, ⟨xs, ⟨ps, hc, hp, rfl⟩, hJ'⟩ | hr⟩
    · exact ⟨hv, .inl ⟨_, by rw [hp.eq_nil]; rfl, hJ'⟩⟩
    · exact ⟨hv, .inr hr⟩
  · rintro e w' ⟨rfl, hb⟩
    exact ⟨_, rfl, World.ownsRow_nil _ _ _ _, by simpa using hb⟩
end Go.Proofs.Ytpjmjcjikaekiaa
