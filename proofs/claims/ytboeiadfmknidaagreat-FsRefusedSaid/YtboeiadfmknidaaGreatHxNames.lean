
/-
  Layer 6: the program's folder: the names of a map, sorted.
-/
import Derived.Test.YtboeiadfmknidaaGreatHxSettle
import Derived.Test.YtboeiadfmknidaaGreatShelf6S
import Derived.RangeFuncNested
import Derived.RangeFuncBound
import Derived.RangeFuncCalls
import Derived.RangeFuncLeaves
import Derived.RangeFuncBox
import Derived.RangeFuncMany
import Derived.Shelf.Abstract
import Derived.Shelf.RegionOpen
import Derived.OwnWalkIn
import Derived.TacticsInMore
import Derived.LoopNIn
import Derived.LoopIn
import Derived.RegionIn
import Derived.Sort.MapsRangeIn
import Derived.Maps.OwnIn
import Derived.Maps.AppendAt
import Derived.Laws.StructEq
set_option linter.unusedVariables false
set_option linter.unusedSimpArgs false
namespace Go.Proofs.YtboeiadfmknidaaGreat
open Go.RowKit Go.Maps Go.Sort Go.Shelf

theorem hkeys (mb : Option Nat) (W : World) : Calls Tryz.prog 94 #[.map mb] W fun e w' => e = .returned (.func (.func 103) #[] #[.pointer (some ⟨W.heap.size, 0, none⟩)]) ∧ w' = W.alloc (.cells #[.map mb] 83) :=
  callsIn_wide.1 (AnyZ.keys_in Tryz.keysS Fence.wide 5 trivial rfl mb W)
theorem hsorts (m : Nat) : AnyZ.SortsIn Tryz.prog Tryz.sortedS_ren Fence.wide m :=
  ⟨fun blk off cap ss W hH hblk hsz => callsIn_wide.2 (AnyM.slices_Sort_string Tryz.sortS blk off cap ss W hH hblk hsz),
   fun p cap W => callsIn_wide.2 (AnyM.slices_Sort_string_none Tryz.sortS p cap W)⟩
theorem mergeSort_names {es : List Ent} (h : SortE es) : (es.map fun x => x.1.data.toList).mergeSort leB = es.map fun x => x.1.data.toList := by
  apply List.mergeSort_of_pairwise
  rw [List.pairwise_map]
  refine h.imp ?_
  intro a b hl
  have h2 := ltN_iff.1 hl
  rw [ByteArray.toList_eq, ByteArray.toList_eq] at h2
  simp only [leB, decide_eq_true_eq]
  exact List.le_of_lt h2
set_option maxHeartbeats 1000000 in
theorem hnames {w : World} {b : Nat} {es : List Ent} (h : MapAt w b es) (hl : es.length ≤ 1000000) :
    Calls Tryz.prog 93 #[.func (.func 103) #[] #[.pointer (some ⟨w.heap.size, 0, none⟩)]] (w.alloc (.cells #[.map (some b)] 83)) fun e w' => ∃ v, e = .returned v ∧
      w'.ownsRow (w.heap.size + 1) 9 1 v es.length (es.map fun x => Value.string x.1) ∧ Below (w.heap.size + 1) (w.alloc (.cells #[.map (some b)] 83)) w' := by
  obtain ⟨ho, D0, hown, hr⟩ := h
  have hsz := size_es hown hr ho.1
  have hbl := hown.lt
  have hseq : SeqGives Fence.wide 2 Tryz.prog 103 #[.pointer (some ⟨w.heap.size, 0, none⟩)] encStr (fun ss => ss.Perm (strKeys D0)) (Maps.size D0) (w.alloc (.cells #[.map (some b)] 83)) :=
    AnyZ.keys_gives (ρ := Tryz.keysS_ren) { Tryz.keysS with } Fence.wide _ trivial rfl (by omega) w.heap.size b es.length D0 _ (by simp) (by simp) (by
      obtain ⟨es', clock, hb, Ft, hs, hD⟩ := hown
      exact ⟨es', clock, (Below.heap_alloc _ _ b hbl).trans hb, Ft, hs, hD⟩)
  have hcon := AnyZ.sorted_in Tryz.sortedS Fence.wide 5 trivial trivial trivial trivial rfl (by omega) (hsorts _) (enters_of Tryz.func102 (by kernel_rfl) rfl) 103 #[.pointer (some ⟨w.heap.size, 0, none⟩)] trivial (enters_of Tryz.func103 (by kernel_rfl) rfl) _ _ (by unfold maxLen; omega) (by omega) _ hseq
  have hcon2 := callsIn_wide.1 hcon
  change Calls Tryz.prog 93 _ _ _ at hcon2
  refine hcon2.mono ?_
  rintro e w' ⟨v, ss, rfl, hS, hrow, hnil, hb⟩
  have hperm := (names_perm hown hr ho.1)
  have hms : ss.mergeSort leB = es.map fun x => x.1.data.toList := by rw [mergeSort_of_perm (hS.trans hperm.symm), mergeSort_names ho.1]
  have hlen : ss.length = es.length := by have := (hS.trans hperm.symm).length_eq; simpa using this
  refine ⟨v, rfl, ?_, ?_⟩
  · have e1 : (ss.mergeSort leB).map encStr = es.map fun x => Value.string x.1 := by
      rw [hms, List.map_map]
      refine List.map_congr_left fun x _ => ?_
      simp [encStr]
    rw [e1, hlen] at hrow
    have hrow2 : w'.ownsRow (w.alloc (.cells #[.map (some b)] 83)).heap.size 9 1 v es.length (es.map fun x => Value.string x.1) := hrow
    simpa using hrow2
  · simpa using hb
end Go.Proofs.YtboeiadfmknidaaGreat

/-
  Layer 6: the program's folder: List.
-/
set_option linter.unusedVariables false
set_option linter.unusedSimpArgs false
namespace Go.Proofs.YtboeiadfmknidaaGreat
open Go.RowKit Go.Maps

theorem evsP_one (l : List Ent) : ∀ u ∈ evs l, u.oneCell' = true := evs_one l
theorem fent_info : (Tryz.prog.info? 107).map (fun i => (i.zero, i.size, i.bytes)) = some (some (.agg #[.string .empty, .int .u64 0]), 2, 24) := by kernel_rfl
set_option maxRecDepth 100000 in
set_option maxHeartbeats 4000000 in
theorem hlist_c {w : World} {X bs bn : Nat} {vd : Value} {last settled : Nat} {es : List Ent} (hc : HCells w X bs bn vd last settled) (hm : MapAt w bn es) (hl : es.length ≤ 100000) :
    Calls Tryz.prog 81 #[.pointer (some ⟨X, 0, none⟩)] w fun e w' => ∃ v, e = .returned v ∧ w'.ownsRow w.heap.size 107 2 v es.length (evs es) ∧ Below w.heap.size w w' := by
  obtain ⟨i0, hi0, hz0, hz1, hz2⟩ := info_parts fent_info
  have HC := Lib.hid hc
  have HM := Lib.hid hm
  have c1 := hc.c1
  clear hc hm
  go_enter Tryz.func81, Tryz.ntmps81
  go_wp2_with fail
  refine (hmade HC.out).mono ?_
  rintro e w' ⟨rfl, rfl⟩
  go_wp2_with fail
  refine (hkeys _ _).mono ?_
  rintro e w' ⟨rfl, rfl⟩
  go_wp2_with fail
  refine (hnames HM.out (by omega)).mono ?_
  rintro e w1 ⟨v, rfl, ho1, hb1⟩
  have hbw1 : Below w.heap.size w w1 := ((Below.refl _ _).alloc (Nat.le_refl _) _).trans (hb1.mono (by omega))
  obtain ⟨As, cs, rfl, hcs, hcm, _⟩ := own_slice ho1
  have hrd := Rd.of_own ho1
  obtain ⟨k, hk⟩ : ∃ k, k = es.length := ⟨_, rfl⟩
  rw [← hk] at hl hcs
  rw [← hk]
  have HRd := Lib.hid hrd
  have HBW := Lib.hid hbw1
  have Hk := Lib.hid hk
  have HC1 := Lib.hid (HC.out.on hbw1)
  have HM1 := Lib.hid (HM.out.on hbw1)
  clear hb1 hbw1 ho1 hrd hk c1
  go_wp2_with fail
  go_loopw [3, 16] (fun o i wr => ∃ j : Nat, j ≤ k ∧ i = .int .i64 j ∧ wr.ownsRow w1.heap.size 107 2 o j (evs (es.take j)) ∧ Below w1.heap.size w1 wr) (fun _ i _ => k - (intOf i).toNat)
  case atStart => exact ⟨0, by omega, rfl, by simpa [evs] using World.ownsRow_nil _ _ _ _, Below.refl _ _⟩
  case round =>
    obtain ⟨j, hj, rfl, hown, hb⟩ := hrel
    have HB := Lib.hid hb
    by_cases hjl : j < k
    · obtain ⟨x, hx⟩ : ∃ x, es[j]? = some x := ⟨es[j]'(by have := Hk.out; omega), List.getElem?_eq_getElem _⟩
      obtain ⟨bb, oo, rfl, hbb, hcc⟩ := HRd.out (by intro e; rw [List.map_eq_nil_iff] at e; have h9 := Hk.out; rw [e] at h9; simp at h9; omega)
      have cj : wr.cell? ⟨bb, oo + j, none⟩ = some (.string x.1) := (hb.cell (p := ⟨bb, oo + j, none⟩) hbb).trans (hcc j _ (by rw [List.getElem?_map, hx]; rfl))
      have hxm : x ∈ es := List.mem_of_getElem? hx
      have c1 := (HC1.out.on hb).c1
      have hlk := ((HM1.out.on hb).look (n := x.1) (by have := (HM1.out.1.2 x hxm).1; unfold maxLen; omega)).2
      rw [(findL_iff HM1.out.1.1).2 hxm] at hlk
      simp only [Option.getD_some] at hlk
      have HX := Lib.hid hx
      obtain ⟨Ao, co, rfl, _, _, _⟩ := own_slice hown
      have HO := Lib.hid hown
      have hwb : w1.heap.size ≤ wr.heap.size := hb.size
      have HRn : Hid (Rd (wr.alloc (.cells #[.string x.1, .int .u64 (x.2 : Int)] 107)) (wr.heap.size + 1) (some ⟨wr.heap.size, 0, none⟩) (evs [x])) := fun _ => ⟨wr.heap.size, 0, rfl, by omega, fun i u hu => by
        rw [Nat.zero_add, World.cell?_alloc_new]
        simpa [evs, encE] using hu⟩
      clear hcc hx hxm hown hb
      go_wp2_with (at_builtin; (refine wpList_append_rd _ rfl _ _ 104 rfl w1.heap.size 107 i0 (.agg #[.string .empty, .int .u64 0]) 2 24 Tryz.underlying104 hi0 hz0 hz1 hz2 rfl (by omega) (.slice Ao j co) j (evs (es.take j)) rfl (HO.out.alloc _) (wr.heap.size + 1) (some ⟨wr.heap.size, 0, none⟩) 1 1 (evs [x]) rfl (by simp [evs, encE]) HRn.out (evs_one _) (by unfold maxLen; omega) (by omega) (by simp; omega) ?_); intro v3 w3 hown3 hb3 _ _; (have HO3 := Lib.hid hown3); (have HB3 := Lib.hid hb3); clear hown3 hb3)
      have hfin : w3.ownsRow w1.heap.size 107 2 v3 (j + 1) (evs (es.take (j + 1))) := by
        rw [take_next6 HX.out, evs_append]
        exact HO3.out
      have hbf : Below w1.heap.size w1 w3 := (HB.out.alloc HB.out.size _).trans HB3.out
      have HF := Lib.hid hfin
      have HBF := Lib.hid hbf
      clear hfin hbf
      go_roundw
      case rel => exact ⟨j + 1, by omega, by go_num, HF.out, HBF.out⟩
      case measure => simp [intOf]; omega
    · obtain rfl : j = k := by omega
      have HO := Lib.hid hown
      clear hown hb
      go_wp2_with fail
      go_ret
      have he : es.take j = es := List.take_of_length_le (by have := Hk.out; omega)
      have h1 := HO.out
      rw [he, Hk.out] at h1
      exact ⟨_, rfl, own_base h1 HBW.out.size, HBW.out.trans (HB.out.mono HBW.out.size)⟩
end Go.Proofs.YtboeiadfmknidaaGreat

/-
  Layer 6: the program's folder: the inodes of a map, in whatever order: maps.Values, slices.AppendSeq, slices.Collect at uint64.
-/
set_option linter.unusedVariables false
set_option linter.unusedSimpArgs false
namespace Go.Proofs.YtboeiadfmknidaaGreat
open Go.RowKit Go.Maps Go.Sort Go.Shelf
attribute [local go_sem] Oper.semAt_some

abbrev encU (i : Nat) : Value := .int .u64 (i : Int)
/-- some of the entries have come, in some order -/
def Come (es ps : List Ent) : Prop := (ps.map (·.1)).Nodup ∧ ∀ p ∈ ps, p ∈ es
theorem Come.perm {es ps : List Ent} (h : Come es ps) (hs : SortE es) (hall : ∀ x ∈ es, x.1 ∈ ps.map (·.1)) : ps.Perm es := by
  have hnd : ps.Nodup := (List.pairwise_map.1 h.1).imp (by intro a b hn e; exact hn (by rw [e]))
  refine (List.perm_ext_iff_of_nodup hnd hs.nodup).2 fun x => ⟨h.2 x, fun hx => ?_⟩
  obtain ⟨y, hy, e⟩ := List.mem_map.1 (hall x hx)
  have hy2 := h.2 y hy
  have : x.2 = y.2 := hs.one (n := x.1) hx (by rw [← e]; exact hy2)
  have e2 : x = y := Prod.ext e.symm this
  rw [e2]
  exact hy
set_option maxRecDepth 100000 in
set_option maxHeartbeats 1000000 in
theorem hvals1_in (n : Nat) (hn : 1 ≤ n) (l Bm b : Nat) (es : List Ent) (J Jx : List Nat → World → Prop)
    (hY : ∀ pre x W, J pre W → pre.length < es.length → YieldAt Fence.wide (n - 1) Tryz.prog l #[encU x] W fun e W' =>
      (e = .returned (.bool true) ∧ J (pre ++ [x]) W' ∧ KeepsWalks W W') ∨ (e = .returned (.bool false) ∧ Jx (pre ++ [x]) W'))
    (W : World) (hJ : AbidesFrom W.heap.size J) (hm : W.cell? ⟨Bm, 0, none⟩ = some (.map (some b))) (hmap : MapAt W b es) (h0 : J [] W) :
    CallsIn Fence.wide n Tryz.prog 92 #[.func (.yield l) #[] #[], .pointer (some ⟨Bm, 0, none⟩)] W fun e W' => (∃ v, e = .returned v) ∧
      ((∃ xs, (∃ ps, Come es ps ∧ ps.Perm es ∧ xs = ps.map (·.2)) ∧ J xs W') ∨ (∃ pre, True ∧ Jx pre W')) := by
  obtain ⟨ho, D0, hown, hr⟩ := hmap
  have hsz := size_es hown hr ho.1
  refine callsIn_of_wp Tryz.func92 rfl trivial ?_ rfl
  simp only [Tryz.ntmps92, List.size_toArray, List.length_cons, List.length_nil, Nat.reduceAdd, Nat.reduceSub, Array.replicate_succ, Array.replicate_zero, List.push_toArray, List.append_toArray, List.nil_append, List.cons_append]
  gi_wp2_with (first
    | (gi_at_range; refine wpListIn_range_own _ rfl _ 83 rfl 9 64 keyedS Tryz.underlying83 _ b es.length _ rfl hown ?_; intro w0 hrg0 hg0 hs0)
    | gi_in)
  go_frame
  gi_loopw [4] (fun _ wr => ∃ (left : Lit → Bool) (cnt : Nat) (ps : List Ent), wr.ranges Tryz.prog 9 (plainElem Tryz.prog 64) b W.heap.size es.length D0 left cnt ∧ ps.length + cnt ≤ es.length ∧ Collected D0 left (ps.map (·.1.data.toList)) ∧ Come es ps ∧ J (ps.map (·.2)) wr)
    (fun _ wr => wr.rangeLeft b W.heap.size)
  case atStart =>
    exact ⟨_, _, [], hrg0, by simp [hsz], Collected.start D0, ⟨by simp, by simp⟩, hJ [] W w0 none h0 hg0 (fun r e => by cases e)⟩
  case round =>
    obtain ⟨left, cnt, ps, hrg, hcs, hC, hV, hJs⟩ := hrel
    gi_wp2_with (first
      | (gi_at_next; refine wpListIn_next_ranges _ rfl _ rfl 9 keyedS (plainElem Tryz.prog 64) encStr (Value.int .u64) (fun key kl hk => by obtain ⟨x, hx, _⟩ := Maps.keyOf_str Tryz.underlying9 hk; exact ⟨x, hx⟩) (fun v z hv => by obtain ⟨a, ha, _⟩ := plainElem_int_inv Tryz.underlying64 hv; exact ⟨a, ha⟩) b W.heap.size es.length _ _ _ rfl hrg ?_ ?_)
      | gi_in)
    · -- nothing is left
      intro hc0 hl0
      gi_wp2
      go_end0
      refine ⟨⟨_, rfl⟩, .inl ⟨_, ⟨ps, hV, hV.perm ho.1 (fun x hx => ?_), rfl⟩, hJs⟩⟩
      have h1 : x.1.data.toList ∈ ps.map (·.1.data.toList) := (hC.2 _).2 ⟨by
        have := hr.has x.1
        rw [(findL_iff ho.1).2 hx] at this
        exact this, hl0 _⟩
      obtain ⟨y, hy, e⟩ := List.mem_map.1 h1
      exact List.mem_map.2 ⟨y, hy, toList_inj (by rw [ByteArray.toList_eq, ByteArray.toList_eq]; exact e)⟩
    · -- an entry has come
      intro x c kl yd yp w2 cnt2 hkey hlk hv hat hrg2 hlt hg2 hs2 hen
      obtain ⟨x', ex, rfl, _⟩ := Maps.keyOf_str Tryz.underlying9 hkey
      obtain rfl : x = x' := encStr_inj ex
      obtain ⟨c', ec, ez, _⟩ := plainElem_int_inv Tryz.underlying64 hv
      obtain rfl : c = c' := by simpa using ec
      obtain rfl : yd = .lit (.int .u64 c) := (Prod.mk.inj ez).1
      have hhas : Maps.has D0 (.string x) = true := has_true_of_atKey hat
      have ekn : (.string x : Lit) = kn ⟨x.toArray⟩ := by simp [kn]
      rw [ekn, hr.has] at hhas
      obtain ⟨i, hi⟩ := Option.isSome_iff_exists.1 hhas
      have hci : c = (i : Int) := by
        have h1 := hat (.lit (.int .u64 0))
        rw [ekn, hr.some_ hi] at h1
        injection h1 with h1
        injection h1 with _ h1
        exact h1.symm
      subst hci
      have hmem := findL_mem hi
      have hJ2 : J (ps.map (·.2)) w2 := hJ _ wr w2 (some W.heap.size) hJs hg2 (fun r e => by cases e; exact ⟨Nat.le_refl _, hrg.iter_walk⟩)
      obtain ⟨fn, tmps, assign, body, hy, hR⟩ := hY (ps.map (·.2)) i w2 hJ2 (by simp; omega)
      dsimp only [encU] at hy
      clear hs2
      gi_wp2
      refine hR.mono ?_
      have hC2 : Collected D0 (fun z => left z && !z.sameKey (.string x)) ((ps ++ [((⟨x.toArray⟩ : ByteArray), i)]).map (fun p : Ent => p.1.data.toList)) := by simpa using hC.step hlk hat
      have hV2 : Come es (ps ++ [(⟨x.toArray⟩, i)]) := by
        refine ⟨?_, fun p hp => (List.mem_append.1 hp).elim (hV.2 p) (fun e => by simp at e; subst e; exact hmem)⟩
        have h1 := hC2.1
        have h2 : ((ps ++ [((⟨x.toArray⟩ : ByteArray), i)]).map (·.1)).Pairwise (fun a b => a.data.toList ≠ b.data.toList) := by
          rw [List.pairwise_map]
          rw [List.nodup_iff_pairwise_ne, List.pairwise_map] at h1
          exact h1
        exact h2.imp (by intro a b hn e; exact hn (by rw [e]))
      rintro e W3 (⟨rfl, hJ3, hk3⟩ | ⟨rfl, hJx3⟩)
      · gi_wp2
        have hrg3 := hrg2.of_walks hk3
        go_roundw
        case rel => exact ⟨_, cnt2, ps ++ [(⟨x.toArray⟩, i)], hrg3, by simp; omega, hC2, hV2, by simpa using hJ3⟩
        case measure => rw [hrg3.left_eq, hrg.left_eq]; exact hlt
      · gi_wp2
        refine bodyPost_ret (results_none rfl _ _ _) rfl ?_
        exact ⟨⟨_, rfl⟩, .inr ⟨_, trivial, hJx3⟩⟩
theorem hvals_stops (n : Nat) (hn : 1 ≤ n) (Bm b : Nat) (es : List Ent) (w : World) (hBm : Bm < w.heap.size) (hm : w.cell? ⟨Bm, 0, none⟩ = some (.map (some b))) (hmap : MapAt w b es) :
    SeqStops Fence.wide n Tryz.prog 92 #[.pointer (some ⟨Bm, 0, none⟩)] encU (fun xs => ∃ ps, Come es ps ∧ ps.Perm es ∧ xs = ps.map (·.2)) (fun _ => True) es.length w := fun l J Jx W hW hJ _ hY h0 =>
  hvals1_in n hn l Bm b es J Jx hY W hJ ((hW.cell (p := ⟨Bm, 0, none⟩) hBm).trans hm) (hmap.on hW) h0
theorem hvalues (mb : Option Nat) (w : World) : Calls Tryz.prog 79 #[.map mb] w fun e w' => e = .returned (.func (.func 92) #[] #[.pointer (some ⟨w.heap.size, 0, none⟩)]) ∧ w' = w.alloc (.cells #[.map mb] 83) := by
  go_enter Tryz.func79, Tryz.ntmps79
  go_wp2
  go_ret
  exact ⟨rfl, rfl⟩
end Go.Proofs.YtboeiadfmknidaaGreat

/-
  Layer 6: the program's folder: slices.AppendSeq, slices.Collect at uint64.
-/
set_option linter.unusedVariables false
set_option linter.unusedSimpArgs false
namespace Go.Proofs.YtboeiadfmknidaaGreat
open Go.RowKit Go.Maps Go.Sort Go.Shelf
attribute [local go_sem] Oper.semAt_some

theorem u64_info : (Tryz.prog.info? 64).map (fun i => (i.zero, i.size, i.bytes)) = some (some (.int .u64 0), 1, 8) := by kernel_rfl
set_option maxRecDepth 100000 in
set_option maxHeartbeats 2000000 in
theorem happ_in (n : Nat) (hn : 2 ≤ n) (g : Nat) (lb : Array Value) (eg : ∀ args w, (callFunc g args).run Tryz.prog w = .ok (.enter g args) w)
    (S : List Nat → Prop) (N : Nat) (hN : N ≤ 1000000) (w : World) (hseq : SeqStops Fence.wide (n - 1) Tryz.prog g lb encU S (fun _ => True) N w) :
    CallsIn Fence.wide n Tryz.prog 98 #[.slice none 0 0, .func (.func g) #[] lb] w fun e w' => ∃ (v : Value) (xs : List Nat), e = .returned v ∧ S xs ∧ w'.ownsRow w.heap.size 64 1 v xs.length (xs.map encU) ∧ (v = .slice none 0 0 ↔ xs = []) ∧ Below w.heap.size w w' := by
  have h1 : 1 ≤ n := by omega
  obtain ⟨i0, hi0, hz0, hz1, hz2⟩ := info_parts u64_info
  refine callsIn_of_wp_marks Tryz.func98 rfl trivial ?_ rfl
  simp only [Tryz.ntmps98, List.size_toArray, List.length_cons, List.length_nil, Nat.reduceAdd, Nat.reduceSub, Array.replicate_succ, Array.replicate_zero, List.push_toArray, List.append_toArray, List.nil_append, List.cons_append]
  gi_wp2
  obtain ⟨W0, hW0⟩ : ∃ W0, w.alloc (.cells #[.slice none 0 0] 74) = W0 := ⟨_, rfl⟩
  have hs0 : W0.heap.size = w.heap.size + 1 := by rw [← hW0]; simp
  have hB0 : Boxed W0 w.heap.size 74 (.slice none 0 0) := by rw [← hW0]; exact Boxed.new w _ _
  have hb0 : Below w.heap.size w W0 := by rw [← hW0]; exact (Below.refl _ w).alloc (Nat.le_refl _) _
  rw [hW0]
  refine wpIn_rangeFunc_ownF rfl h1 (gf := g) (lb := lb) rfl trivial eg hseq walksK_t walksK_b hb0 (fun _ => rfl)
    (fun pre W => (∃ v, Boxed W w.heap.size 74 v ∧ W.ownsRow w.heap.size 64 1 v pre.length (pre.map encU) ∧ (v = .slice none 0 0 ↔ pre = [])) ∧ Below w.heap.size w W)
    (fun _ _ _ => False)
    (OwnFrom.and (Own.from (holdsRow_own w.heap.size w.heap.size 74 64 1 (fun pre : List Nat => pre.length) (fun pre => pre.map encU) (fun pre v => v = .slice none 0 0 ↔ pre = [])) _) (ownFrom_below (Nat.le_refl _) (by omega)))
    (fun c s A B row hs hg hr => hs)
    ⟨⟨_, hB0, World.ownsRow_nil _ _ _ _, by simp⟩, hb0⟩
    (fun x => { tmps := #[.slice none 0 0, .func (.func g) #[] lb, .pointer (some ⟨w.heap.size, 0, none⟩), undef, .slice none 0 0, encU x, .func (.func g) #[] lb, encU x, undef, undef, undef, undef, undef], defers := [] }) ?assign ?body ?done ?stop
  case assign =>
    intro l x W K hK
    gi_wp2
    exact hK
  case body =>
    rintro l pre x W ⟨⟨v, hv, hrow, hnil⟩, hB⟩ hlt
    have hvc := hv.cell
    gi_wp2_with (first
      | (gi_at_builtin; refine wpListIn_append_own _ rfl _ _ 74 rfl w.heap.size 64 i0 (.int .u64 0) 1 8 Tryz.underlying74 hi0 hz0 hz1 hz2 rfl (by decide) _ _ _ rfl (hrow.alloc _) ⟨W.heap.size, 0, none⟩ 1 1 [encU x] rfl rfl (cell_one_new _ _ _) (by simp [Value.oneCell']) (by unfold maxLen; omega) (by omega) (by have := hB.size; simp; omega) ?_; intro v' w1 hown' hgrow _; obtain ⟨g', cap', rfl⟩ := ownsRow_succ hown'; obtain ⟨hv1, hv2, hr2, hk2, hb2⟩ := hv.appended (by decide) hrow hB.size (Nat.le_refl _) hown' hgrow; have hc1 := hv1.cell; have hf1 := hv1.frozen)
      | gi_in)
    exact ⟨hk2, hk2.walks, ⟨⟨_, hv2, by simpa using hr2, by simp⟩, hB.trans hb2⟩⟩
  case done =>
    rintro D xs W hD hS ⟨⟨v, hv, hrow, hnil⟩, hB⟩ hK
    have hvc := hv.cell
    gi_wp2
    refine ⟨by simp, .inl ⟨_, _, rfl, run_takeDeferred hK, ?_⟩⟩
    exact ⟨_, results_tmp rfl _ _ _, v, xs, rfl, hS, ownsRow_putObj hrow _ hK rfl, hnil, hB.trans (belowK_b (w := w) (Nat.le_refl _) W D _ _ (by omega) hK rfl rfl)⟩
  case stop =>
    rintro D c pre W hD _ hf
    exact hf.elim
theorem hcollect {w : World} (g : Nat) (lb : Array Value) (eg : ∀ args w, (callFunc g args).run Tryz.prog w = .ok (.enter g args) w)
    (S : List Nat → Prop) (N : Nat) (hN : N ≤ 1000000) (hseq : ∀ n, 1 ≤ n → SeqStops Fence.wide n Tryz.prog g lb encU S (fun _ => True) N w) :
    Calls Tryz.prog 90 #[.func (.func g) #[] lb] w fun e w' => ∃ (v : Value) (xs : List Nat), e = .returned v ∧ S xs ∧ w'.ownsRow w.heap.size 64 1 v xs.length (xs.map encU) ∧ (v = .slice none 0 0 ↔ xs = []) ∧ Below w.heap.size w w' := by
  have hc := callsIn_wide.1 (happ_in 2 (by omega) g lb eg S N hN w (hseq 1 (by omega)))
  go_enter Tryz.func90, Tryz.ntmps90
  go_wp2_with fail
  refine hc.mono ?_
  rintro e w' ⟨v, xs, rfl, hS, hrow, hnil, hb⟩
  go_wp2_with fail
  go_ret
  exact ⟨v, xs, rfl, hS, hrow, hnil, hb⟩
set_option maxRecDepth 100000 in
theorem hins0 (w : World) : Calls Tryz.prog 104 #[.slice none 0 0, .int .i64 0, .int .i64 0] w fun e w' => (∃ u, e = .returned u) ∧ w = w' := by
  go_enter Tryz.func104, Tryz.ntmps104
  go_wp2_with fail
  go_loopw [6] (fun i wr => i = .int .i64 1 ∧ w = wr) (fun _ _ => 0)
  case atStart => exact ⟨rfl, rfl⟩
  case round =>
    obtain ⟨rfl, rfl⟩ := hrel
    go_wp2_with fail
    go_end0
    exact ⟨⟨_, rfl⟩, rfl⟩
set_option maxRecDepth 100000 in
theorem hpdq0 (w : World) (k : Int) : Calls Tryz.prog 99 #[.slice none 0 0, .int .i64 0, .int .i64 0, .int .i64 k] w fun e w' => (∃ u, e = .returned u) ∧ w = w' := by
  go_enter Tryz.func99, Tryz.ntmps99
  go_wp2_with fail
  go_loopw [1, 2, 10] (fun a b _ wr => a = .int .i64 0 ∧ b = .int .i64 0 ∧ w = wr) (fun _ _ _ _ => 0)
  case atStart => exact ⟨rfl, rfl, rfl⟩
  case round =>
    obtain ⟨rfl, rfl, rfl⟩ := hrel
    go_wp2_with (go_at_call 104; refine (hins0 _).mono ?_; rintro e w' ⟨⟨u, rfl⟩, rfl⟩)
    refine bodyPost_ret (results_none rfl _ _ _) rfl ?_
    exact ⟨⟨_, rfl⟩, rfl⟩
set_option maxRecDepth 100000 in
theorem hlen0 (w : World) : Calls Tryz.prog 100 #[.int .u64 0] w fun e w' => (∃ k : Int, e = .returned (.int .i64 k)) ∧ w = w' := by
  go_enter Tryz.func100, Tryz.ntmps100
  go_wp2
  go_ret
  exact ⟨⟨_, rfl⟩, rfl⟩
set_option maxRecDepth 100000 in
theorem hsort0 (w : World) : Calls Tryz.prog 91 #[.slice none 0 0] w fun e w' => (∃ u, e = .returned u) ∧ w = w' := by
  go_enter Tryz.func91, Tryz.ntmps91
  go_wp2_with (first
    | (go_at_call 100; refine (hlen0 _).mono ?_; rintro e w' ⟨⟨k, rfl⟩, rfl⟩)
    | (go_at_call 99; refine (hpdq0 _ _).mono ?_; rintro e w' ⟨⟨u, rfl⟩, rfl⟩))
  go_end0
  exact ⟨⟨_, rfl⟩, rfl⟩
/-- slices.Sorted at uint64 where nothing comes -/
theorem hsorted0 {w : World} (g : Nat) (lb : Array Value) (eg : ∀ args w, (callFunc g args).run Tryz.prog w = .ok (.enter g args) w)
    (hseq : ∀ n, 1 ≤ n → SeqStops Fence.wide n Tryz.prog g lb encU (fun xs => xs = []) (fun _ => True) 0 w) :
    Calls Tryz.prog 78 #[.func (.func g) #[] lb] w fun e w' => e = .returned (.slice none 0 0) ∧ Below w.heap.size w w' := by
  have hc := hcollect g lb eg _ 0 (by omega) hseq
  go_enter Tryz.func78, Tryz.ntmps78
  go_wp2_with fail
  refine hc.mono ?_
  rintro e w' ⟨v, xs, rfl, rfl, hrow, hnil, hb⟩
  obtain rfl := hnil.2 rfl
  have HB := Lib.hid hb
  clear hnil hrow hb
  go_wp2_with fail
  refine (hsort0 _).mono ?_
  rintro e w' ⟨⟨u, rfl⟩, rfl⟩
  go_wp2_with fail
  go_ret
  exact ⟨rfl, HB.out⟩
end Go.Proofs.YtboeiadfmknidaaGreat

/-
  Layer 6: the program's folder: Live, over whatever slices.Sorted tells of the safe inodes.
-/
set_option linter.unusedVariables false
set_option linter.unusedSimpArgs false
namespace Go.Proofs.YtboeiadfmknidaaGreat
open Go.RowKit Go.Maps Go.Sort Go.Shelf

/-- what Live tells -/
def liveP (xs : List Nat) (settled last : Nat) : List Nat := xs ++ List.range' (settled + 1) (last - settled)
theorem liveP_next {xs : List Nat} {s j : Nat} : xs ++ List.range' (s + 1) (j + 1) = (xs ++ List.range' (s + 1) j) ++ [s + 1 + j] := by
  rw [List.range'_concat, List.append_assoc]
  simp
/-- slices.Sorted's contract at the inodes of the map in block b -/
def SortedAt (w : World) (b : Nat) (xs : List Nat) : Prop :=
  Calls Tryz.prog 78 #[.func (.func 92) #[] #[.pointer (some ⟨w.heap.size, 0, none⟩)]] (w.alloc (.cells #[.map (some b)] 83)) fun e w' => ∃ v, e = .returned v ∧
    w'.ownsRow (w.heap.size + 1) 64 1 v xs.length (xs.map encU) ∧ Below (w.heap.size + 1) (w.alloc (.cells #[.map (some b)] 83)) w'
set_option maxRecDepth 100000 in
set_option maxHeartbeats 4000000 in
theorem hlive_c {w : World} {X bs bn : Nat} {vd : Value} {last settled : Nat} {xs : List Nat} (hc : HCells w X bs bn vd last settled) (hs : SortedAt w bs xs) (hx : xs.length ≤ 100000) (hl : settled ≤ last) (hl2 : last ≤ 100000) :
    Calls Tryz.prog 49 #[.pointer (some ⟨X, 0, none⟩)] w fun e w' => ∃ v, e = .returned v ∧ w'.ownsRow w.heap.size 64 1 v (liveP xs settled last).length ((liveP xs settled last).map encU) ∧ Below w.heap.size w w' := by
  obtain ⟨i0, hi0, hz0, hz1, hz2⟩ := info_parts u64_info
  have HC := Lib.hid hc
  have HS := Lib.hid hs
  have c0 := hc.c0
  clear hc hs
  go_enter Tryz.func49, Tryz.ntmps49
  go_wp2_with fail
  refine (hmade HC.out).mono ?_
  rintro e w' ⟨rfl, rfl⟩
  go_wp2_with fail
  refine (hvalues _ _).mono ?_
  rintro e w' ⟨rfl, rfl⟩
  go_wp2_with fail
  refine Calls.mono HS.out ?_
  rintro e w1 ⟨v, rfl, ho1, hb1⟩
  have hbw1 : Below w.heap.size w w1 := ((Below.refl _ _).alloc (Nat.le_refl _) _).trans (hb1.mono (by omega))
  have HBW := Lib.hid hbw1
  have HC1 := Lib.hid (HC.out.on hbw1)
  have HO1 := Lib.hid (own_base ho1 (Nat.le_succ _))
  have c4 := HC1.out.c4
  have hw1 : IntKind.u64.wrap ((settled : Int) + 1) = ((settled + 1 : Nat) : Int) := by
    rw [show ((settled : Int) + 1) = ((settled + 1 : Nat) : Int) by omega]
    exact IntWalk.u64_in _ (by omega)
  clear hb1 hbw1 ho1 c0
  go_wp2_with fail
  clear c4
  go_loopw [3, 4] (fun o i wr => ∃ j : Nat, settled + j ≤ last ∧ i = .int .u64 ((settled + 1 + j : Nat) : Int) ∧ wr.ownsRow w.heap.size 64 1 o (xs.length + j) ((xs ++ List.range' (settled + 1) j).map encU) ∧ Below w.heap.size w wr) (fun _ i _ => last + 1 - (intOf i).toNat)
  case atStart => exact ⟨0, by omega, by go_num, by simpa using HO1.out, HBW.out⟩
  case round =>
    obtain ⟨j, hj, rfl, hown, hb⟩ := hrel
    have hcr := HC.out.on hb
    have c3 := hcr.c3
    have HO := Lib.hid hown
    have HB := Lib.hid hb
    obtain ⟨q, hq⟩ : ∃ q, q = settled + 1 + j := ⟨_, rfl⟩
    have hq2 : q ≤ 200000 := by omega
    rw [← hq]
    have Hq := Lib.hid hq
    by_cases hjl : q ≤ last
    · obtain ⟨Ao, co, rfl, _, _, _⟩ := own_slice hown
      have hd : decide ((q : Int) ≤ (last : Int)) = true := decide_eq_true (by omega)
      have hw2 : IntKind.u64.wrap ((q : Int) + 1) = ((q + 1 : Nat) : Int) := by
        rw [show ((q : Int) + 1) = ((q + 1 : Nat) : Int) by omega]
        exact IntWalk.u64_in _ (by omega)
      have hxj : xs.length + j ≤ 300000 := by omega
      have hwb : w.heap.size ≤ wr.heap.size := hb.size
      clear hcr hown hb hq
      go_wp2_with (at_builtin; (refine wpList_append_1 _ rfl _ _ 74 rfl w.heap.size 64 i0 (.int .u64 0) 8 Tryz.underlying74 hi0 hz0 hz1 hz2 rfl (.slice Ao (xs.length + j) co) (xs.length + j) ((xs ++ List.range' (settled + 1) j).map encU) rfl (HO.out.alloc _) ⟨wr.heap.size, 0, none⟩ 1 (.int .u64 (q : Int)) rfl (by simp) rfl (by unfold maxLen; omega) (by omega) (by simp; omega) ?_); intro v3 w3 hown3 hb3 _ _; (have HO3 := Lib.hid hown3); (have HB3 := Lib.hid hb3); clear hown3 hb3)
      have hfin : w3.ownsRow w.heap.size 64 1 v3 (xs.length + (j + 1)) ((xs ++ List.range' (settled + 1) (j + 1)).map encU) := by
        have e : (xs ++ List.range' (settled + 1) (j + 1)).map encU = (xs ++ List.range' (settled + 1) j).map encU ++ [.int .u64 (q : Int)] := by
          rw [liveP_next, List.map_append, Hq.out]
          rfl
        rw [e]
        exact HO3.out
      have hbf : Below w.heap.size w w3 := (HB.out.alloc HB.out.size _).trans HB3.out
      have HF := Lib.hid hfin
      have HBF := Lib.hid hbf
      clear hfin hbf
      go_roundw
      case rel => exact ⟨j + 1, by have := Hq.out; omega, by have := Hq.out; go_num, HF.out, HBF.out⟩
      case measure => simp [intOf]; have := Hq.out; omega
    · have hd : decide ((q : Int) ≤ (last : Int)) = false := decide_eq_false (by omega)
      clear hcr hown hb hq
      go_wp2_with fail
      go_ret
      have he : j = last - settled := by have := Hq.out; omega
      refine ⟨_, rfl, ?_, HB.out⟩
      have h1 := HO.out
      rw [he] at h1
      have h2 : (liveP xs settled last).length = xs.length + (last - settled) := by simp [liveP]
      rw [h2]
      exact h1
theorem sortedAt0 {w : World} {b : Nat} (h : MapAt w b []) : SortedAt w b [] := by
  have h1 : MapAt (w.alloc (.cells #[.map (some b)] 83)) b [] := h.on ((Below.refl _ _).alloc (Nat.le_refl _) _)
  refine (hsorted0 92 #[.pointer (some ⟨w.heap.size, 0, none⟩)] (enters_of Tryz.func92 (by kernel_rfl) rfl) (fun n hn => ?_)).mono ?_
  · have h2 := hvals_stops n hn w.heap.size b [] _ (by simp) (by simp) h1
    intro l J Jx W hW hJ hJx hY h0
    refine (h2 l J Jx W hW hJ hJx hY h0).mono ?_
    rintro e W' ⟨hv, ⟨xs, ⟨ps, hc, hp, rfl⟩, hJ'⟩ | hr⟩
    · exact ⟨hv, .inl ⟨_, by rw [hp.eq_nil]; rfl, hJ'⟩⟩
    · exact ⟨hv, .inr hr⟩
  · rintro e w' ⟨rfl, hb⟩
    exact ⟨_, rfl, World.ownsRow_nil _ _ _ _, by simpa using hb⟩
end Go.Proofs.YtboeiadfmknidaaGreat

/-
  Layer 6: '==' of entries.
-/
set_option linter.unusedVariables false
set_option linter.unusedSimpArgs false
namespace Go.Proofs.YtboeiadfmknidaaGreat
open Go.RowKit Go.Maps

theorem equalIn_ent (a b : ByteArray) (i j : Int) (w : World) : (Op.equalIn (9999 + 1) 107 (.agg #[.string a, .int .u64 i]) (.agg #[.string b, .int .u64 j])).run Tryz.prog w = .ok (a.toList == b.toList && i == j) w := by
  have us := Tryz.underlying9
  have ut := Tryz.underlying64
  have ags := Tryz.isAgg9
  have zs := Tryz.sizeOf9
  have agu := Tryz.isAgg64
  have zu := Tryz.sizeOf64
  have hS : Tryz.prog.underlying 107 = some (.struct (Tryz.prog.fieldsOf 107)) := by kernel_rfl
  have hp : Tryz.prog.stoodInHeld 107 = false := by kernel_rfl
  rw [run_equalIn_struct w 9999 107 _ _ hS hp]
  simp only [Program.fieldsOf, Tryz.underlying107]
  go_simp
  by_cases h1 : a.toList = b.toList <;> by_cases h2 : i = j <;> simp [h1, h2]
theorem eql_ent (a b : ByteArray) (i j : Int) (w : World) : (binOp .eql 107 (.agg #[.string a, .int .u64 i]) (.agg #[.string b, .int .u64 j])).run Tryz.prog w = .ok (.bool (a.toList == b.toList && i == j)) w := by
  rw [run_eql_struct, show (10000 : Nat) = 9999 + 1 from rfl, equalIn_ent]
  rfl
theorem neq_ent (a b : ByteArray) (i j : Int) (w : World) : (binOp .neq 107 (.agg #[.string a, .int .u64 i]) (.agg #[.string b, .int .u64 j])).run Tryz.prog w = .ok (.bool (!(a.toList == b.toList && i == j))) w := by
  rw [run_neq_struct, show (10000 : Nat) = 9999 + 1 from rfl, equalIn_ent]
  rfl
end Go.Proofs.YtboeiadfmknidaaGreat

/-
  Layer 6: the chapter's rows: knows.
-/
set_option linter.unusedVariables false
set_option linter.unusedSimpArgs false
namespace Go.Proofs.YtboeiadfmknidaaGreat
open Go.RowKit Go.Maps

def nA : ByteArray := ⟨#[97]⟩
def nB : ByteArray := ⟨#[98]⟩
theorem nA_list : nA.toList = [97] := by rw [ByteArray.toList_eq]; rfl
theorem nB_list : nB.toList = [98] := by rw [ByteArray.toList_eq]; rfl
theorem nAB : nA ≠ nB := fun e => by have := congrArg ByteArray.toList e; rw [nA_list, nB_list] at this; simp at this
theorem mayA : mayN nA = true := by decide
theorem mayB : mayN nB = true := by decide
def sA : PSt := ⟨[], [.mk nA 1], 1, 0⟩
def sB : PSt := ⟨[], [.mk nA 1, .mk nB 2], 2, 0⟩
def sC : PSt := ⟨[], [.mk nA 1, .mk nB 2, .mv nA nB], 2, 0⟩
theorem withA : withL [] nA 1 = [(nA, 1)] := by rw [withL_eq]; rfl
theorem withB : withL [(nA, 1)] nB 2 = [(nA, 1), (nB, 2)] := by
  rw [withL_eq]
  have h1 : withoutL [(nA, 1)] nB = [(nA, 1)] := by unfold withoutL; simp [nA_list, nB_list]
  rw [h1]
  have h2 : Op.bytesLess nB.toList nA.toList = false := by rw [nA_list, nB_list]; decide
  simp [insL, h2]
theorem nowA : sA.now = [(nA, 1)] := withA
theorem nowB : sB.now = [(nA, 1), (nB, 2)] := by
  show withL (withL [] nA 1) nB 2 = _
  rw [withA, withB]
theorem createA : createP PSt.new nA = (1, 0, sA) := by
  unfold createP
  rw [if_neg (by simp [mayA]), if_neg (by simp [PSt.new, PSt.now, doAll, findL]), if_neg (by simp [PSt.new, PSt.now, doAll])]
  rfl
theorem createB : createP sA nB = (2, 0, sB) := by
  unfold createP
  rw [if_neg (by simp [mayB]), nowA, if_neg, if_neg (by simp)]
  · rfl
  · have : findL [(nA, 1)] nB = none := findL_none.2 (fun x hx => by simp at hx; subst hx; exact nAB)
    rw [this]
    simp
theorem renameC : renameP sB nA nB = (0, sC) := by
  unfold renameP
  rw [if_neg (by simp [mayA, mayB]), nowB, if_neg, if_neg (by simp [nA_list, nB_list])]
  · rfl
  · unfold findL; simp
theorem settleC : sC.settle (keepN 2 sC.deeds.length) = ⟨[(nA, 1), (nB, 2)], [], 2, 2⟩ := by
  have h : doAll [] [.mk nA 1, .mk nB 2] = [(nA, 1), (nB, 2)] := by
    show withL (withL [] nA 1) nB 2 = _
    rw [withA, withB]
  show PSt.mk (doAll [] [.mk nA 1, .mk nB 2]) [] 2 2 = _
  rw [h]
theorem HMut.below {w0 w w' : World} {X : Nat} {M R : Nat → Prop} {s : PSt} (hm : HMut w w' X M R s) (hb : Below w0.heap.size w0 w) (hM : ∀ i, M i → w0.heap.size ≤ i) :
    ∃ M' R', HFolM w' X M' R' s ∧ Below w0.heap.size w0 w' ∧ (∀ i, M' i → w0.heap.size ≤ i) ∧ Chg M w w' := by
  obtain ⟨M', R', h1, h2, h3, h4⟩ := hm
  exact ⟨M', R', h1, hb.trans (h2.below hb.size hM), fun i hi => (h3 i hi).elim (hM i) (fun e => Nat.le_trans hb.size e), h2⟩
end Go.Proofs.YtboeiadfmknidaaGreat
