/-
  SegNames, part 7 of what the law's proof leans on: SxSort, HxIno, HxWalk, JxPlain, JfMem, JxShelf, JfLook, JfShut, JfDo, JfSee, JxSafe, JfLive.
-/
import Derived.Test.YtfabodpefbdbjaaGreatDoorSegNamesQ5
import Derived.Test.YtfabodpefbdbjaaGreatDoorSegNamesQ6
import Derived.Test.YtfabodpefbdbjaaGreatDoorSegNamesQ4
import Derived.Test.YtfabodpefbdbjaaGreatDoorSegNamesQ1
import Derived.Lib.AppendZerosOnto
import Derived.Maps.OwnSet
import Derived.Maps.Range
import Derived.Laws.Cover3
import Derived.MapFrom
import Derived.Deep.LoopGhost
import Derived.Deep.RegionHeld3
import Derived.Laws.EntriesVeiled
/- SxSort -/

/-
  slices.Sort, slices.Sorted at uint64, of a row of at most 200.
-/
set_option linter.unusedVariables false
set_option linter.unusedSimpArgs false
namespace Go.Proofs.YtfabodpefbdbjaaGreatDoor
open Go.RowKit Go.Sort Go.Shelf

/-- the inodes of entries, rising -/
def inosL (es : List Ent) : List Nat := (es.map (·.2)).mergeSort (fun a b => decide (a ≤ b))
theorem inosL_perm (es : List Ent) : (inosL es).Perm (es.map (·.2)) := List.mergeSort_perm _ _
theorem inosL_le (es : List Ent) : (inosL es).Pairwise (· ≤ ·) := by
  have := List.pairwise_mergeSort (le := fun a b : Nat => decide (a ≤ b)) (by intro a b c h1 h2; simp at *; omega) (by intro a b; simp; omega) (es.map (·.2))
  exact this.imp (by intro a b h; simpa using h)
theorem sorted_eq {xs ys : List Nat} (hp : ys.Perm xs) (hx : xs.Pairwise (· ≤ ·)) (hy : ys.Pairwise (· ≤ ·)) : ys = xs :=
  List.Perm.eq_of_pairwise (le := fun a b : Nat => a ≤ b) (fun a b _ _ h1 h2 => Nat.le_antisymm h1 h2) hy hx hp
/-- a row that one owns, as the sort takes it -/
theorem rowU_of_own {w : World} {base n : Nat} {v : Value} {xs : List Nat} (h : w.ownsRow base 41 1 v n (xs.map encU)) :
    (v = .slice none 0 0 ∧ n = 0 ∧ xs = []) ∨ ∃ g cap, v = slU g 0 n cap ∧ n = (xs.map (fun x : Nat => (x : Int))).toArray.size ∧ base ≤ g ∧ cap ≤ maxLen ∧ RowU w g 0 cap (xs.map (fun x : Nat => (x : Int))).toArray := by
  have hl : xs.length = n := by have := h.1; simpa using this
  rcases h.2 with ⟨rfl, h0⟩ | ⟨g, cap, cur, rfl, hb, hg, hc, hm, hs, ht⟩
  · exact .inl ⟨rfl, h0, List.eq_nil_of_length_eq_zero (by omega)⟩
  · refine .inr ⟨g, cap, rfl, by simp [hl], hb, hm, cur, hg, by simpa using hs, by simp [hl]; omega, fun t ht2 => ?_⟩
    simp only [List.size_toArray, List.length_map] at ht2
    rw [Nat.mul_one] at ht
    have h1 : (cur.toList.take n)[t]? = (xs.map encU)[t]? := by rw [ht]
    rw [List.getElem?_take, if_pos (by omega), Array.getElem?_toList] at h1
    rw [Nat.zero_add, h1]
    simp [getElem!_def, List.getElem?_eq_getElem ht2, encU]
theorem own_of_rowU {w : World} {base n g cap : Nat} {d : Array Int} {ys : List Nat} (hd : d = (ys.map (fun x : Nat => (x : Int))).toArray) (hn : n = ys.length) (hb : base ≤ g) (hm : cap ≤ maxLen) (h : RowU w g 0 cap d) :
    w.ownsRow base 41 1 (slU g 0 n cap) n (ys.map encU) := by
  obtain ⟨cur, hg, hs, hle, hc⟩ := h
  subst hd hn
  simp only [List.size_toArray, List.length_map, Nat.zero_add] at hle hc
  refine ⟨by simp, .inr ⟨g, cap, cur, rfl, hb, hg, hle, hm, by omega, ?_⟩⟩
  rw [Nat.mul_one]
  refine List.ext_getElem? fun t => ?_
  by_cases ht : t < ys.length
  · rw [List.getElem?_take, if_pos ht, Array.getElem?_toList, hc t ht]
    simp [getElem!_def, List.getElem?_eq_getElem ht, encU]
  · rw [List.getElem?_take, if_neg ht, List.getElem?_eq_none (by simp; omega)]
set_option maxRecDepth 100000 in
theorem hsortU {w : World} {base n : Nat} {v : Value} {xs : List Nat} (h : w.ownsRow base 41 1 v n (xs.map encU)) (hbs : base ≤ w.heap.size) (hn : n ≤ 200) :
    Calls Tryz.prog 156 #[v] w fun e w' => (∃ u, e = .returned u) ∧ ∃ ys : List Nat, ys.Perm xs ∧ ys.Pairwise (· ≤ ·) ∧ w'.ownsRow base 41 1 v n (ys.map encU) ∧ Below base w w' := by
  rcases rowU_of_own h with ⟨rfl, rfl, rfl⟩ | ⟨g, cap, rfl, hnd, hb, hm, hrow⟩
  · refine (hsort0 w).mono ?_
    rintro e w' ⟨hu, rfl⟩
    exact ⟨hu, [], List.Perm.refl _, List.Pairwise.nil, h, Below.refl _ _⟩
  · obtain ⟨d, hd⟩ : ∃ d, d = (xs.map (fun x : Nat => (x : Int))).toArray := ⟨_, rfl⟩
    rw [← hd] at hrow hnd
    have Hd := Lib.hid hd
    have HR := Lib.hid hrow
    clear h hd hrow
    subst hnd
    have hfin : ∀ (w' : World) (d' : Array Int), PermIn 0 d.size d d' → SortedIn ltInt 0 d.size d' → StU w w' g 0 cap d' → ∃ ys : List Nat, ys.Perm xs ∧ ys.Pairwise (· ≤ ·) ∧ w'.ownsRow base 41 1 (slU g 0 d.size cap) d.size (ys.map encU) ∧ Below base w w' := by
      intro w' d' hp hs hst
      have hsz := hp.1
      have hpm := hp.2.2
      have e1 : d'.extract 0 d.size = d' := by rw [← hsz]; simp
      have e2 : d.extract 0 d.size = d := by simp
      rw [e1, e2] at hpm
      have hall : ∀ x ∈ d'.toList, ∃ k : Nat, x = (k : Int) := fun x hx => by
        have h1 := hpm.mem_iff.1 hx
        rw [Hd.out] at h1
        obtain ⟨k, _, rfl⟩ := List.mem_map.1 (by simpa using h1)
        exact ⟨k, rfl⟩
      have hys : d' = ((d'.toList.map Int.toNat).map (fun x : Nat => (x : Int))).toArray := by
        apply Array.ext'
        rw [List.map_map]
        refine (List.map_id _).symm.trans (List.map_congr_left fun x hx => ?_)
        obtain ⟨k, rfl⟩ := hall x hx
        simp
      refine ⟨d'.toList.map Int.toNat, ?_, ?_, own_of_rowU hys (by simp [hsz]) hb hm hst.row, hst.chg.below hbs (fun i e => by subst e; exact hb)⟩
      · have := hpm.map Int.toNat
        rw [Hd.out] at this
        have e3 : ((xs.map (fun x : Nat => (x : Int))).toArray.toList.map Int.toNat) = xs := by
          rw [show (xs.map (fun x : Nat => (x : Int))).toArray.toList = xs.map (fun x : Nat => (x : Int)) from rfl, List.map_map]
          exact (List.map_congr_left fun x _ => by simp).trans (List.map_id _)
        rw [e3] at this
        exact this
      · rw [List.pairwise_map, List.pairwise_iff_getElem]
        intro i j hi hj hij
        have h1 := hs i j (Nat.zero_le _) hij (by simpa [hsz] using hj)
        have hi' : i < d'.size := by simpa using hi
        have hj' : j < d'.size := by simpa using hj
        rw [getElem!_pos d' j hj', getElem!_pos d' i hi'] at h1
        simp only [ltInt, decide_eq_false_iff_not] at h1
        simp only [Array.getElem_toList]
        omega
    have HF := Lib.hid hfin
    clear hfin hbs hb
    obtain ⟨n, hn'⟩ : ∃ n, n = d.size := ⟨_, rfl⟩
    have Hn := Lib.hid hn'
    rw [← hn'] at hn ⊢
    clear hn'
    have hwn : IntKind.u64.wrap (n : Int) = (n : Int) := IntWalk.u64_in _ (by omega)
    unfold slU
    go_enter Tryz.func156, Tryz.ntmps156
    go_wp2_with (go_at_call 184; refine (hlen n _ (by omega)).mono ?_; rintro e w1 ⟨⟨k, rfl, hk⟩, rfl⟩)
    have hc := hpdq (n + 1) g 0 cap cap 0 n k d w1 (by omega) HR.out (by omega) (by have := Hn.out; omega) (by have := Hn.out; omega) (by have := hk.1; omega) (.inl rfl)
    unfold slU at hc
    rw [← Hn.out] at hc
    have HC := Lib.hid hc
    clear hc
    go_wp2_with (go_at_call 183; refine (HC.out).mono ?_; rintro e w2 ⟨⟨u, rfl⟩, hw2⟩)
    go_end0
    obtain ⟨d', h1, h2, h3⟩ := hw2
    have := Hn.out
    subst this
    exact ⟨⟨_, rfl⟩, HF.out _ _ h1 h2 h3⟩
/-- slices.Sorted at uint64 -/
theorem hsortedU {w : World} (g : Nat) (lb : Array Value) (eg : ∀ args w, (callFunc g args).run Tryz.prog w = .ok (.enter g args) w) (S : List Nat → Prop) (N : Nat) (hN : N ≤ 1000000) (hS : ∀ xs, S xs → xs.length ≤ 200)
    (hseq : ∀ n, 1 ≤ n → SeqStops Fence.wide n Tryz.prog g lb encU S (fun _ => True) N w) :
    Calls Tryz.prog 112 #[.func (.func g) #[] lb] w fun e w' => ∃ (v : Value) (xs ys : List Nat), e = .returned v ∧ S xs ∧ ys.Perm xs ∧ ys.Pairwise (· ≤ ·) ∧ w'.ownsRow w.heap.size 41 1 v ys.length (ys.map encU) ∧ Below w.heap.size w w' := by
  have hc := hcollect g lb eg S N hN hseq
  have HS := Lib.hid hS
  clear hS
  go_enter Tryz.func112, Tryz.ntmps112
  go_wp2_with fail
  refine hc.mono ?_
  rintro e w' ⟨v, xs, rfl, hxs, hrow, hnil, hb⟩
  have hl := HS.out xs hxs
  have HX := Lib.hid hxs
  have HB := Lib.hid hb
  have HR := Lib.hid hrow
  clear hxs hrow hnil hb hseq
  go_wp2_with fail
  refine (hsortU HR.out HB.out.size hl).mono ?_
  rintro e w2 ⟨⟨u, rfl⟩, ys, h1, h2, h3, h4⟩
  go_wp2_with fail
  go_ret
  exact ⟨_, xs, ys, rfl, HX.out, h1, h2, by rw [h1.length_eq]; exact h3, HB.out.trans h4⟩
/-- the inodes of a map, rising -/
theorem sortedAt {w : World} {b : Nat} {es : List Ent} (h : MapAt w b es) (hl : es.length ≤ 200) : SortedAt w b (inosL es) := by
  have h1 : MapAt (w.alloc (.cells #[.map (some b)] 139)) b es := h.on ((Below.refl _ _).alloc (Nat.le_refl _) _)
  refine (hsortedU 157 #[.pointer (some ⟨w.heap.size, 0, none⟩)] (enters_of Tryz.func157 (by kernel_rfl) rfl) _ es.length (by omega) ?_
    (fun n hn => hvals_stops n hn w.heap.size b es _ (by simp) (by simp) h1)).mono ?_
  · rintro xs ⟨ps, _, hp, rfl⟩
    rw [List.length_map, hp.length_eq]
    exact hl
  · rintro e w' ⟨v, xs, ys, rfl, ⟨ps, hc, hp, rfl⟩, hys, hso, ho, hb⟩
    have he : ys = inosL es := sorted_eq (hys.trans ((hp.map _).trans (inosL_perm es).symm)) (inosL_le es) hso
    subst he
    exact ⟨v, rfl, by simpa using ho, by simpa using hb⟩
end Go.Proofs.YtfabodpefbdbjaaGreatDoor

/- HxIno -/

/-
  Layer 6: inodes: which a folder's names lead to, and which are live.
-/
set_option linter.unusedVariables false
set_option linter.unusedSimpArgs false
namespace Go.Proofs.YtfabodpefbdbjaaGreatDoor
open Go.RowKit Go.Maps

/-- entries that may be, at inodes from 1 to L, no two at one -/
def Good (L : Nat) (s : List Ent) : Prop := (∀ x ∈ s, mayN x.1 = true ∧ 1 ≤ x.2 ∧ x.2 ≤ L) ∧ ∀ x ∈ s, ∀ y ∈ s, x.2 = y.2 → x = y
theorem Good.nil_ (L : Nat) : Good L [] := ⟨fun _ h => absurd h (by simp), fun _ h => absurd h (by simp)⟩
theorem Good.mono {L L' : Nat} {s : List Ent} (h : Good L s) (hl : L ≤ L') : Good L' s := ⟨fun x hx => ⟨(h.1 x hx).1, (h.1 x hx).2.1, Nat.le_trans (h.1 x hx).2.2 hl⟩, h.2⟩
theorem Good.mk_ {L : Nat} {s : List Ent} (h : Good L s) {n : ByteArray} (hn : mayN n = true) : Good (L + 1) (withL s n (L + 1)) := by
  refine ⟨fun x hx => ?_, fun x hx y hy e => ?_⟩
  · rcases mem_withL.1 hx with rfl | ⟨h1, _⟩
    · exact ⟨hn, by simp, Nat.le_refl _⟩
    · exact (h.mono (Nat.le_succ L)).1 x h1
  · rcases mem_withL.1 hx with rfl | ⟨h1, _⟩
    · rcases mem_withL.1 hy with rfl | ⟨h2, _⟩
      · rfl
      · have h3 := (h.1 y h2).2.2
        simp only at e
        omega
    · rcases mem_withL.1 hy with rfl | ⟨h2, _⟩
      · have h3 := (h.1 x h1).2.2
        simp only at e
        omega
      · exact h.2 x h1 y h2 e
theorem Good.rm {L : Nat} {s : List Ent} (h : Good L s) (n : ByteArray) : Good L (withoutL s n) :=
  ⟨fun x hx => h.1 x (mem_withoutL.1 hx).1, fun x hx y hy e => h.2 x (mem_withoutL.1 hx).1 y (mem_withoutL.1 hy).1 e⟩
theorem Good.mv {L : Nat} {s : List Ent} (h : Good L s) {a b : ByteArray} {i : Nat} (ha : (a, i) ∈ s) (hb : mayN b = true) : Good L (withoutL (withL s b i) a) := by
  refine ⟨fun x hx => ?_, fun x hx y hy e => ?_⟩
  · rcases mem_withL.1 (mem_withoutL.1 hx).1 with rfl | ⟨h1, _⟩
    · exact ⟨hb, (h.1 _ ha).2⟩
    · exact h.1 x h1
  · obtain ⟨hx1, hx2⟩ := mem_withoutL.1 hx
    obtain ⟨hy1, hy2⟩ := mem_withoutL.1 hy
    rcases mem_withL.1 hx1 with rfl | ⟨h1, _⟩
    · rcases mem_withL.1 hy1 with rfl | ⟨h2, _⟩
      · rfl
      · have := h.2 _ ha y h2 e
        subst this
        exact absurd rfl hy2
    · rcases mem_withL.1 hy1 with rfl | ⟨h2, _⟩
      · have := h.2 x h1 _ ha e
        subst this
        exact absurd rfl hx2
      · exact h.2 x h1 y h2 e
/-- what stands behind k deeds -/
def PSt.at_ (s : PSt) (k : Nat) : List Ent := doAll s.safe (s.deeds.take k)
theorem PSt.at_all (s : PSt) : s.at_ s.deeds.length = s.now := by unfold PSt.at_ PSt.now; rw [List.take_of_length_le (Nat.le_refl _)]
theorem PSt.at_zero (s : PSt) : s.at_ 0 = s.safe := by unfold PSt.at_; simp [doAll]
theorem PSt.at_push {s : PSt} {d : Dd} {k : Nat} (hk : k ≤ s.deeds.length) : (s.push d).at_ k = s.at_ k := by unfold PSt.at_ PSt.push; rw [List.take_append_of_le_length hk]
theorem PSt.at_push_all (s : PSt) (d : Dd) : (s.push d).at_ (s.deeds.length + 1) = d.app s.now := by
  have h := (s.push d).at_all
  rw [show (s.push d).deeds.length = s.deeds.length + 1 by simp [PSt.push]] at h
  rw [h, PSt.push_now]
/-- an inode that was there at the safe state, or that was made since -/
def Old (s : PSt) (i : Nat) : Prop := (∃ y ∈ s.safe, y.2 = i) ∨ s.settled < i
structure GInv (s : PSt) : Prop where
  safe : Good s.settled s.safe
  pre : ∀ k, k ≤ s.deeds.length → Good s.last (s.at_ k)
  old : ∀ k, k ≤ s.deeds.length → ∀ x ∈ s.at_ k, Old s x.2
theorem GInv.new : GInv PSt.new := ⟨Good.nil_ _, fun k _ => by unfold PSt.at_ PSt.new; simp [doAll]; exact Good.nil_ _, fun k _ x hx => by unfold PSt.at_ PSt.new at hx; simp [doAll] at hx⟩
section
variable {s : PSt}
theorem GInv.now (h : GInv s) : Good s.last s.now := by rw [← s.at_all]; exact h.pre _ (Nat.le_refl _)
theorem GInv.now_old (h : GInv s) : ∀ x ∈ s.now, Old s x.2 := by rw [← s.at_all]; exact h.old _ (Nat.le_refl _)
theorem GInv.push (h : GInv s) {d : Dd} (h1 : Good s.last (d.app s.now)) (h2 : ∀ x ∈ d.app s.now, Old s x.2) : GInv (s.push d) := by
  refine ⟨h.safe, fun k hk => ?_, fun k hk x hx => ?_⟩
  · by_cases e : k ≤ s.deeds.length
    · rw [PSt.at_push e]; exact h.pre k e
    · have e2 : k = s.deeds.length + 1 := by simp [PSt.push] at hk; omega
      subst e2
      rw [PSt.at_push_all]
      exact h1
  · by_cases e : k ≤ s.deeds.length
    · rw [PSt.at_push e] at hx; exact h.old k e x hx
    · have e2 : k = s.deeds.length + 1 := by simp [PSt.push] at hk; omega
      subst e2
      rw [PSt.at_push_all] at hx
      exact h2 x hx
theorem GInv.settle (h : GInv s) {k : Nat} (hk : k ≤ s.deeds.length) : GInv (s.settle k) := by
  have h1 := h.pre k hk
  refine ⟨h1, fun j hj => ?_, fun j hj x hx => ?_⟩
  · have : j = 0 := by simp [PSt.settle] at hj; omega
    subst this
    rw [PSt.at_zero]
    exact h1
  · have : j = 0 := by simp [PSt.settle] at hj; omega
    subst this
    rw [PSt.at_zero] at hx
    exact .inl ⟨x, hx, rfl⟩
theorem GInv.made (h : GInv s) (hs : s.settled ≤ s.last) {n : ByteArray} (hn : mayN n = true) : GInv (s.made n) := by
  have h0 : GInv { s with last := s.last + 1 } := ⟨h.safe, fun k hk => (h.pre k hk).mono (Nat.le_succ _), h.old⟩
  refine h0.push (h.now.mk_ hn) (fun x hx => ?_)
  rcases mem_withL.1 hx with rfl | ⟨h1, _⟩
  · exact .inr (Nat.lt_succ_of_le hs)
  · exact h.now_old x h1
theorem GInv.doP (h : GInv s) (ho : s.Ok) (c : Call6) : GInv (doP s c).2.2 := by
  rcases doP_cases s c with e | ⟨e, _, _, hn, _⟩ | ⟨e, _, _, ha, hb, hf, hne⟩ | ⟨e, _⟩ | ⟨k, hk, e, _⟩
  · rw [e]; exact h
  · rw [e]; exact h.made ho.settled hn
  · rw [e]
    obtain ⟨i, hi⟩ := Option.isSome_iff_exists.1 hf
    have hm := findL_mem hi
    have e2 : (Dd.mv c.name c.dst6).app s.now = withoutL (withL s.now c.dst6 i) c.name := by simp [Dd.app, hi]
    refine h.push (by rw [e2]; exact h.now.mv hm hb) (fun x hx => ?_)
    rw [e2] at hx
    rcases mem_withL.1 (mem_withoutL.1 hx).1 with rfl | ⟨h1, _⟩
    · exact h.now_old (c.name, i) hm
    · exact h.now_old x h1
  · rw [e]; exact h.push (h.now.rm _) (fun x hx => h.now_old x (mem_withoutL.1 hx).1)
  · rw [e]; exact h.settle hk
/-- what Live tells -/
def PSt.live (s : PSt) : List Nat := liveP (inosL s.safe) s.settled s.last
theorem mem_live (hs : s.settled ≤ s.last) {i : Nat} : i ∈ s.live ↔ (∃ y ∈ s.safe, y.2 = i) ∨ (s.settled < i ∧ i ≤ s.last) := by
  unfold PSt.live liveP
  rw [List.mem_append, (inosL_perm s.safe).mem_iff, List.mem_map, List.mem_range'_1]
  constructor
  · rintro (h | h)
    · exact .inl h
    · exact .inr (by omega)
  · rintro (h | h)
    · exact .inl h
    · exact .inr (by omega)
theorem GInv.live_le (h : GInv s) (hs : s.settled ≤ s.last) : ∀ i ∈ s.live, 1 ≤ i ∧ i ≤ s.last := fun i hi => by
  rcases (mem_live hs).1 hi with ⟨y, hy, rfl⟩ | h1
  · have := (h.safe.1 y hy).2; omega
  · omega
theorem GInv.live_now (h : GInv s) (hs : s.settled ≤ s.last) : ∀ x ∈ s.now, x.2 ∈ s.live := fun x hx => by
  rcases h.now_old x hx with h1 | h1
  · exact (mem_live hs).2 (.inl h1)
  · exact (mem_live hs).2 (.inr ⟨h1, (h.now.1 x hx).2.2⟩)
theorem GInv.live_lt (h : GInv s) (ho : s.Ok) : s.live.Pairwise (· < ·) := by
  unfold PSt.live liveP
  refine List.pairwise_append.2 ⟨?_, List.pairwise_lt_range' , fun a ha b hb => ?_⟩
  · have hnd : (inosL s.safe).Nodup := by
      refine (inosL_perm s.safe).nodup_iff.2 ?_
      exact List.pairwise_map.2 (ho.safe.1.nodup.imp_of_mem (fun {a b} ha hb hn e => hn (h.safe.2 a ha b hb e)))
    exact List.Pairwise.imp₂ (fun a b h1 h2 => Nat.lt_of_le_of_ne h1 h2) (inosL_le s.safe) hnd
  · obtain ⟨y, hy, rfl⟩ := List.mem_map.1 ((inosL_perm s.safe).mem_iff.1 ha)
    have h1 := (h.safe.1 y hy).2.2
    have h2 := (List.mem_range'_1.1 hb).1
    omega
theorem told_make {c : Call6} (hw : 0 ≤ c.what ∧ c.what ≤ 2) : ((doP s c).2.1 = 0 ∧ (doP s c).1 = s.last + 1 ∧ (doP s c).2.2.last = s.last + 1) ∨ ((doP s c).2.1 ≠ 0 ∧ (doP s c).1 = 0 ∧ (doP s c).2.2.last = s.last) := by
  have e : doP s c = createP s c.name := by unfold Go.Proofs.YtfabodpefbdbjaaGreatDoor.doP; rw [if_pos (by omega)]
  rw [e]
  unfold createP
  split
  · exact .inr ⟨by simp, rfl, rfl⟩
  · split
    · exact .inr ⟨by simp, rfl, rfl⟩
    · split
      · exact .inr ⟨by simp, rfl, rfl⟩
      · exact .inl ⟨rfl, rfl, rfl⟩
end
end Go.Proofs.YtfabodpefbdbjaaGreatDoor

/- HxWalk -/

/-
  Layer 6: rows of entries and of inodes that a call told, in blocks of their own; the program's calls over a folder in memory.
-/
set_option linter.unusedVariables false
set_option linter.unusedSimpArgs false
namespace Go.Proofs.YtfabodpefbdbjaaGreatDoor
open Go.RowKit Go.Maps

theorem rdR_of_own {w : World} {base n c : Nat} {e : TypeId} {size : Nat} {A : Option Addr} {xs : List Value} (h : w.ownsRow base e size (.slice A n c) n xs) : RdR w (fun i => base ≤ i ∧ i < w.heap.size) A xs := fun hx => by
  obtain ⟨b, o, e, hb, hc⟩ := Rd.of_own h hx
  exact ⟨b, o, e, ⟨(h.lt b (by rw [e]; rfl)).1, hb⟩, hc⟩
/-- The value v is a slice that reads as the entries l, out of a block of R. -/
def EsR (w : World) (R : Nat → Prop) (v : Value) (l : List Ent) : Prop := ∃ A c, v = .slice A l.length c ∧ l.length ≤ c ∧ c ≤ maxLen ∧ RdR w R A (evs l)
def UsR (w : World) (R : Nat → Prop) (v : Value) (l : List Nat) : Prop := ∃ A c, v = .slice A l.length c ∧ l.length ≤ c ∧ c ≤ maxLen ∧ RdR w R A (l.map encU)
/-- what is new in w' -/
abbrev newB (w w' : World) (i : Nat) : Prop := w.heap.size ≤ i ∧ i < w'.heap.size
section
variable {w w' : World} {R R' M : Nat → Prop} {v : Value} {l : List Ent} {u : List Nat}
theorem RdR.chg_ {A : Option Addr} {xs : List Value} (h : RdR w R A xs) (hc : Chg M w w') (hM : ∀ i, R i → ¬ M i) : RdR w' R A xs := fun hx => by
  obtain ⟨b, o, e, hb, hcs⟩ := h hx
  exact ⟨b, o, e, hb, fun j u hu => (hc.cell (p := ⟨b, o + j, none⟩) (fblock_of_cell (hcs j u hu)) (hM b hb)).trans (hcs j u hu)⟩
theorem EsR.chg (h : EsR w R v l) (hc : Chg M w w') (hM : ∀ i, R i → ¬ M i) : EsR w' R v l := by
  obtain ⟨A, c, h1, h2, h3, h4⟩ := h
  exact ⟨A, c, h1, h2, h3, h4.chg_ hc hM⟩
theorem EsR.on (h : EsR w R v l) (hb : Below w.heap.size w w') : EsR w' R v l := h.chg (Chg.of_below (M := fun _ => False) hb) (fun _ _ e => e)
theorem EsR.mono (h : EsR w R v l) (hR : ∀ i, R i → R' i) : EsR w R' v l := by
  obtain ⟨A, c, h1, h2, h3, h4⟩ := h
  exact ⟨A, c, h1, h2, h3, h4.mono hR⟩
theorem UsR.chg (h : UsR w R v u) (hc : Chg M w w') (hM : ∀ i, R i → ¬ M i) : UsR w' R v u := by
  obtain ⟨A, c, h1, h2, h3, h4⟩ := h
  exact ⟨A, c, h1, h2, h3, h4.chg_ hc hM⟩
theorem UsR.mono (h : UsR w R v u) (hR : ∀ i, R i → R' i) : UsR w R' v u := by
  obtain ⟨A, c, h1, h2, h3, h4⟩ := h
  exact ⟨A, c, h1, h2, h3, h4.mono hR⟩
theorem UsR.on (h : UsR w R v u) (hb : Below w.heap.size w w') : UsR w' R v u := h.chg (Chg.of_below (M := fun _ => False) hb) (fun _ _ e => e)
theorem EsR.at_ (h : EsR w R v l) {A : Option Addr} {n c : Nat} (hv : v = .slice A n c) {j : Nat} {x : Ent} (hx : l[j]? = some x) :
    ∃ b o, A = some ⟨b, o, none⟩ ∧ R b ∧ w.cell? ⟨b, o + j * 2, none⟩ = some (.string x.1) ∧ w.cell? ⟨b, o + j * 2 + 1, none⟩ = some (.int .u64 (x.2 : Int)) := by
  obtain ⟨A', c', e, _, _, h2⟩ := h
  rw [hv] at e
  injection e with e _ _
  subst e
  obtain ⟨g1, g2⟩ := evs_get l j x hx
  obtain ⟨b, o, e2, hb, hc⟩ := h2 (by intro e; rw [e] at g1; simp at g1)
  exact ⟨b, o, e2, hb, hc _ _ g1, hc (j * 2 + 1) _ g2⟩
theorem UsR.at_ (h : UsR w R v u) {A : Option Addr} {n c : Nat} (hv : v = .slice A n c) {j : Nat} {x : Nat} (hx : u[j]? = some x) :
    ∃ b o, A = some ⟨b, o, none⟩ ∧ R b ∧ w.cell? ⟨b, o + j, none⟩ = some (.int .u64 (x : Int)) := by
  obtain ⟨A', c', e, _, _, h2⟩ := h
  rw [hv] at e
  injection e with e _ _
  subst e
  have g1 : (u.map encU)[j]? = some (.int .u64 (x : Int)) := by rw [List.getElem?_map, hx]; rfl
  obtain ⟨b, o, e2, hb, hc⟩ := h2 (by intro e; rw [e] at g1; simp at g1)
  exact ⟨b, o, e2, hb, hc _ _ g1⟩
end
section
variable {w : World} {X : Nat} {M R : Nat → Prop} {s : PSt}
theorem HLive.chg {w wk w' : World} {N : Nat → Prop} (h : HLive w wk X M R s) (hc : Chg N wk w') (hN : ∀ i, N i → ¬ M i ∧ ¬ R i ∧ w.heap.size ≤ i) : HLive w w' X M R s :=
  ⟨h.fol.chg hc (fun i hi => ⟨(hN i hi).1, (hN i hi).2.1⟩), h.below.trans (hc.below h.below.size (fun i hi => (hN i hi).2.2)), h.newM⟩
theorem hlive_m (h : HFolM w X M R s) (hl : s.safe.length ≤ 200) (hla : s.last ≤ 10000) : Calls Tryz.prog 62 #[.pointer (some ⟨X, 0, none⟩)] w fun e w' => ∃ v, e = .returned v ∧ UsR w' (newB w w') v s.live ∧ Below w.heap.size w w' := by
  obtain ⟨bs, bn, Ad, cd, hc, hs, hn⟩ := h.cells
  refine (hlive_c hc (sortedAt hs hl) (by rw [(inosL_perm s.safe).length_eq, List.length_map]; omega) h.ok.settled (by omega)).mono ?_
  rintro e w' ⟨v, rfl, ho, hb⟩
  obtain ⟨A, c, rfl, h1, h2, _⟩ := own_slice ho
  exact ⟨_, rfl, ⟨A, c, rfl, h1, h2, rdR_of_own ho⟩, hb⟩
theorem hfind_m (h : HFolM w X M R s) {n : ByteArray} (hn : n.size ≤ maxLen) : Calls Tryz.prog 115 #[.pointer (some ⟨X, 0, none⟩), .string n] w fun e w' => e = .returned (.tuple #[.int .u64 (((findL s.now n).getD 0 : Nat) : Int), .bool (findL s.now n).isSome]) ∧ w = w' := by
  obtain ⟨bs, bn, Ad, cd, hc, hs, hm⟩ := h.cells
  exact hfind hc hm hn
end
end Go.Proofs.YtfabodpefbdbjaaGreatDoor

/- JxPlain -/

/-
  Layer 7: a file system as plain mathematics: a folder's state, a file for each inode, the quota, the power, the fuse; what each call tells and makes.
-/
set_option linter.unusedVariables false
set_option linter.unusedSimpArgs false
namespace Go.Proofs.YtfabodpefbdbjaaGreatDoor
open Go.RowKit

structure FsP where
  dir : PSt
  file : Nat → FSt
  quota : Nat
  off : Bool
  steps : Nat
  fuse : Option Nat
def upd (g : Nat → FSt) (i : Nat) (t : FSt) : Nat → FSt := fun j => if j = i then t else g j
theorem upd_same (g : Nat → FSt) (i : Nat) (t : FSt) : upd g i t i = t := by simp [upd]
theorem upd_other (g : Nat → FSt) {i j : Nat} (t : FSt) (h : j ≠ i) : upd g i t j = g j := by simp [upd, h]
def FsP.new (q : Nat) : FsP := ⟨PSt.new, fun _ => FSt.new [], q, false, 0, none⟩
/-- how many bytes the files have to which a name leads -/
def usedL (g : Nat → FSt) (l : List Ent) : Nat := (l.map fun x => (g x.2).bytes.length).sum
def FsP.used (s : FsP) : Nat := usedL s.file s.dir.now
/-- a step begins: what is wrong, and what is left -/
def beginF (s : FsP) : Nat × FsP :=
  if s.off then (20, s) else if s.fuse = some 0 then (20, { s with off := true, steps := s.steps + 1 }) else (0, { s with steps := s.steps + 1, fuse := s.fuse.map (· - 1) })
/-- a step: what it does if nothing is wrong at its beginning -/
def stepF (s : FsP) (k : FsP → Nat × FsP) : Nat × FsP := if (beginF s).1 = 0 then k (beginF s).2 else ((beginF s).1, (beginF s).2)
/-- the inode of a name, or what is wrong -/
def nodeF (s : FsP) (n : ByteArray) : Nat × Nat := if mayN n = false then (1, 0) else match findL s.dir.now n with
  | none => (6, 0)
  | some i => (0, i)
/-- a step on a file -/
def onF (s : FsP) (n : ByteArray) (k : FSt → Nat × FSt) : Nat × FsP :=
  if (nodeF s n).1 = 0 then ((k (s.file (nodeF s n).2)).1, { s with file := upd s.file (nodeF s n).2 (k (s.file (nodeF s n).2)).2 }) else ((nodeF s n).1, s)
def createK (n : ByteArray) (s : FsP) : Nat × FsP :=
  ((createP s.dir n).2.1, { s with dir := (createP s.dir n).2.2, file := if (createP s.dir n).2.1 = 0 then upd s.file (s.dir.last + 1) (FSt.new []) else s.file })
def appT (used quota : Nat) (b : List UInt8) (t : FSt) : Nat × FSt := if quota < used + b.length then (21, t) else if b = [] then (0, t) else (0, t.app b)
def syncT (t : FSt) : Nat × FSt := (0, t.settled t.loose)
def appendK (n : ByteArray) (b : List UInt8) (s : FsP) : Nat × FsP := onF s n (appT s.used s.quota b)
def syncK (n : ByteArray) (s : FsP) : Nat × FsP := onF s n syncT
def syncDirK (s : FsP) : Nat × FsP := (0, { s with dir := s.dir.settle s.dir.deeds.length })
def removeK (n : ByteArray) (s : FsP) : Nat × FsP := ((removeP s.dir n).1, { s with dir := (removeP s.dir n).2 })
/-- how much of each file a crash by picks keeps -/
def pickAt (picks : List Int) (i : Nat) : Nat := ((picks[i]?).getD 0).toNat
def crashD (s : FsP) (picks : List Int) : PSt := s.dir.settle (pickAt picks 0 % (s.dir.deeds.length + 1))
def crashT (picks : List Int) (l : List Nat) (g : Nat → FSt) (i : Nat) : FSt := if i ∈ l then (g i).settled (pickAt picks (l.idxOf i + 1) % ((g i).loose + 1)) else g i
def crashK (s : FsP) (picks : List Int) : Nat × FsP :=
  if picks.any (· < 0) then (1, s) else (0, { s with dir := crashD s picks, file := crashT picks (inosL (crashD s picks).safe) s.file, off := false, fuse := none })

/-- all that is there: no step makes more than one of it at a time -/
def totL (g : Nat → FSt) (n : Nat) : Nat := ((List.range (n + 1)).map fun i => (g i).big).sum
theorem sum_perm {f : Nat → Nat} {l m : List Nat} (h : l.Perm m) : (l.map f).sum = (m.map f).sum := by
  induction h with
  | nil => rfl
  | cons x _ ih => simp only [List.map_cons, List.sum_cons, ih]
  | swap x y l => simp only [List.map_cons, List.sum_cons]; omega
  | trans _ _ ih1 ih2 => exact ih1.trans ih2
theorem sum_mono {α : Type} {f g : α → Nat} : ∀ {l : List α}, (∀ x ∈ l, f x ≤ g x) → (l.map f).sum ≤ (l.map g).sum
  | [], _ => Nat.le_refl _
  | x :: r, h => by
    have h1 := h x (by simp)
    have h2 := sum_mono (l := r) (f := f) (g := g) (fun y hy => h y (by simp [hy]))
    simp only [List.map_cons, List.sum_cons]
    omega
theorem sum_nodup_lt {f : Nat → Nat} : ∀ {n : Nat} {l : List Nat}, l.Nodup → (∀ i ∈ l, i < n) → (l.map f).sum ≤ ((List.range n).map f).sum
  | 0, [], _, _ => Nat.le_refl _
  | 0, x :: r, _, h => absurd (h x (by simp)) (by omega)
  | n + 1, l, hd, h => by
    rw [List.range_succ, List.map_append, List.sum_append]
    simp only [List.map_cons, List.map_nil, List.sum_cons, List.sum_nil, Nat.add_zero]
    by_cases hn : n ∈ l
    · have hp := List.perm_cons_erase hn
      rw [sum_perm hp]
      simp only [List.map_cons, List.sum_cons]
      have hd2 := hp.nodup_iff.1 hd
      obtain ⟨h1, h2⟩ := List.nodup_cons.1 hd2
      have h3 := sum_nodup_lt (f := f) (n := n) h2 (fun i hi => by
        have h4 := h i (List.mem_of_mem_erase hi)
        have h5 : i ≠ n := fun e => by subst e; exact h1 hi
        omega)
      omega
    · have h3 := sum_nodup_lt (f := f) (n := n) hd (fun i hi => by
        have h4 := h i hi
        have h5 : i ≠ n := fun e => by subst e; exact hn hi
        omega)
      omega
theorem sum_nodup_le {f : Nat → Nat} {l : List Nat} {n : Nat} (hd : l.Nodup) (h : ∀ i ∈ l, i ≤ n) : (l.map f).sum ≤ ((List.range (n + 1)).map f).sum :=
  sum_nodup_lt hd (fun i hi => by have := h i hi; omega)
theorem totL_next (g : Nat → FSt) (n : Nat) : totL g (n + 1) = totL g n + (g (n + 1)).big := by
  unfold totL
  rw [List.range_succ, List.map_append, List.sum_append]
  simp
theorem totL_congr {g h : Nat → FSt} {n : Nat} (e : ∀ i, i ≤ n → (h i).big ≤ (g i).big) : totL h n ≤ totL g n :=
  sum_mono (fun i hi => e i (by have := List.mem_range.1 hi; omega))
theorem totL_upd (g : Nat → FSt) {i n : Nat} (t : FSt) (d : Nat) (h : t.big ≤ (g i).big + d) : totL (upd g i t) n ≤ totL g n + d := by
  by_cases hi : i ≤ n
  · induction n with
    | zero =>
      obtain rfl : i = 0 := by omega
      simp [totL, upd]
      omega
    | succ n ih =>
      rw [totL_next, totL_next]
      by_cases e : i = n + 1
      · subst e
        rw [upd_same]
        have h1 : totL (upd g (n + 1) t) n ≤ totL g n := totL_congr (fun j hj => by rw [upd_other _ _ (by omega)]; exact Nat.le_refl _)
        omega
      · have h1 := ih (by omega)
        rw [upd_other _ _ (show n + 1 ≠ i by omega)]
        omega
  · exact Nat.le_trans (totL_congr (fun j hj => by rw [upd_other _ _ (by omega)]; exact Nat.le_refl _)) (Nat.le_add_right _ _)
/-- what a file system keeps, step by step -/
structure FInv (s : FsP) (q T : Nat) : Prop where
  dir : s.dir.Ok
  ino : GInv s.dir
  files : ∀ i, (s.file i).Ok
  tot : totL s.file s.dir.last ≤ T
  last : s.dir.last ≤ q
  few : s.dir.big ≤ q
theorem FInv.used_le {s : FsP} {q T : Nat} (h : FInv s q T) : s.used ≤ T := by
  have h1 : s.used ≤ (s.dir.now.map fun x => (s.file x.2).big).sum := sum_mono (fun x _ => FSt.bytes_length (h.files x.2))
  have h2 : (s.dir.now.map fun x => (s.file x.2).big) = (s.dir.now.map (·.2)).map fun i => (s.file i).big := by rw [List.map_map]; rfl
  rw [h2] at h1
  have hg := h.ino.now
  have hd : (s.dir.now.map (·.2)).Nodup := List.pairwise_map.2 (h.dir.now.1.nodup.imp_of_mem (fun {a b} ha hb hn e => hn (hg.2 a ha b hb e)))
  have h3 := sum_nodup_le (f := fun i => (s.file i).big) (n := s.dir.last) hd (fun i hi => by
    obtain ⟨x, hx, rfl⟩ := List.mem_map.1 hi
    exact (hg.1 x hx).2.2)
  exact Nat.le_trans h1 (Nat.le_trans h3 h.tot)
theorem FInv.mono {s : FsP} {q q' T T' : Nat} (h : FInv s q T) (h1 : q ≤ q') (h2 : T ≤ T') : FInv s q' T' := ⟨h.dir, h.ino, h.files, Nat.le_trans h.tot h2, Nat.le_trans h.last h1, Nat.le_trans h.few h1⟩
theorem FInv.new (q : Nat) : FInv (FsP.new q) 0 0 := ⟨PSt.new_ok, GInv.new, fun _ => FSt.new_ok _, by simp [totL, FsP.new, PSt.new, FSt.new, FSt.big, FSt.loose, unitsL], by simp [FsP.new, PSt.new], by simp [FsP.new, PSt.new, PSt.big]⟩
end Go.Proofs.YtfabodpefbdbjaaGreatDoor

/-
  Layer 7: what a file system keeps, call by call (plain mathematics).
-/
set_option linter.unusedVariables false
set_option linter.unusedSimpArgs false
namespace Go.Proofs.YtfabodpefbdbjaaGreatDoor
open Go.RowKit

theorem doP_ok {s : PSt} (ho : s.Ok) (c : Call6) (hf : s.safe.length + s.deeds.length < 100000) (hl : s.last + 1 < 100000000) : (doP s c).2.2.Ok := by
  rcases doP_cases s c with e | ⟨e, _, _, hn, _⟩ | ⟨e, _, _, ha, hb, _⟩ | ⟨e, _, _, hn, _⟩ | ⟨k, hk, e, _⟩
  · rw [e]; exact ho
  · rw [e]
    have h0 : PSt.Ok { s with last := s.last + 1 } := ⟨ho.safe, ho.deeds, hl, by have := ho.settled; show s.settled ≤ s.last + 1; omega, ho.few⟩
    exact PSt.push_ok h0 ⟨mayN_size hn, by omega⟩ hf
  · rw [e]; exact PSt.push_ok ho ⟨mayN_size ha, mayN_size hb⟩ hf
  · rw [e]; exact PSt.push_ok ho (mayN_size hn) hf
  · rw [e]; exact PSt.settle_ok ho k
/-- the folder's calls as calls of the folder's laws -/
theorem createP_do (s : PSt) (n : ByteArray) : doP s ⟨0, n, n, 0⟩ = createP s n := by unfold doP; rw [if_pos (.inl rfl)]
theorem removeP_do (s : PSt) (n : ByteArray) : doP s ⟨4, n, n, 0⟩ = (0, (removeP s n).1, (removeP s n).2) := by
  unfold doP
  rw [if_neg (by simp), if_neg (by simp), if_pos rfl]
section
variable {s : FsP} {q T : Nat}
theorem beginF_is (s : FsP) : (beginF s).2.dir = s.dir ∧ (beginF s).2.file = s.file ∧ (beginF s).2.quota = s.quota := by
  unfold beginF
  split
  · exact ⟨rfl, rfl, rfl⟩
  · split <;> exact ⟨rfl, rfl, rfl⟩
theorem FInv.same {s' : FsP} (h : FInv s q T) (h1 : s'.dir = s.dir) (h2 : s'.file = s.file) : FInv s' q T := ⟨h1 ▸ h.dir, h1 ▸ h.ino, h2 ▸ h.files, by rw [h1, h2]; exact h.tot, h1 ▸ h.last, h1 ▸ h.few⟩
theorem FInv.step (h : FInv s q T) {k : FsP → Nat × FsP} {q' T' : Nat} (hq : q ≤ q') (hT : T ≤ T') (hk : FInv (beginF s).2 q T → FInv (k (beginF s).2).2 q' T') : FInv (stepF s k).2 q' T' := by
  have h0 : FInv (beginF s).2 q T := h.same (beginF_is s).1 (beginF_is s).2.1
  unfold stepF
  split
  · exact hk h0
  · exact h0.mono hq hT
/-- the folder goes on, no new inode -/
theorem FInv.dir_ (h : FInv s q T) (hq : q ≤ 1000) (c : Call6) (hw : ¬ (c.what = 0 ∨ c.what = 1 ∨ c.what = 2)) : FInv { s with dir := (doP s.dir c).2.2 } (q + 1) T := by
  have hb := doP_big s.dir c
  have hf := h.few
  have hl := h.last
  have hlast : (doP s.dir c).2.2.last = s.dir.last := by
    rcases doP_cases s.dir c with e | ⟨e, hx, _⟩ | ⟨e, _⟩ | ⟨e, _⟩ | ⟨k, hk, e, _⟩
    · rw [e]
    · exact absurd (by omega) hw
    · rw [e]; rfl
    · rw [e]; rfl
    · rw [e]; rfl
  exact ⟨doP_ok h.dir c (by unfold PSt.big at hf; omega) (by omega), h.ino.doP h.dir c, h.files, by rw [show (FsP.dir { s with dir := (doP s.dir c).2.2 }).last = s.dir.last from hlast]; exact h.tot, by show (doP s.dir c).2.2.last ≤ _; omega, by show (doP s.dir c).2.2.big ≤ _; omega⟩
theorem FInv.createK_ (h : FInv s q T) (hq : q ≤ 1000) (n : ByteArray) : FInv (createK n s).2 (q + 1) T := by
  have hb := doP_big s.dir ⟨0, n, n, 0⟩
  have hok := doP_ok h.dir ⟨0, n, n, 0⟩ (by have := h.few; unfold PSt.big at this; omega) (by have := h.last; omega)
  have hg := h.ino.doP h.dir ⟨0, n, n, 0⟩
  have ht := told_make (s := s.dir) (c := ⟨0, n, n, 0⟩) ⟨by simp, by simp⟩
  rw [createP_do] at hb hok hg ht
  have hf := h.few
  have hl := h.last
  rcases ht with ⟨e0, e1, e2⟩ | ⟨e0, e1, e2⟩
  · refine ⟨hok, hg, fun i => ?_, ?_, by show (createP s.dir n).2.2.last ≤ _; omega, by show (createP s.dir n).2.2.big ≤ _; omega⟩
    · show ((if (createP s.dir n).2.1 = 0 then upd s.file (s.dir.last + 1) (FSt.new []) else s.file) i).Ok
      rw [if_pos e0]
      by_cases e : i = s.dir.last + 1
      · subst e; rw [upd_same]; exact FSt.new_ok _
      · rw [upd_other _ _ e]; exact h.files i
    · show totL (if (createP s.dir n).2.1 = 0 then upd s.file (s.dir.last + 1) (FSt.new []) else s.file) (createP s.dir n).2.2.last ≤ T
      rw [if_pos e0, e2, totL_next, upd_same]
      have h1 : totL (upd s.file (s.dir.last + 1) (FSt.new [])) s.dir.last ≤ totL s.file s.dir.last := totL_congr (fun j hj => by rw [upd_other _ _ (by omega)]; exact Nat.le_refl _)
      have h2 : (FSt.new []).big = 0 := rfl
      have := h.tot
      omega
  · refine ⟨hok, hg, fun i => ?_, ?_, by show (createP s.dir n).2.2.last ≤ _; omega, by show (createP s.dir n).2.2.big ≤ _; omega⟩
    · show ((if (createP s.dir n).2.1 = 0 then upd s.file (s.dir.last + 1) (FSt.new []) else s.file) i).Ok
      rw [if_neg e0]
      exact h.files i
    · show totL (if (createP s.dir n).2.1 = 0 then upd s.file (s.dir.last + 1) (FSt.new []) else s.file) (createP s.dir n).2.2.last ≤ T
      rw [if_neg e0, e2]
      exact h.tot
/-- a step on a file that makes no more of it than d -/
theorem FInv.onF_ (h : FInv s q T) (n : ByteArray) {k : FSt → Nat × FSt} (d : Nat) (hk : ∀ t : FSt, t.Ok → (k t).2.Ok ∧ (k t).2.big ≤ t.big + d) : FInv (onF s n k).2 q (T + d) := by
  unfold onF
  split
  · refine ⟨h.dir, h.ino, fun i => ?_, ?_, h.last, h.few⟩
    · show (upd s.file (nodeF s n).2 (k (s.file (nodeF s n).2)).2 i).Ok
      by_cases e : i = (nodeF s n).2
      · subst e; rw [upd_same]; exact (hk _ (h.files _)).1
      · rw [upd_other _ _ e]; exact h.files i
    · exact Nat.le_trans (totL_upd s.file _ d (hk _ (h.files _)).2) (Nat.add_le_add_right h.tot d)
  · exact h.mono (Nat.le_refl _) (Nat.le_add_right _ _)
theorem appT_ok (u z : Nat) (b : List UInt8) (t : FSt) (h : t.Ok) : (appT u z b t).2.Ok ∧ (appT u z b t).2.big ≤ t.big + b.length := by
  unfold appT
  split
  · exact ⟨h, by simp⟩
  · split
    · exact ⟨h, by simp⟩
    · rename_i hb
      exact ⟨FSt.app_ok h hb, by rw [show ((0, t.app b) : Nat × FSt).2 = t.app b from rfl, FSt.app_big]; exact Nat.le_refl _⟩
theorem syncT_ok (t : FSt) (h : t.Ok) : (syncT t).2.Ok ∧ (syncT t).2.big ≤ t.big + 0 := ⟨FSt.settled_ok _ _, FSt.settled_big t (Nat.le_refl _)⟩
end
end Go.Proofs.YtfabodpefbdbjaaGreatDoor

/- JfMem -/

/-
  Layer 7: the program's file system in memory: its own cells, its folder, its map of files, what is asked ahead of each step.
-/
set_option linter.unusedVariables false
set_option linter.unusedSimpArgs false
namespace Go.Proofs.YtfabodpefbdbjaaGreatDoor
open Go.RowKit Go.Maps

/-- a file's place as an element of a map -/
def fElem : Value → Option (DataW Unit × List MemPlace)
  | .pointer (some ⟨b, 0, none⟩) => some (.lit (.int .i64 (b : Int)), [])
  | .pointer none => some (.nil, [])
  | _ => none
theorem fElem_mk (b : Nat) : fElem (.pointer (some ⟨b, 0, none⟩)) = some (.lit (.int .i64 (b : Int)), []) := rfl
theorem fElem_inv {v : Value} {b : Nat} {ps : List MemPlace} (h : fElem v = some (.lit (.int .i64 (b : Int)), ps)) : v = .pointer (some ⟨b, 0, none⟩) := by
  unfold fElem at h
  split at h
  · rename_i c
    injection h with h
    injection h with h _
    injection h with h
    injection h with _ h
    have : c = b := by omega
    rw [this]
  · injection h with h
    injection h with h _
    cases h
  · cases h
def updN (g : Nat → Nat) (i F : Nat) : Nat → Nat := fun j => if j = i then F else g j
theorem updN_same (g : Nat → Nat) (i F : Nat) : updN g i F i = F := by simp [updN]
theorem updN_other (g : Nat → Nat) {i j : Nat} (F : Nat) (h : j ≠ i) : updN g i F j = g j := by simp [updN, h]
/-- block b is a map of at most n keys, of which those of K lead to the files in blocks g, and no others are there -/
def MapF (w : World) (b n : Nat) (K : List Nat) (g : Nat → Nat) : Prop := ∃ D : DataW Unit, w.ownsMap Tryz.prog 41 fElem b n D ∧ (∀ i, i ∈ K → ∀ zd, D.atKey (ku i) zd = .lit (.int .i64 (g i : Int))) ∧ (∀ k, (∀ i, i ∈ K → k ≠ ku i) → Maps.has D k = false)
section
variable {w w' : World} {b n : Nat} {K : List Nat} {g : Nat → Nat} {M : Nat → Prop}
theorem MapF.lt (h : MapF w b n K g) : b < w.heap.size := by obtain ⟨D, h, _⟩ := h; exact h.lt
theorem MapF.no_cell (h : MapF w b n K g) (o : Nat) : w.cell? ⟨b, o, none⟩ = none := by
  obtain ⟨D, ⟨es, clock, hb, _⟩, _⟩ := h
  simp [World.cell?, hb]
theorem MapF.of_block (h : MapF w b n K g) (hb : w'.heap[b]? = w.heap[b]?) : MapF w' b n K g := by
  obtain ⟨D, ⟨es', clock, h1, h2⟩, hr⟩ := h
  exact ⟨D, ⟨es', clock, hb.trans h1, h2⟩, hr⟩
theorem MapF.chg (h : MapF w b n K g) (hc : Chg M w w') (hM : ¬ M b) : MapF w' b n K g := h.of_block (hc.block b h.lt hM)
theorem MapF.on (h : MapF w b n K g) (hb : Below w.heap.size w w') : MapF w' b n K g := h.of_block (hb.block b h.lt)
theorem MapF.new (w : World) (g : Nat → Nat) : MapF (w.alloc (.map #[] 0)) w.heap.size 0 [] g := ⟨_, World.ownsMap_made w _ _ _, (fun i hi => absurd hi (by simp)), (fun k _ => rfl)⟩
theorem MapF.congr {K' : List Nat} {g' : Nat → Nat} (h : MapF w b n K g) (he : ∀ i, i ∈ K ↔ i ∈ K') (hg : ∀ i, i ∈ K' → g' i = g i) : MapF w b n K' g' := by
  obtain ⟨D, h1, h2, h3⟩ := h
  exact ⟨D, h1, fun i hi zd => by rw [hg i hi]; exact h2 i ((he i).2 hi) zd, fun k hk => h3 k (fun i hi => hk i ((he i).1 hi))⟩
theorem zeroPF (w : World) : (zeroValue 112).run Tryz.prog w = .ok (.pointer none) w := by kernel_rfl
set_option maxRecDepth 100000 in
theorem MapF.look (h : MapF w b n K g) {i : Nat} (hi : i < 1000000000) (hm : i ∈ K) :
    (Instr.lookup 92 (.map (some b)) (.int .u64 (i : Int)) false).run Tryz.prog w = .ok (.pointer (some ⟨g i, 0, none⟩)) w := by
  obtain ⟨D, hown, h1, h2⟩ := h
  obtain ⟨v, ps, hrun, e⟩ := hown.lookup keyedU Tryz.underlying92 (zeroPF w) (show fElem (.pointer none) = some (.nil, []) from rfl) (keyOf_ku hi)
  rw [h1 i hm] at e
  rw [hrun, fElem_inv e]
set_option maxRecDepth 100000 in
theorem MapF.store (h : MapF w b n K g) (hn : n ≤ 100000000) {i : Nat} (hi : i < 1000000000) (F : Nat) :
    ∃ w', (Instr.mapUpdate 92 (.map (some b)) (.int .u64 (i : Int)) (.pointer (some ⟨F, 0, none⟩))).run Tryz.prog w = .ok () w' ∧ MapF w' b (n + 1) (i :: K) (updN g i F) ∧ w.mapTurned w' b := by
  obtain ⟨D, hown, h1, h2⟩ := h
  obtain ⟨w', hrun, r1, r2⟩ := hown.store keyedU Tryz.underlying92 (by unfold maxLen; omega) (keyOf_ku hi) (fElem_mk F)
  refine ⟨w', hrun, ⟨_, r1, fun j hj zd => ?_, fun k hk => ?_⟩, r2⟩
  · by_cases e : j = i
    · subst e; rw [updN_same]; exact atKey_put_same hown.isMap (isKey_ku j) _ _
    · rcases List.mem_cons.1 hj with e' | hj
      · exact absurd e' e
      · rw [updN_other _ _ e]; exact (atKey_put_other (fun e' => e (ku_inj e')) _ _).trans (h1 j hj zd)
  · exact (has_put_other (hk i (by simp)) _).trans (h2 k (fun j hj => hk j (by simp [hj])))
end
/-- a file system's cells -/
structure FsC (w : World) (A X B q u st : Nat) (on : Bool) (hv : Value) : Prop where
  c0 : w.cell? ⟨A, 0, none⟩ = some (.pointer (some ⟨X, 0, none⟩))
  c1 : w.cell? ⟨A, 1, none⟩ = some (.map (some B))
  c2 : w.cell? ⟨A, 2, none⟩ = some (.int .i64 (q : Int))
  c3 : w.cell? ⟨A, 3, none⟩ = some (.int .i64 (u : Int))
  c4 : w.cell? ⟨A, 4, none⟩ = some (.int .i64 (st : Int))
  c5 : w.cell? ⟨A, 5, none⟩ = some (.bool on)
  c6 : w.cell? ⟨A, 6, none⟩ = some hv
  f0 : w.frozen? ⟨A, 0, none⟩ = false
  f1 : w.frozen? ⟨A, 1, none⟩ = false
  f2 : w.frozen? ⟨A, 2, none⟩ = false
  f3 : w.frozen? ⟨A, 3, none⟩ = false
  f4 : w.frozen? ⟨A, 4, none⟩ = false
  f5 : w.frozen? ⟨A, 5, none⟩ = false
  f6 : w.frozen? ⟨A, 6, none⟩ = false
section
variable {w w' : World} {A X B q u st : Nat} {on : Bool} {hv : Value}
theorem FsC.lt (h : FsC w A X B q u st on hv) : A < w.heap.size := fblock_of_cell h.c0
theorem FsC.of_block (h : FsC w A X B q u st on hv) (hb : w'.heap[A]? = w.heap[A]?) : FsC w' A X B q u st on hv := by
  have hc : ∀ o, w'.cell? ⟨A, o, none⟩ = w.cell? ⟨A, o, none⟩ := fun o => World.cell?_of_block hb
  have hf : ∀ o, w'.frozen? ⟨A, o, none⟩ = w.frozen? ⟨A, o, none⟩ := fun o => World.frozen?_of_block hb
  exact ⟨(hc 0).trans h.c0, (hc 1).trans h.c1, (hc 2).trans h.c2, (hc 3).trans h.c3, (hc 4).trans h.c4, (hc 5).trans h.c5, (hc 6).trans h.c6, (hf 0).trans h.f0, (hf 1).trans h.f1, (hf 2).trans h.f2, (hf 3).trans h.f3, (hf 4).trans h.f4, (hf 5).trans h.f5, (hf 6).trans h.f6⟩
theorem FsC.on_ (h : FsC w A X B q u st on hv) (hb : Below w.heap.size w w') : FsC w' A X B q u st on hv := h.of_block (hb.block A h.lt)
theorem FsC.drew (h : FsC w A X B q u st on hv) : FsC w.drew A X B q u st on hv := h.of_block rfl
theorem FsC.set1 (h : FsC w A X B q u st on hv) (k : Nat) : FsC (w.setCell ⟨A, 1, none⟩ (.map (some k))) A X k q u st on hv := by
  obtain ⟨c0, c1, c2, c3, c4, c5, c6, f0, f1, f2, f3, f4, f5, f6⟩ := h
  refine ⟨?_, World.cell?_setCell_same _ _ _ c1, ?_, ?_, ?_, ?_, ?_, by rw [World.frozen?_setCell]; assumption, by rw [World.frozen?_setCell]; assumption, by rw [World.frozen?_setCell]; assumption, by rw [World.frozen?_setCell]; assumption, by rw [World.frozen?_setCell]; assumption, by rw [World.frozen?_setCell]; assumption, by rw [World.frozen?_setCell]; assumption⟩ <;>
    (rw [World.cell?_setCell_other _ _ _ _ (by intro e; injection e with e1 e2; omega)]; assumption)
theorem FsC.set3 (h : FsC w A X B q u st on hv) (k : Nat) : FsC (w.setCell ⟨A, 3, none⟩ (.int .i64 (k : Int))) A X B q k st on hv := by
  obtain ⟨c0, c1, c2, c3, c4, c5, c6, f0, f1, f2, f3, f4, f5, f6⟩ := h
  refine ⟨?_, ?_, ?_, World.cell?_setCell_same _ _ _ c3, ?_, ?_, ?_, by rw [World.frozen?_setCell]; assumption, by rw [World.frozen?_setCell]; assumption, by rw [World.frozen?_setCell]; assumption, by rw [World.frozen?_setCell]; assumption, by rw [World.frozen?_setCell]; assumption, by rw [World.frozen?_setCell]; assumption, by rw [World.frozen?_setCell]; assumption⟩ <;>
    (rw [World.cell?_setCell_other _ _ _ _ (by intro e; injection e with e1 e2; omega)]; assumption)
theorem FsC.set4 (h : FsC w A X B q u st on hv) (k : Nat) : FsC (w.setCell ⟨A, 4, none⟩ (.int .i64 (k : Int))) A X B q u k on hv := by
  obtain ⟨c0, c1, c2, c3, c4, c5, c6, f0, f1, f2, f3, f4, f5, f6⟩ := h
  refine ⟨?_, ?_, ?_, ?_, World.cell?_setCell_same _ _ _ c4, ?_, ?_, by rw [World.frozen?_setCell]; assumption, by rw [World.frozen?_setCell]; assumption, by rw [World.frozen?_setCell]; assumption, by rw [World.frozen?_setCell]; assumption, by rw [World.frozen?_setCell]; assumption, by rw [World.frozen?_setCell]; assumption, by rw [World.frozen?_setCell]; assumption⟩ <;>
    (rw [World.cell?_setCell_other _ _ _ _ (by intro e; injection e with e1 e2; omega)]; assumption)
theorem FsC.set5 (h : FsC w A X B q u st on hv) (k : Bool) : FsC (w.setCell ⟨A, 5, none⟩ (.bool k)) A X B q u st k hv := by
  obtain ⟨c0, c1, c2, c3, c4, c5, c6, f0, f1, f2, f3, f4, f5, f6⟩ := h
  refine ⟨?_, ?_, ?_, ?_, ?_, World.cell?_setCell_same _ _ _ c5, ?_, by rw [World.frozen?_setCell]; assumption, by rw [World.frozen?_setCell]; assumption, by rw [World.frozen?_setCell]; assumption, by rw [World.frozen?_setCell]; assumption, by rw [World.frozen?_setCell]; assumption, by rw [World.frozen?_setCell]; assumption, by rw [World.frozen?_setCell]; assumption⟩ <;>
    (rw [World.cell?_setCell_other _ _ _ _ (by intro e; injection e with e1 e2; omega)]; assumption)
theorem FsC.new (w : World) (X B q : Nat) (u st : Nat) (on : Bool) (hv : Value) (t : TypeId) : FsC (w.alloc (.cells #[.pointer (some ⟨X, 0, none⟩), .map (some B), .int .i64 (q : Int), .int .i64 (u : Int), .int .i64 (st : Int), .bool on, hv] t)) w.heap.size X B q u st on hv := by
  refine ⟨by simp, by simp, by simp, by simp, by simp, by simp, by simp, by simp, by simp, by simp, by simp, by simp, by simp, by simp⟩
end
/-- what is asked ahead of each step -/
def HoldAt (w : World) (R : Nat → Prop) (hv : Value) (st : Nat) : Option Nat → Prop
  | none => hv = .func (.func 43) #[] #[]
  | some n => False
section
variable {w w' : World} {R R' M : Nat → Prop} {hv : Value} {st : Nat} {o : Option Nat}
theorem HoldAt.mono (h : HoldAt w R hv st o) (hR : ∀ i, R i → R' i) : HoldAt w R' hv st o := by
  cases o with
  | none => exact h
  | some n => exact h.elim
theorem HoldAt.chg (h : HoldAt w R hv st o) (hc : Chg M w w') (hM : ∀ i, M i → ¬ R i) : HoldAt w' R hv st o := by
  cases o with
  | none => exact h
  | some n => exact h.elim
end
theorem FileM.rise {w : World} {F : Nat} {M R R' : Nat → Prop} {s : FSt} (h : FileM w F M R s) (hR : ∀ i, R i → R' i) (hM : ∀ i, M i → ¬ R' i) (hl : ∀ i, R' i → i < w.heap.size) : FileM w F M R' s := by
  obtain ⟨h0, h1, h2, h3, vs, vt, vd, dvs, h, h4⟩ := h
  exact ⟨h0, hM, h2, hl, vs, vt, vd, dvs, ⟨h.cells, h.safe, h.tail, h.deeds, h.each.mono hR, h.apart, fun i hi => hM i (h4 i hi)⟩, h4⟩
theorem HFolM.rise {w : World} {X : Nat} {M R R' : Nat → Prop} {s : PSt} (h : HFolM w X M R s) (hR : ∀ i, R i → R' i) (hM : ∀ i, M i → ¬ R' i) (hl : ∀ i, R' i → i < w.heap.size) : HFolM w X M R' s := by
  obtain ⟨h0, h1, h2, h3, bs, bn, vd, dvs, h, hx, h4⟩ := h
  exact ⟨h0, hM, h2, hl, bs, bn, vd, dvs, ⟨h.cells, h.safe, h.now, h.deeds, h.each.mono hR, h.ne, fun i hi => hM i (h4 i hi)⟩, hx, h4⟩
/-- a file system's memory: u is the cell 'used'; M its own blocks, R what nobody writes -/
structure FsAt (w : World) (A X B n u : Nat) (hv : Value) (K : List Nat) (g : Nat → Nat) (MX : Nat → Prop) (MF : Nat → Nat → Prop) (M R : Nat → Prop) (s : FsP) : Prop where
  mr : ∀ i, M i → ¬ R i
  ml : ∀ i, M i → i < w.heap.size
  rl : ∀ i, R i → i < w.heap.size
  cells : FsC w A X B s.quota u s.steps (!s.off) hv
  hold : s.off = false → HoldAt w R hv s.steps s.fuse
  hvf : ∃ f cap, hv = .func (.func f) #[] cap
  map : MapF w B n K g
  ks : ∀ i, i ∈ K → i < 1000000000
  dir : HFolM w X MX R s.dir
  files : ∀ i, i ∈ K → FileM w (g i) (MF i) R (s.file i)
  mA : M A
  mB : M B
  mX : ∀ i, MX i → M i
  mF : ∀ i, i ∈ K → ∀ j, MF i j → M j
  xA : ¬ MX A
  xB : ¬ MX B
  fA : ∀ i, i ∈ K → ¬ MF i A
  fB : ∀ i, i ∈ K → ¬ MF i B
  fX : ∀ i, i ∈ K → ∀ j, MF i j → ¬ MX j
  ff : ∀ i, i ∈ K → ∀ k, k ∈ K → i ≠ k → ∀ j, MF i j → ¬ MF k j
section
variable {w w' : World} {A X B n u : Nat} {hv : Value} {K : List Nat} {g : Nat → Nat} {MX M R N : Nat → Prop} {MF : Nat → Nat → Prop} {s : FsP}
theorem FsAt.ab (h : FsAt w A X B n u hv K g MX MF M R s) : A ≠ B := fun e => by
  have h1 := h.cells.c0
  rw [e, h.map.no_cell 0] at h1
  cases h1
theorem FsAt.chg (h : FsAt w A X B n u hv K g MX MF M R s) (hc : Chg N w w') (hN : ∀ i, N i → ¬ M i ∧ ¬ R i) : FsAt w' A X B n u hv K g MX MF M R s :=
  { h with
    ml := fun i hi => Nat.lt_of_lt_of_le (h.ml i hi) hc.size
    rl := fun i hi => Nat.lt_of_lt_of_le (h.rl i hi) hc.size
    cells := h.cells.of_block (hc.block A h.cells.lt (fun e => (hN A e).1 h.mA))
    hold := fun ho => (h.hold ho).chg hc (fun i e => (hN i e).2)
    map := h.map.chg hc (fun e => (hN B e).1 h.mB)
    dir := h.dir.chg hc (fun i e => ⟨fun e' => (hN i e).1 (h.mX i e'), (hN i e).2⟩)
    files := fun i hi => (h.files i hi).chg hc (fun j e => ⟨fun e' => (hN j e).1 (h.mF i hi j e'), (hN j e).2⟩) }
theorem FsAt.on (h : FsAt w A X B n u hv K g MX MF M R s) (hb : Below w.heap.size w w') : FsAt w' A X B n u hv K g MX MF M R s := h.chg (Chg.of_below (M := fun _ => False) hb) (fun i e => e.elim)
theorem FsAt.drew (h : FsAt w A X B n u hv K g MX MF M R s) : FsAt w.drew A X B n u hv K g MX MF M R s := h.on (Below.refl _ _).drew
/-- a store in its own cells -/
theorem FsAt.own_set (h : FsAt w A X B n u hv K g MX MF M R s) (hg : Chg (fun i => i = A) w w') {u' : Nat} {hv' : Value} {s' : FsP} (hc : FsC w' A X B s'.quota u' s'.steps (!s'.off) hv') (hd : s'.dir = s.dir) (hf : s'.file = s.file)
    (hh : s'.off = false → HoldAt w R hv' s'.steps s'.fuse) (hff : ∃ f cap, hv' = .func (.func f) #[] cap) : FsAt w' A X B n u' hv' K g MX MF M R s' :=
  { h with
    hvf := hff
    ml := fun i hi => Nat.lt_of_lt_of_le (h.ml i hi) hg.size
    rl := fun i hi => Nat.lt_of_lt_of_le (h.rl i hi) hg.size
    cells := hc
    hold := fun ho => (hh ho).chg hg (fun i e => by rw [e]; exact h.mr A h.mA)
    map := h.map.chg hg (fun e => h.ab e.symm)
    dir := by rw [hd]; exact h.dir.chg hg (fun i e => by rw [e]; exact ⟨h.xA, h.mr A h.mA⟩)
    files := fun i hi => by rw [hf]; exact (h.files i hi).chg hg (fun j e => by rw [e]; exact ⟨h.fA i hi, h.mr A h.mA⟩) }
theorem chg_set (w : World) (A o : Nat) (val : Value) : Chg (fun i => i = A) w (w.setCell ⟨A, o, none⟩ val) := (Chg.refl (M := fun i => i = A) (w := w)).setCell (p := ⟨A, o, none⟩) rfl _
theorem FsAt.cell_set (h : FsAt w A X B n u hv K g MX MF M R s) (o : Nat) (val : Value) {u' : Nat} {hv' : Value} {s' : FsP} (hc : FsC (w.setCell ⟨A, o, none⟩ val) A X B s'.quota u' s'.steps (!s'.off) hv') (hd : s'.dir = s.dir) (hf : s'.file = s.file)
    (hh : s'.off = false → HoldAt w R hv' s'.steps s'.fuse) (hff : ∃ f cap, hv' = .func (.func f) #[] cap) : FsAt (w.setCell ⟨A, o, none⟩ val) A X B n u' hv' K g MX MF M R s' := h.own_set (chg_set w A o val) hc hd hf hh hff
theorem FsAt.setU (h : FsAt w A X B n u hv K g MX MF M R s) (k : Nat) : FsAt (w.setCell ⟨A, 3, none⟩ (.int .i64 (k : Int))) A X B n k hv K g MX MF M R s := h.cell_set 3 _ (h.cells.set3 k) rfl rfl h.hold h.hvf
/-- another map, of fewer files -/
theorem FsAt.swap {B' n' : Nat} {K' : List Nat} (h : FsAt w A X B n u hv K g MX MF M R s) (hm : MapF w B' n' K' g) (hK : ∀ i, i ∈ K' → i ∈ K) (h1 : ¬ M B') (h2 : ¬ R B') : FsAt (w.setCell ⟨A, 1, none⟩ (.map (some B'))) A X B' n' u hv K' g MX MF (fun i => M i ∨ i = B') R s := by
  have hg := chg_set w A 1 (.map (some B'))
  have hlt := hm.lt
  have hAB : A ≠ B' := fun e => h1 (e ▸ h.mA)
  exact { h with
    mr := fun i hi e => hi.elim (fun hi => h.mr i hi e) (fun hi => h2 (hi ▸ e))
    ml := fun i hi => Nat.lt_of_lt_of_le (hi.elim (h.ml i) (fun e => e ▸ hlt)) hg.size
    rl := fun i hi => Nat.lt_of_lt_of_le (h.rl i hi) hg.size
    cells := h.cells.set1 B'
    hold := fun ho => (h.hold ho).chg hg (fun i e => by rw [e]; exact h.mr A h.mA)
    map := hm.chg hg (fun e => hAB e.symm)
    ks := fun i hi => h.ks i (hK i hi)
    dir := h.dir.chg hg (fun i e => by rw [e]; exact ⟨h.xA, h.mr A h.mA⟩)
    files := fun i hi => (h.files i (hK i hi)).chg hg (fun j e => by rw [e]; exact ⟨h.fA i (hK i hi), h.mr A h.mA⟩)
    mA := .inl h.mA
    mB := .inr rfl
    mX := fun i hi => .inl (h.mX i hi)
    mF := fun i hi j e => .inl (h.mF i (hK i hi) j e)
    xB := fun e => h1 (h.mX _ e)
    fA := fun i hi => h.fA i (hK i hi)
    fB := fun i hi e => h1 (h.mF i (hK i hi) _ e)
    fX := fun i hi => h.fX i (hK i hi)
    ff := fun i hi k hk => h.ff i (hK i hi) k (hK k hk) }
/-- a new file -/
theorem FsAt.add {w2 w3 : World} {F i n' : Nat} {M1 R1 : Nat → Prop} {t : FSt} (h : FsAt w A X B n u hv K g MX MF M R s) (hb : Below w.heap.size w w2) (hf : FileM w2 F M1 R1 t) (hR1 : ∀ j, R1 j → R j) (hM1 : ∀ j, M1 j → w.heap.size ≤ j)
    (hmap : MapF w3 B n' (i :: K) (updN g i F)) (hc : Chg (fun j => j = B) w2 w3) (hi : i < 1000000000) :
    FsAt w3 A X B n' u hv (i :: K) (updN g i F) MX (fun k => if k = i then M1 else MF k) (fun j => M j ∨ M1 j) R { s with file := upd s.file i t } := by
  have h2 := h.on hb
  have hsz := hc.size
  have hsz2 := hb.size
  have mr : ∀ j, (M j ∨ M1 j) → ¬ R j := fun j e e' => e.elim (fun e => h.mr j e e') (fun e => by have := hM1 j e; have := h.rl j e'; omega)
  have hrl : ∀ j, R j → j < w3.heap.size := fun j e => by have := h.rl j e; omega
  have hK : ∀ k, k ∈ i :: K → k ≠ i → k ∈ K := fun k hk e => (List.mem_cons.1 hk).resolve_left e
  have hBM1 : ∀ j, j = B → ¬ M1 j := fun j e e' => by have := hM1 j e'; have := h.ml B h.mB; omega
  refine ⟨mr, fun j e => Nat.lt_of_lt_of_le (e.elim (h2.ml j) (hf.2.2.1 j)) hsz, hrl, h2.cells.of_block (hc.block A h2.cells.lt (fun e => h.ab e)), fun ho => (h2.hold ho).chg hc (fun j e => by rw [e]; exact h.mr B h.mB), h.hvf, hmap, ?_, h2.dir.chg hc (fun j e => by rw [e]; exact ⟨h.xB, h.mr B h.mB⟩), ?_, .inl h.mA, .inl h.mB, fun j e => .inl (h.mX j e), ?_, h.xA, h.xB, ?_, ?_, ?_, ?_⟩
  · intro k hk
    rcases List.mem_cons.1 hk with rfl | hk
    · exact hi
    · exact h.ks k hk
  · intro k hk
    by_cases e : k = i
    · subst e
      simp only [if_true, updN_same, upd_same]
      exact (hf.chg hc (fun j e => ⟨hBM1 j e, fun e' => h.mr B h.mB (e ▸ hR1 j e')⟩)).rise hR1 (fun j e => mr j (.inr e)) hrl
    · simp only [if_neg e, updN_other _ _ e, upd_other _ _ e]
      exact (h2.files k (hK k hk e)).chg hc (fun j e' => by rw [e']; exact ⟨h.fB k (hK k hk e), h.mr B h.mB⟩)
  · intro k hk j e'
    by_cases e : k = i
    · rw [if_pos e] at e'; exact .inr e'
    · rw [if_neg e] at e'; exact .inl (h.mF k (hK k hk e) j e')
  · intro k hk e'
    by_cases e : k = i
    · rw [if_pos e] at e'; have := hM1 A e'; have := h.ml A h.mA; omega
    · rw [if_neg e] at e'; exact h.fA k (hK k hk e) e'
  · intro k hk e'
    by_cases e : k = i
    · rw [if_pos e] at e'; have := hM1 B e'; have := h.ml B h.mB; omega
    · rw [if_neg e] at e'; exact h.fB k (hK k hk e) e'
  · intro k hk j e' ex
    by_cases e : k = i
    · rw [if_pos e] at e'; have := hM1 j e'; have := h.ml j (h.mX j ex); omega
    · rw [if_neg e] at e'; exact h.fX k (hK k hk e) j e' ex
  · intro k hk l hl hkl j e1 e2
    by_cases e : k = i
    · rw [if_pos e] at e1
      rw [if_neg (fun e' => hkl (e.trans e'.symm))] at e2
      have := hM1 j e1
      have := h.ml j (h.mF l (hK l hl (fun e' => hkl (e.trans e'.symm))) j e2)
      omega
    · rw [if_neg e] at e1
      by_cases e3 : l = i
      · rw [if_pos e3] at e2
        have := hM1 j e2
        have := h.ml j (h.mF k (hK k hk e) j e1)
        omega
      · rw [if_neg e3] at e2
        exact h.ff k (hK k hk e) l (hK l hl e3) hkl j e1 e2
/-- a call on a file -/
theorem FsAt.file_mut (h : FsAt w A X B n u hv K g MX MF M R s) {i : Nat} (hi : i ∈ K) {t : FSt} (hm : Mut w w' (g i) (MF i) R t) :
    ∃ MF' M' R', FsAt w' A X B n u hv K g MX MF' M' R' { s with file := upd s.file i t } ∧ Chg M w w' ∧ (∀ i, M' i → M i ∨ w.heap.size ≤ i) ∧ (∀ i, R' i → R i ∨ w.heap.size ≤ i) := by
  obtain ⟨M1, R1, hf, hc, h1, h2⟩ := hm
  have hsz := hc.size
  have hR' : ∀ j, (R j ∨ R1 j) → R j ∨ w.heap.size ≤ j := fun j e => e.elim .inl (h2 j)
  have hM' : ∀ j, (M j ∨ M1 j) → M j ∨ w.heap.size ≤ j := fun j e => e.elim .inl (fun e => (h1 j e).elim (fun e => .inl (h.mF i hi j e)) .inr)
  have mr : ∀ j, (M j ∨ M1 j) → ¬ (R j ∨ R1 j) := by
    intro j e e'
    rcases e with e | e
    · rcases hR' j e' with e'' | e''
      · exact h.mr j e e''
      · have := h.ml j e; omega
    · rcases e' with e' | e'
      · rcases h1 j e with e'' | e''
        · exact h.mr j (h.mF i hi j e'') e'
        · have := h.rl j e'; omega
      · exact hf.2.1 j e e'
  have hrl : ∀ j, (R j ∨ R1 j) → j < w'.heap.size := fun j e => e.elim (fun e => Nat.lt_of_lt_of_le (h.rl j e) hsz) (hf.2.2.2.1 j)
  have hNew : ∀ {j}, M1 j → ∀ {P : Prop}, (MF i j → P) → (w.heap.size ≤ j → P) → P := fun {j} e P a b => (h1 j e).elim a b
  refine ⟨fun k => if k = i then M1 else MF k, fun j => M j ∨ M1 j, fun j => R j ∨ R1 j, ?_, hc.mono (h.mF i hi), hM', hR'⟩
  have hne : ∀ k, k ∈ K → k ≠ i → ∀ j, MF i j → ¬ MF k j := fun k hk hki j e e' => h.ff k hk i hi hki j e' e
  refine ⟨mr, fun j e => e.elim (fun e => Nat.lt_of_lt_of_le (h.ml j e) hsz) (hf.2.2.1 j), hrl, ?_, fun ho => ((h.hold ho).chg hc (fun j e => h.mr j (h.mF i hi j e))).mono (fun j => .inl), h.hvf, h.map.chg hc (h.fB i hi), h.ks, ?_, ?_, .inl h.mA, .inl h.mB, fun j e => .inl (h.mX j e), ?_, h.xA, h.xB, ?_, ?_, ?_, ?_⟩
  · exact h.cells.of_block (hc.block A h.cells.lt (h.fA i hi))
  · exact (h.dir.chg hc (fun j e => ⟨h.fX i hi j e, h.mr j (h.mF i hi j e)⟩)).rise (fun j => .inl) (fun j e => mr j (.inl (h.mX j e))) hrl
  · intro k hk
    by_cases e : k = i
    · subst e
      simp only [if_true, upd_same]
      exact hf.rise (fun j => .inr) (fun j e => mr j (.inr e)) hrl
    · simp only [if_neg e, upd_other _ _ e]
      exact ((h.files k hk).chg hc (fun j e' => ⟨hne k hk e j e', h.mr j (h.mF i hi j e')⟩)).rise (fun j => .inl) (fun j e' => mr j (.inl (h.mF k hk j e'))) hrl
  · intro k hk j e'
    by_cases e : k = i
    · rw [if_pos e] at e'; exact .inr e'
    · rw [if_neg e] at e'; exact .inl (h.mF k hk j e')
  · intro k hk e'
    by_cases e : k = i
    · rw [if_pos e] at e'; exact hNew e' (h.fA i hi) (fun e => by have := h.ml A h.mA; omega)
    · rw [if_neg e] at e'; exact h.fA k hk e'
  · intro k hk e'
    by_cases e : k = i
    · rw [if_pos e] at e'; exact hNew e' (h.fB i hi) (fun e => by have := h.ml B h.mB; omega)
    · rw [if_neg e] at e'; exact h.fB k hk e'
  · intro k hk j e' ex
    by_cases e : k = i
    · rw [if_pos e] at e'; exact hNew e' (fun e' => h.fX i hi j e' ex) (fun e => by have := h.ml j (h.mX j ex); omega)
    · rw [if_neg e] at e'; exact h.fX k hk j e' ex
  · intro k hk l hl hkl j e1 e2
    by_cases e : k = i
    · rw [if_pos e] at e1
      rw [if_neg (fun e' => hkl (e.trans e'.symm))] at e2
      exact hNew e1 (fun e' => h.ff k hk l hl hkl j (e ▸ e') e2) (fun e' => by have := h.ml j (h.mF l hl j e2); omega)
    · rw [if_neg e] at e1
      by_cases e3 : l = i
      · rw [if_pos e3] at e2
        exact hNew e2 (fun e' => h.ff k hk l hl hkl j e1 (e3 ▸ e')) (fun e' => by have := h.ml j (h.mF k hk j e1); omega)
      · rw [if_neg e3] at e2
        exact h.ff k hk l hl hkl j e1 e2
/-- a call on the folder -/
theorem FsAt.dir_mut (h : FsAt w A X B n u hv K g MX MF M R s) {d : PSt} (hm : HMut w w' X MX R d) :
    ∃ MX' M' R', FsAt w' A X B n u hv K g MX' MF M' R' { s with dir := d } ∧ Chg M w w' ∧ (∀ i, M' i → M i ∨ w.heap.size ≤ i) ∧ (∀ i, R' i → R i ∨ w.heap.size ≤ i) := by
  obtain ⟨M1, R1, hf, hc, h1, h2⟩ := hm
  have hsz := hc.size
  have hR' : ∀ j, (R j ∨ R1 j) → R j ∨ w.heap.size ≤ j := fun j e => e.elim .inl (h2 j)
  have hM' : ∀ j, (M j ∨ M1 j) → M j ∨ w.heap.size ≤ j := fun j e => e.elim .inl (fun e => (h1 j e).elim (fun e => .inl (h.mX j e)) .inr)
  have mr : ∀ j, (M j ∨ M1 j) → ¬ (R j ∨ R1 j) := by
    intro j e e'
    rcases e with e | e
    · rcases hR' j e' with e'' | e''
      · exact h.mr j e e''
      · have := h.ml j e; omega
    · rcases e' with e' | e'
      · rcases h1 j e with e'' | e''
        · exact h.mr j (h.mX j e'') e'
        · have := h.rl j e'; omega
      · exact hf.2.1 j e e'
  have hrl : ∀ j, (R j ∨ R1 j) → j < w'.heap.size := fun j e => e.elim (fun e => Nat.lt_of_lt_of_le (h.rl j e) hsz) (hf.2.2.2.1 j)
  refine ⟨M1, fun j => M j ∨ M1 j, fun j => R j ∨ R1 j, ?_, hc.mono h.mX, hM', hR'⟩
  refine ⟨mr, fun j e => e.elim (fun e => Nat.lt_of_lt_of_le (h.ml j e) hsz) (hf.2.2.1 j), hrl, h.cells.of_block (hc.block A h.cells.lt h.xA), fun ho => ((h.hold ho).chg hc (fun j e => h.mr j (h.mX j e))).mono (fun j => .inl), h.hvf, h.map.chg hc h.xB, h.ks, hf.rise (fun j => .inr) (fun j e => mr j (.inr e)) hrl, ?_, .inl h.mA, .inl h.mB, fun j e => .inr e, fun k hk j e => .inl (h.mF k hk j e), ?_, ?_, h.fA, h.fB, ?_, h.ff⟩
  · intro k hk
    exact ((h.files k hk).chg hc (fun j e' => ⟨fun e => h.fX k hk j e e', h.mr j (h.mX j e')⟩)).rise (fun j => .inl) (fun j e' => mr j (.inl (h.mF k hk j e'))) hrl
  · exact fun e => (h1 A e).elim h.xA (fun e => by have := h.ml A h.mA; omega)
  · exact fun e => (h1 B e).elim h.xB (fun e => by have := h.ml B h.mB; omega)
  · exact fun k hk j e e' => (h1 j e').elim (h.fX k hk j e) (fun e' => by have := h.ml j (h.mF k hk j e); omega)
end
/-- the file system in block A holds s -/
def FsM (w : World) (A u : Nat) (M R : Nat → Prop) (s : FsP) : Prop :=
  ∃ X B n hv K g MX MF, FsAt w A X B n u hv K g MX MF M R s ∧ n ≤ s.dir.last + 1 ∧ (∀ i, i ∈ K → i ≤ s.dir.last) ∧ ∀ i, i ∈ s.dir.live → i ∈ K
/-- what a call leaves that changes the file system -/
def FsMut (w w' : World) (A u : Nat) (M R : Nat → Prop) (s : FsP) : Prop :=
  ∃ M' R', FsM w' A u M' R' s ∧ Chg M w w' ∧ (∀ i, M' i → M i ∨ w.heap.size ≤ i) ∧ (∀ i, R' i → R i ∨ w.heap.size ≤ i)
section
variable {w w' w'' : World} {A u u' : Nat} {M M' R R' N : Nat → Prop} {s t : FsP}
theorem FsM.ltA (h : FsM w A u M R s) : A < w.heap.size := by obtain ⟨X, B, n, hv, K, g, MX, MF, h, _⟩ := h; exact h.cells.lt
theorem FsM.mr (h : FsM w A u M R s) : ∀ i, M i → ¬ R i := by obtain ⟨X, B, n, hv, K, g, MX, MF, h, _⟩ := h; exact h.mr
theorem FsM.ml (h : FsM w A u M R s) : ∀ i, M i → i < w.heap.size := by obtain ⟨X, B, n, hv, K, g, MX, MF, h, _⟩ := h; exact h.ml
theorem FsM.rl (h : FsM w A u M R s) : ∀ i, R i → i < w.heap.size := by obtain ⟨X, B, n, hv, K, g, MX, MF, h, _⟩ := h; exact h.rl
theorem FsM.chg (h : FsM w A u M R s) (hc : Chg N w w') (hN : ∀ i, N i → ¬ M i ∧ ¬ R i) : FsM w' A u M R s := by
  obtain ⟨X, B, n, hv, K, g, MX, MF, h, h1⟩ := h
  exact ⟨X, B, n, hv, K, g, MX, MF, h.chg hc hN, h1⟩
theorem FsM.on (h : FsM w A u M R s) (hb : Below w.heap.size w w') : FsM w' A u M R s := h.chg (Chg.of_below (M := fun _ => False) hb) (fun i e => e.elim)
theorem FsM.drew (h : FsM w A u M R s) : FsM w.drew A u M R s := h.on (Below.refl _ _).drew
theorem FsM.ok (h : FsM w A u M R s) : s.dir.Ok := by obtain ⟨X, B, n, hv, K, g, MX, MF, h, _⟩ := h; exact h.dir.ok
theorem FsMut.of_below (h : FsM w A u M R s) (hb : Below w.heap.size w w') : FsMut w w' A u M R s := ⟨M, R, h.on hb, Chg.of_below hb, fun _ => .inl, fun _ => .inl⟩
theorem FsMut.refl (h : FsM w A u M R s) : FsMut w w A u M R s := .of_below h (Below.refl _ _)
theorem FsMut.on (h : FsMut w w' A u M R s) (hb : Below w'.heap.size w' w'') : FsMut w w'' A u M R s := by
  obtain ⟨M1, R1, h1, h2, h3, h4⟩ := h
  exact ⟨M1, R1, h1.on hb, h2.trans (Chg.of_below (M := fun _ => False) hb) (fun i e => e.elim), h3, h4⟩
theorem FsM.setU (h : FsM w A u M R s) (k : Nat) : FsM (w.setCell ⟨A, 3, none⟩ (.int .i64 (k : Int))) A k M R s := by
  obtain ⟨X, B, n, hv, K, g, MX, MF, h, h1⟩ := h
  exact ⟨X, B, n, hv, K, g, MX, MF, h.setU k, h1⟩
theorem FsM.mA (h : FsM w A u M R s) : M A := by obtain ⟨X, B, n, hv, K, g, MX, MF, h, _⟩ := h; exact h.mA
theorem FsMut.after (hc : Chg M w w') (h3 : ∀ i, M' i → M i ∨ w.heap.size ≤ i) (h4 : ∀ i, R' i → R i ∨ w.heap.size ≤ i) (k : FsMut w' w'' A u M' R' t) : FsMut w w'' A u M R t := by
  obtain ⟨M1, R1, k1, k2, k3, k4⟩ := k
  exact ⟨M1, R1, k1, hc.trans k2 h3, fun i e => (k3 i e).elim (h3 i) (fun e => .inr (Nat.le_trans hc.size e)), fun i e => (k4 i e).elim (h4 i) (fun e => .inr (Nat.le_trans hc.size e))⟩
end
end Go.Proofs.YtfabodpefbdbjaaGreatDoor

/- JxShelf -/

/-
  Layer 7: what the laws use of the shelf: slices.Clone of numbers, slices.Equal of names, a map of names whose keys are at 1, cleared; a mask.
-/
set_option linter.unusedVariables false
set_option linter.unusedSimpArgs false
namespace Go.Proofs.YtfabodpefbdbjaaGreatDoor
open Go.RowKit Go.Maps

/-- numbers as cells -/
def ivs (l : List Int) : List Value := l.map (Value.int .i64)
/-- strings as cells -/
def svs (l : List ByteArray) : List Value := l.map Value.string
theorem svs_get {l : List ByteArray} {k : Nat} {x : ByteArray} (h : l[k]? = some x) : (svs l)[k]? = some (.string x) := by simp [svs, h]
/-- The value v is a slice that reads as the strings l, out of a block of R. -/
def SsR (w : World) (R : Nat → Prop) (v : Value) (l : List ByteArray) : Prop := ∃ A c, v = .slice A l.length c ∧ l.length ≤ c ∧ c ≤ maxLen ∧ RdR w R A (svs l)
section
variable {w w' : World} {R R' M : Nat → Prop} {v : Value} {l : List ByteArray}
theorem SsR.chg (h : SsR w R v l) (hc : Chg M w w') (hM : ∀ i, M i → ¬ R i) : SsR w' R v l := by
  obtain ⟨A, c, h1, h2, h3, h4⟩ := h
  exact ⟨A, c, h1, h2, h3, h4.chg hc hM⟩
theorem SsR.on (h : SsR w R v l) (hb : Below w.heap.size w w') : SsR w' R v l := h.chg (Chg.of_below (M := fun _ => False) hb) (fun _ e => e.elim)
theorem SsR.mono (h : SsR w R v l) (hR : ∀ i, R i → R' i) : SsR w R' v l := by
  obtain ⟨A, c, h1, h2, h3, h4⟩ := h
  exact ⟨A, c, h1, h2, h3, h4.mono hR⟩
theorem SsR.at_ (h : SsR w R v l) {A : Option Addr} {n c : Nat} (hv : v = .slice A n c) {j : Nat} {x : ByteArray} (hx : l[j]? = some x) :
    ∃ b o, A = some ⟨b, o, none⟩ ∧ R b ∧ w.cell? ⟨b, o + j, none⟩ = some (.string x) := by
  obtain ⟨A', c', e, _, _, h2⟩ := h
  rw [hv] at e
  injection e with e _ _
  subst e
  have g1 := svs_get hx
  obtain ⟨b, o, e2, hb, hc⟩ := h2 (by intro e; rw [e] at g1; simp at g1)
  exact ⟨b, o, e2, hb, hc _ _ g1⟩
end
def ks (n : ByteArray) : Lit := .string n.data.toList
/-- block b is a map of at most n names, of which those of l are at 1, and no others there -/
def MapS (w : World) (b n : Nat) (l : List ByteArray) : Prop := ∃ D : DataW Unit, w.ownsMap Tryz.prog 9 (plainElem Tryz.prog 3) b n D ∧ (∀ i, i ∈ l → ∀ zd, D.atKey (ks i) zd = .lit (.int .i64 1)) ∧ (∀ k, (∀ i, i ∈ l → k ≠ ks i) → Maps.has D k = false)
section
variable {w w' : World} {b n : Nat} {l : List ByteArray} {M : Nat → Prop}
theorem MapS.lt (h : MapS w b n l) : b < w.heap.size := by obtain ⟨D, h, _⟩ := h; exact h.lt
theorem MapS.of_block (h : MapS w b n l) (hb : w'.heap[b]? = w.heap[b]?) : MapS w' b n l := by
  obtain ⟨D, ⟨es', clock, h1, h2⟩, hr⟩ := h
  exact ⟨D, ⟨es', clock, hb.trans h1, h2⟩, hr⟩
theorem MapS.chg (h : MapS w b n l) (hc : Chg M w w') (hM : ¬ M b) : MapS w' b n l := h.of_block (hc.block b h.lt hM)
theorem MapS.on (h : MapS w b n l) (hb : Below w.heap.size w w') : MapS w' b n l := h.of_block (hb.block b h.lt)
theorem MapS.new (w : World) : MapS (w.alloc (.map #[] 0)) w.heap.size 0 [] := ⟨_, World.ownsMap_made w _ _ _, (fun i hi => absurd hi (by simp)), (fun k _ => rfl)⟩
theorem MapS.congr {l' : List ByteArray} (h : MapS w b n l) (he : ∀ i, i ∈ l ↔ i ∈ l') : MapS w b n l' := by
  obtain ⟨D, h1, h2, h3⟩ := h
  exact ⟨D, h1, fun i hi => h2 i ((he i).2 hi), fun k hk => h3 k (fun i hi => hk i ((he i).1 hi))⟩
end
end Go.Proofs.YtfabodpefbdbjaaGreatDoor

/- JfLook -/

/-
  Layer 7: what only looks: made, ready, the bytes of names, the file of a name.
-/
set_option linter.unusedVariables false
set_option linter.unusedSimpArgs false
namespace Go.Proofs.YtfabodpefbdbjaaGreatDoor
open Go.RowKit Go.Maps

/-- how many bytes the file of a name has -/
def lenAt (g : Nat → FSt) (now : List Ent) (n : ByteArray) : Nat := match findL now n with
  | some i => (g i).bytes.length
  | none => 0
def bytesN (g : Nat → FSt) (now : List Ent) (ns : List ByteArray) : Nat := (ns.map (lenAt g now)).sum
theorem bytesN_take (g : Nat → FSt) (now : List Ent) {ns : List ByteArray} {k : Nat} {x : ByteArray} (hx : ns[k]? = some x) : bytesN g now (ns.take (k + 1)) = bytesN g now (ns.take k) + lenAt g now x := by
  unfold bytesN
  rw [List.take_add_one, hx]
  simp
theorem bytesN_le (g : Nat → FSt) (now : List Ent) (ns : List ByteArray) (k : Nat) : bytesN g now (ns.take k) ≤ bytesN g now ns := by
  unfold bytesN
  conv => rhs; rw [← List.take_append_drop k ns, List.map_append, List.sum_append]
  exact Nat.le_add_right _ _
theorem bytesN_one (g : Nat → FSt) (now : List Ent) (x : ByteArray) : bytesN g now [x] = lenAt g now x := by simp [bytesN]
theorem bytesN_nil (g : Nat → FSt) (now : List Ent) : bytesN g now [] = 0 := rfl
section
variable {w w' : World} {A X B n u q st : Nat} {on : Bool} {hv : Value} {K : List Nat} {g : Nat → Nat} {MX M R N : Nat → Prop} {MF : Nat → Nat → Prop} {s : FsP}
set_option maxRecDepth 100000 in
theorem kmade (h : FsC w A X B q u st on hv) : Calls Tryz.prog 55 #[.pointer (some ⟨A, 0, none⟩)] w fun e w' => e = .returned (.bool true) ∧ w = w' := by
  have hc := h.c0
  clear h
  go_enter Tryz.func55, Tryz.ntmps55
  go_wp2
  go_ret
  exact ⟨rfl, rfl⟩
set_option maxRecDepth 100000 in
theorem kready (h : FsC w A X B q u st on hv) : Calls Tryz.prog 120 #[.pointer (some ⟨A, 0, none⟩)] w fun e w' => e = .returned (.int .i64 ((if on then 0 else 20 : Nat) : Int)) ∧ w = w' := by
  have H := Lib.hid h
  have hc := h.c5
  clear h
  cases on
  · go_enter Tryz.func120, Tryz.ntmps120
    go_wp2_with (go_at_call 55; refine (kmade H.out).mono ?_; rintro e w' ⟨rfl, rfl⟩)
    go_ret
    exact ⟨rfl, rfl⟩
  · go_enter Tryz.func120, Tryz.ntmps120
    go_wp2_with (go_at_call 55; refine (kmade H.out).mono ?_; rintro e w' ⟨rfl, rfl⟩)
    go_ret
    exact ⟨rfl, rfl⟩
set_option maxRecDepth 100000 in
set_option maxHeartbeats 4000000 in
theorem kbytesOf {v : Value} {ns : List ByteArray} (h : FsAt w A X B n u hv K g MX MF M R s) (hk : ∀ x, x ∈ s.dir.now → x.2 ∈ K) (hb : ∀ i, i ∈ K → (s.file i).big ≤ 1000000) (hT : bytesN s.file s.dir.now ns ≤ 1000000000)
    (hvs : SsR w N v ns) (hns : ∀ x, x ∈ ns → x.size ≤ maxLen) (hlen : ns.length ≤ 1000000) :
    Calls Tryz.prog 65 #[.pointer (some ⟨A, 0, none⟩), v] w fun e w' => e = .returned (.int .i64 ((bytesN s.file s.dir.now ns : Nat) : Int)) ∧ Below w.heap.size w w' := by
  have H := Lib.hid h
  have HV := Lib.hid hvs
  have HK := Lib.hid hk
  have HB := Lib.hid hb
  have HT := Lib.hid hT
  have HN := Lib.hid hns
  obtain ⟨V, c, rfl, hc1, hc2, _⟩ := hvs
  obtain ⟨m, hm⟩ : ∃ m, m = ns.length := ⟨_, rfl⟩
  rw [← hm] at hc1 hlen HV ⊢
  have Hm := Lib.hid hm
  clear hm h hk hb hT hns
  go_enter Tryz.func65, Tryz.ntmps65
  go_wp2_with fail
  go_loopw [5, 12] (fun a i wr => ∃ k : Nat, k ≤ m ∧ i = .int .i64 k ∧ a = .int .i64 ((bytesN s.file s.dir.now (ns.take k) : Nat) : Int) ∧ Below w.heap.size w wr) (fun _ i _ => m - (intOf i).toNat)
  case atStart => exact ⟨0, by omega, rfl, by simp [bytesN], Below.refl _ _⟩
  case round =>
    obtain ⟨k, hk, rfl, rfl, hbw⟩ := hrel
    have HBW := Lib.hid hbw
    clear hbw
    by_cases hkm : k < m
    · have hdk : decide ((k : Int) < (m : Int)) = true := decide_eq_true (by omega)
      obtain ⟨x, hx⟩ : ∃ x, ns[k]? = some x := ⟨ns[k]'(by have := Hm.out; omega), List.getElem?_eq_getElem _⟩
      have HX := Lib.hid hx
      have HS := Lib.hid (bytesN_take s.file s.dir.now hx)
      have hS1 := Nat.le_trans (bytesN_le s.file s.dir.now ns (k + 1)) HT.out
      rw [HS.out] at hS1
      obtain ⟨b1, o1, rfl, _, e0⟩ := (HV.out.on HBW.out).at_ rfl hx
      have H1 := Lib.hid (H.out.on HBW.out)
      have hc0 := H1.out.cells.c0
      have hc1' := H1.out.cells.c1
      have hfind := hfind_m H1.out.dir (HN.out x (List.mem_of_getElem? hx))
      have hdk3 : (k : Int) < (m : Int) := by omega
      clear hx
      rcases hf : findL s.dir.now x with _ | i
      · rw [hf] at hfind
        simp only [Option.getD_none, Option.isSome_none] at hfind
        have hl0 : lenAt s.file s.dir.now x = 0 := by unfold lenAt; rw [hf]
        rw [hl0, Nat.add_zero] at HS
        have HF := Lib.hid hfind
        clear hfind hl0 hS1
        generalize bytesN s.file s.dir.now (ns.take k) = S at *
        go_wp2_with (go_at_call 115; refine HF.out.mono ?_; rintro e w' ⟨rfl, rfl⟩)
        go_roundw
        case rel => exact ⟨k + 1, by omega, by go_num, by rw [HS.out]; simp, HBW.out⟩
        case measure => simp [intOf]; omega
      · rw [hf] at hfind
        simp only [Option.getD_some, Option.isSome_some] at hfind
        have hl0 : lenAt s.file s.dir.now x = (s.file i).bytes.length := by unfold lenAt; rw [hf]
        rw [hl0] at HS hS1
        have hiK : i ∈ K := HK.out _ (findL_mem hf)
        have hlook := H1.out.map.look (H1.out.ks i hiK) hiK
        have hsz := fsize_m (H1.out.files i hiK) (Nat.le_trans (HB.out i hiK) (by omega)) _ rfl
        have HF := Lib.hid hfind
        have HZ := Lib.hid hsz
        clear hfind hl0 hsz
        generalize bytesN s.file s.dir.now (ns.take k) = S at *
        generalize (s.file i).bytes.length = L at *
        generalize g i = Fi at *
        go_wp2_with (first
          | (go_at_call 115; refine HF.out.mono ?_; rintro e w' ⟨rfl, rfl⟩)
          | (go_at_call 98; refine HZ.out.mono ?_; rintro e w2 ⟨rfl, hb2⟩; have HB2 := Lib.hid (HBW.out.trans (hb2.mono HBW.out.size)); clear hb2))
        go_roundw
        case rel => exact ⟨k + 1, by omega, by go_num, by rw [HS.out]; go_num, HB2.out⟩
        case measure => simp [intOf]; omega
    · have hdk : decide ((k : Int) < (m : Int)) = false := decide_eq_false (by omega)
      have hfin := Lib.hid (show bytesN s.file s.dir.now ns = bytesN s.file s.dir.now (ns.take k) by rw [List.take_of_length_le (by have := Hm.out; omega)])
      go_wp2_with fail
      go_ret
      exact ⟨by rw [hfin.out]; rfl, HBW.out⟩
set_option maxRecDepth 100000 in
set_option maxHeartbeats 4000000 in
theorem kfind {nm : ByteArray} (h : FsAt w A X B n u hv K g MX MF M R s) (hk : ∀ x, x ∈ s.dir.now → x.2 ∈ K) (ho : s.off = false) (hn : nm.size ≤ maxLen) :
    Calls Tryz.prog 70 #[.pointer (some ⟨A, 0, none⟩), .string nm] w fun e w' => e = .returned (.tuple #[.pointer (if (nodeF s nm).1 = 0 then some ⟨g (nodeF s nm).2, 0, none⟩ else none), .int .i64 ((nodeF s nm).1 : Int)]) ∧ Below w.heap.size w w' := by
  have H := Lib.hid h
  have hon := kready h.cells
  rw [ho] at hon
  simp only [Bool.not_false, if_true] at hon
  have HON := Lib.hid hon
  have HM := Lib.hid (hmay nm w (by unfold maxLen at hn; omega))
  clear hon
  cases hmy : mayN nm
  · have hnd : nodeF s nm = (1, 0) := by unfold nodeF; rw [if_pos hmy]
    rw [hnd]
    rw [hmy] at HM
    clear h hk hnd
    go_enter Tryz.func70, Tryz.ntmps70
    go_wp2_with (first
      | (go_at_call 120; refine HON.out.mono ?_; rintro e w' ⟨rfl, rfl⟩)
      | (go_at_call 121; refine HM.out.mono ?_; rintro e w1 ⟨rfl, hb1⟩; have HB1 := Lib.hid hb1; clear hb1))
    go_ret2
    exact ⟨rfl, HB1.out⟩
  · rw [hmy] at HM
    rcases hf : findL s.dir.now nm with _ | i
    · have hnd : nodeF s nm = (6, 0) := by unfold nodeF; rw [if_neg (by simp [hmy]), hf]
      rw [hnd]
      have HF : Hid (∀ w1, Below w.heap.size w w1 → Calls Tryz.prog 115 #[.pointer (some ⟨X, 0, none⟩), .string nm] w1 fun e w' => e = .returned (.tuple #[.int .u64 ((0 : Nat) : Int), .bool false]) ∧ w1 = w') := fun w1 hb => by
        have h1 := hfind_m (H.out.on hb).dir hn
        rw [hf] at h1
        simpa only [Option.getD_none, Option.isSome_none] using h1
      clear h hk hnd
      go_enter Tryz.func70, Tryz.ntmps70
      go_wp2_with (first
        | (go_at_call 120; refine HON.out.mono ?_; rintro e w' ⟨rfl, rfl⟩)
        | (go_at_call 121; refine HM.out.mono ?_; rintro e w1 ⟨rfl, hb1⟩; have HB1 := Lib.hid hb1; have hc0 := (H.out.on hb1).cells.c0; clear hb1)
        | (go_at_call 115; refine (HF.out _ HB1.out).mono ?_; rintro e w' ⟨rfl, rfl⟩))
      go_ret2
      exact ⟨rfl, HB1.out⟩
    · have hnd : nodeF s nm = (0, i) := by unfold nodeF; rw [if_neg (by simp [hmy]), hf]
      rw [hnd]
      have hiK : i ∈ K := hk _ (findL_mem hf)
      have HF : Hid (∀ w1, Below w.heap.size w w1 → Calls Tryz.prog 115 #[.pointer (some ⟨X, 0, none⟩), .string nm] w1 fun e w' => e = .returned (.tuple #[.int .u64 (i : Int), .bool true]) ∧ w1 = w') := fun w1 hb => by
        have h1 := hfind_m (H.out.on hb).dir hn
        rw [hf] at h1
        simpa only [Option.getD_some, Option.isSome_some] using h1
      have HL : Hid (∀ w1, Below w.heap.size w w1 → (Instr.lookup 92 (.map (some B)) (.int .u64 (i : Int)) false).run Tryz.prog w1 = .ok (.pointer (some ⟨g i, 0, none⟩)) w1) := fun w1 hb => (H.out.on hb).map.look (h.ks i hiK) hiK
      clear h hk hnd
      simp only [if_true]
      generalize g i = Fi at *
      go_enter Tryz.func70, Tryz.ntmps70
      go_wp2_with (first
        | (go_at_call 120; refine HON.out.mono ?_; rintro e w' ⟨rfl, rfl⟩)
        | (go_at_call 121; refine HM.out.mono ?_; rintro e w1 ⟨rfl, hb1⟩; have HB1 := Lib.hid hb1; have hc0 := (H.out.on hb1).cells.c0; have hc1 := (H.out.on hb1).cells.c1; have hlk := HL.out _ hb1; clear hb1)
        | (go_at_call 115; refine (HF.out _ HB1.out).mono ?_; rintro e w' ⟨rfl, rfl⟩))
      go_ret2
      exact ⟨rfl, HB1.out⟩
end
end Go.Proofs.YtfabodpefbdbjaaGreatDoor

/-
  Layer 7: a step: what is asked ahead of it, and what is kept of the bytes.
-/
set_option linter.unusedVariables false
set_option linter.unusedSimpArgs false
namespace Go.Proofs.YtfabodpefbdbjaaGreatDoor
open Go.RowKit Go.Maps

theorem FInv.big_le {s : FsP} {q T : Nat} (h : FInv s q T) {i : Nat} (hi : i ≤ s.dir.last) : (s.file i).big ≤ T := by
  have h1 := sum_nodup_le (f := fun i => (s.file i).big) (l := [i]) (n := s.dir.last) (by simp) (fun j hj => by simp at hj; omega)
  simp at h1
  exact Nat.le_trans h1 h.tot
theorem FInv.len_le {s : FsP} {q T : Nat} (h : FInv s q T) (x : ByteArray) : lenAt s.file s.dir.now x ≤ T := by
  unfold lenAt
  split
  · rename_i i hi
    exact Nat.le_trans (FSt.bytes_length (h.files i)) (h.big_le (h.ino.now.1 _ (findL_mem hi)).2.2)
  · exact Nat.zero_le _
theorem FInv.bytesN_le {s : FsP} {q T : Nat} (h : FInv s q T) : ∀ ns : List ByteArray, bytesN s.file s.dir.now ns ≤ ns.length * T
  | [] => by simp [bytesN]
  | x :: r => by
    have h1 := h.bytesN_le r
    have h2 := h.len_le x
    unfold bytesN at h1 ⊢
    simp only [List.map_cons, List.sum_cons, List.length_cons, Nat.succ_mul]
    omega
theorem FsM.kfacts {w : World} {A u q T : Nat} {M R : Nat → Prop} {s : FsP} (h : FsM w A u M R s) (hf : FInv s q T) :
    ∃ X B n hv K g MX MF, FsAt w A X B n u hv K g MX MF M R s ∧ n ≤ s.dir.last + 1 ∧ (∀ i, i ∈ K → i ≤ s.dir.last) ∧ (∀ i, i ∈ s.dir.live → i ∈ K) ∧ (∀ x, x ∈ s.dir.now → x.2 ∈ K) ∧ (∀ i, i ∈ K → (s.file i).big ≤ T) := by
  obtain ⟨X, B, n, hv, K, g, MX, MF, h, h1, h2, h3⟩ := h
  exact ⟨X, B, n, hv, K, g, MX, MF, h, h1, h2, h3, fun x hx => h3 _ (hf.ino.live_now hf.dir.settled x hx), fun i hi => hf.big_le (h2 i hi)⟩
set_option maxRecDepth 100000 in
theorem kalways (w : World) (x : Int) : Calls Tryz.prog 43 #[.int .i64 x] w fun e w' => e = .returned (.bool true) ∧ w = w' := by
  go_enter Tryz.func43, Tryz.ntmps43
  go_wp2
  go_ret
  exact ⟨rfl, rfl⟩
theorem khold {w : World} {R : Nat → Prop} {hv : Value} {st : Nat} {o : Option Nat} (h : HoldAt w R hv st o) (hst : st + 1 ≤ 1000000) :
    ∃ f cap, hv = .func (.func f) #[] cap ∧ (∀ args w', (callFunc f args).run Tryz.prog w' = .ok (.enter f args) w') ∧
      ∀ w', HoldAt w' R hv st o → Calls Tryz.prog f (#[.int .i64 ((st + 1 : Nat) : Int)] ++ cap) w' fun e w'' => e = .returned (.bool (decide (o ≠ some 0))) ∧ w' = w'' := by
  cases o with
  | none =>
    refine ⟨_, _, h, fun args w' => enters_of Tryz.func43 (by kernel_rfl) rfl args w', fun w' h' => ?_⟩
    refine (kalways w' _).mono ?_
    rintro e w'' ⟨rfl, rfl⟩
    exact ⟨by simp, rfl⟩
  | some n => exact h.elim
section
variable {w w' : World} {A X B n u q T : Nat} {hv : Value} {K : List Nat} {g : Nat → Nat} {MX M R N : Nat → Prop} {MF : Nat → Nat → Prop} {s : FsP}
theorem FsAt.beginOn (h : FsAt w A X B n u hv K g MX MF M R s) (ho : s.off = false) (hz : s.fuse ≠ some 0) (hg : Chg (fun i => i = A) w w') (hc : FsC w' A X B s.quota u (s.steps + 1) true hv) : FsAt w' A X B n u hv K g MX MF M R (beginF s).2 ∧ (beginF s).1 = 0 := by
  have e : beginF s = (0, { s with steps := s.steps + 1, fuse := s.fuse.map (· - 1) }) := by unfold beginF; rw [if_neg (by simp [ho]), if_neg hz]
  rw [e]
  refine ⟨h.own_set hg (by simpa [ho] using hc) rfl rfl (fun _ => ?_) h.hvf, rfl⟩
  have h1 := h.hold ho
  show HoldAt w R hv (s.steps + 1) (s.fuse.map (· - 1))
  cases hf : s.fuse with
  | none => rw [hf] at h1; exact h1
  | some k =>
    rw [hf] at h1 hz
    exact h1.elim
theorem FsAt.beginOff (h : FsAt w A X B n u hv K g MX MF M R s) (ho : s.off = false) (hz : s.fuse = some 0) (hg : Chg (fun i => i = A) w w') (hc : FsC w' A X B s.quota u (s.steps + 1) false hv) : FsAt w' A X B n u hv K g MX MF M R (beginF s).2 ∧ (beginF s).1 = 20 := by
  have e : beginF s = (20, { s with off := true, steps := s.steps + 1 }) := by unfold beginF; rw [if_neg (by simp [ho]), if_pos hz]
  rw [e]
  exact ⟨h.own_set hg hc rfl rfl (fun e => by simp at e) h.hvf, rfl⟩
theorem beginF_off (ho : s.off = true) : beginF s = (20, s) := by unfold beginF; rw [if_pos ho]
set_option maxRecDepth 100000 in
set_option maxHeartbeats 4000000 in
theorem kstep_off {a b : Value} (h : FsM w A u M R s) (ho : s.off = true) :
    Calls Tryz.prog 117 #[.pointer (some ⟨A, 0, none⟩), a, b] w fun e w' => e = .returned (.int .i64 20) ∧ w = w' := by
  obtain ⟨X, B, n, hv, K, g, MX, MF, h, _⟩ := h
  have hon := kready h.cells
  rw [ho] at hon
  simp only [Bool.not_true] at hon
  have HON := Lib.hid hon
  clear hon h
  go_enter Tryz.func117, Tryz.ntmps117
  go_wp2_with (go_at_call 120; refine HON.out.mono ?_; rintro e w' ⟨rfl, rfl⟩)
  go_ret
  exact ⟨rfl, rfl⟩
set_option maxRecDepth 100000 in
set_option maxHeartbeats 4000000 in
/-- a step -/
theorem kstep {v : Value} {ns : List ByteArray} {dg : Nat} {dcap : Array Value} {k : FsP → Nat × FsP} (h : FsM w A s.used M R s) (hf : FInv s q T) (hT : T ≤ 100000) (hst : s.steps + 1 ≤ 1000000)
    (hvs : SsR w N v ns) (hN : ∀ i, M i → ¬ N i) (hns : ∀ x, x ∈ ns → x.size ≤ maxLen) (hlen : ns.length ≤ 1000)
    (hen : ∀ args w', (callFunc dg args).run Tryz.prog w' = .ok (.enter dg args) w')
    (hdo : (beginF s).1 = 0 → ∀ w1, FsM w1 A s.used M R (beginF s).2 → Chg (fun i => i = A) w w1 →
      Calls Tryz.prog dg dcap w1 fun e w' => e = .returned (.int .i64 ((k (beginF s).2).1 : Int)) ∧ FsMut w1 w' A s.used M R (k (beginF s).2).2)
    (hinv : (beginF s).1 = 0 → ∃ q', FInv (k (beginF s).2).2 q' (T + 1200))
    (hus : (beginF s).1 = 0 → (k (beginF s).2).2.used + bytesN s.file s.dir.now ns = s.used + bytesN (k (beginF s).2).2.file (k (beginF s).2).2.dir.now ns) :
    Calls Tryz.prog 117 #[.pointer (some ⟨A, 0, none⟩), .func (.func dg) #[] dcap, v] w fun e w' => e = .returned (.int .i64 ((stepF s k).1 : Int)) ∧ FsMut w w' A (stepF s k).2.used M R (stepF s k).2 := by
  cases ho : s.off
  case true =>
    have e : stepF s k = (20, s) := by unfold stepF; rw [beginF_off ho]; simp
    rw [e]
    refine (kstep_off h ho).mono ?_
    rintro e w' ⟨rfl, rfl⟩
    exact ⟨rfl, FsMut.refl h⟩
  case false =>
    obtain ⟨ans, hans⟩ : ∃ ans, ans = stepF s k := ⟨_, rfl⟩
    rw [← hans]
    have Hans := Lib.hid hans
    clear hans
    obtain ⟨X, B, n, hv, K, g, MX, MF, ha, hn1, hn2, hn3, hnow, hbig⟩ := h.kfacts hf
    have hon := kready ha.cells
    rw [ho] at hon
    simp only [Bool.not_false, if_true] at hon
    have HON := Lib.hid hon
    obtain ⟨fg, fcap, hfv, hfe, hfc⟩ := khold (ha.hold ho) hst
    subst hfv
    have HA := Lib.hid ha
    obtain ⟨bz, hbz⟩ : ∃ bz, bz = decide (s.fuse ≠ some 0) := ⟨_, rfl⟩
    rw [← hbz] at hfc
    have Hbz := Lib.hid hbz
    obtain ⟨st1, hst1⟩ : ∃ st1, st1 = s.steps + 1 := ⟨_, rfl⟩
    rw [← hst1] at hfc
    have Hst1 := Lib.hid hst1
    have HH : Hid (∀ w', HoldAt w' R (.func (.func fg) #[] fcap) s.steps s.fuse → Calls Tryz.prog fg (#[.int .i64 (st1 : Int)] ++ fcap) w' fun e w'' => e = .returned (.bool bz) ∧ w' = w'') := hfc
    have c4 := ha.cells.c4
    have f4 := ha.cells.f4
    have Hn := Lib.hid (show n ≤ s.dir.last + 1 ∧ (∀ i, i ∈ K → i ≤ s.dir.last) ∧ (∀ i, i ∈ s.dir.live → i ∈ K) ∧ (∀ x, x ∈ s.dir.now → x.2 ∈ K) ∧ (∀ i, i ∈ K → (s.file i).big ≤ T) from ⟨hn1, hn2, hn3, hnow, hbig⟩)
    have HC2 : Hid (FsC (w.setCell ⟨A, 4, none⟩ (.int .i64 (st1 : Int))).drew A X B s.quota s.used st1 true (.func (.func fg) #[] fcap)) := by
      have h1 := (ha.cells.set4 st1).drew
      rw [ho] at h1
      exact h1
    have HG2 : Hid (Chg (fun i => i = A) w (w.setCell ⟨A, 4, none⟩ (.int .i64 (st1 : Int))).drew) := (chg_set w A 4 _).drew
    have HHo2 : Hid (HoldAt (w.setCell ⟨A, 4, none⟩ (.int .i64 (st1 : Int))).drew R (.func (.func fg) #[] fcap) s.steps s.fuse) := (ha.hold ho).chg HG2.out (fun i e => by rw [e]; exact ha.mr A ha.mA)
    have HO := Lib.hid ho
    have HF := Lib.hid hf
    have HV := Lib.hid hvs
    have HN := Lib.hid hN
    have HNS := Lib.hid hns
    have HD := Lib.hid hdo
    have HI := Lib.hid hinv
    have HU := Lib.hid hus
    have HMA : Hid (M A) := ha.mA
    have hwr : IntKind.i64.wrap ((s.steps : Int) + 1) = (st1 : Int) := by rw [IntWalk.i64_in _ (by rw [hst1] at *; omega)]; rw [hst1]; push_cast; rfl
    clear hon ha hn1 hn2 hn3 hnow hbig hfc hbz hst1 ho hf hvs hN hns hdo hinv hus h
    go_enter Tryz.func117, Tryz.ntmps117
    go_wp2_with (go_at_call 120; refine HON.out.mono ?_; rintro e w' ⟨rfl, rfl⟩)
    clear c4 f4
    generalize (w.setCell ⟨A, 4, none⟩ (.int .i64 (st1 : Int))) = W0 at *
    refine wp_region_noPanic ?_
    refine wp_region_held_drew (S := fun w' => w'.cell? ⟨A, 6, none⟩ = some (.func (.func fg) #[] fcap) ∧ w'.cell? ⟨A, 4, none⟩ = some (.int .i64 (st1 : Int))) (by kernel_rfl) ⟨HC2.out.c6, HC2.out.c4⟩ (fun hHeld => ?_)
    generalize World.drew _ = W at *
    refine wpAnyH_take (i := 0) (v := ?_) opAt_0 (by kernel_rfl) (by kernel_rfl) (by kernel_rfl) (fun _ _ _ h => h) (Or.inl ⟨by rfl, ?_⟩) hHeld ?_
    rotate_left
    · (intro w' hSw; obtain ⟨k6, k4⟩ := hSw; go_simp; try with_reducible rfl)
    try simp only [Act.put, List.setIfInBounds_toArray, List.set_cons_zero, List.set_cons_succ]
    refine wpAnyH_take (i := 1) (v := ?_) opAt_1 (by kernel_rfl) (by kernel_rfl) (by kernel_rfl) (fun _ _ _ h => h) (Or.inl ⟨by rfl, ?_⟩) hHeld ?_
    rotate_left
    · (intro w' hSw; obtain ⟨k6, k4⟩ := hSw; go_simp; try with_reducible rfl)
    try simp only [Act.put, List.setIfInBounds_toArray, List.set_cons_zero, List.set_cons_succ]
    refine wpAnyH_take (i := 2) (v := ?_) opAt_2 (by kernel_rfl) (by kernel_rfl) (by kernel_rfl) (fun _ _ _ h => h) (Or.inl ⟨by rfl, ?_⟩) hHeld ?_
    rotate_left
    · (intro w' hSw; obtain ⟨k6, k4⟩ := hSw; go_simp; try with_reducible rfl)
    try simp only [Act.put, List.setIfInBounds_toArray, List.set_cons_zero, List.set_cons_succ]
    refine wpAnyH_take (i := 3) (v := ?_) opAt_3 (by kernel_rfl) (by kernel_rfl) (by kernel_rfl) (fun _ _ _ h => h) (Or.inl ⟨by rfl, ?_⟩) hHeld ?_
    rotate_left
    · (intro w' hSw; obtain ⟨k6, k4⟩ := hSw; go_simp; try with_reducible rfl)
    try simp only [Act.put, List.setIfInBounds_toArray, List.set_cons_zero, List.set_cons_succ]
    refine wpAnyH_take (i := 4) (v := ?_) opAt_4 (by kernel_rfl) (by kernel_rfl) (by kernel_rfl) (fun _ _ _ h => h) (Or.inl ⟨by rfl, ?_⟩) hHeld ?_
    rotate_left
    · (intro w' hSw; obtain ⟨k6, k4⟩ := hSw; go_simp; try with_reducible rfl)
    try simp only [Act.put, List.setIfInBounds_toArray, List.set_cons_zero, List.set_cons_succ]
    refine wpAnyH_take (i := 5) (v := ?_) opAt_5 (by kernel_rfl) (by kernel_rfl) (by kernel_rfl) (fun _ _ _ h => h) (Or.inl ⟨by rfl, ?_⟩) hHeld ?_
    rotate_left
    · (intro w' hSw; obtain ⟨k6, k4⟩ := hSw; go_simp; try with_reducible rfl)
    try simp only [Act.put, List.setIfInBounds_toArray, List.set_cons_zero, List.set_cons_succ]
    refine wpAnyH_take (i := 6) (v := ?_) opAt_6 (by kernel_rfl) (by kernel_rfl) (by kernel_rfl) (fun _ _ _ h => h) (Or.inl ⟨by rfl, ?_⟩) hHeld ?_
    rotate_left
    · (intro w' hSw; obtain ⟨k6, k4⟩ := hSw; go_simp; try with_reducible rfl)
    try simp only [Act.put, List.setIfInBounds_toArray, List.set_cons_zero, List.set_cons_succ]
    refine wpAnyH_take (i := 7) (v := ?_) opAt_7 (by kernel_rfl) (by kernel_rfl) (by kernel_rfl) (fun _ _ _ h => h) (Or.inl ⟨by rfl, ?_⟩) hHeld ?_
    rotate_left
    · (intro w' hSw; obtain ⟨k6, k4⟩ := hSw; go_simp; try with_reducible rfl)
    try simp only [Act.put, List.setIfInBounds_toArray, List.set_cons_zero, List.set_cons_succ]
    refine wpAnyH_ready (rs := [8]) (by kernel_rfl) (by simp) ?_
    refine AllReadyH.cons rfl (fun K hK => ?_) AllReadyH.nil
    go_simp
    refine (HH.out _ HHo2.out).mono ?_
    rintro e w2 ⟨rfl, rfl⟩
    go_wp2_with fail
    refine hK.out _ _ hHeld (fun hHeld => ?_)
    clear hK K
    try simp only [Act.put, List.setIfInBounds_toArray, List.set_cons_zero, List.set_cons_succ]
    refine wpAnyH_take (i := 9) (v := ?_) opAt_9 (by kernel_rfl) (by kernel_rfl) (by kernel_rfl) (fun _ _ _ h => h) (Or.inl ⟨by rfl, ?_⟩) hHeld ?_
    rotate_left
    · (intro w' hSw; obtain ⟨k6, k4⟩ := hSw; go_simp; try with_reducible rfl)
    try simp only [Act.put, List.setIfInBounds_toArray, List.set_cons_zero, List.set_cons_succ]
    refine wpAnyH_done (by kernel_rfl) ?_ _
    refine NoPanic.normal ?_
    clear hHeld hwr HON
    cases bz
    case false =>
      have hz : s.fuse = some 0 := by have h1 := Hbz.out; simpa using h1
      have hc5 := HC2.out.c5
      have hf5 := HC2.out.f5
      go_wp2_with fail
      go_ret
      obtain ⟨hB1, hB2⟩ := HA.out.beginOff HO.out hz (HG2.out.trans (chg_set W A 5 (.bool false)) (fun i e => .inl e)) (by rw [← Hst1.out]; exact HC2.out.set5 false)
      have hs : stepF s k = (20, (beginF s).2) := by unfold stepF; rw [hB2]; simp
      rw [Hans.out, hs]
      refine ⟨rfl, M, R, ?_, (HG2.out.trans (chg_set W A 5 (.bool false)) (fun i e => .inl e)).mono (fun i e => by rw [e]; exact HMA.out), fun _ => .inl, fun _ => .inl⟩
      have hbi := beginF_is s
      have hu : (beginF s).2.used = s.used := by unfold FsP.used; rw [hbi.1, hbi.2.1]
      rw [hu]
      exact ⟨X, B, n, _, K, g, MX, MF, hB1, by rw [hbi.1]; exact Hn.out.1, by rw [hbi.1]; exact Hn.out.2.1, by rw [hbi.1]; exact Hn.out.2.2.1⟩
    case true =>
      have hz : s.fuse ≠ some 0 := by have h1 := Hbz.out; simpa using h1
      obtain ⟨hB1, hB2⟩ := HA.out.beginOn HO.out hz HG2.out (by rw [← Hst1.out]; exact HC2.out)
      have hs : stepF s k = k (beginF s).2 := by unfold stepF; rw [if_pos hB2]
      rw [hs] at Hans
      have hbi := beginF_is s
      have HD1 := Lib.hid (HD.out hB2)
      have HI1 := Lib.hid (HI.out hB2)
      have HU1 := Lib.hid (HU.out hB2)
      have hF1 : FInv (beginF s).2 q T := HF.out.same hbi.1 hbi.2.1
      have Hbi := Lib.hid hbi
      clear HD HI HU hB2 hs hz Hbz
      generalize (beginF s).2 = s1 at *
      have HM1 : Hid (FsM W A s.used M R s1) := ⟨X, B, n, _, K, g, MX, MF, hB1, by rw [hbi.1]; exact Hn.out.1, by rw [hbi.1]; exact Hn.out.2.1, by rw [hbi.1]; exact Hn.out.2.2.1⟩
      have HV1 := Lib.hid (HV.out.chg HG2.out (fun i e => by rw [e]; exact HN.out A HMA.out))
      have hb1 := kbytesOf hB1 (by rw [hbi.1]; exact Hn.out.2.2.2.1) (fun i hi => by rw [hbi.2.1]; exact Nat.le_trans (Hn.out.2.2.2.2 i hi) (by omega)) (Nat.le_trans (hF1.bytesN_le ns) (Nat.le_trans (Nat.mul_le_mul hlen hT) (by decide))) HV1.out HNS.out (by omega)
      have HBo := Lib.hid hb1
      have hle0 := Nat.le_trans (hF1.bytesN_le ns) (Nat.mul_le_mul hlen hT)
      obtain ⟨a0, ha0⟩ : ∃ a0, a0 = bytesN s1.file s1.dir.now ns := ⟨_, rfl⟩
      rw [← ha0] at HBo hle0
      have Ha0 := Lib.hid ha0
      clear hb1 ha0 hB1 hF1 hbi
      go_wp2_with fail
      refine HBo.out.mono ?_
      rintro e W2 ⟨rfl, hb2⟩
      have HM2 := Lib.hid (HM1.out.on hb2)
      have HG3 : Hid (Chg (fun i => i = A) w W2) := HG2.out.trans (Chg.of_below (M := fun _ => False) hb2) (fun i e => e.elim)
      have HV2 := Lib.hid (HV1.out.on hb2)
      clear hb2 HBo
      go_wp2_with fail
      refine (HD1.out W2 HM2.out HG3.out).mono ?_
      rintro e W3 ⟨rfl, hmut⟩
      obtain ⟨M3, R3, hm3, hg3, h31, h32⟩ := hmut
      have HV3 := Lib.hid ((HV2.out.chg hg3 HN.out).on ((Below.refl W3.heap.size W3).drew))
      obtain ⟨q', hI⟩ := HI1.out
      have HG4 : Hid (Chg M w W3.drew) := ((HG3.out.mono (fun i e => by rw [e]; exact HMA.out)).trans hg3 (fun i e => .inl e)).drew
      have HS4 : Hid (w.heap.size ≤ W2.heap.size) := HG3.out.size
      have HM4 := Lib.hid hm3.drew
      have H31 := Lib.hid h31
      have H32 := Lib.hid h32
      have hU := HU1.out
      have hlen2 := Nat.le_trans (hI.bytesN_le ns) (Nat.mul_le_mul hlen (show T + 1200 ≤ 101200 by omega))
      have hus2 := hI.used_le
      have hus1 := (HF.out).used_le
      have hbN : bytesN s.file s.dir.now ns = a0 := by rw [Ha0.out, Hbi.out.1, Hbi.out.2.1]
      rw [hbN] at hU
      generalize k s1 = ks at *
      obtain ⟨X3, B3, n3, hv3, K3, g3, MX3, MF3, ha3, hn31, hn32, hn33, hnow3, hbig3⟩ := HM4.out.kfacts hI
      have hb4 := kbytesOf ha3 hnow3 (fun i hi => Nat.le_trans (hbig3 i hi) (by omega)) (Nat.le_trans hlen2 (by decide)) HV3.out HNS.out (by omega)
      have HBo := Lib.hid hb4
      have HC3 := Lib.hid ha3.cells
      obtain ⟨a1, ha1⟩ : ∃ a1, a1 = bytesN ks.2.file ks.2.dir.now ns := ⟨_, rfl⟩
      rw [← ha1] at HBo hU hlen2
      obtain ⟨u1, hu1⟩ : ∃ u1, u1 = s.used := ⟨_, rfl⟩
      rw [← hu1] at HC3 HM4 hU hus1
      obtain ⟨u2, hu2⟩ : ∃ u2, u2 = ks.2.used := ⟨_, rfl⟩
      rw [← hu2] at hU hus2
      have Hu2 := Lib.hid hu2
      obtain ⟨dI, hdI⟩ : ∃ dI : Int, dI = (a1 : Int) - (a0 : Int) := ⟨_, rfl⟩
      have hw1 : IntKind.i64.wrap ((a1 : Int) - (a0 : Int)) = dI := by rw [IntWalk.i64_in _ (by omega), hdI]
      have hw2 : IntKind.i64.wrap ((u1 : Int) + dI) = (u2 : Int) := by rw [IntWalk.i64_in _ (by omega)]; omega
      clear hb4 ha3 hn31 hn32 hn33 hnow3 hbig3 ha1 hu1 hu2 hdI hU hus1 hus2 hlen2 hm3 hg3 h31 h32 hI hbN hle0
      go_wp2_with fail
      refine wp_region_noPanic ?_
      refine OrdL.wpL_region (fun w' => w'.cell? ⟨A, 3, none⟩ = some (.int .i64 (u1 : Int))) 12 (by kernel_rfl) ?_
      generalize World.drew _ = W4 at *
      have hHeld := HC3.out.c3
      refine OrdL.wpL_take (i := 0) (v := ?_) opAt_0 [] (by kernel_rfl) (by kernel_rfl) (by kernel_rfl) (by kernel_rfl) (by kernel_rfl) (by kernel_rfl) (fun _ _ _ h => h) (Or.inl ⟨by rfl, ?_⟩) hHeld ?_
      rotate_left
      · (intro w' hSw; go_simp; try with_reducible rfl)
      try simp only [Act.put, List.setIfInBounds_toArray, List.set_cons_zero, List.set_cons_succ]
      refine OrdL.wpL_take (i := 1) (v := ?_) opAt_1 [] (by kernel_rfl) (by kernel_rfl) (by kernel_rfl) (by kernel_rfl) (by kernel_rfl) (by kernel_rfl) (fun _ _ _ h => h) (Or.inl ⟨by rfl, ?_⟩) hHeld ?_
      rotate_left
      · (intro w' hSw; go_simp; try with_reducible rfl)
      try simp only [Act.put, List.setIfInBounds_toArray, List.set_cons_zero, List.set_cons_succ]
      refine OrdL.wpL_take (i := 2) (v := ?_) opAt_2 [] (by kernel_rfl) (by kernel_rfl) (by kernel_rfl) (by kernel_rfl) (by kernel_rfl) (by kernel_rfl) (fun _ _ _ h => h) (Or.inl ⟨by rfl, ?_⟩) hHeld ?_
      rotate_left
      · (intro w' hSw; go_simp; try with_reducible rfl)
      try simp only [Act.put, List.setIfInBounds_toArray, List.set_cons_zero, List.set_cons_succ]
      refine OrdL.wpL_take (i := 3) (v := ?_) opAt_3 [] (by kernel_rfl) (by kernel_rfl) (by kernel_rfl) (by kernel_rfl) (by kernel_rfl) (by kernel_rfl) (fun _ _ _ h => h) (Or.inl ⟨by rfl, ?_⟩) hHeld ?_
      rotate_left
      · (intro w' hSw; go_simp; try with_reducible rfl)
      try simp only [Act.put, List.setIfInBounds_toArray, List.set_cons_zero, List.set_cons_succ]
      refine OrdL.wpL_take (i := 4) (v := ?_) opAt_4 [] (by kernel_rfl) (by kernel_rfl) (by kernel_rfl) (by kernel_rfl) (by kernel_rfl) (by kernel_rfl) (fun _ _ _ h => h) (Or.inl ⟨by rfl, ?_⟩) hHeld ?_
      rotate_left
      · (intro w' hSw; go_simp; try with_reducible rfl)
      try simp only [Act.put, List.setIfInBounds_toArray, List.set_cons_zero, List.set_cons_succ]
      refine OrdL.wpL_take (i := 5) (v := ?_) opAt_5 [] (by kernel_rfl) (by kernel_rfl) (by kernel_rfl) (by kernel_rfl) (by kernel_rfl) (by kernel_rfl) (fun _ _ _ h => h) (Or.inl ⟨by rfl, ?_⟩) hHeld ?_
      rotate_left
      · (intro w' hSw; go_simp; try with_reducible rfl)
      try simp only [Act.put, List.setIfInBounds_toArray, List.set_cons_zero, List.set_cons_succ]
      refine OrdL.wpL_take (i := 7) (v := ?_) opAt_7 [] (by kernel_rfl) (by kernel_rfl) (by kernel_rfl) (by kernel_rfl) (by kernel_rfl) (by kernel_rfl) (fun _ _ _ h => h) (Or.inl ⟨by rfl, ?_⟩) hHeld ?_
      rotate_left
      · (intro w' hSw; go_simp; try with_reducible rfl)
      try simp only [Act.put, List.setIfInBounds_toArray, List.set_cons_zero, List.set_cons_succ]
      refine OrdL.wpL_ready (rs := [6]) (by kernel_rfl) (by simp) ?_
      refine OrdL.AllL.cons rfl (fun K hK => ?_) OrdL.AllL.nil
      go_simp
      refine HBo.out.mono ?_
      rintro e W5 ⟨rfl, hb5⟩
      go_wp2_with fail
      have HC5 := Lib.hid (HC3.out.on_ hb5)
      have HM5 := Lib.hid (HM4.out.on hb5)
      have HG5 : Hid (Chg M w W5) := HG4.out.trans (Chg.of_below (M := fun _ => False) hb5) (fun i e => e.elim)
      clear hHeld hb5
      have hHeld := HC5.out.c3
      refine hK.out _ _ (fun _ => hHeld) ?_
      clear hK K
      try simp only [Act.put, List.setIfInBounds_toArray, List.set_cons_zero, List.set_cons_succ]
      refine OrdL.wpL_take (i := 8) (v := ?_) opAt_8 [] (by kernel_rfl) (by kernel_rfl) (by kernel_rfl) (by kernel_rfl) (by kernel_rfl) (by kernel_rfl) (fun _ _ _ h => h) (Or.inl ⟨by rfl, ?_⟩) hHeld ?_
      rotate_left
      · (intro w' hSw; go_simp; try with_reducible rfl)
      try simp only [Act.put, List.setIfInBounds_toArray, List.set_cons_zero, List.set_cons_succ]
      refine OrdL.wpL_take (i := 9) (v := ?_) opAt_9 [] (by kernel_rfl) (by kernel_rfl) (by kernel_rfl) (by kernel_rfl) (by kernel_rfl) (by kernel_rfl) (fun _ _ _ h => h) (Or.inl ⟨by rfl, ?_⟩) hHeld ?_
      rotate_left
      · (intro w' hSw; go_simp; try with_reducible rfl)
      try simp only [Act.put, List.setIfInBounds_toArray, List.set_cons_zero, List.set_cons_succ]
      refine OrdL.wpL_take (i := 10) (v := ?_) opAt_10 [11] (by kernel_rfl) (by kernel_rfl) (by kernel_rfl) (by kernel_rfl) (by kernel_rfl) (by kernel_rfl) (fun _ _ _ h => h) (Or.inl ⟨by rfl, ?_⟩) hHeld ?_
      rotate_left
      · (intro w' hSw; go_simp; try with_reducible rfl)
      try simp only [Act.put, List.setIfInBounds_toArray, List.set_cons_zero, List.set_cons_succ]
      refine OrdL.wpL_take (i := 11) (v := ?_) opAt_11 [] (by kernel_rfl) (by kernel_rfl) (by kernel_rfl) (by kernel_rfl) (by kernel_rfl) (by kernel_rfl) (fun _ _ _ h => h) (Or.inl ⟨by rfl, ?_⟩) hHeld ?_
      rotate_left
      · (intro w' hSw; go_simp; try with_reducible rfl)
      try simp only [Act.put, List.setIfInBounds_toArray, List.set_cons_zero, List.set_cons_succ]
      refine OrdL.wpL_ready (rs := [12]) (by kernel_rfl) (by simp) ?_
      refine OrdL.AllL.cons rfl (fun K hK => ?_) OrdL.AllL.nil
      have f3 := HC5.out.f3
      go_simp
      refine hK.out _ _ (fun h => by simp at h) ?_
      refine OrdL.wpL_done (by kernel_rfl) ?_ _
      refine NoPanic.normal ?_
      go_wp2_with fail
      go_ret
      rw [Hans.out, ← Hu2.out]
      exact ⟨rfl, M3, R3, HM5.out.setU u2, HG5.out.setCell (HMA.out) _, fun i e => (H31.out i e).imp id (fun e => Nat.le_trans HS4.out e), fun i e => (H32.out i e).imp id (fun e => Nat.le_trans HS4.out e)⟩
end
end Go.Proofs.YtfabodpefbdbjaaGreatDoor

/-
  Layer 7: how many bytes the files have, call by call (plain mathematics).
-/
set_option linter.unusedVariables false
set_option linter.unusedSimpArgs false
namespace Go.Proofs.YtfabodpefbdbjaaGreatDoor
open Go.RowKit Go.Maps

theorem usedL_cons (g : Nat → FSt) (x : Ent) (l : List Ent) : usedL g (x :: l) = (g x.2).bytes.length + usedL g l := by simp [usedL]
theorem usedL_insL (g : Nat → FSt) (n : ByteArray) (i : Nat) : ∀ m : List Ent, usedL g (insL n i m) = usedL g m + (g i).bytes.length
  | [] => by simp [insL, usedL]
  | x :: r => by
    unfold insL
    split
    · simp only [usedL_cons]; omega
    · simp only [usedL_cons, usedL_insL g n i r]; omega
theorem usedL_congr {g h : Nat → FSt} {l : List Ent} (e : ∀ x, x ∈ l → h x.2 = g x.2) : usedL h l = usedL g l := by
  unfold usedL
  congr 1
  exact List.map_congr_left (fun x hx => by rw [e x hx])
theorem withoutL_none {l : List Ent} {n : ByteArray} (h : ∀ x, x ∈ l → x.1 ≠ n) : withoutL l n = l := by
  unfold withoutL
  exact List.filter_eq_self.2 (fun x hx => by simpa using toList_ne (h x hx))
theorem usedL_split (g : Nat → FSt) {l : List Ent} (hs : SortE l) (n : ByteArray) : usedL g l = usedL g (withoutL l n) + lenAt g l n := by
  induction l with
  | nil => simp [usedL, lenAt, withoutL, findL]
  | cons x r ih =>
    have hr : SortE r := (List.pairwise_cons.1 hs).2
    by_cases e : x.1 = n
    · have h1 : ∀ y, y ∈ r → y.1 ≠ n := fun y hy e' => (List.pairwise_cons.1 hs.ne).1 y hy (e.trans e'.symm)
      have h2 : withoutL (x :: r) n = r := by
        have h3 := withoutL_none h1
        unfold withoutL at h3 ⊢
        rw [List.filter_cons_of_neg (by simp [e]), h3]
      have h4 : lenAt g (x :: r) n = (g x.2).bytes.length := by
        have h5 : findL (x :: r) n = some x.2 := (findL_iff hs).2 (by rw [← e]; simp)
        unfold lenAt
        rw [h5]
      rw [h2, h4, usedL_cons]
      omega
    · have h2 : withoutL (x :: r) n = x :: withoutL r n := by
        unfold withoutL
        rw [List.filter_cons_of_pos (by simpa using toList_ne e)]
      have h4 : lenAt g (x :: r) n = lenAt g r n := by
        have h5 : findL (x :: r) n = findL r n := by
          unfold findL
          rw [List.find?_cons_of_neg (by simpa using toList_ne e)]
        unfold lenAt
        rw [h5]
      rw [h2, h4, usedL_cons, usedL_cons, ih hr]
      omega
theorem usedL_with (g : Nat → FSt) (l : List Ent) (n : ByteArray) (i : Nat) : usedL g (withL l n i) = usedL g (withoutL l n) + (g i).bytes.length := by
  rw [withL_eq, usedL_insL]
section
variable {s : FsP} {q T : Nat}
theorem used_create (hf : FInv s q T) (n : ByteArray) : (createK n s).2.used + bytesN s.file s.dir.now [n] = s.used + bytesN (createK n s).2.file (createK n s).2.dir.now [n] := by
  rw [bytesN_one, bytesN_one]
  unfold createK FsP.used createP
  split
  · simp
  · split
    · simp
    · split
      · simp
      · rename_i h1 h2 h3
        simp only [if_true]
        have hnone : findL s.dir.now n = none := by simpa using h2
        have hne := findL_none.1 hnone
        have hold : ∀ x, x ∈ s.dir.now → upd s.file (s.dir.last + 1) (FSt.new []) x.2 = s.file x.2 := fun x hx => upd_other _ _ (by have := (hf.ino.now.1 x hx).2.2; omega)
        have hnow : (s.dir.made n).now = withL s.dir.now n (s.dir.last + 1) := by unfold PSt.made; rw [PSt.push_now]; rfl
        rw [hnow]
        have e1 : usedL (upd s.file (s.dir.last + 1) (FSt.new [])) (withL s.dir.now n (s.dir.last + 1)) = usedL s.file s.dir.now := by
          rw [usedL_with, withoutL_none hne, usedL_congr hold, upd_same]
          simp [FSt.new, FSt.bytes]
        have e2 : lenAt s.file s.dir.now n = 0 := by unfold lenAt; rw [hnone]
        have e3 : lenAt (upd s.file (s.dir.last + 1) (FSt.new [])) (withL s.dir.now n (s.dir.last + 1)) n = 0 := by
          unfold lenAt
          rw [findL_with_same hf.dir.now.1]
          simp [upd_same, FSt.new, FSt.bytes]
        rw [e1, e2, e3]
theorem used_remove (hf : FInv s q T) (n : ByteArray) : (removeK n s).2.used + bytesN s.file s.dir.now [n] = s.used + bytesN (removeK n s).2.file (removeK n s).2.dir.now [n] := by
  rw [bytesN_one, bytesN_one]
  unfold removeK FsP.used removeP
  split
  · simp
  · split
    · simp only [PSt.push_now]
      have e1 := usedL_split s.file hf.dir.now.1 n
      have e2 : lenAt s.file ((Dd.rm n).app s.dir.now) n = 0 := by
        show lenAt s.file (withoutL s.dir.now n) n = 0
        unfold lenAt
        rw [findL_without_same]
      rw [e2, e1]
      rfl
    · simp
theorem used_sync (hf : FInv s q T) : (syncDirK s).2.used + bytesN s.file s.dir.now [] = s.used + bytesN (syncDirK s).2.file (syncDirK s).2.dir.now [] := by
  rw [bytesN_nil, bytesN_nil]
  have e : (s.dir.settle s.dir.deeds.length).now = s.dir.now := by
    unfold PSt.settle PSt.now
    rw [List.take_of_length_le (Nat.le_refl _)]
    rfl
  show usedL s.file (s.dir.settle s.dir.deeds.length).now + 0 = _
  rw [e]
  rfl
theorem used_on (hf : FInv s q T) (n : ByteArray) (k : FSt → Nat × FSt) : (onF s n k).2.used + bytesN s.file s.dir.now [n] = s.used + bytesN (onF s n k).2.file (onF s n k).2.dir.now [n] := by
  rw [bytesN_one, bytesN_one]
  unfold onF
  split
  · rename_i h0
    have hso := hf.dir.now.1
    generalize hj : (nodeF s n).2 = j
    have hi : findL s.dir.now n = some j := by
      unfold nodeF at h0 hj
      split at h0
      · cases h0
      · rename_i h1
        rw [if_neg h1] at hj
        cases hf2 : findL s.dir.now n with
        | none => rw [hf2] at h0; cases h0
        | some m => rw [hf2] at hj; rw [← hj]
    have hold : ∀ t : FSt, ∀ x, x ∈ withoutL s.dir.now n → upd s.file j t x.2 = s.file x.2 := fun t x hx => upd_other _ _ (fun e => by
      have h1 := mem_withoutL.1 hx
      have h2 := hf.ino.now.2 x h1.1 _ (findL_mem hi) e
      exact h1.2 (congrArg Prod.fst h2))
    unfold FsP.used
    simp only
    rw [usedL_split s.file hso n, usedL_split (upd s.file j _) hso n, usedL_congr (hold _)]
    omega
  · rfl
end
end Go.Proofs.YtfabodpefbdbjaaGreatDoor

/-
  Layer 7: bury: the files whose inodes live no more are dropped.
-/
set_option linter.unusedVariables false
set_option linter.unusedSimpArgs false
namespace Go.Proofs.YtfabodpefbdbjaaGreatDoor
open Go.RowKit Go.Maps

theorem hmkF (w : World) : (Instr.makeMap 92 none).run Tryz.prog w = .ok (.map (some w.heap.size)) (w.alloc (.map #[] 0)) := by
  simp [Instr.makeMap, run_underlying Tryz.underlying92, go_sem, Result.andThen]
theorem sum_ones {α : Type} : ∀ l : List α, (l.map fun _ => 1).sum = l.length
  | [] => rfl
  | x :: r => by simp only [List.map_cons, List.sum_cons, sum_ones r, List.length_cons]; omega
theorem GInv.live_few {s : PSt} (h : GInv s) (ho : s.Ok) : s.live.length ≤ s.last + 1 := by
  have hd : s.live.Nodup := (h.live_lt ho).imp (fun hlt e => by omega)
  have h1 := sum_nodup_le (f := fun _ => 1) (n := s.last) hd (fun i hi => (h.live_le ho.settled i hi).2)
  rw [sum_ones, sum_ones, List.length_range] at h1
  exact h1
section
variable {w w' : World} {A X B n u q T : Nat} {hv : Value} {K : List Nat} {g : Nat → Nat} {MX M R N : Nat → Prop} {MF : Nat → Nat → Prop} {s : FsP}
set_option maxRecDepth 100000 in
set_option maxHeartbeats 4000000 in
theorem kbury (h : FsAt w A X B n u hv K g MX MF M R s) (hlive : ∀ i, i ∈ s.dir.live → i ∈ K) (hgi : GInv s.dir) (hl : s.dir.safe.length ≤ 200) (hla : s.dir.last ≤ 10000) :
    Calls Tryz.prog 61 #[.pointer (some ⟨A, 0, none⟩)] w fun e w' => e = .returned (.tuple #[]) ∧ ∃ B' n', FsAt w' A X B' n' u hv s.dir.live g MX MF (fun i => M i ∨ i = B') R s ∧ Chg (fun i => i = A) w w' ∧ w.heap.size ≤ B' ∧ n' ≤ s.dir.live.length := by
  have H := Lib.hid h
  have HK := Lib.hid hlive
  have HL := Lib.hid (show s.dir.live.length ≤ 10001 from Nat.le_trans (hgi.live_few h.dir.ok) (by omega))
  obtain ⟨m, hm⟩ : ∃ m, m = w.heap.size := ⟨_, rfl⟩
  obtain ⟨wa, hwa⟩ : ∃ wa, wa = w.alloc (.map #[] 0) := ⟨_, rfl⟩
  have hba : Below w.heap.size w wa := by rw [hwa]; exact (Below.refl _ _).alloc (Nat.le_refl _) _
  have hU0 : MapF wa m 0 [] g := by rw [hwa, hm]; exact MapF.new w g
  have Ha := Lib.hid (H.out.on hba)
  have HBa := Lib.hid hba
  have hc0 := Ha.out.cells.c0
  have HX := Lib.hid (hlive_m Ha.out.dir hl hla)
  have HU0 := Lib.hid hU0
  have hmM : ∀ i, M i → i < m := fun i hi => by rw [hm]; exact h.ml i hi
  have hmR : ∀ i, R i → i < m := fun i hi => by rw [hm]; exact h.rl i hi
  have HmM := Lib.hid hmM
  have HmR := Lib.hid hmR
  have HA := Lib.hid (hmM A h.mA)
  have hmk : (Instr.makeMap 92 none).run Tryz.prog w = .ok (.map (some m)) wa := by rw [hm, hwa]; exact hmkF w
  have Hm := Lib.hid hm
  clear h hlive hgi hl hla hU0 hba hmM hmR hm hwa
  go_enter Tryz.func61, Tryz.ntmps61
  go_wp2_with fail
  refine HX.out.mono ?_
  rintro e w5 ⟨v, rfl, hus, hb5⟩
  have HB5 := Lib.hid (HBa.out.trans (hb5.mono HBa.out.size))
  have HU5 := Lib.hid (HU0.out.on hb5)
  have H5 := Lib.hid (Ha.out.on hb5)
  have HV5 := Lib.hid (hus.mono (R' := fun i => m < i) (fun i hi => by have := hi.1; have h1 := HU0.out.lt; omega))
  obtain ⟨A5, c5, rfl, h51, h52, _⟩ := hus
  obtain ⟨q, hq⟩ : ∃ q, q = s.dir.live.length := ⟨_, rfl⟩
  rw [← hq] at h51 HV5 HL ⊢
  have hq2 : q ≤ 10001 := HL.out
  have Hq := Lib.hid hq
  clear hb5 hq hc0
  go_wp2_with fail
  go_loopw [12] (fun i wr2 => ∃ (k n : Nat) (lU : List Nat), k ≤ q ∧ i = .int .i64 k ∧ Chg (fun i => i = m) w5 wr2 ∧ MapF wr2 m n lU g ∧ n ≤ k ∧ ∀ i, i ∈ lU ↔ i ∈ s.dir.live.take k) (fun i _ => q - (intOf i).toNat)
  case atStart => exact ⟨0, 0, [], by omega, rfl, Chg.refl, HU5.out, by omega, by simp⟩
  case round =>
    obtain ⟨k, nk, lU, hk, rfl, hch, hmu, hn, hmem⟩ := hrel
    have HCk := Lib.hid hch
    have HMk := Lib.hid hmu
    have Hmem := Lib.hid hmem
    have Hk := Lib.hid (H5.out.chg hch (fun i e => ⟨fun e' => by have := HmM.out i e'; omega, fun e' => by have := HmR.out i e'; omega⟩))
    clear hch hmu hmem
    by_cases hkq : k < q
    · have hdq : decide ((k : Int) < (q : Int)) = true := decide_eq_true (by omega)
      obtain ⟨xi, hx⟩ : ∃ x, s.dir.live[k]? = some x := ⟨s.dir.live[k]'(by have := Hq.out; omega), List.getElem?_eq_getElem _⟩
      obtain ⟨b5, o5, rfl, hb5, e0⟩ := (HV5.out.chg HCk.out (fun i hi e => by omega)).at_ rfl hx
      have hxK := HK.out xi (List.mem_of_getElem? hx)
      have hx9 : xi < 1000000000 := Hk.out.ks xi hxK
      have hlook := Hk.out.map.look hx9 hxK
      have hc0 := Hk.out.cells.c1
      obtain ⟨w6, hrun, hmu6, ht6⟩ := HMk.out.store (by omega) hx9 (g xi)
      have HM6 := Lib.hid (hmu6.congr (K' := xi :: lU) (g' := g) (fun i => Iff.rfl) (fun i hi => by unfold updN; split <;> simp_all))
      have HC6 := Lib.hid (HCk.out.trans (Chg.of_turned ht6) (fun i hi => .inl hi))
      have Hm6 : Hid (∀ i, i ∈ xi :: lU ↔ i ∈ s.dir.live.take (k + 1)) := Lib.hid (fun i => by
        rw [take_next6 hx, List.mem_cons, List.mem_append, Hmem.out i, List.mem_singleton]
        exact Or.comm)
      clear hx hb5 hmu6 ht6 hxK hx9
      generalize g xi = Fi at *
      go_wp2_with fail
      go_roundw
      case rel => exact ⟨k + 1, nk + 1, _, by omega, by go_num, HC6.out, HM6.out, by omega, Hm6.out⟩
      case measure => simp [intOf]; omega
    · have hdq : decide ((k : Int) < (q : Int)) = false := decide_eq_false (by omega)
      have hkk : k = q := by omega
      have HUl : Hid (MapF wr m nk s.dir.live g) := Lib.hid (HMk.out.congr (fun i => by rw [Hmem.out i, hkk, Hq.out, List.take_length]) (fun i hi => rfl))
      have hf1 := Hk.out.cells.f1
      have hc1 := Hk.out.cells.c1
      have HCw : Hid (Chg (fun i => i = A) w wr) := ⟨by rw [HCk.out.os, HB5.out.os], by rw [HCk.out.tape, HB5.out.tape], by rw [HCk.out.output, HB5.out.output], Nat.le_trans HB5.out.size HCk.out.size, fun i hi hn => (HCk.out.block i (Nat.lt_of_lt_of_le hi HB5.out.size) (fun e => by have := Hm.out; omega)).trans (HB5.out.block i hi)⟩
      go_wp2_with fail
      go_end0
      exact ⟨rfl, m, nk, Hk.out.swap HUl.out HK.out (fun e => by have := HmM.out m e; omega) (fun e => by have := HmR.out m e; omega), HCw.out.setCell rfl _, by have := Hm.out; omega, by have := Hq.out; omega⟩
end
end Go.Proofs.YtfabodpefbdbjaaGreatDoor

/- JfShut -/

/-
  Layer 7: what is handed to a step, over the folder: SyncDir, Rename, Remove, Create.
-/
set_option linter.unusedVariables false
set_option linter.unusedSimpArgs false
namespace Go.Proofs.YtfabodpefbdbjaaGreatDoor
open Go.RowKit Go.Maps

theorem cell_keep {w w' : World} {N : Nat → Prop} (hc : Chg N w w') {p o : Nat} (hp : ¬ N p) {u : Value} (h : w.cell? ⟨p, o, none⟩ = some u) : w'.cell? ⟨p, o, none⟩ = some u := (hc.cell (p := ⟨p, o, none⟩) (fblock_of_cell h) hp).trans h
theorem live_settle {s : PSt} (hg : GInv s) (ho : s.settled ≤ s.last) {k : Nat} (hk : k ≤ s.deeds.length) : ∀ i, i ∈ (s.settle k).live → i ∈ s.live := fun i hi => by
  rcases (mem_live (s := s.settle k) (Nat.le_refl _)).1 hi with ⟨y, hy, rfl⟩ | h1
  · rcases hg.old k hk y hy with h2 | h2
    · exact (mem_live ho).2 (.inl h2)
    · exact (mem_live ho).2 (.inr ⟨h2, ((hg.pre k hk).1 y hy).2.2⟩)
  · have h1 : s.last < i ∧ i ≤ s.last := h1
    omega
theorem live_remove (s : PSt) (a : ByteArray) : (removeP s a).2.live = s.live ∧ (removeP s a).2.last = s.last := by
  unfold removeP
  split
  · exact ⟨rfl, rfl⟩
  · split <;> exact ⟨rfl, rfl⟩
theorem createP_told (s : PSt) (n : ByteArray) : (∃ c, createP s n = (0, c, s) ∧ c ≠ 0) ∨ createP s n = (s.last + 1, 0, s.made n) := by
  unfold createP
  split
  · exact .inl ⟨1, rfl, by decide⟩
  · split
    · exact .inl ⟨9, rfl, by decide⟩
    · split
      · exact .inl ⟨7, rfl, by decide⟩
      · exact .inr rfl
theorem live_made {s : PSt} (ho : s.settled ≤ s.last) (n : ByteArray) : ∀ i, i ∈ (s.made n).live → i ∈ s.live ∨ i = s.last + 1 := fun i hi => by
  have h0 : (s.made n).settled ≤ (s.made n).last := by show s.settled ≤ s.last + 1; omega
  rcases (mem_live h0).1 hi with h1 | h1
  · exact .inl ((mem_live ho).2 (.inl h1))
  · have h1 : s.settled < i ∧ i ≤ s.last + 1 := h1
    by_cases e : i = s.last + 1
    · exact .inr e
    · exact .inl ((mem_live ho).2 (.inr (by omega)))
section
variable {w w' : World} {A u q T p c d : Nat} {M R N : Nat → Prop} {s : FsP}
/-- the folder has changed -/
theorem FsM.dir_mut {X B n : Nat} {hv : Value} {K : List Nat} {g : Nat → Nat} {MX : Nat → Prop} {MF : Nat → Nat → Prop} (h : FsAt w A X B n u hv K g MX MF M R s) (hn : n ≤ s.dir.last + 1) (hK : ∀ i, i ∈ K → i ≤ s.dir.last) (hl : ∀ i, i ∈ s.dir.live → i ∈ K) {d : PSt} (hm : HMut w w' X MX R d)
    (h1 : d.last = s.dir.last) (h2 : d.live = s.dir.live) : FsMut w w' A u M R { s with dir := d } := by
  obtain ⟨MX', M', R', h3, h4, h5, h6⟩ := h.dir_mut hm
  exact ⟨M', R', ⟨X, B, n, hv, K, g, MX', MF, h3, by show n ≤ d.last + 1; omega, fun i hi => by show i ≤ d.last; have := hK i hi; omega, fun i hi => hl i (by rw [← h2]; exact hi)⟩, h4, h5, h6⟩
set_option maxRecDepth 100000 in
set_option maxHeartbeats 4000000 in
theorem ksyncdir1 (h : FsM w A u M R s) (hf : FInv s q T) (hq : q ≤ 200) (hp : ¬ M p) (cp : w.cell? ⟨p, 0, none⟩ = some (.pointer (some ⟨A, 0, none⟩))) :
    Calls Tryz.prog 127 #[.pointer (some ⟨p, 0, none⟩)] w fun e w' => e = .returned (.int .i64 ((syncDirK s).1 : Int)) ∧ FsMut w w' A u M R (syncDirK s).2 := by
  obtain ⟨X, B, n, hv, K, g, MX, MF, ha, hn1, hn2, hn3, _, _⟩ := h.kfacts hf
  have HS := Lib.hid (hsync ha.dir)
  have Ha := Lib.hid ha
  have Hf := Lib.hid hf
  have Hn := Lib.hid (show n ≤ s.dir.last + 1 ∧ (∀ i, i ∈ K → i ≤ s.dir.last) ∧ (∀ i, i ∈ s.dir.live → i ∈ K) from ⟨hn1, hn2, hn3⟩)
  have hc0 := ha.cells.c0
  clear h ha hf hn1 hn2 hn3
  go_enter Tryz.func127, Tryz.ntmps127
  go_wp2_with fail
  refine HS.out.mono ?_
  rintro e w1 ⟨rfl, hm⟩
  obtain ⟨MX', M', R', h3, h4, h5, h6⟩ := Ha.out.dir_mut hm
  have hf1 : GInv (s.dir.settle s.dir.deeds.length) := Hf.out.ino.settle (Nat.le_refl _)
  have hla : s.dir.last ≤ q := Hf.out.last
  have hfew := Nat.le_trans (settle_big s.dir s.dir.deeds.length) Hf.out.few
  have HB := Lib.hid (kbury h3 (fun i hi => Hn.out.2.2 i (live_settle Hf.out.ino Hf.out.dir.settled (Nat.le_refl _) i hi)) hf1 (by unfold PSt.big at hfew; show (s.dir.settle s.dir.deeds.length).safe.length ≤ 200; omega) (by show s.dir.last ≤ 10000; omega))
  have H4 := Lib.hid h4
  have H5 := Lib.hid h5
  have H6 := Lib.hid h6
  have Hfe := Lib.hid (hf1.live_few h3.dir.ok)
  have hlt : ∀ i, i ∈ (s.dir.settle s.dir.deeds.length).live → i ≤ s.dir.last := fun i hi => (hf1.live_le (Nat.le_refl _) i hi).2
  have Hlt := Lib.hid hlt
  have HMA := Lib.hid h3.mA
  have cp1 := cell_keep h4 hp cp
  clear hm h3 h4 h5 h6 hf1 hfew hlt hc0
  go_wp2_with fail
  refine HB.out.mono ?_
  rintro e w2 ⟨rfl, B', n', h7, h8, h9, h10⟩
  have HF : Hid (FsMut w w2 A u M R (syncDirK s).2) := by
    have hs4 := H4.out.size
    refine ⟨_, R', ⟨X, B', n', hv, _, g, MX', MF, h7, Nat.le_trans h10 Hfe.out, Hlt.out, fun i hi => hi⟩, H4.out.trans h8 (fun i e => by rw [e]; exact H5.out A HMA.out), ?_, H6.out⟩
    rintro i (hi | hi)
    · exact H5.out i hi
    · exact .inr (by omega)
  clear h7 h8 h9 h10 cp1
  go_wp2_with fail
  go_ret
  exact ⟨rfl, HF.out⟩
set_option maxRecDepth 100000 in
set_option maxHeartbeats 4000000 in
theorem kremove1 {nm : ByteArray} (hnm : nm.size ≤ maxLen) (h : FsM w A u M R s) (hf : FInv s q T) (hq : q ≤ 200) (hp : ¬ M p) (cp : w.cell? ⟨p, 0, none⟩ = some (.pointer (some ⟨A, 0, none⟩))) (hc : ¬ M c) (cc : w.cell? ⟨c, 0, none⟩ = some (.string nm)) :
    Calls Tryz.prog 129 #[.pointer (some ⟨p, 0, none⟩), .pointer (some ⟨c, 0, none⟩)] w fun e w' => e = .returned (.int .i64 ((removeK nm s).1 : Int)) ∧ FsMut w w' A u M R (removeK nm s).2 := by
  obtain ⟨X, B, n, hv, K, g, MX, MF, ha, hn1, hn2, hn3, _, _⟩ := h.kfacts hf
  obtain ⟨d1, hd1⟩ : ∃ d1, d1 = removeP s.dir nm := ⟨_, rfl⟩
  have hK1 : removeK nm s = (d1.1, { s with dir := d1.2 }) := by rw [hd1]; rfl
  rw [hK1]
  have hfew : s.dir.safe.length + s.dir.deeds.length < 100000 := by have := hf.few; unfold PSt.big at this; omega
  have HS : Hid (∀ w1, FsAt w1 A X B n u hv K g MX MF M R s → Calls Tryz.prog 130 #[.pointer (some ⟨X, 0, none⟩), .string nm] w1 fun e w' => e = .returned (.int .i64 (d1.1 : Int)) ∧ HMut w1 w' X MX R d1.2) := fun w1 h1 => by rw [hd1]; exact hremove h1.dir hfew nm (by unfold maxLen at hnm; omega)
  have Ha := Lib.hid ha
  have HaD := Lib.hid ha.drew
  have Hn := Lib.hid (show n ≤ s.dir.last + 1 ∧ (∀ i, i ∈ K → i ≤ s.dir.last) ∧ (∀ i, i ∈ s.dir.live → i ∈ K) from ⟨hn1, hn2, hn3⟩)
  have hc0 := ha.cells.c0
  have Hd := Lib.hid hd1
  clear h ha hf hn1 hn2 hn3 hd1 hK1 hfew
  go_enter Tryz.func129, Tryz.ntmps129
  go_wp2_with fail
  refine wp_region_noPanic ?_
  refine wp_region_held_drew (S := fun w' => w'.cell? ⟨p, 0, none⟩ = some (.pointer (some ⟨A, 0, none⟩)) ∧ w'.cell? ⟨c, 0, none⟩ = some (.string nm) ∧ w'.cell? ⟨A, 0, none⟩ = some (.pointer (some ⟨X, 0, none⟩))) (by kernel_rfl) ⟨cp, cc, hc0⟩ (fun hHeld => ?_)
  clear hc0 cp cc
  have HB0 : Hid (Below w.heap.size w w.drew) := (Below.refl _ _).drew
  generalize World.drew _ = W at *
  refine wpAnyH_take (i := 0) (v := ?_) opAt_0 (by kernel_rfl) (by kernel_rfl) (by kernel_rfl) (fun _ _ _ h => h) (Or.inl ⟨by rfl, ?_⟩) hHeld ?_
  rotate_left
  · (intro w' hSw; obtain ⟨k0, k1, k2⟩ := hSw; go_simp; try with_reducible rfl)
  try simp only [Act.put, List.setIfInBounds_toArray, List.set_cons_zero, List.set_cons_succ]
  refine wpAnyH_take (i := 1) (v := ?_) opAt_1 (by kernel_rfl) (by kernel_rfl) (by kernel_rfl) (fun _ _ _ h => h) (Or.inl ⟨by rfl, ?_⟩) hHeld ?_
  rotate_left
  · (intro w' hSw; obtain ⟨k0, k1, k2⟩ := hSw; go_simp; try with_reducible rfl)
  try simp only [Act.put, List.setIfInBounds_toArray, List.set_cons_zero, List.set_cons_succ]
  refine wpAnyH_take (i := 2) (v := ?_) opAt_2 (by kernel_rfl) (by kernel_rfl) (by kernel_rfl) (fun _ _ _ h => h) (Or.inl ⟨by rfl, ?_⟩) hHeld ?_
  rotate_left
  · (intro w' hSw; obtain ⟨k0, k1, k2⟩ := hSw; go_simp; try with_reducible rfl)
  try simp only [Act.put, List.setIfInBounds_toArray, List.set_cons_zero, List.set_cons_succ]
  refine wpAnyH_take (i := 3) (v := ?_) opAt_3 (by kernel_rfl) (by kernel_rfl) (by kernel_rfl) (fun _ _ _ h => h) (Or.inl ⟨by rfl, ?_⟩) hHeld ?_
  rotate_left
  · (intro w' hSw; obtain ⟨k0, k1, k2⟩ := hSw; go_simp; try with_reducible rfl)
  try simp only [Act.put, List.setIfInBounds_toArray, List.set_cons_zero, List.set_cons_succ]
  refine wpAnyH_take (i := 4) (v := ?_) opAt_4 (by kernel_rfl) (by kernel_rfl) (by kernel_rfl) (fun _ _ _ h => h) (Or.inl ⟨by rfl, ?_⟩) hHeld ?_
  rotate_left
  · (intro w' hSw; obtain ⟨k0, k1, k2⟩ := hSw; go_simp; try with_reducible rfl)
  try simp only [Act.put, List.setIfInBounds_toArray, List.set_cons_zero, List.set_cons_succ]
  refine wpAnyH_ready (rs := [5]) (by kernel_rfl) (by simp) ?_
  refine AllReadyH.cons rfl (fun K hK => ?_) AllReadyH.nil
  go_simp
  refine (HS.out _ HaD.out).mono ?_
  rintro e w1 ⟨rfl, hm⟩
  have HF := Lib.hid (FsM.dir_mut HaD.out Hn.out.1 Hn.out.2.1 Hn.out.2.2 hm (Hd.out ▸ live_remove s.dir nm).2 (Hd.out ▸ live_remove s.dir nm).1)
  have hk : w1.cell? ⟨p, 0, none⟩ = some (.pointer (some ⟨A, 0, none⟩)) ∧ w1.cell? ⟨c, 0, none⟩ = some (.string nm) ∧ w1.cell? ⟨A, 0, none⟩ = some (.pointer (some ⟨X, 0, none⟩)) := ⟨cell_keep hm.choose_spec.choose_spec.2.1 (fun e => hp (Ha.out.mX _ e)) hHeld.1, cell_keep hm.choose_spec.choose_spec.2.1 (fun e => hc (Ha.out.mX _ e)) hHeld.2.1, cell_keep hm.choose_spec.choose_spec.2.1 Ha.out.xA hHeld.2.2⟩
  clear hm
  try go_wp2_with fail
  refine hK.out _ _ hk (fun hHeld => ?_)
  clear hK K
  try simp only [Act.put, List.setIfInBounds_toArray, List.set_cons_zero, List.set_cons_succ]
  refine wpAnyH_take (i := 6) (v := ?_) opAt_6 (by kernel_rfl) (by kernel_rfl) (by kernel_rfl) (fun _ _ _ h => h) (Or.inl ⟨by rfl, ?_⟩) hHeld ?_
  rotate_left
  · (intro w' hSw; obtain ⟨k0, k1, k2⟩ := hSw; go_simp; try with_reducible rfl)
  try simp only [Act.put, List.setIfInBounds_toArray, List.set_cons_zero, List.set_cons_succ]
  refine wpAnyH_done (by kernel_rfl) ?_ _
  refine NoPanic.normal ?_
  go_wp2_with fail
  go_ret
  obtain ⟨M', R', k1, k2, k3, k4⟩ := HF.out
  exact ⟨rfl, FsMut.after (Chg.of_below (M := M) HB0.out) (fun _ => .inl) (fun _ => .inl) ⟨M', R', k1, k2, k3, k4⟩⟩
set_option maxRecDepth 100000 in
set_option maxHeartbeats 4000000 in
theorem kcreate1 {nm : ByteArray} (hnm : nm.size ≤ maxLen) (h : FsM w A u M R s) (hf : FInv s q T) (hq : q ≤ 200) (hp : ¬ M p) (cp : w.cell? ⟨p, 0, none⟩ = some (.pointer (some ⟨A, 0, none⟩))) (hc : ¬ M c) (cc : w.cell? ⟨c, 0, none⟩ = some (.string nm)) :
    Calls Tryz.prog 122 #[.pointer (some ⟨p, 0, none⟩), .pointer (some ⟨c, 0, none⟩)] w fun e w' => e = .returned (.int .i64 ((createK nm s).1 : Int)) ∧ FsMut w w' A u M R (createK nm s).2 := by
  obtain ⟨X, B, n, hv, K, g, MX, MF, ha, hn1, hn2, hn3, _, _⟩ := h.kfacts hf
  have hfew : s.dir.safe.length + s.dir.deeds.length < 100000 := by have := hf.few; unfold PSt.big at this; omega
  have hla : s.dir.last ≤ 200 := Nat.le_trans hf.last hq
  have HS0 : Hid (∀ w1, FsAt w1 A X B n u hv K g MX MF M R s → Calls Tryz.prog 123 #[.pointer (some ⟨X, 0, none⟩), .string nm] w1 fun e w' => e = .returned (.tuple #[.int .u64 ((createP s.dir nm).1 : Int), .int .i64 ((createP s.dir nm).2.1 : Int)]) ∧ HMut w1 w' X MX R (createP s.dir nm).2.2) :=
    fun w1 h1 => hcreate h1.dir hfew (by omega) nm (by unfold maxLen at hnm; omega)
  have Ha := Lib.hid ha
  have HaD := Lib.hid ha.drew
  have Hn := Lib.hid (show n ≤ s.dir.last + 1 ∧ (∀ i, i ∈ K → i ≤ s.dir.last) ∧ (∀ i, i ∈ s.dir.live → i ∈ K) from ⟨hn1, hn2, hn3⟩)
  have hc0 := ha.cells.c0
  have Hset := Lib.hid hf.dir.settled
  have hpl := fblock_of_cell cp
  clear h ha hf hn2 hn3 hfew
  have HB0 : Hid (Below w.heap.size w w.drew) := (Below.refl _ _).drew
  have HSz : Hid (w.drew.heap.size = w.heap.size) := rfl
  rcases createP_told s.dir nm with ⟨cd, hcr, hcd⟩ | hcr
  · have hK1 : createK nm s = (cd, s) := by unfold createK; rw [hcr]; simp [hcd]
    rw [hK1]
    rw [hcr] at HS0
    have HS : Hid (∀ w1, FsAt w1 A X B n u hv K g MX MF M R s → Calls Tryz.prog 123 #[.pointer (some ⟨X, 0, none⟩), .string nm] w1 fun e w' => e = .returned (.tuple #[.int .u64 0, .int .i64 (cd : Int)]) ∧ HMut w1 w' X MX R s.dir) := HS0.out
    have hcd2 : decide ((cd : Int) = 0) = false := decide_eq_false (by omega)
    clear hcr hK1 HS0
    go_enter Tryz.func122, Tryz.ntmps122
    go_wp2_with fail
    refine wp_region_noPanic ?_
    refine wp_region_held_drew (S := fun w' => w'.cell? ⟨p, 0, none⟩ = some (.pointer (some ⟨A, 0, none⟩)) ∧ w'.cell? ⟨c, 0, none⟩ = some (.string nm) ∧ w'.cell? ⟨A, 0, none⟩ = some (.pointer (some ⟨X, 0, none⟩))) (by kernel_rfl) ⟨cp, cc, hc0⟩ (fun hHeld => ?_)
    clear hc0 cp cc
    generalize World.drew _ = W at *
    refine wpAnyH_take (i := 0) (v := ?_) opAt_0 (by kernel_rfl) (by kernel_rfl) (by kernel_rfl) (fun _ _ _ h => h) (Or.inl ⟨by rfl, ?_⟩) hHeld ?_
    rotate_left
    · (intro w' hSw; obtain ⟨k0, k1, k2⟩ := hSw; go_simp; try with_reducible rfl)
    try simp only [Act.put, List.setIfInBounds_toArray, List.set_cons_zero, List.set_cons_succ]
    refine wpAnyH_take (i := 1) (v := ?_) opAt_1 (by kernel_rfl) (by kernel_rfl) (by kernel_rfl) (fun _ _ _ h => h) (Or.inl ⟨by rfl, ?_⟩) hHeld ?_
    rotate_left
    · (intro w' hSw; obtain ⟨k0, k1, k2⟩ := hSw; go_simp; try with_reducible rfl)
    try simp only [Act.put, List.setIfInBounds_toArray, List.set_cons_zero, List.set_cons_succ]
    refine wpAnyH_take (i := 2) (v := ?_) opAt_2 (by kernel_rfl) (by kernel_rfl) (by kernel_rfl) (fun _ _ _ h => h) (Or.inl ⟨by rfl, ?_⟩) hHeld ?_
    rotate_left
    · (intro w' hSw; obtain ⟨k0, k1, k2⟩ := hSw; go_simp; try with_reducible rfl)
    try simp only [Act.put, List.setIfInBounds_toArray, List.set_cons_zero, List.set_cons_succ]
    refine wpAnyH_take (i := 3) (v := ?_) opAt_3 (by kernel_rfl) (by kernel_rfl) (by kernel_rfl) (fun _ _ _ h => h) (Or.inl ⟨by rfl, ?_⟩) hHeld ?_
    rotate_left
    · (intro w' hSw; obtain ⟨k0, k1, k2⟩ := hSw; go_simp; try with_reducible rfl)
    try simp only [Act.put, List.setIfInBounds_toArray, List.set_cons_zero, List.set_cons_succ]
    refine wpAnyH_take (i := 4) (v := ?_) opAt_4 (by kernel_rfl) (by kernel_rfl) (by kernel_rfl) (fun _ _ _ h => h) (Or.inl ⟨by rfl, ?_⟩) hHeld ?_
    rotate_left
    · (intro w' hSw; obtain ⟨k0, k1, k2⟩ := hSw; go_simp; try with_reducible rfl)
    try simp only [Act.put, List.setIfInBounds_toArray, List.set_cons_zero, List.set_cons_succ]
    refine wpAnyH_ready (rs := [5]) (by kernel_rfl) (by simp) ?_
    refine AllReadyH.cons rfl (fun K hK => ?_) AllReadyH.nil
    go_simp
    refine (HS.out _ HaD.out).mono ?_
    rintro e w1 ⟨rfl, hm⟩
    obtain ⟨MX', M', R', h3, h4, h5, h6⟩ := HaD.out.dir_mut hm
    have H3 := Lib.hid h3
    have H4 := Lib.hid h4
    have H5 := Lib.hid h5
    have H6 := Lib.hid h6
    have hk : w1.cell? ⟨p, 0, none⟩ = some (.pointer (some ⟨A, 0, none⟩)) ∧ w1.cell? ⟨c, 0, none⟩ = some (.string nm) ∧ w1.cell? ⟨A, 0, none⟩ = some (.pointer (some ⟨X, 0, none⟩)) := ⟨cell_keep h4 hp hHeld.1, cell_keep h4 hc hHeld.2.1, h3.cells.c0⟩
    clear hm h3 h4 h5 h6
    try go_wp2_with fail
    refine hK.out _ _ hk (fun hHeld => ?_)
    clear hK K
    try simp only [Act.put, List.setIfInBounds_toArray, List.set_cons_zero, List.set_cons_succ]
    refine wpAnyH_take (i := 6) (v := ?_) opAt_6 (by kernel_rfl) (by kernel_rfl) (by kernel_rfl) (fun _ _ _ h => h) (Or.inl ⟨by rfl, ?_⟩) hHeld ?_
    rotate_left
    · (intro w' hSw; obtain ⟨k0, k1, k2⟩ := hSw; go_simp; try with_reducible rfl)
    try simp only [Act.put, List.setIfInBounds_toArray, List.set_cons_zero, List.set_cons_succ]
    refine wpAnyH_take (i := 7) (v := ?_) opAt_7 (by kernel_rfl) (by kernel_rfl) (by kernel_rfl) (fun _ _ _ h => h) (Or.inl ⟨by rfl, ?_⟩) hHeld ?_
    rotate_left
    · (intro w' hSw; obtain ⟨k0, k1, k2⟩ := hSw; go_simp; try with_reducible rfl)
    try simp only [Act.put, List.setIfInBounds_toArray, List.set_cons_zero, List.set_cons_succ]
    refine wpAnyH_take (i := 8) (v := ?_) opAt_8 (by kernel_rfl) (by kernel_rfl) (by kernel_rfl) (fun _ _ _ h => h) (Or.inl ⟨by rfl, ?_⟩) hHeld ?_
    rotate_left
    · (intro w' hSw; obtain ⟨k0, k1, k2⟩ := hSw; go_simp; try with_reducible rfl)
    try simp only [Act.put, List.setIfInBounds_toArray, List.set_cons_zero, List.set_cons_succ]
    refine wpAnyH_take (i := 9) (v := ?_) opAt_9 (by kernel_rfl) (by kernel_rfl) (by kernel_rfl) (fun _ _ _ h => h) (Or.inl ⟨by rfl, ?_⟩) hHeld ?_
    rotate_left
    · (intro w' hSw; obtain ⟨k0, k1, k2⟩ := hSw; go_simp; try with_reducible rfl)
    try simp only [Act.put, List.setIfInBounds_toArray, List.set_cons_zero, List.set_cons_succ]
    refine wpAnyH_take (i := 10) (v := ?_) opAt_10 (by kernel_rfl) (by kernel_rfl) (by kernel_rfl) (fun _ _ _ h => h) (Or.inl ⟨by rfl, ?_⟩) hHeld ?_
    rotate_left
    · (intro w' hSw; obtain ⟨k0, k1, k2⟩ := hSw; go_simp; try with_reducible rfl)
    try simp only [Act.put, List.setIfInBounds_toArray, List.set_cons_zero, List.set_cons_succ]
    refine wpAnyH_done (by kernel_rfl) ?_ _
    refine NoPanic.normal ?_
    go_wp2_with fail
    go_ret
    exact ⟨rfl, M', R', ⟨X, B, n, hv, K, g, MX', MF, H3.out, Hn.out⟩, (Chg.of_below (M := M) HB0.out).trans H4.out (fun i e => .inl e), fun i e => (H5.out i e).imp id (fun e => HSz.out ▸ e), fun i e => (H6.out i e).imp id (fun e => HSz.out ▸ e)⟩
  · have hK1 : createK nm s = (0, { s with dir := s.dir.made nm, file := upd s.file (s.dir.last + 1) (FSt.new []) }) := by unfold createK; rw [hcr]; simp
    rw [hK1]
    rw [hcr] at HS0
    obtain ⟨l1, hl1⟩ : ∃ l1, l1 = s.dir.last + 1 := ⟨_, rfl⟩
    have HS : Hid (∀ w1, FsAt w1 A X B n u hv K g MX MF M R s → Calls Tryz.prog 123 #[.pointer (some ⟨X, 0, none⟩), .string nm] w1 fun e w' => e = .returned (.tuple #[.int .u64 (l1 : Int), .int .i64 0]) ∧ HMut w1 w' X MX R (s.dir.made nm)) := by rw [hl1]; exact HS0.out
    have hl2 : l1 ≤ 201 := by omega
    have Hl1 := Lib.hid hl1
    clear hl1
    clear hcr hK1 HS0
    go_enter Tryz.func122, Tryz.ntmps122
    go_wp2_with fail
    refine wp_region_noPanic ?_
    refine wp_region_held_drew (S := fun w' => w'.cell? ⟨p, 0, none⟩ = some (.pointer (some ⟨A, 0, none⟩)) ∧ w'.cell? ⟨c, 0, none⟩ = some (.string nm) ∧ w'.cell? ⟨A, 0, none⟩ = some (.pointer (some ⟨X, 0, none⟩))) (by kernel_rfl) ⟨cp, cc, hc0⟩ (fun hHeld => ?_)
    clear hc0 cp cc
    generalize World.drew _ = W at *
    refine wpAnyH_take (i := 0) (v := ?_) opAt_0 (by kernel_rfl) (by kernel_rfl) (by kernel_rfl) (fun _ _ _ h => h) (Or.inl ⟨by rfl, ?_⟩) hHeld ?_
    rotate_left
    · (intro w' hSw; obtain ⟨k0, k1, k2⟩ := hSw; go_simp; try with_reducible rfl)
    try simp only [Act.put, List.setIfInBounds_toArray, List.set_cons_zero, List.set_cons_succ]
    refine wpAnyH_take (i := 1) (v := ?_) opAt_1 (by kernel_rfl) (by kernel_rfl) (by kernel_rfl) (fun _ _ _ h => h) (Or.inl ⟨by rfl, ?_⟩) hHeld ?_
    rotate_left
    · (intro w' hSw; obtain ⟨k0, k1, k2⟩ := hSw; go_simp; try with_reducible rfl)
    try simp only [Act.put, List.setIfInBounds_toArray, List.set_cons_zero, List.set_cons_succ]
    refine wpAnyH_take (i := 2) (v := ?_) opAt_2 (by kernel_rfl) (by kernel_rfl) (by kernel_rfl) (fun _ _ _ h => h) (Or.inl ⟨by rfl, ?_⟩) hHeld ?_
    rotate_left
    · (intro w' hSw; obtain ⟨k0, k1, k2⟩ := hSw; go_simp; try with_reducible rfl)
    try simp only [Act.put, List.setIfInBounds_toArray, List.set_cons_zero, List.set_cons_succ]
    refine wpAnyH_take (i := 3) (v := ?_) opAt_3 (by kernel_rfl) (by kernel_rfl) (by kernel_rfl) (fun _ _ _ h => h) (Or.inl ⟨by rfl, ?_⟩) hHeld ?_
    rotate_left
    · (intro w' hSw; obtain ⟨k0, k1, k2⟩ := hSw; go_simp; try with_reducible rfl)
    try simp only [Act.put, List.setIfInBounds_toArray, List.set_cons_zero, List.set_cons_succ]
    refine wpAnyH_take (i := 4) (v := ?_) opAt_4 (by kernel_rfl) (by kernel_rfl) (by kernel_rfl) (fun _ _ _ h => h) (Or.inl ⟨by rfl, ?_⟩) hHeld ?_
    rotate_left
    · (intro w' hSw; obtain ⟨k0, k1, k2⟩ := hSw; go_simp; try with_reducible rfl)
    try simp only [Act.put, List.setIfInBounds_toArray, List.set_cons_zero, List.set_cons_succ]
    refine wpAnyH_ready (rs := [5]) (by kernel_rfl) (by simp) ?_
    refine AllReadyH.cons rfl (fun K hK => ?_) AllReadyH.nil
    go_simp
    refine (HS.out _ HaD.out).mono ?_
    rintro e w1 ⟨rfl, hm⟩
    obtain ⟨MX', M', R', h3, h4, h5, h6⟩ := HaD.out.dir_mut hm
    have H3 := Lib.hid h3
    have H4 := Lib.hid h4
    have H5 := Lib.hid h5
    have H6 := Lib.hid h6
    have hk : w1.cell? ⟨p, 0, none⟩ = some (.pointer (some ⟨A, 0, none⟩)) ∧ w1.cell? ⟨c, 0, none⟩ = some (.string nm) ∧ w1.cell? ⟨A, 0, none⟩ = some (.pointer (some ⟨X, 0, none⟩)) := ⟨cell_keep h4 hp hHeld.1, cell_keep h4 hc hHeld.2.1, h3.cells.c0⟩
    clear hm h3 h4 h5 h6
    try go_wp2_with fail
    refine hK.out _ _ hk (fun hHeld => ?_)
    clear hK K
    try simp only [Act.put, List.setIfInBounds_toArray, List.set_cons_zero, List.set_cons_succ]
    refine wpAnyH_take (i := 6) (v := ?_) opAt_6 (by kernel_rfl) (by kernel_rfl) (by kernel_rfl) (fun _ _ _ h => h) (Or.inl ⟨by rfl, ?_⟩) hHeld ?_
    rotate_left
    · (intro w' hSw; obtain ⟨k0, k1, k2⟩ := hSw; go_simp; try with_reducible rfl)
    try simp only [Act.put, List.setIfInBounds_toArray, List.set_cons_zero, List.set_cons_succ]
    refine wpAnyH_take (i := 7) (v := ?_) opAt_7 (by kernel_rfl) (by kernel_rfl) (by kernel_rfl) (fun _ _ _ h => h) (Or.inl ⟨by rfl, ?_⟩) hHeld ?_
    rotate_left
    · (intro w' hSw; obtain ⟨k0, k1, k2⟩ := hSw; go_simp; try with_reducible rfl)
    try simp only [Act.put, List.setIfInBounds_toArray, List.set_cons_zero, List.set_cons_succ]
    refine wpAnyH_take (i := 8) (v := ?_) opAt_8 (by kernel_rfl) (by kernel_rfl) (by kernel_rfl) (fun _ _ _ h => h) (Or.inl ⟨by rfl, ?_⟩) hHeld ?_
    rotate_left
    · (intro w' hSw; obtain ⟨k0, k1, k2⟩ := hSw; go_simp; try with_reducible rfl)
    try simp only [Act.put, List.setIfInBounds_toArray, List.set_cons_zero, List.set_cons_succ]
    refine wpAnyH_take (i := 9) (v := ?_) opAt_9 (by kernel_rfl) (by kernel_rfl) (by kernel_rfl) (fun _ _ _ h => h) (Or.inl ⟨by rfl, ?_⟩) hHeld ?_
    rotate_left
    · (intro w' hSw; obtain ⟨k0, k1, k2⟩ := hSw; go_simp; try with_reducible rfl)
    try simp only [Act.put, List.setIfInBounds_toArray, List.set_cons_zero, List.set_cons_succ]
    refine wpAnyH_take (i := 10) (v := ?_) opAt_10 (by kernel_rfl) (by kernel_rfl) (by kernel_rfl) (fun _ _ _ h => h) (Or.inl ⟨by rfl, ?_⟩) hHeld ?_
    rotate_left
    · (intro w' hSw; obtain ⟨k0, k1, k2⟩ := hSw; go_simp; try with_reducible rfl)
    try simp only [Act.put, List.setIfInBounds_toArray, List.set_cons_zero, List.set_cons_succ]
    refine wpAnyH_done (by kernel_rfl) ?_ _
    refine NoPanic.normal ?_
    go_wp2_with fail
    have HD3 := Lib.hid H3.out.drew
    have hAc := H3.out.cells.c1
    have hAB := H3.out.ab
    have hkk := hHeld.1
    refine wp_region_noPanic ?_
    refine wp_region_held_drew (S := fun w' => w'.cell? ⟨p, 0, none⟩ = some (.pointer (some ⟨A, 0, none⟩)) ∧ w'.cell? ⟨A, 1, none⟩ = some (.map (some B))) (by kernel_rfl) ⟨hkk, hAc⟩ (fun hHeld => ?_)
    clear hAc hkk
    have HS3 : Hid (w1.drew.heap.size = w1.heap.size) := rfl
    have HG3 : Hid (Chg M w w1.drew) := ((Chg.of_below (M := M) HB0.out).trans H4.out (fun i e => .inl e)).drew
    generalize World.drew _ = W3 at *
    refine wpAnyH_take (i := 0) (v := ?_) opAt_0 (by kernel_rfl) (by kernel_rfl) (by kernel_rfl) (fun _ _ _ h => h) (Or.inl ⟨by rfl, ?_⟩) hHeld ?_
    rotate_left
    · (intro w' hSw; obtain ⟨k0, k1⟩ := hSw; go_simp; try with_reducible rfl)
    try simp only [Act.put, List.setIfInBounds_toArray, List.set_cons_zero, List.set_cons_succ]
    refine wpAnyH_take (i := 1) (v := ?_) opAt_1 (by kernel_rfl) (by kernel_rfl) (by kernel_rfl) (fun _ _ _ h => h) (Or.inl ⟨by rfl, ?_⟩) hHeld ?_
    rotate_left
    · (intro w' hSw; obtain ⟨k0, k1⟩ := hSw; go_simp; try with_reducible rfl)
    try simp only [Act.put, List.setIfInBounds_toArray, List.set_cons_zero, List.set_cons_succ]
    refine wpAnyH_take (i := 2) (v := ?_) opAt_2 (by kernel_rfl) (by kernel_rfl) (by kernel_rfl) (fun _ _ _ h => h) (Or.inl ⟨by rfl, ?_⟩) hHeld ?_
    rotate_left
    · (intro w' hSw; obtain ⟨k0, k1⟩ := hSw; go_simp; try with_reducible rfl)
    try simp only [Act.put, List.setIfInBounds_toArray, List.set_cons_zero, List.set_cons_succ]
    refine wpAnyH_take (i := 3) (v := ?_) opAt_3 (by kernel_rfl) (by kernel_rfl) (by kernel_rfl) (fun _ _ _ h => h) (Or.inl ⟨by rfl, ?_⟩) hHeld ?_
    rotate_left
    · (intro w' hSw; obtain ⟨k0, k1⟩ := hSw; go_simp; try with_reducible rfl)
    try simp only [Act.put, List.setIfInBounds_toArray, List.set_cons_zero, List.set_cons_succ]
    refine wpAnyH_take (i := 4) (v := ?_) opAt_4 (by kernel_rfl) (by kernel_rfl) (by kernel_rfl) (fun _ _ _ h => h) (Or.inl ⟨by rfl, ?_⟩) hHeld ?_
    rotate_left
    · (intro w' hSw; obtain ⟨k0, k1⟩ := hSw; go_simp; try with_reducible rfl)
    try simp only [Act.put, List.setIfInBounds_toArray, List.set_cons_zero, List.set_cons_succ]
    refine wpAnyH_ready (rs := [5]) (by kernel_rfl) (by simp) ?_
    refine AllReadyH.cons rfl (fun K hK => ?_) AllReadyH.nil
    go_simp
    refine (fnew_b (B := 0) Bs.none_ (Nat.zero_le _) (by simp)).mono ?_
    rintro e w4 ⟨F, M1, rfl, hfm, hb4, hM1⟩
    have HB4 := Lib.hid hb4
    have HFm := Lib.hid hfm
    have HM1 := Lib.hid hM1
    have hk4 : w4.cell? ⟨p, 0, none⟩ = some (.pointer (some ⟨A, 0, none⟩)) ∧ w4.cell? ⟨A, 1, none⟩ = some (.map (some B)) := ⟨(hb4.cell (p := ⟨p, 0, none⟩) (fblock_of_cell hHeld.1)).trans hHeld.1, (hb4.cell (p := ⟨A, 1, none⟩) (fblock_of_cell hHeld.2)).trans hHeld.2⟩
    obtain ⟨w5, hrun, hmu5, ht5⟩ := (HD3.out.map.on HB4.out).store (by omega) (show l1 < 1000000000 by omega) F
    have hc5 := Chg.of_turned ht5
    have HC5 := Lib.hid hc5
    have HMU := Lib.hid hmu5
    have hAB := H3.out.ab
    have hk5 : w5.cell? ⟨p, 0, none⟩ = some (.pointer (some ⟨A, 0, none⟩)) ∧ w5.cell? ⟨A, 1, none⟩ = some (.map (some B)) := ⟨cell_keep hc5 (fun e => hp (by rw [show p = B from e]; exact Ha.out.mB)) hk4.1, cell_keep hc5 hAB hk4.2⟩
    clear hb4 hfm hM1 hmu5 ht5 hc5
    try go_wp2_with fail
    refine hK.out _ _ hk4 (fun hHeld => ?_)
    clear hK K
    try simp only [Act.put, List.setIfInBounds_toArray, List.set_cons_zero, List.set_cons_succ]
    refine wpAnyH_ready (rs := [6]) (by kernel_rfl) (by simp) ?_
    refine AllReadyH.cons rfl (fun K hK => ?_) AllReadyH.nil
    go_simp
    refine hK.out _ _ hk5 (fun hHeld => ?_)
    clear hK K
    try simp only [Act.put, List.setIfInBounds_toArray, List.set_cons_zero, List.set_cons_succ]
    refine wpAnyH_done (by kernel_rfl) ?_ _
    refine NoPanic.normal ?_
    go_wp2_with fail
    go_ret
    have h9 := HD3.out.add HB4.out HFm.out (fun _ e => e.elim) HM1.out HMU.out HC5.out (show l1 < 1000000000 by omega)
    have h10 : FsAt w5 A X B (n + 1) u hv (l1 :: K) (updN g l1 F) MX' (fun k => if k = l1 then M1 else MF k) (fun j => M' j ∨ M1 j) R' { s with dir := s.dir.made nm, file := upd s.file (s.dir.last + 1) (FSt.new []) } := by rw [← Hl1.out]; exact h9
    refine ⟨rfl, _, R', ⟨X, B, n + 1, hv, l1 :: K, updN g l1 F, MX', _, h10, ?_, ?_, ?_⟩, (HG3.out.trans (Chg.of_below (M := fun _ => False) HB4.out) (fun i e => e.elim)).trans HC5.out (fun i e => .inl (e ▸ Ha.out.mB)), ?_, fun i e => (H6.out i e).imp id (fun e => HSz.out ▸ e)⟩
    · show n + 1 ≤ s.dir.last + 1 + 1
      omega
    · intro i hi
      show i ≤ s.dir.last + 1
      have := Hl1.out
      rcases List.mem_cons.1 hi with rfl | hi
      · omega
      · have := Hn.out.2.1 i hi; omega
    · intro i hi
      rcases live_made Hset.out nm i hi with h8 | h8
      · exact List.mem_cons_of_mem _ (Hn.out.2.2 i h8)
      · exact List.mem_cons.2 (.inl (h8.trans Hl1.out.symm))
    · rintro i (e | e)
      · exact (H5.out i e).imp id (fun e => HSz.out ▸ e)
      · have h7 := HM1.out i e
        have := HG3.out.size
        exact .inr (by omega)
end
end Go.Proofs.YtfabodpefbdbjaaGreatDoor

/-
  Layer 7: a step of the file of a name.
-/
set_option linter.unusedVariables false
set_option linter.unusedSimpArgs false
namespace Go.Proofs.YtfabodpefbdbjaaGreatDoor
open Go.RowKit Go.Maps

section
variable {w w' : World} {A u q T p c r : Nat} {M R N : Nat → Prop} {s : FsP} {nm : ByteArray} {dg : Nat} {dcap : Array Value} {k : FSt → Nat × FSt}
theorem FsM.file_mut {X B n i : Nat} {hv : Value} {K : List Nat} {g : Nat → Nat} {MX : Nat → Prop} {MF : Nat → Nat → Prop} (h : FsAt w A X B n u hv K g MX MF M R s) (hn : n ≤ s.dir.last + 1 ∧ (∀ i, i ∈ K → i ≤ s.dir.last) ∧ (∀ i, i ∈ s.dir.live → i ∈ K)) (hi : i ∈ K) {t : FSt} (hm : Mut w w' (g i) (MF i) R t) :
    FsMut w w' A u M R { s with file := upd s.file i t } := by
  obtain ⟨MF', M', R', h3, h4, h5, h6⟩ := h.file_mut hi hm
  exact ⟨M', R', ⟨X, B, n, hv, K, g, MX, MF', h3, hn⟩, h4, h5, h6⟩
theorem nodeF_ne_cases (h : (nodeF s nm).1 ≠ 0) : onF s nm k = ((nodeF s nm).1, s) := by unfold onF; rw [if_neg h]
set_option maxRecDepth 100000 in
set_option maxHeartbeats 4000000 in
theorem kstepof1 (hnm : nm.size ≤ maxLen) (h : FsM w A u M R s) (hf : FInv s q T) (ho : s.off = false) (hp : ¬ M p) (cp : w.cell? ⟨p, 0, none⟩ = some (.pointer (some ⟨A, 0, none⟩))) (hc : ¬ M c) (cc : w.cell? ⟨c, 0, none⟩ = some (.string nm)) (cr : w.cell? ⟨r, 0, none⟩ = some (.func (.func dg) #[] dcap))
    (hen : ∀ args w', (callFunc dg args).run Tryz.prog w' = .ok (.enter dg args) w')
    (hdo : ∀ w1, Below w.heap.size w w1 → ∀ X B n hv K g MX MF i, FsAt w1 A X B n u hv K g MX MF M R s → i ∈ K → i ≤ s.dir.last → Calls Tryz.prog dg (#[.pointer (some ⟨g i, 0, none⟩)] ++ dcap) w1 fun e w' => e = .returned (.int .i64 ((k (s.file i)).1 : Int)) ∧ Mut w1 w' (g i) (MF i) R (k (s.file i)).2) :
    Calls Tryz.prog 118 #[.pointer (some ⟨p, 0, none⟩), .pointer (some ⟨c, 0, none⟩), .pointer (some ⟨r, 0, none⟩)] w fun e w' => e = .returned (.int .i64 ((onF s nm k).1 : Int)) ∧ FsMut w w' A u M R (onF s nm k).2 := by
  obtain ⟨X, B, n, hv, K, g, MX, MF, ha, hn1, hn2, hn3, hn4, _⟩ := h.kfacts hf
  have HF := Lib.hid (kfind ha hn4 ho hnm)
  have Ha := Lib.hid ha
  have Hn := Lib.hid (show n ≤ s.dir.last + 1 ∧ (∀ i, i ∈ K → i ≤ s.dir.last) ∧ (∀ i, i ∈ s.dir.live → i ∈ K) from ⟨hn1, hn2, hn3⟩)
  have HD := Lib.hid hdo
  have Hn4 := Lib.hid hn4
  have HM := Lib.hid h
  clear ha h hf hn1 hn2 hn3 hn4 hdo ho
  by_cases h0 : (nodeF s nm).1 = 0
  · have hK : onF s nm k = ((k (s.file (nodeF s nm).2)).1, { s with file := upd s.file (nodeF s nm).2 (k (s.file (nodeF s nm).2)).2 }) := by unfold onF; rw [if_pos h0]
    have hfin : findL s.dir.now nm = some (nodeF s nm).2 := by
      unfold nodeF at h0 ⊢
      split
      · rename_i h1; rw [if_pos h1] at h0; cases h0
      · rename_i h1
        rw [if_neg h1] at h0
        cases hf2 : findL s.dir.now nm with
        | none => rw [hf2] at h0; cases h0
        | some m => rfl
    rw [hK]
    rw [h0] at HF
    simp only [if_true] at HF
    generalize (nodeF s nm).2 = i at *
    have hiK : i ∈ K := Hn4.out _ (findL_mem hfin)
    have HD1 : Hid (∀ w1, Below w.heap.size w w1 → Calls Tryz.prog dg (#[.pointer (some ⟨g i, 0, none⟩)] ++ dcap) w1 fun e w' => e = .returned (.int .i64 ((k (s.file i)).1 : Int)) ∧ Mut w1 w' (g i) (MF i) R (k (s.file i)).2) := fun w1 hb => HD.out w1 hb X B n hv K g MX MF i (Ha.out.on hb) hiK (Hn.out.2.1 i hiK)
    obtain ⟨kk, hkk⟩ : ∃ kk, kk = k (s.file i) := ⟨_, rfl⟩
    rw [← hkk] at HD1 ⊢
    obtain ⟨Fi, hFi⟩ : ∃ Fi, Fi = g i := ⟨_, rfl⟩
    rw [← hFi] at HD1 HF
    have HFi := Lib.hid hFi
    clear hK h0 HD hkk hFi hfin
    go_enter Tryz.func118, Tryz.ntmps118
    go_wp2_with fail
    refine HF.out.mono ?_
    rintro e w1 ⟨rfl, hb1⟩
    have cr1 := (hb1.cell (p := ⟨r, 0, none⟩) (fblock_of_cell cr)).trans cr
    have HB1 := Lib.hid hb1
    have Ha1 := Lib.hid (Ha.out.on hb1)
    clear hb1 cr cp cc
    go_wp2_with fail
    refine (HD1.out w1 HB1.out).mono ?_
    rintro e w2 ⟨rfl, hm⟩
    have HM2 : Hid (FsMut w w2 A u M R { s with file := upd s.file i kk.2 }) := (FsM.file_mut Ha1.out Hn.out hiK (HFi.out ▸ hm)).after (Chg.of_below HB1.out) (fun _ => .inl) (fun _ => .inl)
    clear hm cr1
    go_wp2_with fail
    go_ret
    exact ⟨rfl, HM2.out⟩
  · rw [nodeF_ne_cases h0]
    rw [if_neg h0] at HF
    generalize (nodeF s nm).1 = cd at *
    have hcd2 : decide ((cd : Int) = 0) = false := decide_eq_false (by omega)
    go_enter Tryz.func118, Tryz.ntmps118
    go_wp2_with fail
    refine HF.out.mono ?_
    rintro e w1 ⟨rfl, hb1⟩
    have HB1 := Lib.hid hb1
    clear hb1 cr cp cc
    go_wp2_with fail
    go_ret
    exact ⟨rfl, FsMut.of_below HM.out HB1.out⟩
theorem beginF_on (h : (beginF s).1 = 0) : (beginF s).2.off = false := by
  unfold beginF at h ⊢
  split
  · rename_i h1; rw [if_pos h1] at h; cases h
  · rename_i h1
    rw [if_neg h1] at h
    split
    · rename_i h2; rw [if_pos h2] at h; cases h
    · simpa using h1
theorem beginF_used (s : FsP) : (beginF s).2.used = s.used := by unfold FsP.used; rw [(beginF_is s).1, (beginF_is s).2.1]
theorem box_new (w : World) (v : Value) (t : TypeId) (n : Nat) (hn : n = w.heap.size) : (w.alloc (.cells #[v] t)).cell? ⟨n, 0, none⟩ = some v := by subst hn; simp
theorem cell_al {w : World} {b o : Nat} {v : Value} (h : w.cell? ⟨b, o, none⟩ = some v) (ob : Obj) : (w.alloc ob).cell? ⟨b, o, none⟩ = some v := (World.cell?_alloc_lt w ob _ (fblock_of_cell h)).trans h
theorem ssR_one {W : World} {b : Nat} {nm : ByteArray} (h : W.cell? ⟨b, 0, none⟩ = some (.string nm)) : SsR W (fun i => i = b) (.slice (some ⟨b, 0, none⟩) 1 1) [nm] :=
  ⟨_, 1, rfl, Nat.le_refl _, by unfold maxLen; omega, fun _ => ⟨b, 0, rfl, rfl, fun j u hu => by
    rcases j with _ | j
    · simp [svs] at hu; subst hu; simpa using h
    · simp [svs] at hu⟩⟩
set_option maxRecDepth 100000 in
set_option maxHeartbeats 4000000 in
theorem kstepOf (hnm : nm.size ≤ maxLen) (h : FsM w A s.used M R s) (hf : FInv s q T) (hT : T ≤ 100000) (hst : s.steps + 1 ≤ 1000000)
    (hen : ∀ args w', (callFunc dg args).run Tryz.prog w' = .ok (.enter dg args) w') (hk : ∀ t : FSt, t.Ok → (k t).2.Ok ∧ (k t).2.big ≤ t.big + 1200)
    (hdo : (beginF s).1 = 0 → ∀ w1, Chg (fun i => i = A) w w1 → ∀ X B n hv K g MX MF i, FsAt w1 A X B n s.used hv K g MX MF M R (beginF s).2 → i ∈ K → (s.file i).big ≤ T → Calls Tryz.prog dg (#[.pointer (some ⟨g i, 0, none⟩)] ++ dcap) w1 fun e w' => e = .returned (.int .i64 ((k (s.file i)).1 : Int)) ∧ Mut w1 w' (g i) (MF i) R (k (s.file i)).2) :
    Calls Tryz.prog 67 #[.pointer (some ⟨A, 0, none⟩), .string nm, .func (.func dg) #[] dcap] w fun e w' => e = .returned (.int .i64 ((stepF s fun s => onF s nm k).1 : Int)) ∧ FsMut w w' A (stepF s fun s => onF s nm k).2.used M R (stepF s fun s => onF s nm k).2 := by
  obtain ⟨W, hW⟩ : ∃ W, W = ((((w.alloc (.cells #[.pointer (some ⟨A, 0, none⟩)] 31)).alloc (.cells #[.string nm] 9)).alloc (.cells #[.func (.func dg) #[] dcap] 116)).alloc (.cells #[.string nm] 9)) := ⟨_, rfl⟩
  have hb : Below w.heap.size w W := by rw [hW]; exact ((((Below.refl _ _).alloc (Nat.le_refl _) _).alloc (by simp) _).alloc (by simp; omega) _).alloc (by simp; omega) _
  have c0 : W.cell? ⟨w.heap.size, 0, none⟩ = some (.pointer (some ⟨A, 0, none⟩)) := by rw [hW]; exact cell_al (cell_al (cell_al (box_new _ _ _ _ rfl) _) _) _
  have c1 : W.cell? ⟨w.heap.size + 1, 0, none⟩ = some (.string nm) := by rw [hW]; exact cell_al (cell_al (box_new _ _ _ _ (by simp)) _) _
  have c2 : W.cell? ⟨w.heap.size + 1 + 1, 0, none⟩ = some (.func (.func dg) #[] dcap) := by rw [hW]; exact cell_al (box_new _ _ _ _ (by simp)) _
  have c3 : W.cell? ⟨w.heap.size + 1 + 1 + 1, 0, none⟩ = some (.string nm) := by rw [hW]; exact box_new _ _ _ _ (by simp)
  have hlA := h.ltA
  have hbi := beginF_is s
  have hon1 : (beginF s).1 = 0 → _ := beginF_on (s := s)
  have hf1 : FInv (beginF s).2 q T := hf.same hbi.1 hbi.2.1
  have Hstep := Lib.hid (kstep (k := fun s => onF s nm k) (dcap := #[.pointer (some ⟨w.heap.size, 0, none⟩), .pointer (some ⟨w.heap.size + 1, 0, none⟩), .pointer (some ⟨w.heap.size + 1 + 1, 0, none⟩)]) (h.on hb) hf hT hst (ssR_one c3) (fun i hi e => by have := h.ml i hi; omega) (fun x hx => by simp at hx; subst hx; exact hnm) (by simp)
    (fun args w' => enters_of Tryz.func118 (by kernel_rfl) rfl args w')
    (fun hb0 w1 hm1 hg1 => by
      have hne : ∀ x, w.heap.size ≤ x → ¬ (x = A) := fun x hx e => by omega
      refine kstepof1 (k := k) hnm hm1 hf1 (hon1 hb0) (p := w.heap.size) (c := w.heap.size + 1) (r := w.heap.size + 1 + 1) (fun e => by have := h.ml _ e; omega) (cell_keep hg1 (hne _ (by omega)) c0) (fun e => by have := h.ml _ e; omega) (cell_keep hg1 (hne _ (by omega)) c1) (cell_keep hg1 (hne _ (by omega)) c2) hen ?_
      intro w2 hb2 X B n hv K g MX MF i ha hi hle
      rw [hbi.2.1]
      exact hdo hb0 w2 (((Chg.of_below (M := fun i => i = A) hb).trans hg1 (fun i e => .inl e)).trans (Chg.of_below (M := fun _ => False) hb2) (fun i e => e.elim)) X B n hv K g MX MF i ha hi (by rw [← hbi.2.1]; exact hf1.big_le hle))
    (fun hb0 => ⟨q, hf1.onF_ nm 1200 hk⟩)
    (fun hb0 => by have h1 := used_on hf1 nm k; rw [beginF_used, hbi.1, hbi.2.1] at h1; exact h1))
  have HB := Lib.hid hb
  clear h hf hdo hk c0 c1 c2 c3 hb hf1 hon1 hbi
  go_enter Tryz.func67, Tryz.ntmps67
  go_wp2_with fail
  rw [← hW]
  refine Hstep.out.mono ?_
  rintro e w' ⟨rfl, hm⟩
  have HM := Lib.hid (hm.after (Chg.of_below HB.out) (fun _ => .inl) (fun _ => .inl))
  clear hm
  go_wp2_with fail
  go_ret
  exact ⟨rfl, HM.out⟩
end
end Go.Proofs.YtfabodpefbdbjaaGreatDoor

/- JfDo -/

/-
  Layer 7: the calls of a file system that are steps.
-/

set_option linter.unusedVariables false
set_option linter.unusedSimpArgs false
namespace Go.Proofs.YtfabodpefbdbjaaGreatDoor
open Go.RowKit Go.Maps

theorem stepF_congr {s : FsP} {f g : FsP → Nat × FsP} (h : f (beginF s).2 = g (beginF s).2) : stepF s f = stepF s g := by unfold stepF; rw [h]
theorem Mut.then {w w' w'' : World} {F : Nat} {M R : Nat → Prop} {t : FSt} (h : Mut w w' F M R t) (hb : Below w'.heap.size w' w'') : Mut w w'' F M R t := by
  obtain ⟨M', R', h1, h2, h3, h4⟩ := h
  exact ⟨M', R', h1.on hb, h2.trans (Chg.of_below (M := fun _ => False) hb) (fun i e => e.elim), h3, h4⟩
section
variable {w w' : World} {A u q T p c r qu : Nat} {M R N : Nat → Prop} {s : FsP} {nm : ByteArray}
theorem finv_remove (h : FInv s q T) (hq : q ≤ 1000) (n : ByteArray) : FInv (removeK n s).2 (q + 1) T := by
  have h1 := h.dir_ hq ⟨4, n, n, 0⟩ (by simp)
  rw [removeP_do] at h1
  exact h1
theorem finv_syncdir (h : FInv s q T) (hq : q ≤ 1000) : FInv (syncDirK s).2 (q + 1) T := by
  have h1 := h.dir_ hq ⟨5, ByteArray.empty, ByteArray.empty, 0⟩ (by simp)
  have e : (doP s.dir ⟨5, ByteArray.empty, ByteArray.empty, 0⟩).2.2 = s.dir.settle s.dir.deeds.length := by
    unfold doP
    rw [if_neg (by simp), if_neg (by simp), if_neg (by simp), if_pos rfl]
  rw [e] at h1
  exact h1
set_option maxRecDepth 100000 in
set_option maxHeartbeats 4000000 in
theorem kcreate {nm : ByteArray} (hnm : nm.size ≤ maxLen) (h : FsM w A s.used M R s) (hf : FInv s q T) (hq : q ≤ 200) (hT : T ≤ 100000) (hst : s.steps + 1 ≤ 1000000) :
    Calls Tryz.prog 73 #[.pointer (some ⟨A, 0, none⟩), .string nm] w fun e w' => e = .returned (.int .i64 ((stepF s (createK nm)).1 : Int)) ∧ FsMut w w' A (stepF s (createK nm)).2.used M R (stepF s (createK nm)).2 := by
  obtain ⟨W, hW⟩ : ∃ W, W = (((w.alloc (.cells #[.pointer (some ⟨A, 0, none⟩)] 31)).alloc (.cells #[.string nm] 9)).alloc (.cells #[.string nm] 9)) := ⟨_, rfl⟩
  have hb : Below w.heap.size w W := by rw [hW]; exact (((Below.refl _ _).alloc (Nat.le_refl _) _).alloc (by simp) _).alloc (by simp; omega) _
  have c0 : W.cell? ⟨w.heap.size, 0, none⟩ = some (.pointer (some ⟨A, 0, none⟩)) := by rw [hW]; exact cell_al (cell_al (box_new _ _ _ _ rfl) _) _
  have c1 : W.cell? ⟨w.heap.size + 1, 0, none⟩ = some (.string nm) := by rw [hW]; exact cell_al (box_new _ _ _ _ (by simp)) _
  have cN : W.cell? ⟨w.heap.size + 1 + 1, 0, none⟩ = some (.string nm) := by rw [hW]; exact box_new _ _ _ _ (by simp)
  have hlA := h.ltA
  have hbi := beginF_is s
  have hf1 : FInv (beginF s).2 q T := hf.same hbi.1 hbi.2.1
  have hSs := ssR_one cN
  have Hstep := Lib.hid (kstep (k := createK nm) (dcap := #[.pointer (some ⟨w.heap.size, 0, none⟩), .pointer (some ⟨w.heap.size + 1, 0, none⟩)]) (h.on hb) hf hT hst hSs (fun i hi e => by have := h.ml i hi; omega) (fun x hx => by simp at hx; subst hx; exact hnm) (by simp)
    (fun args w' => enters_of Tryz.func122 (by kernel_rfl) rfl args w')
    (fun hb0 w1 hm1 hg1 => by
      have hne : ∀ x, w.heap.size ≤ x → ¬ (x = A) := fun x hx e => by omega
      exact kcreate1 (s := (beginF s).2) hnm hm1 hf1 hq (fun e => by have := h.ml _ e; omega) (cell_keep hg1 (hne _ (by omega)) c0) (fun e => by have := h.ml _ e; omega) (cell_keep hg1 (hne _ (by omega)) c1))
    (fun hb0 => ⟨_, (hf1.createK_ (by omega) nm).mono (Nat.le_refl _) (by omega)⟩)
    (fun hb0 => by have h1 := used_create hf1 nm; rw [beginF_used, hbi.1, hbi.2.1] at h1; exact h1))
  have HB := Lib.hid hb
  clear h hf hb hf1 hbi hSs c0 c1 cN
  go_enter Tryz.func73, Tryz.ntmps73
  go_wp2_with fail
  rw [← hW]
  refine Hstep.out.mono ?_
  rintro e w' ⟨rfl, hm⟩
  have HM := Lib.hid (hm.after (Chg.of_below HB.out) (fun _ => .inl) (fun _ => .inl))
  clear hm
  go_wp2_with fail
  go_ret
  exact ⟨rfl, HM.out⟩
set_option maxRecDepth 100000 in
set_option maxHeartbeats 4000000 in
theorem kremove {nm : ByteArray} (hnm : nm.size ≤ maxLen) (h : FsM w A s.used M R s) (hf : FInv s q T) (hq : q ≤ 200) (hT : T ≤ 100000) (hst : s.steps + 1 ≤ 1000000) :
    Calls Tryz.prog 79 #[.pointer (some ⟨A, 0, none⟩), .string nm] w fun e w' => e = .returned (.int .i64 ((stepF s (removeK nm)).1 : Int)) ∧ FsMut w w' A (stepF s (removeK nm)).2.used M R (stepF s (removeK nm)).2 := by
  obtain ⟨W, hW⟩ : ∃ W, W = (((w.alloc (.cells #[.pointer (some ⟨A, 0, none⟩)] 31)).alloc (.cells #[.string nm] 9)).alloc (.cells #[.string nm] 9)) := ⟨_, rfl⟩
  have hb : Below w.heap.size w W := by rw [hW]; exact (((Below.refl _ _).alloc (Nat.le_refl _) _).alloc (by simp) _).alloc (by simp; omega) _
  have c0 : W.cell? ⟨w.heap.size, 0, none⟩ = some (.pointer (some ⟨A, 0, none⟩)) := by rw [hW]; exact cell_al (cell_al (box_new _ _ _ _ rfl) _) _
  have c1 : W.cell? ⟨w.heap.size + 1, 0, none⟩ = some (.string nm) := by rw [hW]; exact cell_al (box_new _ _ _ _ (by simp)) _
  have cN : W.cell? ⟨w.heap.size + 1 + 1, 0, none⟩ = some (.string nm) := by rw [hW]; exact box_new _ _ _ _ (by simp)
  have hlA := h.ltA
  have hbi := beginF_is s
  have hf1 : FInv (beginF s).2 q T := hf.same hbi.1 hbi.2.1
  have hSs := ssR_one cN
  have Hstep := Lib.hid (kstep (k := removeK nm) (dcap := #[.pointer (some ⟨w.heap.size, 0, none⟩), .pointer (some ⟨w.heap.size + 1, 0, none⟩)]) (h.on hb) hf hT hst hSs (fun i hi e => by have := h.ml i hi; omega) (fun x hx => by simp at hx; subst hx; exact hnm) (by simp)
    (fun args w' => enters_of Tryz.func129 (by kernel_rfl) rfl args w')
    (fun hb0 w1 hm1 hg1 => by
      have hne : ∀ x, w.heap.size ≤ x → ¬ (x = A) := fun x hx e => by omega
      exact kremove1 (s := (beginF s).2) hnm hm1 hf1 hq (fun e => by have := h.ml _ e; omega) (cell_keep hg1 (hne _ (by omega)) c0) (fun e => by have := h.ml _ e; omega) (cell_keep hg1 (hne _ (by omega)) c1))
    (fun hb0 => ⟨_, (finv_remove hf1 (by omega) nm).mono (Nat.le_refl _) (by omega)⟩)
    (fun hb0 => by have h1 := used_remove hf1 nm; rw [beginF_used, hbi.1, hbi.2.1] at h1; exact h1))
  have HB := Lib.hid hb
  clear h hf hb hf1 hbi hSs c0 c1 cN
  go_enter Tryz.func79, Tryz.ntmps79
  go_wp2_with fail
  rw [← hW]
  refine Hstep.out.mono ?_
  rintro e w' ⟨rfl, hm⟩
  have HM := Lib.hid (hm.after (Chg.of_below HB.out) (fun _ => .inl) (fun _ => .inl))
  clear hm
  go_wp2_with fail
  go_ret
  exact ⟨rfl, HM.out⟩
set_option maxRecDepth 100000 in
set_option maxHeartbeats 4000000 in
theorem ksyncdir  (h : FsM w A s.used M R s) (hf : FInv s q T) (hq : q ≤ 200) (hT : T ≤ 100000) (hst : s.steps + 1 ≤ 1000000) :
    Calls Tryz.prog 78 #[.pointer (some ⟨A, 0, none⟩)] w fun e w' => e = .returned (.int .i64 ((stepF s (syncDirK)).1 : Int)) ∧ FsMut w w' A (stepF s (syncDirK)).2.used M R (stepF s (syncDirK)).2 := by
  obtain ⟨W, hW⟩ : ∃ W, W = (w.alloc (.cells #[.pointer (some ⟨A, 0, none⟩)] 31)) := ⟨_, rfl⟩
  have hb : Below w.heap.size w W := by rw [hW]; exact (Below.refl _ _).alloc (Nat.le_refl _) _
  have c0 : W.cell? ⟨w.heap.size, 0, none⟩ = some (.pointer (some ⟨A, 0, none⟩)) := by rw [hW]; exact box_new _ _ _ _ rfl
  have hlA := h.ltA
  have hbi := beginF_is s
  have hf1 : FInv (beginF s).2 q T := hf.same hbi.1 hbi.2.1
  have hSs : SsR W (fun _ => False) (.slice none 0 0) [] := ⟨none, 0, rfl, Nat.le_refl _, by unfold maxLen; omega, fun h => absurd rfl h⟩
  have Hstep := Lib.hid (kstep (k := syncDirK) (dcap := #[.pointer (some ⟨w.heap.size, 0, none⟩)]) (h.on hb) hf hT hst hSs (fun i hi e => e) (fun x hx => by simp at hx) (by simp)
    (fun args w' => enters_of Tryz.func127 (by kernel_rfl) rfl args w')
    (fun hb0 w1 hm1 hg1 => by
      have hne : ∀ x, w.heap.size ≤ x → ¬ (x = A) := fun x hx e => by omega
      exact ksyncdir1 (s := (beginF s).2) hm1 hf1 hq (fun e => by have := h.ml _ e; omega) (cell_keep hg1 (hne _ (by omega)) c0))
    (fun hb0 => ⟨_, (finv_syncdir hf1 (by omega)).mono (Nat.le_refl _) (by omega)⟩)
    (fun hb0 => by have h1 := used_sync hf1; rw [beginF_used, hbi.1, hbi.2.1] at h1; exact h1))
  have HB := Lib.hid hb
  clear h hf hb hf1 hbi hSs c0 
  go_enter Tryz.func78, Tryz.ntmps78
  go_wp2_with fail
  rw [← hW]
  refine Hstep.out.mono ?_
  rintro e w' ⟨rfl, hm⟩
  have HM := Lib.hid (hm.after (Chg.of_below HB.out) (fun _ => .inl) (fun _ => .inl))
  clear hm
  go_wp2_with fail
  go_ret
  exact ⟨rfl, HM.out⟩
set_option maxRecDepth 100000 in
set_option maxHeartbeats 4000000 in
theorem kappend1 {F : Nat} {MF : Nat → Prop} {t : FSt} {v : Value} {b : List UInt8} (hF : FileM w F MF R t) (hbig : t.big ≤ 100000) (cp : w.cell? ⟨p, 0, none⟩ = some (.pointer (some ⟨A, 0, none⟩))) (cr : w.cell? ⟨r, 0, none⟩ = some v) (hv : BsIn w N v b) (hN : ∀ i, MF i → ¬ N i) (hbl : b.length ≤ 1200)
    (hc3 : w.cell? ⟨A, 3, none⟩ = some (.int .i64 (u : Int))) (hc2 : w.cell? ⟨A, 2, none⟩ = some (.int .i64 (qu : Int))) (hu : u ≤ 1000000000) :
    Calls Tryz.prog 107 #[.pointer (some ⟨F, 0, none⟩), .pointer (some ⟨p, 0, none⟩), .pointer (some ⟨r, 0, none⟩)] w fun e w' => e = .returned (.int .i64 ((appT u qu b t).1 : Int)) ∧ Mut w w' F MF R (appT u qu b t).2 := by
  have HF := Lib.hid hF
  have HV := Lib.hid hv
  have HN := Lib.hid hN
  have HBg := Lib.hid hbig
  obtain ⟨Ab, cb, rfl, hcb, _⟩ := hv
  obtain ⟨nb, hnb⟩ : ∃ nb, nb = b.length := ⟨_, rfl⟩
  rw [← hnb] at cr hcb HV hbl
  have Hnb := Lib.hid hnb
  obtain ⟨z, hz⟩ : ∃ z, z = u + nb := ⟨_, rfl⟩
  have hw : IntKind.i64.wrap ((u : Int) + (nb : Int)) = (z : Int) := by rw [IntWalk.i64_in _ (by omega), hz]; push_cast; rfl
  have Hz := Lib.hid hz
  clear hF hN hbig hnb hz
  by_cases hq : qu < z
  · have hr : appT u qu b t = (21, t) := by unfold appT; rw [if_pos (by have := Hz.out; have := Hnb.out; omega)]
    have hd : decide ((z : Int) > (qu : Int)) = true := decide_eq_true (by omega)
    have hd2 : (qu : Int) < (z : Int) := by omega
    rw [hr]
    clear hr hq hu
    go_enter Tryz.func107, Tryz.ntmps107
    go_wp2_with fail
    refine wp_region_noPanic ?_
    refine wp_region_held_drew (S := fun w' => w'.cell? ⟨p, 0, none⟩ = some (.pointer (some ⟨A, 0, none⟩)) ∧ w'.cell? ⟨r, 0, none⟩ = some (.slice Ab nb cb) ∧ w'.cell? ⟨A, 3, none⟩ = some (.int .i64 (u : Int)) ∧ w'.cell? ⟨A, 2, none⟩ = some (.int .i64 (qu : Int))) (by kernel_rfl) ⟨cp, cr, hc3, hc2⟩ (fun hHeld => ?_)
    have cr2 := hHeld.2.1
    clear hc3 hc2 cp cr
    have HB0 : Hid (Below w.heap.size w w.drew) := (Below.refl _ _).drew
    generalize World.drew _ = W at *
    refine wpAnyH_take (i := 0) (v := ?_) opAt_0 (by kernel_rfl) (by kernel_rfl) (by kernel_rfl) (fun _ _ _ h => h) (Or.inl ⟨by rfl, ?_⟩) hHeld ?_
    rotate_left
    · (intro w' hSw; obtain ⟨k0, k1, k2, k3⟩ := hSw; go_simp; try with_reducible rfl)
    try simp only [Act.put, List.setIfInBounds_toArray, List.set_cons_zero, List.set_cons_succ]
    refine wpAnyH_take (i := 1) (v := ?_) opAt_1 (by kernel_rfl) (by kernel_rfl) (by kernel_rfl) (fun _ _ _ h => h) (Or.inl ⟨by rfl, ?_⟩) hHeld ?_
    rotate_left
    · (intro w' hSw; obtain ⟨k0, k1, k2, k3⟩ := hSw; go_simp; try with_reducible rfl)
    try simp only [Act.put, List.setIfInBounds_toArray, List.set_cons_zero, List.set_cons_succ]
    refine wpAnyH_take (i := 2) (v := ?_) opAt_2 (by kernel_rfl) (by kernel_rfl) (by kernel_rfl) (fun _ _ _ h => h) (Or.inl ⟨by rfl, ?_⟩) hHeld ?_
    rotate_left
    · (intro w' hSw; obtain ⟨k0, k1, k2, k3⟩ := hSw; go_simp; try with_reducible rfl)
    try simp only [Act.put, List.setIfInBounds_toArray, List.set_cons_zero, List.set_cons_succ]
    refine wpAnyH_take (i := 3) (v := ?_) opAt_3 (by kernel_rfl) (by kernel_rfl) (by kernel_rfl) (fun _ _ _ h => h) (Or.inl ⟨by rfl, ?_⟩) hHeld ?_
    rotate_left
    · (intro w' hSw; obtain ⟨k0, k1, k2, k3⟩ := hSw; go_simp; try with_reducible rfl)
    try simp only [Act.put, List.setIfInBounds_toArray, List.set_cons_zero, List.set_cons_succ]
    refine wpAnyH_take (i := 4) (v := ?_) opAt_4 (by kernel_rfl) (by kernel_rfl) (by kernel_rfl) (fun _ _ _ h => h) (Or.inl ⟨by rfl, ?_⟩) hHeld ?_
    rotate_left
    · (intro w' hSw; obtain ⟨k0, k1, k2, k3⟩ := hSw; go_simp; try with_reducible rfl)
    try simp only [Act.put, List.setIfInBounds_toArray, List.set_cons_zero, List.set_cons_succ]
    refine wpAnyH_take (i := 5) (v := ?_) opAt_5 (by kernel_rfl) (by kernel_rfl) (by kernel_rfl) (fun _ _ _ h => h) (Or.inl ⟨by rfl, ?_⟩) hHeld ?_
    rotate_left
    · (intro w' hSw; obtain ⟨k0, k1, k2, k3⟩ := hSw; go_simp; try with_reducible rfl)
    try simp only [Act.put, List.setIfInBounds_toArray, List.set_cons_zero, List.set_cons_succ]
    refine wpAnyH_take (i := 6) (v := ?_) opAt_6 (by kernel_rfl) (by kernel_rfl) (by kernel_rfl) (fun _ _ _ h => h) (Or.inl ⟨by rfl, ?_⟩) hHeld ?_
    rotate_left
    · (intro w' hSw; obtain ⟨k0, k1, k2, k3⟩ := hSw; go_simp; try with_reducible rfl)
    try simp only [Act.put, List.setIfInBounds_toArray, List.set_cons_zero, List.set_cons_succ]
    refine wpAnyH_take (i := 7) (v := ?_) opAt_7 (by kernel_rfl) (by kernel_rfl) (by kernel_rfl) (fun _ _ _ h => h) (Or.inl ⟨by rfl, ?_⟩) hHeld ?_
    rotate_left
    · (intro w' hSw; obtain ⟨k0, k1, k2, k3⟩ := hSw; go_simp; try with_reducible rfl)
    try simp only [Act.put, List.setIfInBounds_toArray, List.set_cons_zero, List.set_cons_succ]
    refine wpAnyH_take (i := 8) (v := ?_) opAt_8 (by kernel_rfl) (by kernel_rfl) (by kernel_rfl) (fun _ _ _ h => h) (Or.inl ⟨by rfl, ?_⟩) hHeld ?_
    rotate_left
    · (intro w' hSw; obtain ⟨k0, k1, k2, k3⟩ := hSw; go_simp; try with_reducible rfl)
    try simp only [Act.put, List.setIfInBounds_toArray, List.set_cons_zero, List.set_cons_succ]
    refine wpAnyH_take (i := 9) (v := ?_) opAt_9 (by kernel_rfl) (by kernel_rfl) (by kernel_rfl) (fun _ _ _ h => h) (Or.inl ⟨by rfl, ?_⟩) hHeld ?_
    rotate_left
    · (intro w' hSw; obtain ⟨k0, k1, k2, k3⟩ := hSw; go_simp; try with_reducible rfl)
    try simp only [Act.put, List.setIfInBounds_toArray, List.set_cons_zero, List.set_cons_succ]
    refine wpAnyH_take (i := 10) (v := ?_) opAt_10 (by kernel_rfl) (by kernel_rfl) (by kernel_rfl) (fun _ _ _ h => h) (Or.inl ⟨by rfl, ?_⟩) hHeld ?_
    rotate_left
    · (intro w' hSw; obtain ⟨k0, k1, k2, k3⟩ := hSw; go_simp; try with_reducible rfl)
    try simp only [Act.put, List.setIfInBounds_toArray, List.set_cons_zero, List.set_cons_succ]
    refine wpAnyH_take (i := 11) (v := ?_) opAt_11 (by kernel_rfl) (by kernel_rfl) (by kernel_rfl) (fun _ _ _ h => h) (Or.inl ⟨by rfl, ?_⟩) hHeld ?_
    rotate_left
    · (intro w' hSw; obtain ⟨k0, k1, k2, k3⟩ := hSw; go_simp; try with_reducible rfl)
    try simp only [Act.put, List.setIfInBounds_toArray, List.set_cons_zero, List.set_cons_succ]
    refine wpAnyH_done (by kernel_rfl) ?_ _
    refine NoPanic.normal ?_
    go_wp2_with fail
    go_ret
    exact ⟨rfl, Mut.of_below HF.out HB0.out⟩
  · have hd : decide ((z : Int) > (qu : Int)) = false := decide_eq_false (by omega)
    have hd2 : ¬ (qu : Int) < (z : Int) := by omega
    have HAp : Hid (∀ w1, Below w.heap.size w w1 → Calls Tryz.prog 108 #[.pointer (some ⟨F, 0, none⟩), .slice Ab nb cb] w1 fun e w' => e = .returned (.int .i64 ((appT u qu b t).1 : Int)) ∧ Mut w1 w' F MF R (appT u qu b t).2) := fun w1 hb => by
      by_cases hb0 : b = []
      · have hr : appT u qu b t = (0, t) := by unfold appT; rw [if_neg (by have := Hz.out; have := Hnb.out; omega), if_pos hb0]
        rw [hr]
        have hn0 : nb = 0 := by have := Hnb.out; rw [hb0] at this; simpa using this
        rw [hn0]
        refine (fappend_none F cb Ab).mono ?_
        rintro e w' ⟨rfl, hb'⟩
        exact ⟨rfl, Mut.of_below (HF.out.on hb) hb'⟩
      · have hr : appT u qu b t = (0, t.app b) := by unfold appT; rw [if_neg (by have := Hz.out; have := Hnb.out; omega), if_neg hb0]
        rw [hr]
        exact fappend_m (HF.out.on hb) (HV.out.chg (Chg.of_below (M := fun _ => False) hb) (fun i e => e.elim)) HN.out hb0 (by have := HBg.out; have := Hnb.out; omega)
    generalize appT u qu b t = an at *
    clear hq hu
    go_enter Tryz.func107, Tryz.ntmps107
    go_wp2_with fail
    refine wp_region_noPanic ?_
    refine wp_region_held_drew (S := fun w' => w'.cell? ⟨p, 0, none⟩ = some (.pointer (some ⟨A, 0, none⟩)) ∧ w'.cell? ⟨r, 0, none⟩ = some (.slice Ab nb cb) ∧ w'.cell? ⟨A, 3, none⟩ = some (.int .i64 (u : Int)) ∧ w'.cell? ⟨A, 2, none⟩ = some (.int .i64 (qu : Int))) (by kernel_rfl) ⟨cp, cr, hc3, hc2⟩ (fun hHeld => ?_)
    have cr2 := hHeld.2.1
    clear hc3 hc2 cp cr
    have HB0 : Hid (Below w.heap.size w w.drew) := (Below.refl _ _).drew
    generalize World.drew _ = W at *
    refine wpAnyH_take (i := 0) (v := ?_) opAt_0 (by kernel_rfl) (by kernel_rfl) (by kernel_rfl) (fun _ _ _ h => h) (Or.inl ⟨by rfl, ?_⟩) hHeld ?_
    rotate_left
    · (intro w' hSw; obtain ⟨k0, k1, k2, k3⟩ := hSw; go_simp; try with_reducible rfl)
    try simp only [Act.put, List.setIfInBounds_toArray, List.set_cons_zero, List.set_cons_succ]
    refine wpAnyH_take (i := 1) (v := ?_) opAt_1 (by kernel_rfl) (by kernel_rfl) (by kernel_rfl) (fun _ _ _ h => h) (Or.inl ⟨by rfl, ?_⟩) hHeld ?_
    rotate_left
    · (intro w' hSw; obtain ⟨k0, k1, k2, k3⟩ := hSw; go_simp; try with_reducible rfl)
    try simp only [Act.put, List.setIfInBounds_toArray, List.set_cons_zero, List.set_cons_succ]
    refine wpAnyH_take (i := 2) (v := ?_) opAt_2 (by kernel_rfl) (by kernel_rfl) (by kernel_rfl) (fun _ _ _ h => h) (Or.inl ⟨by rfl, ?_⟩) hHeld ?_
    rotate_left
    · (intro w' hSw; obtain ⟨k0, k1, k2, k3⟩ := hSw; go_simp; try with_reducible rfl)
    try simp only [Act.put, List.setIfInBounds_toArray, List.set_cons_zero, List.set_cons_succ]
    refine wpAnyH_take (i := 3) (v := ?_) opAt_3 (by kernel_rfl) (by kernel_rfl) (by kernel_rfl) (fun _ _ _ h => h) (Or.inl ⟨by rfl, ?_⟩) hHeld ?_
    rotate_left
    · (intro w' hSw; obtain ⟨k0, k1, k2, k3⟩ := hSw; go_simp; try with_reducible rfl)
    try simp only [Act.put, List.setIfInBounds_toArray, List.set_cons_zero, List.set_cons_succ]
    refine wpAnyH_take (i := 4) (v := ?_) opAt_4 (by kernel_rfl) (by kernel_rfl) (by kernel_rfl) (fun _ _ _ h => h) (Or.inl ⟨by rfl, ?_⟩) hHeld ?_
    rotate_left
    · (intro w' hSw; obtain ⟨k0, k1, k2, k3⟩ := hSw; go_simp; try with_reducible rfl)
    try simp only [Act.put, List.setIfInBounds_toArray, List.set_cons_zero, List.set_cons_succ]
    refine wpAnyH_take (i := 5) (v := ?_) opAt_5 (by kernel_rfl) (by kernel_rfl) (by kernel_rfl) (fun _ _ _ h => h) (Or.inl ⟨by rfl, ?_⟩) hHeld ?_
    rotate_left
    · (intro w' hSw; obtain ⟨k0, k1, k2, k3⟩ := hSw; go_simp; try with_reducible rfl)
    try simp only [Act.put, List.setIfInBounds_toArray, List.set_cons_zero, List.set_cons_succ]
    refine wpAnyH_take (i := 6) (v := ?_) opAt_6 (by kernel_rfl) (by kernel_rfl) (by kernel_rfl) (fun _ _ _ h => h) (Or.inl ⟨by rfl, ?_⟩) hHeld ?_
    rotate_left
    · (intro w' hSw; obtain ⟨k0, k1, k2, k3⟩ := hSw; go_simp; try with_reducible rfl)
    try simp only [Act.put, List.setIfInBounds_toArray, List.set_cons_zero, List.set_cons_succ]
    refine wpAnyH_take (i := 7) (v := ?_) opAt_7 (by kernel_rfl) (by kernel_rfl) (by kernel_rfl) (fun _ _ _ h => h) (Or.inl ⟨by rfl, ?_⟩) hHeld ?_
    rotate_left
    · (intro w' hSw; obtain ⟨k0, k1, k2, k3⟩ := hSw; go_simp; try with_reducible rfl)
    try simp only [Act.put, List.setIfInBounds_toArray, List.set_cons_zero, List.set_cons_succ]
    refine wpAnyH_take (i := 8) (v := ?_) opAt_8 (by kernel_rfl) (by kernel_rfl) (by kernel_rfl) (fun _ _ _ h => h) (Or.inl ⟨by rfl, ?_⟩) hHeld ?_
    rotate_left
    · (intro w' hSw; obtain ⟨k0, k1, k2, k3⟩ := hSw; go_simp; try with_reducible rfl)
    try simp only [Act.put, List.setIfInBounds_toArray, List.set_cons_zero, List.set_cons_succ]
    refine wpAnyH_take (i := 9) (v := ?_) opAt_9 (by kernel_rfl) (by kernel_rfl) (by kernel_rfl) (fun _ _ _ h => h) (Or.inl ⟨by rfl, ?_⟩) hHeld ?_
    rotate_left
    · (intro w' hSw; obtain ⟨k0, k1, k2, k3⟩ := hSw; go_simp; try with_reducible rfl)
    try simp only [Act.put, List.setIfInBounds_toArray, List.set_cons_zero, List.set_cons_succ]
    refine wpAnyH_take (i := 10) (v := ?_) opAt_10 (by kernel_rfl) (by kernel_rfl) (by kernel_rfl) (fun _ _ _ h => h) (Or.inl ⟨by rfl, ?_⟩) hHeld ?_
    rotate_left
    · (intro w' hSw; obtain ⟨k0, k1, k2, k3⟩ := hSw; go_simp; try with_reducible rfl)
    try simp only [Act.put, List.setIfInBounds_toArray, List.set_cons_zero, List.set_cons_succ]
    refine wpAnyH_take (i := 11) (v := ?_) opAt_11 (by kernel_rfl) (by kernel_rfl) (by kernel_rfl) (fun _ _ _ h => h) (Or.inl ⟨by rfl, ?_⟩) hHeld ?_
    rotate_left
    · (intro w' hSw; obtain ⟨k0, k1, k2, k3⟩ := hSw; go_simp; try with_reducible rfl)
    try simp only [Act.put, List.setIfInBounds_toArray, List.set_cons_zero, List.set_cons_succ]
    refine wpAnyH_done (by kernel_rfl) ?_ _
    refine NoPanic.normal ?_
    go_wp2_with fail
    refine (HAp.out _ HB0.out).mono ?_
    rintro e w1 ⟨rfl, hm⟩
    have HM := Lib.hid (Mut.after HB0.out hm)
    clear hm
    go_wp2_with fail
    go_ret
    exact ⟨rfl, HM.out⟩
theorem syncT_big (t : FSt) (h : t.Ok) : (syncT t).2.Ok ∧ (syncT t).2.big ≤ t.big + 1200 := ⟨(syncT_ok t h).1, by have := (syncT_ok t h).2; omega⟩
set_option maxRecDepth 100000 in
set_option maxHeartbeats 4000000 in
theorem ksync (hnm : nm.size ≤ maxLen) (h : FsM w A s.used M R s) (hf : FInv s q T) (hT : T ≤ 100000) (hst : s.steps + 1 ≤ 1000000) :
    Calls Tryz.prog 51 #[.pointer (some ⟨A, 0, none⟩), .string nm] w fun e w' => e = .returned (.int .i64 ((stepF s (syncK nm)).1 : Int)) ∧ FsMut w w' A (stepF s (syncK nm)).2.used M R (stepF s (syncK nm)).2 := by
  have HS := Lib.hid (kstepOf (k := syncT) (dcap := #[]) hnm h hf hT hst (fun args w' => enters_of Tryz.func104 (by kernel_rfl) rfl args w') syncT_big
    (fun hb0 w1 hg X B n hv K g MX MF i ha hi hbg => by
      have e1 := (beginF_is s).2.1
      have h1 := ha.files i hi
      rw [e1] at h1
      exact fsync_m h1 (by omega)))
  have e : stepF s (syncK nm) = stepF s (fun s => onF s nm syncT) := rfl
  rw [e]
  clear h hf e
  generalize stepF s (fun s => onF s nm syncT) = an at *
  go_enter Tryz.func51, Tryz.ntmps51
  go_wp2_with fail
  refine HS.out.mono ?_
  rintro e w1 ⟨rfl, hm⟩
  have HM := Lib.hid hm
  clear hm
  go_wp2_with fail
  go_ret
  exact ⟨rfl, HM.out⟩
theorem appT_big (u qu : Nat) {b : List UInt8} (hb : b.length ≤ 1200) (t : FSt) (h : t.Ok) : (appT u qu b t).2.Ok ∧ (appT u qu b t).2.big ≤ t.big + 1200 := ⟨(appT_ok u qu b t h).1, by have := (appT_ok u qu b t h).2; omega⟩
set_option maxRecDepth 100000 in
set_option maxHeartbeats 4000000 in
theorem kappend {v : Value} {b : List UInt8} (hnm : nm.size ≤ maxLen) (h : FsM w A s.used M R s) (hf : FInv s q T) (hT : T ≤ 100000) (hst : s.steps + 1 ≤ 1000000) (hv : BsIn w N v b) (hN : ∀ i, M i → ¬ N i) (hbl : b.length ≤ 1200) :
    Calls Tryz.prog 53 #[.pointer (some ⟨A, 0, none⟩), .string nm, v] w fun e w' => e = .returned (.int .i64 ((stepF s (appendK nm b)).1 : Int)) ∧ FsMut w w' A (stepF s (appendK nm b)).2.used M R (stepF s (appendK nm b)).2 := by
  have hv0 := hv
  obtain ⟨Ab, cb, rfl, _, _⟩ := hv
  obtain ⟨W, hW⟩ : ∃ W, W = (w.alloc (.cells #[.pointer (some ⟨A, 0, none⟩)] 31)).alloc (.cells #[.slice Ab b.length cb] 51) := ⟨_, rfl⟩
  have hb : Below w.heap.size w W := by rw [hW]; exact ((Below.refl _ _).alloc (Nat.le_refl _) _).alloc (by simp) _
  have c0 : W.cell? ⟨w.heap.size, 0, none⟩ = some (.pointer (some ⟨A, 0, none⟩)) := by rw [hW]; exact cell_al (box_new _ _ _ _ rfl) _
  have c1 : W.cell? ⟨w.heap.size + 1, 0, none⟩ = some (.slice Ab b.length cb) := by rw [hW]; exact box_new _ _ _ _ (by simp)
  have hlA := h.ltA
  have hv1 := hv0.chg (Chg.of_below (M := fun _ => False) hb) (fun i e => e.elim)
  have hNA : ∀ i, i = A → ¬ N i := fun i e => by rw [e]; exact hN A h.mA
  have hul := hf.used_le
  have HS := Lib.hid (kstepOf (k := appT s.used s.quota b) (dcap := #[.pointer (some ⟨w.heap.size, 0, none⟩), .pointer (some ⟨w.heap.size + 1, 0, none⟩)]) hnm (h.on hb) hf hT hst (fun args w' => enters_of Tryz.func107 (by kernel_rfl) rfl args w') (fun t ht => appT_big _ _ hbl t ht)
    (fun hb0 w1 hg X B n hv K g MX MF i ha hi hbg => by
      have e1 := beginF_is s
      have h1 := ha.files i hi
      have h2 := ha.cells.c2
      rw [e1.2.1] at h1
      rw [e1.2.2] at h2
      exact kappend1 h1 (by omega) (cell_keep hg (fun e => by omega) c0) (cell_keep hg (fun e => by omega) c1) (hv1.chg hg hNA) (fun j hj => hN j (ha.mF i hi j hj)) hbl ha.cells.c3 h2 (by omega)))
  have HB := Lib.hid hb
  have e : stepF s (appendK nm b) = stepF s (fun s' => onF s' nm (appT s.used s.quota b)) := stepF_congr (by unfold appendK; rw [beginF_used, (beginF_is s).2.2])
  rw [e]
  clear h hf e hb c0 c1 hv0 hv1 hN hNA hul
  generalize stepF s (fun s' => onF s' nm (appT s.used s.quota b)) = an at *
  generalize b.length = nb at *
  go_enter Tryz.func53, Tryz.ntmps53
  go_wp2_with fail
  rw [← hW]
  refine HS.out.mono ?_
  rintro e w1 ⟨rfl, hm⟩
  have HM := Lib.hid (hm.after (Chg.of_below HB.out) (fun _ => .inl) (fun _ => .inl))
  clear hm
  go_wp2_with fail
  go_ret
  exact ⟨rfl, HM.out⟩
end
end Go.Proofs.YtfabodpefbdbjaaGreatDoor

/- JfSee -/

/-
  Layer 7: what tells and what is set: New, On, Size, ReadAt, Fuse.
-/
set_option linter.unusedVariables false
set_option linter.unusedSimpArgs false
namespace Go.Proofs.YtfabodpefbdbjaaGreatDoor
open Go.RowKit Go.Maps

section
variable {w w' : World} {A X B n u q T : Nat} {hv : Value} {K : List Nat} {g : Nat → Nat} {MX M R R' N : Nat → Prop} {MF : Nat → Nat → Prop} {s : FsP} {nm : ByteArray}
theorem FsAt.rise (h : FsAt w A X B n u hv K g MX MF M R s) (hR : ∀ i, R i → R' i) (hM : ∀ i, M i → ¬ R' i) (hl : ∀ i, R' i → i < w.heap.size) : FsAt w A X B n u hv K g MX MF M R' s :=
  { h with
    mr := hM
    rl := hl
    hold := fun ho => (h.hold ho).mono hR
    dir := h.dir.rise hR (fun i hi => hM i (h.mX i hi)) hl
    files := fun i hi => (h.files i hi).rise hR (fun j hj => hM j (h.mF i hi j hj)) hl }
end
end Go.Proofs.YtfabodpefbdbjaaGreatDoor

/-
  Layer 7: New, List.
-/
set_option linter.unusedVariables false
set_option linter.unusedSimpArgs false
namespace Go.Proofs.YtfabodpefbdbjaaGreatDoor
open Go.RowKit Go.Maps

section
variable {w w' : World} {A X B n u q T : Nat} {hv : Value} {K : List Nat} {g : Nat → Nat} {MX M R R' N : Nat → Prop} {MF : Nat → Nat → Prop} {s : FsP} {nm : ByteArray}
set_option maxRecDepth 100000 in
theorem kmayq (w : World) (z : Int) : Calls Tryz.prog 41 #[.int .i64 z] w fun e w' => e = .returned (.bool (decide (0 ≤ z ∧ z ≤ 1073741824))) ∧ w = w' := by
  by_cases h1 : 0 ≤ z
  · by_cases h2 : z ≤ 1073741824
    · have d1 : decide (z ≥ 0) = true := decide_eq_true h1
      have d2 : decide (z ≤ 1073741824) = true := decide_eq_true h2
      go_enter Tryz.func41, Tryz.ntmps41
      go_wp2
      go_ret
      exact ⟨by simp [h1, h2], rfl⟩
    · have d1 : decide (z ≥ 0) = true := decide_eq_true h1
      have d2 : decide (z ≤ 1073741824) = false := decide_eq_false h2
      go_enter Tryz.func41, Tryz.ntmps41
      go_wp2
      go_ret
      exact ⟨by simp [h1, h2], rfl⟩
  · have d1 : decide (z ≥ 0) = false := decide_eq_false (by omega)
    go_enter Tryz.func41, Tryz.ntmps41
    go_wp2
    go_ret
    exact ⟨by simp [h1], rfl⟩
set_option maxRecDepth 100000 in
set_option maxHeartbeats 4000000 in
theorem knew (w : World) (qt : Nat) (hq : qt ≤ 1073741824) :
    Calls Tryz.prog 14 #[.int .i64 (qt : Int)] w fun e w' => ∃ A M, e = .returned (.tuple #[.pointer (some ⟨A, 0, none⟩), .int .i64 0]) ∧ FsM w' A 0 M (fun _ => False) (FsP.new qt) ∧ Below w.heap.size w w' ∧ ∀ i, M i → w.heap.size ≤ i := by
  have HQ := Lib.hid (kmayq w (qt : Int))
  have hd : decide (0 ≤ (qt : Int) ∧ (qt : Int) ≤ 1073741824) = true := decide_eq_true (by omega)
  rw [hd] at HQ
  clear hd
  go_enter Tryz.func14, Tryz.ntmps14
  go_wp2_with (go_at_call 41; refine HQ.out.mono ?_; rintro e w' ⟨rfl, rfl⟩)
  refine (hnew w).mono ?_
  rintro e w1 ⟨X, MX, rfl, hx, hb1, hMX⟩
  have HX := Lib.hid hx
  have HB1 := Lib.hid hb1
  have HMX := Lib.hid hMX
  have hmk := hmkF w1
  clear hx hb1 hMX
  go_wp2_with fail
  go_ret2
  have hb2 : Below w1.heap.size w1 (w1.alloc (.map #[] 0)) := (Below.refl _ _).alloc (Nat.le_refl _) _
  have hsz2 : (w1.alloc (.map #[] 0)).heap.size = w1.heap.size + 1 := by simp
  have hm0 := MapF.new w1 (fun _ => 0)
  have hx2 := HX.out.on hb2
  have hxl := HX.out.2.2.1
  generalize w1.alloc (.map #[] 0) = w2 at *
  have hb3 : Below w2.heap.size w2 (w2.alloc (.cells #[.pointer (some ⟨X, 0, none⟩), .map (some w1.heap.size), .int .i64 (qt : Int), .int .i64 0, .int .i64 0, .bool true, .func (.func 43) #[] #[]] 94)) := (Below.refl _ _).alloc (Nat.le_refl _) _
  have hsz3 : (w2.alloc (.cells #[.pointer (some ⟨X, 0, none⟩), .map (some w1.heap.size), .int .i64 (qt : Int), .int .i64 0, .int .i64 0, .bool true, .func (.func 43) #[] #[]] 94)).heap.size = w2.heap.size + 1 := by simp
  have hc := FsC.new w2 X w1.heap.size qt 0 0 true (.func (.func 43) #[] #[]) 94
  have hs1 := HB1.out.size
  rw [← hsz2]
  refine ⟨w2.heap.size, fun i => MX i ∨ i = w1.heap.size ∨ i = w2.heap.size, rfl, ⟨X, w1.heap.size, 0, .func (.func 43) #[] #[], [], fun _ => 0, MX, fun _ _ => False, ?_, Nat.zero_le _, (fun i hi => absurd hi (by simp)), fun i hi => ?_⟩, (HB1.out.trans (hb2.mono hs1)).trans (hb3.mono (by omega)), ?_⟩
  · refine ⟨fun i _ e => e, ?_, fun i e => e.elim, hc, fun _ => rfl, ⟨_, _, rfl⟩, hm0.on hb3, (fun i hi => absurd hi (by simp)), hx2.on hb3, (fun i hi => absurd hi (by simp)), .inr (.inr rfl), .inr (.inl rfl), fun i => .inl, (fun i hi => absurd hi (by simp)), fun e => ?_, fun e => ?_, (fun i hi => absurd hi (by simp)), (fun i hi => absurd hi (by simp)), (fun i hi => absurd hi (by simp)), (fun i hi => absurd hi (by simp))⟩
    · rintro i (e | e | e)
      · have := hxl i e; omega
      · omega
      · omega
    · have := hxl _ e; omega
    · have := hxl _ e; omega
  · exfalso
    have h1 := (mem_live (s := PSt.new) (Nat.le_refl _)).1 hi
    rcases h1 with ⟨y, hy, _⟩ | h1
    · simp [PSt.new] at hy
    · simp [PSt.new] at h1; omega
  · rintro i (e | e | e)
    · exact HMX.out i e
    · omega
    · omega
end
end Go.Proofs.YtfabodpefbdbjaaGreatDoor

/-
  Layer 7: picks: whether one is below 0, and the next one.
-/
set_option linter.unusedVariables false
set_option linter.unusedSimpArgs false
namespace Go.Proofs.YtfabodpefbdbjaaGreatDoor
open Go.RowKit Go.Maps

/-- The value v is a slice that reads as the numbers l, out of a block of N. -/
def IsR (w : World) (N : Nat → Prop) (v : Value) (l : List Int) : Prop := ∃ A c, v = .slice A l.length c ∧ l.length ≤ c ∧ l.length ≤ 9223372036854775807 ∧ RdR w N A (ivs l)
section
variable {w w' : World} {N N' M : Nat → Prop} {v : Value} {l : List Int}
theorem IsR.chg (h : IsR w N v l) (hc : Chg M w w') (hM : ∀ i, M i → ¬ N i) : IsR w' N v l := by
  obtain ⟨A, c, h1, h2, h3, h4⟩ := h
  exact ⟨A, c, h1, h2, h3, h4.chg hc hM⟩
theorem IsR.on (h : IsR w N v l) (hb : Below w.heap.size w w') : IsR w' N v l := h.chg (Chg.of_below (M := fun _ => False) hb) (fun _ e => e.elim)
theorem IsR.mono (h : IsR w N v l) (hN : ∀ i, N i → N' i) : IsR w N' v l := by
  obtain ⟨A, c, h1, h2, h3, h4⟩ := h
  exact ⟨A, c, h1, h2, h3, h4.mono hN⟩
theorem IsR.at_ (h : IsR w N v l) {A : Option Addr} {n c : Nat} (hv : v = .slice A n c) {j : Nat} {x : Int} (hx : l[j]? = some x) :
    ∃ b o, A = some ⟨b, o, none⟩ ∧ N b ∧ w.cell? ⟨b, o + j, none⟩ = some (.int .i64 x) := by
  obtain ⟨A', c', e, _, _, h2⟩ := h
  rw [hv] at e
  injection e with e _ _
  subst e
  have g1 : (ivs l)[j]? = some (.int .i64 x) := by unfold ivs; rw [List.getElem?_map, hx]; rfl
  obtain ⟨b, o, e2, hb, hc⟩ := h2 (by intro e; rw [e] at g1; simp at g1)
  exact ⟨b, o, e2, hb, hc _ _ g1⟩
end
end Go.Proofs.YtfabodpefbdbjaaGreatDoor

/-
  Layer 7: Crash.
-/
set_option linter.unusedVariables false
set_option linter.unusedSimpArgs false
namespace Go.Proofs.YtfabodpefbdbjaaGreatDoor
open Go.RowKit Go.Maps

end Go.Proofs.YtfabodpefbdbjaaGreatDoor

/- JxSafe -/

/-
  Layer 7: what is safe (plain mathematics): a file that was synced, whose name the folder's Sync saw.
-/
set_option linter.unusedVariables false
set_option linter.unusedSimpArgs false
namespace Go.Proofs.YtfabodpefbdbjaaGreatDoor
open Go.RowKit

theorem KInv.same {k : ByteArray} {r : Option Nat} {s s' : PSt} (h : KInv k r s) (e : s' = s) : KInv k r s' := e ▸ h
section
variable {s : FsP} {k : ByteArray} {r : Option Nat}
theorem stepF_cases (s : FsP) (f : FsP → Nat × FsP) : ((stepF s f) = f (beginF s).2 ∧ (beginF s).1 = 0) ∨ ((stepF s f).1 ≠ 0 ∧ (stepF s f).2 = (beginF s).2) := by
  unfold stepF
  split
  · rename_i h; exact .inl ⟨rfl, h⟩
  · rename_i h; exact .inr ⟨h, rfl⟩
end
/-- a file whose deeds only append: behind k units its safe bytes and a beginning of what was appended -/
theorem adds_behind : ∀ (ds : List Deed) (b : List UInt8), (∀ d ∈ ds, ∃ r, d = Deed.added r) → ∃ t : List UInt8, settleL b (unitsL ds) ds = b ++ t ∧ ∀ k, settleL b k ds = b ++ t.take k
  | [], b, _ => ⟨[], by simp [settleL], fun k => by simp [settleL]⟩
  | d :: ds, b, h => by
    obtain ⟨r, rfl⟩ := h d (by simp)
    obtain ⟨t, h1, h2⟩ := adds_behind ds (b ++ r) (fun x hx => h x (by simp [hx]))
    have key : ∀ k, settleL b k (Deed.added r :: ds) = b ++ (r ++ t).take k := fun k => by
      unfold settleL
      by_cases hk : k ≤ r.length
      · have e1 : min k (Deed.added r).units = k := by simp only [Deed.units]; omega
        rw [e1, Nat.sub_self, settleL_zero, List.take_append_of_le_length hk]
        rfl
      · have e1 : min k (Deed.added r).units = r.length := by simp only [Deed.units]; omega
        rw [e1]
        have e2 : (Deed.added r).act b r.length = b ++ r := by simp [Deed.act]
        rw [e2, h2, List.append_assoc, List.take_append, List.take_of_length_le (l := r) (by omega)]
    refine ⟨r ++ t, ?_, key⟩
    rw [key]
    congr 1
    refine List.take_of_length_le ?_
    have h3 := settleL_length ds (b ++ r) (unitsL ds)
    rw [h1] at h3
    simp only [List.length_append, unitsL, Deed.units] at h3 ⊢
    omega
def nS : ByteArray := { data := #[115, 97, 102, 101] }
/-- the file 'safe' at inode i: b is safe, whole is there -/
structure SafeI (s : FsP) (i : Nat) (b whole : List UInt8) : Prop where
  key : KInv nS (some i) s.dir
  safe : (s.file i).safe = b
  adds : ∀ d ∈ (s.file i).deeds, ∃ r, d = Deed.added r
  bytes : (s.file i).bytes = whole
section
variable {s : FsP} {i q T : Nat} {b whole : List UInt8}
theorem SafeI.now (h : SafeI s i b whole) (hf : FInv s q T) : findL s.dir.now nS = some i := h.key.now hf.dir
theorem mayS : mayN nS = true := by decide
theorem nodeF_safe {s : FsP} (h : findL s.dir.now nS = some i) : nodeF s nS = (0, i) := by
  unfold nodeF
  rw [if_neg (by simp [mayS]), h]
/-- an append to it -/
theorem SafeI.append (h : SafeI s i b whole) (hf : FInv s q T) (r : List UInt8) : SafeI (stepF s (appendK nS r)).2 i b (if (stepF s (appendK nS r)).1 = 0 then whole ++ r else whole) := by
  have hb := beginF_is s
  have h0 : SafeI (beginF s).2 i b whole := ⟨hb.1 ▸ h.key, by rw [hb.2.1]; exact h.safe, by rw [hb.2.1]; exact h.adds, by rw [hb.2.1]; exact h.bytes⟩
  rcases stepF_cases s (appendK nS r) with ⟨e, _⟩ | ⟨e1, e2⟩
  · rw [e]
    have hn := nodeF_safe (s := (beginF s).2) (i := i) (by rw [hb.1]; exact h.now hf)
    unfold appendK onF
    rw [hn]
    simp only [if_true]
    unfold appT
    split
    · rw [if_neg (by simp)]
      exact ⟨h0.key, by simp only [upd_same]; exact h0.safe, by simp only [upd_same]; exact h0.adds, by simp only [upd_same]; exact h0.bytes⟩
    · split
      · rename_i hr
        subst hr
        rw [if_pos rfl, List.append_nil]
        exact ⟨h0.key, by simp only [upd_same]; exact h0.safe, by simp only [upd_same]; exact h0.adds, by simp only [upd_same]; exact h0.bytes⟩
      · rw [if_pos rfl]
        refine ⟨h0.key, by simp only [upd_same]; exact h0.safe, ?_, ?_⟩
        · simp only [upd_same]
          intro d hd
          rcases List.mem_append.1 hd with h1 | h1
          · exact h0.adds d h1
          · simp at h1; exact ⟨r, h1⟩
        · simp only [upd_same]
          rw [FSt.app_bytes, h0.bytes]
  · rw [if_neg e1, e2]
    exact h0
/-- behind a crash: its safe bytes, and a beginning of what was appended -/
theorem SafeI.crash (h : SafeI s i b whole) (hf : FInv s q T) (picks : List Int) (hp : picks.any (· < 0) = false) :
    (crashK s picks).1 = 0 ∧ (crashK s picks).2.off = false ∧ findL (crashK s picks).2.dir.now nS = some i ∧ ∃ t, whole = b ++ t ∧ ∃ k, ((crashK s picks).2.file i).bytes = b ++ t.take k := by
  unfold crashK
  rw [if_neg (by simp [hp])]
  have hk := h.key.settle hf.dir (pickAt picks 0 % (s.dir.deeds.length + 1))
  have hnow : findL (crashD s picks).now nS = some i := hk.now (PSt.settle_ok hf.dir _)
  refine ⟨rfl, rfl, hnow, ?_⟩
  obtain ⟨t, h1, h2⟩ := adds_behind (s.file i).deeds (s.file i).safe h.adds
  have hw : whole = b ++ t := by
    rw [← h.bytes, ← (hf.files i).whole, ← h.safe]
    exact h1
  refine ⟨t, hw, ?_⟩
  show ∃ k, (crashT picks (inosL (crashD s picks).safe) s.file i).bytes = b ++ t.take k
  unfold crashT
  split
  · refine ⟨pickAt picks ((inosL (crashD s picks).safe).idxOf i + 1) % ((s.file i).loose + 1), ?_⟩
    rw [FSt.settled_bytes, ← h.safe]
    exact h2 _
  · refine ⟨t.length, ?_⟩
    rw [List.take_length, ← hw]
    exact h.bytes
end
end Go.Proofs.YtfabodpefbdbjaaGreatDoor

/- JfLive -/

/-
  Layer 7: a file system in new memory; what the document's examples make (plain mathematics).
-/
set_option linter.unusedVariables false
set_option linter.unusedSimpArgs false
namespace Go.Proofs.YtfabodpefbdbjaaGreatDoor
open Go.RowKit Go.Maps

/-- a file system in memory that is new since w -/
structure FLive (w wk : World) (A : Nat) (M R : Nat → Prop) (s : FsP) : Prop where
  fs : FsM wk A s.used M R s
  below : Below w.heap.size w wk
  newM : ∀ i, M i → w.heap.size ≤ i
  newR : ∀ i, R i → w.heap.size ≤ i
section
variable {w wk w' : World} {A : Nat} {M R N : Nat → Prop} {s s' : FsP}
theorem FLive.on (h : FLive w wk A M R s) (hb : Below wk.heap.size wk w') : FLive w w' A M R s := ⟨h.fs.on hb, h.below.trans (hb.mono h.below.size), h.newM, h.newR⟩
theorem FLive.step (h : FLive w wk A M R s) (hm : FsMut wk w' A s'.used M R s') : ∃ M' R', FLive w w' A M' R' s' ∧ Chg M wk w' ∧ (∀ i, M' i → M i ∨ wk.heap.size ≤ i) ∧ (∀ i, R' i → R i ∨ wk.heap.size ≤ i) := by
  obtain ⟨M', R', h1, h2, h3, h4⟩ := hm
  have hs := h.below.size
  exact ⟨M', R', ⟨h1, h.below.trans (h2.below hs h.newM), fun i hi => (h3 i hi).elim (h.newM i) (fun e => by omega), fun i hi => (h4 i hi).elim (h.newR i) (fun e => by omega)⟩, h2, h3, h4⟩
theorem FLive.chg (h : FLive w wk A M R s) (hc : Chg N wk w') (hN : ∀ i, N i → ¬ M i ∧ ¬ R i ∧ w.heap.size ≤ i) : FLive w w' A M R s :=
  ⟨h.fs.chg hc (fun i hi => ⟨(hN i hi).1, (hN i hi).2.1⟩), h.below.trans (hc.below h.below.size (fun i hi => (hN i hi).2.2)), h.newM, h.newR⟩
end
def nA7 : ByteArray := { data := #[97] }
def wk0 : FsP := FsP.new 10
def wk1 : FsP := (stepF wk0 (createK nA7)).2
theorem wc1 : (stepF wk0 (createK nA7)).1 = 0 := by kernel_rfl
theorem finv_step {s : FsP} {q T : Nat} (h : FInv s q T) (hq : q ≤ 1000) {k : FsP → Nat × FsP} (hk : ∀ t, FInv t q T → FInv (k t).2 (q + 1) (T + 60)) : FInv (stepF s k).2 (q + 1) (T + 60) := h.step (Nat.le_succ _) (Nat.le_add_right _ _) (fun h0 => hk _ h0)
section
variable {s : FsP} {q T : Nat}
theorem FInv.c_create (h : FInv s q T) (hq : q ≤ 1000) (n : ByteArray) : FInv (stepF s (createK n)).2 (q + 1) (T + 60) := finv_step h hq (fun t ht => (ht.createK_ hq n).mono (Nat.le_refl _) (Nat.le_add_right _ _))
theorem FInv.c_append (h : FInv s q T) (hq : q ≤ 1000) (n : ByteArray) {b : List UInt8} (hb : b.length ≤ 60) : FInv (stepF s (appendK n b)).2 (q + 1) (T + 60) := finv_step h hq (fun t ht => (ht.onF_ n b.length (fun t ht => appT_ok _ _ _ t ht)).mono (Nat.le_succ _) (by omega))
theorem FInv.c_sync (h : FInv s q T) (hq : q ≤ 1000) (n : ByteArray) : FInv (stepF s (syncK n)).2 (q + 1) (T + 60) := finv_step h hq (fun t ht => (ht.onF_ n 0 (fun t ht => syncT_ok t ht)).mono (Nat.le_succ _) (by omega))
theorem FInv.c_syncdir (h : FInv s q T) (hq : q ≤ 1000) : FInv (stepF s syncDirK).2 (q + 1) (T + 60) := finv_step h hq (fun t ht => (finv_syncdir ht hq).mono (Nat.le_refl _) (by omega))
end
end Go.Proofs.YtfabodpefbdbjaaGreatDoor

