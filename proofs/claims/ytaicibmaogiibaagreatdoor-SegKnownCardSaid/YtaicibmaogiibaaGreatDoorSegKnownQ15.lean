/-
  SegKnown, part 15 of what the law's proof leans on: SxSort, HxIno, HxWalk, JxPlain, JfMem, JxShelf.
-/
import Derived.Test.YtaicibmaogiibaaGreatDoorSegKnownQ11
import Derived.Test.YtaicibmaogiibaaGreatDoorSegKnownQ13
import Derived.Test.YtaicibmaogiibaaGreatDoorSegKnownQ9
import Derived.Test.YtaicibmaogiibaaGreatDoorSegKnownQ1
import Derived.Test.YtaicibmaogiibaaGreatDoorSegKnownQ14
import Derived.Maps.OwnSet
import Derived.Maps.Range
import Derived.Laws.Cover3
import Derived.MapFrom
import Derived.Deep.LoopGhost
import Derived.Deep.RegionHeld3
/- SxSort -/

/-
  slices.Sort, slices.Sorted at uint64, of a row of at most 200.
-/
set_option linter.unusedVariables false
set_option linter.unusedSimpArgs false
namespace Go.Proofs.YtaicibmaogiibaaGreatDoor
open Go.RowKit Go.Sort Go.Shelf

/-- the inodes of entries, rising -/
def inosL (es : List Ent) : List Nat := (es.map (·.2)).mergeSort (fun a b => decide (a ≤ b))
theorem inosL_perm (es : List Ent) : (inosL es).Perm (es.map (·.2)) := List.mergeSort_perm _ _
theorem inosL_le (es : List Ent) : (inosL es).Pairwise (· ≤ ·) := by
  have := List.pairwise_mergeSort (le := fun a b : Nat => decide (a ≤ b)) (by intro a b c h1 h2; simp at *; omega) (by intro a b; simp; omega) (es.map (·.2))
  exact this.imp (by intro a b h; simpa using h)
theorem sorted_eq {xs ys : List Nat} (hp : ys.Perm xs) (hx : xs.Pairwise (· ≤ ·)) (hy : ys.Pairwise (· ≤ ·)) : ys = xs :=
  List.Perm.eq_of_pairwise (le := fun a b : Nat => a ≤ b) (fun a b _ _ h1 h2 => Nat.le_antisymm h1 h2) hy hx hp
/-- a row that one owns, as the sort takes it -/
theorem rowU_of_own {w : World} {base n : Nat} {v : Value} {xs : List Nat} (h : w.ownsRow base 37 1 v n (xs.map encU)) :
    (v = .slice none 0 0 ∧ n = 0 ∧ xs = []) ∨ ∃ g cap, v = slU g 0 n cap ∧ n = (xs.map (fun x : Nat => (x : Int))).toArray.size ∧ base ≤ g ∧ cap ≤ maxLen ∧ RowU w g 0 cap (xs.map (fun x : Nat => (x : Int))).toArray := by
  have hl : xs.length = n := by have := h.1; simpa using this
  rcases h.2 with ⟨rfl, h0⟩ | ⟨g, cap, cur, rfl, hb, hg, hc, hm, hs, ht⟩
  · exact .inl ⟨rfl, h0, List.eq_nil_of_length_eq_zero (by omega)⟩
  · refine .inr ⟨g, cap, rfl, by simp [hl], hb, hm, cur, hg, by simpa using hs, by simp [hl]; omega, fun t ht2 => ?_⟩
    simp only [List.size_toArray, List.length_map] at ht2
    rw [Nat.mul_one] at ht
    have h1 : (cur.toList.take n)[t]? = (xs.map encU)[t]? := by rw [ht]
    rw [List.getElem?_take, if_pos (by omega), Array.getElem?_toList] at h1
    rw [Nat.zero_add, h1]
    simp [getElem!_def, List.getElem?_eq_getElem ht2, encU]
theorem own_of_rowU {w : World} {base n g cap : Nat} {d : Array Int} {ys : List Nat} (hd : d = (ys.map (fun x : Nat => (x : Int))).toArray) (hn : n = ys.length) (hb : base ≤ g) (hm : cap ≤ maxLen) (h : RowU w g 0 cap d) :
    w.ownsRow base 37 1 (slU g 0 n cap) n (ys.map encU) := by
  obtain ⟨cur, hg, hs, hle, hc⟩ := h
  subst hd hn
  simp only [List.size_toArray, List.length_map, Nat.zero_add] at hle hc
  refine ⟨by simp, .inr ⟨g, cap, cur, rfl, hb, hg, hle, hm, by omega, ?_⟩⟩
  rw [Nat.mul_one]
  refine List.ext_getElem? fun t => ?_
  by_cases ht : t < ys.length
  · rw [List.getElem?_take, if_pos ht, Array.getElem?_toList, hc t ht]
    simp [getElem!_def, List.getElem?_eq_getElem ht, encU]
  · rw [List.getElem?_take, if_neg ht, List.getElem?_eq_none (by simp; omega)]
set_option maxRecDepth 100000 in
theorem hsortU {w : World} {base n : Nat} {v : Value} {xs : List Nat} (h : w.ownsRow base 37 1 v n (xs.map encU)) (hbs : base ≤ w.heap.size) (hn : n ≤ 200) :
    Calls Tryz.prog 138 #[v] w fun e w' => (∃ u, e = .returned u) ∧ ∃ ys : List Nat, ys.Perm xs ∧ ys.Pairwise (· ≤ ·) ∧ w'.ownsRow base 37 1 v n (ys.map encU) ∧ Below base w w' := by
  rcases rowU_of_own h with ⟨rfl, rfl, rfl⟩ | ⟨g, cap, rfl, hnd, hb, hm, hrow⟩
  · refine (hsort0 w).mono ?_
    rintro e w' ⟨hu, rfl⟩
    exact ⟨hu, [], List.Perm.refl _, List.Pairwise.nil, h, Below.refl _ _⟩
  · obtain ⟨d, hd⟩ : ∃ d, d = (xs.map (fun x : Nat => (x : Int))).toArray := ⟨_, rfl⟩
    rw [← hd] at hrow hnd
    have Hd := Lib.hid hd
    have HR := Lib.hid hrow
    clear h hd hrow
    subst hnd
    have hfin : ∀ (w' : World) (d' : Array Int), PermIn 0 d.size d d' → SortedIn ltInt 0 d.size d' → StU w w' g 0 cap d' → ∃ ys : List Nat, ys.Perm xs ∧ ys.Pairwise (· ≤ ·) ∧ w'.ownsRow base 37 1 (slU g 0 d.size cap) d.size (ys.map encU) ∧ Below base w w' := by
      intro w' d' hp hs hst
      have hsz := hp.1
      have hpm := hp.2.2
      have e1 : d'.extract 0 d.size = d' := by rw [← hsz]; simp
      have e2 : d.extract 0 d.size = d := by simp
      rw [e1, e2] at hpm
      have hall : ∀ x ∈ d'.toList, ∃ k : Nat, x = (k : Int) := fun x hx => by
        have h1 := hpm.mem_iff.1 hx
        rw [Hd.out] at h1
        obtain ⟨k, _, rfl⟩ := List.mem_map.1 (by simpa using h1)
        exact ⟨k, rfl⟩
      have hys : d' = ((d'.toList.map Int.toNat).map (fun x : Nat => (x : Int))).toArray := by
        apply Array.ext'
        rw [List.map_map]
        refine (List.map_id _).symm.trans (List.map_congr_left fun x hx => ?_)
        obtain ⟨k, rfl⟩ := hall x hx
        simp
      refine ⟨d'.toList.map Int.toNat, ?_, ?_, own_of_rowU hys (by simp [hsz]) hb hm hst.row, hst.chg.below hbs (fun i e => by subst e; exact hb)⟩
      · have := hpm.map Int.toNat
        rw [Hd.out] at this
        have e3 : ((xs.map (fun x : Nat => (x : Int))).toArray.toList.map Int.toNat) = xs := by
          rw [show (xs.map (fun x : Nat => (x : Int))).toArray.toList = xs.map (fun x : Nat => (x : Int)) from rfl, List.map_map]
          exact (List.map_congr_left fun x _ => by simp).trans (List.map_id _)
        rw [e3] at this
        exact this
      · rw [List.pairwise_map, List.pairwise_iff_getElem]
        intro i j hi hj hij
        have h1 := hs i j (Nat.zero_le _) hij (by simpa [hsz] using hj)
        have hi' : i < d'.size := by simpa using hi
        have hj' : j < d'.size := by simpa using hj
        rw [getElem!_pos d' j hj', getElem!_pos d' i hi'] at h1
        simp only [ltInt, decide_eq_false_iff_not] at h1
        simp only [Array.getElem_toList]
        omega
    have HF := Lib.hid hfin
    clear hfin hbs hb
    obtain ⟨n, hn'⟩ : ∃ n, n = d.size := ⟨_, rfl⟩
    have Hn := Lib.hid hn'
    rw [← hn'] at hn ⊢
    clear hn'
    have hwn : IntKind.u64.wrap (n : Int) = (n : Int) := IntWalk.u64_in _ (by omega)
    unfold slU
    go_enter Tryz.func138, Tryz.ntmps138
    go_wp2_with (go_at_call 171; refine (hlen n _ (by omega)).mono ?_; rintro e w1 ⟨⟨k, rfl, hk⟩, rfl⟩)
    have hc := hpdq (n + 1) g 0 cap cap 0 n k d w1 (by omega) HR.out (by omega) (by have := Hn.out; omega) (by have := Hn.out; omega) (by have := hk.1; omega) (.inl rfl)
    unfold slU at hc
    rw [← Hn.out] at hc
    have HC := Lib.hid hc
    clear hc
    go_wp2_with (go_at_call 170; refine (HC.out).mono ?_; rintro e w2 ⟨⟨u, rfl⟩, hw2⟩)
    go_end0
    obtain ⟨d', h1, h2, h3⟩ := hw2
    have := Hn.out
    subst this
    exact ⟨⟨_, rfl⟩, HF.out _ _ h1 h2 h3⟩
/-- slices.Sorted at uint64 -/
theorem hsortedU {w : World} (g : Nat) (lb : Array Value) (eg : ∀ args w, (callFunc g args).run Tryz.prog w = .ok (.enter g args) w) (S : List Nat → Prop) (N : Nat) (hN : N ≤ 1000000) (hS : ∀ xs, S xs → xs.length ≤ 200)
    (hseq : ∀ n, 1 ≤ n → SeqStops Fence.wide n Tryz.prog g lb encU S (fun _ => True) N w) :
    Calls Tryz.prog 99 #[.func (.func g) #[] lb] w fun e w' => ∃ (v : Value) (xs ys : List Nat), e = .returned v ∧ S xs ∧ ys.Perm xs ∧ ys.Pairwise (· ≤ ·) ∧ w'.ownsRow w.heap.size 37 1 v ys.length (ys.map encU) ∧ Below w.heap.size w w' := by
  have hc := hcollect g lb eg S N hN hseq
  have HS := Lib.hid hS
  clear hS
  go_enter Tryz.func99, Tryz.ntmps99
  go_wp2_with fail
  refine hc.mono ?_
  rintro e w' ⟨v, xs, rfl, hxs, hrow, hnil, hb⟩
  have hl := HS.out xs hxs
  have HX := Lib.hid hxs
  have HB := Lib.hid hb
  have HR := Lib.hid hrow
  clear hxs hrow hnil hb hseq
  go_wp2_with fail
  refine (hsortU HR.out HB.out.size hl).mono ?_
  rintro e w2 ⟨⟨u, rfl⟩, ys, h1, h2, h3, h4⟩
  go_wp2_with fail
  go_ret
  exact ⟨_, xs, ys, rfl, HX.out, h1, h2, by rw [h1.length_eq]; exact h3, HB.out.trans h4⟩
/-- the inodes of a map, rising -/
theorem sortedAt {w : World} {b : Nat} {es : List Ent} (h : MapAt w b es) (hl : es.length ≤ 200) : SortedAt w b (inosL es) := by
  have h1 : MapAt (w.alloc (.cells #[.map (some b)] 122)) b es := h.on ((Below.refl _ _).alloc (Nat.le_refl _) _)
  refine (hsortedU 139 #[.pointer (some ⟨w.heap.size, 0, none⟩)] (enters_of Tryz.func139 (by kernel_rfl) rfl) _ es.length (by omega) ?_
    (fun n hn => hvals_stops n hn w.heap.size b es _ (by simp) (by simp) h1)).mono ?_
  · rintro xs ⟨ps, _, hp, rfl⟩
    rw [List.length_map, hp.length_eq]
    exact hl
  · rintro e w' ⟨v, xs, ys, rfl, ⟨ps, hc, hp, rfl⟩, hys, hso, ho, hb⟩
    have he : ys = inosL es := sorted_eq (hys.trans ((hp.map _).trans (inosL_perm es).symm)) (inosL_le es) hso
    subst he
    exact ⟨v, rfl, by simpa using ho, by simpa using hb⟩
end Go.Proofs.YtaicibmaogiibaaGreatDoor

/- HxIno -/

/-
  Layer 6: inodes: which a folder's names lead to, and which are live.
-/
set_option linter.unusedVariables false
set_option linter.unusedSimpArgs false
namespace Go.Proofs.YtaicibmaogiibaaGreatDoor
open Go.RowKit Go.Maps

/-- entries that may be, at inodes from 1 to L, no two at one -/
def Good (L : Nat) (s : List Ent) : Prop := (∀ x ∈ s, mayN x.1 = true ∧ 1 ≤ x.2 ∧ x.2 ≤ L) ∧ ∀ x ∈ s, ∀ y ∈ s, x.2 = y.2 → x = y
theorem Good.nil_ (L : Nat) : Good L [] := ⟨fun _ h => absurd h (by simp), fun _ h => absurd h (by simp)⟩
theorem Good.mono {L L' : Nat} {s : List Ent} (h : Good L s) (hl : L ≤ L') : Good L' s := ⟨fun x hx => ⟨(h.1 x hx).1, (h.1 x hx).2.1, Nat.le_trans (h.1 x hx).2.2 hl⟩, h.2⟩
theorem Good.mk_ {L : Nat} {s : List Ent} (h : Good L s) {n : ByteArray} (hn : mayN n = true) : Good (L + 1) (withL s n (L + 1)) := by
  refine ⟨fun x hx => ?_, fun x hx y hy e => ?_⟩
  · rcases mem_withL.1 hx with rfl | ⟨h1, _⟩
    · exact ⟨hn, by simp, Nat.le_refl _⟩
    · exact (h.mono (Nat.le_succ L)).1 x h1
  · rcases mem_withL.1 hx with rfl | ⟨h1, _⟩
    · rcases mem_withL.1 hy with rfl | ⟨h2, _⟩
      · rfl
      · have h3 := (h.1 y h2).2.2
        simp only at e
        omega
    · rcases mem_withL.1 hy with rfl | ⟨h2, _⟩
      · have h3 := (h.1 x h1).2.2
        simp only at e
        omega
      · exact h.2 x h1 y h2 e
theorem Good.rm {L : Nat} {s : List Ent} (h : Good L s) (n : ByteArray) : Good L (withoutL s n) :=
  ⟨fun x hx => h.1 x (mem_withoutL.1 hx).1, fun x hx y hy e => h.2 x (mem_withoutL.1 hx).1 y (mem_withoutL.1 hy).1 e⟩
theorem Good.mv {L : Nat} {s : List Ent} (h : Good L s) {a b : ByteArray} {i : Nat} (ha : (a, i) ∈ s) (hb : mayN b = true) : Good L (withoutL (withL s b i) a) := by
  refine ⟨fun x hx => ?_, fun x hx y hy e => ?_⟩
  · rcases mem_withL.1 (mem_withoutL.1 hx).1 with rfl | ⟨h1, _⟩
    · exact ⟨hb, (h.1 _ ha).2⟩
    · exact h.1 x h1
  · obtain ⟨hx1, hx2⟩ := mem_withoutL.1 hx
    obtain ⟨hy1, hy2⟩ := mem_withoutL.1 hy
    rcases mem_withL.1 hx1 with rfl | ⟨h1, _⟩
    · rcases mem_withL.1 hy1 with rfl | ⟨h2, _⟩
      · rfl
      · have := h.2 _ ha y h2 e
        subst this
        exact absurd rfl hy2
    · rcases mem_withL.1 hy1 with rfl | ⟨h2, _⟩
      · have := h.2 x h1 _ ha e
        subst this
        exact absurd rfl hx2
      · exact h.2 x h1 y h2 e
/-- what stands behind k deeds -/
def PSt.at_ (s : PSt) (k : Nat) : List Ent := doAll s.safe (s.deeds.take k)
theorem PSt.at_all (s : PSt) : s.at_ s.deeds.length = s.now := by unfold PSt.at_ PSt.now; rw [List.take_of_length_le (Nat.le_refl _)]
theorem PSt.at_zero (s : PSt) : s.at_ 0 = s.safe := by unfold PSt.at_; simp [doAll]
theorem PSt.at_push {s : PSt} {d : Dd} {k : Nat} (hk : k ≤ s.deeds.length) : (s.push d).at_ k = s.at_ k := by unfold PSt.at_ PSt.push; rw [List.take_append_of_le_length hk]
theorem PSt.at_push_all (s : PSt) (d : Dd) : (s.push d).at_ (s.deeds.length + 1) = d.app s.now := by
  have h := (s.push d).at_all
  rw [show (s.push d).deeds.length = s.deeds.length + 1 by simp [PSt.push]] at h
  rw [h, PSt.push_now]
/-- an inode that was there at the safe state, or that was made since -/
def Old (s : PSt) (i : Nat) : Prop := (∃ y ∈ s.safe, y.2 = i) ∨ s.settled < i
structure GInv (s : PSt) : Prop where
  safe : Good s.settled s.safe
  pre : ∀ k, k ≤ s.deeds.length → Good s.last (s.at_ k)
  old : ∀ k, k ≤ s.deeds.length → ∀ x ∈ s.at_ k, Old s x.2
theorem GInv.new : GInv PSt.new := ⟨Good.nil_ _, fun k _ => by unfold PSt.at_ PSt.new; simp [doAll]; exact Good.nil_ _, fun k _ x hx => by unfold PSt.at_ PSt.new at hx; simp [doAll] at hx⟩
section
variable {s : PSt}
theorem GInv.now (h : GInv s) : Good s.last s.now := by rw [← s.at_all]; exact h.pre _ (Nat.le_refl _)
theorem GInv.now_old (h : GInv s) : ∀ x ∈ s.now, Old s x.2 := by rw [← s.at_all]; exact h.old _ (Nat.le_refl _)
theorem GInv.push (h : GInv s) {d : Dd} (h1 : Good s.last (d.app s.now)) (h2 : ∀ x ∈ d.app s.now, Old s x.2) : GInv (s.push d) := by
  refine ⟨h.safe, fun k hk => ?_, fun k hk x hx => ?_⟩
  · by_cases e : k ≤ s.deeds.length
    · rw [PSt.at_push e]; exact h.pre k e
    · have e2 : k = s.deeds.length + 1 := by simp [PSt.push] at hk; omega
      subst e2
      rw [PSt.at_push_all]
      exact h1
  · by_cases e : k ≤ s.deeds.length
    · rw [PSt.at_push e] at hx; exact h.old k e x hx
    · have e2 : k = s.deeds.length + 1 := by simp [PSt.push] at hk; omega
      subst e2
      rw [PSt.at_push_all] at hx
      exact h2 x hx
theorem GInv.settle (h : GInv s) {k : Nat} (hk : k ≤ s.deeds.length) : GInv (s.settle k) := by
  have h1 := h.pre k hk
  refine ⟨h1, fun j hj => ?_, fun j hj x hx => ?_⟩
  · have : j = 0 := by simp [PSt.settle] at hj; omega
    subst this
    rw [PSt.at_zero]
    exact h1
  · have : j = 0 := by simp [PSt.settle] at hj; omega
    subst this
    rw [PSt.at_zero] at hx
    exact .inl ⟨x, hx, rfl⟩
theorem GInv.made (h : GInv s) (hs : s.settled ≤ s.last) {n : ByteArray} (hn : mayN n = true) : GInv (s.made n) := by
  have h0 : GInv { s with last := s.last + 1 } := ⟨h.safe, fun k hk => (h.pre k hk).mono (Nat.le_succ _), h.old⟩
  refine h0.push (h.now.mk_ hn) (fun x hx => ?_)
  rcases mem_withL.1 hx with rfl | ⟨h1, _⟩
  · exact .inr (Nat.lt_succ_of_le hs)
  · exact h.now_old x h1
theorem GInv.doP (h : GInv s) (ho : s.Ok) (c : Call6) : GInv (doP s c).2.2 := by
  rcases doP_cases s c with e | ⟨e, _, _, hn, _⟩ | ⟨e, _, _, ha, hb, hf, hne⟩ | ⟨e, _⟩ | ⟨k, hk, e, _⟩
  · rw [e]; exact h
  · rw [e]; exact h.made ho.settled hn
  · rw [e]
    obtain ⟨i, hi⟩ := Option.isSome_iff_exists.1 hf
    have hm := findL_mem hi
    have e2 : (Dd.mv c.name c.dst6).app s.now = withoutL (withL s.now c.dst6 i) c.name := by simp [Dd.app, hi]
    refine h.push (by rw [e2]; exact h.now.mv hm hb) (fun x hx => ?_)
    rw [e2] at hx
    rcases mem_withL.1 (mem_withoutL.1 hx).1 with rfl | ⟨h1, _⟩
    · exact h.now_old (c.name, i) hm
    · exact h.now_old x h1
  · rw [e]; exact h.push (h.now.rm _) (fun x hx => h.now_old x (mem_withoutL.1 hx).1)
  · rw [e]; exact h.settle hk
/-- what Live tells -/
def PSt.live (s : PSt) : List Nat := liveP (inosL s.safe) s.settled s.last
theorem mem_live (hs : s.settled ≤ s.last) {i : Nat} : i ∈ s.live ↔ (∃ y ∈ s.safe, y.2 = i) ∨ (s.settled < i ∧ i ≤ s.last) := by
  unfold PSt.live liveP
  rw [List.mem_append, (inosL_perm s.safe).mem_iff, List.mem_map, List.mem_range'_1]
  constructor
  · rintro (h | h)
    · exact .inl h
    · exact .inr (by omega)
  · rintro (h | h)
    · exact .inl h
    · exact .inr (by omega)
theorem GInv.live_le (h : GInv s) (hs : s.settled ≤ s.last) : ∀ i ∈ s.live, 1 ≤ i ∧ i ≤ s.last := fun i hi => by
  rcases (mem_live hs).1 hi with ⟨y, hy, rfl⟩ | h1
  · have := (h.safe.1 y hy).2; omega
  · omega
theorem GInv.live_now (h : GInv s) (hs : s.settled ≤ s.last) : ∀ x ∈ s.now, x.2 ∈ s.live := fun x hx => by
  rcases h.now_old x hx with h1 | h1
  · exact (mem_live hs).2 (.inl h1)
  · exact (mem_live hs).2 (.inr ⟨h1, (h.now.1 x hx).2.2⟩)
theorem GInv.live_lt (h : GInv s) (ho : s.Ok) : s.live.Pairwise (· < ·) := by
  unfold PSt.live liveP
  refine List.pairwise_append.2 ⟨?_, List.pairwise_lt_range' , fun a ha b hb => ?_⟩
  · have hnd : (inosL s.safe).Nodup := by
      refine (inosL_perm s.safe).nodup_iff.2 ?_
      exact List.pairwise_map.2 (ho.safe.1.nodup.imp_of_mem (fun {a b} ha hb hn e => hn (h.safe.2 a ha b hb e)))
    exact List.Pairwise.imp₂ (fun a b h1 h2 => Nat.lt_of_le_of_ne h1 h2) (inosL_le s.safe) hnd
  · obtain ⟨y, hy, rfl⟩ := List.mem_map.1 ((inosL_perm s.safe).mem_iff.1 ha)
    have h1 := (h.safe.1 y hy).2.2
    have h2 := (List.mem_range'_1.1 hb).1
    omega
theorem told_make {c : Call6} (hw : 0 ≤ c.what ∧ c.what ≤ 2) : ((doP s c).2.1 = 0 ∧ (doP s c).1 = s.last + 1 ∧ (doP s c).2.2.last = s.last + 1) ∨ ((doP s c).2.1 ≠ 0 ∧ (doP s c).1 = 0 ∧ (doP s c).2.2.last = s.last) := by
  have e : doP s c = createP s c.name := by unfold Go.Proofs.YtaicibmaogiibaaGreatDoor.doP; rw [if_pos (by omega)]
  rw [e]
  unfold createP
  split
  · exact .inr ⟨by simp, rfl, rfl⟩
  · split
    · exact .inr ⟨by simp, rfl, rfl⟩
    · split
      · exact .inr ⟨by simp, rfl, rfl⟩
      · exact .inl ⟨rfl, rfl, rfl⟩
end
end Go.Proofs.YtaicibmaogiibaaGreatDoor

/- HxWalk -/

/-
  Layer 6: rows of entries and of inodes that a call told, in blocks of their own; the program's calls over a folder in memory.
-/
set_option linter.unusedVariables false
set_option linter.unusedSimpArgs false
namespace Go.Proofs.YtaicibmaogiibaaGreatDoor
open Go.RowKit Go.Maps

theorem rdR_of_own {w : World} {base n c : Nat} {e : TypeId} {size : Nat} {A : Option Addr} {xs : List Value} (h : w.ownsRow base e size (.slice A n c) n xs) : RdR w (fun i => base ≤ i ∧ i < w.heap.size) A xs := fun hx => by
  obtain ⟨b, o, e, hb, hc⟩ := Rd.of_own h hx
  exact ⟨b, o, e, ⟨(h.lt b (by rw [e]; rfl)).1, hb⟩, hc⟩
/-- The value v is a slice that reads as the entries l, out of a block of R. -/
def EsR (w : World) (R : Nat → Prop) (v : Value) (l : List Ent) : Prop := ∃ A c, v = .slice A l.length c ∧ l.length ≤ c ∧ c ≤ maxLen ∧ RdR w R A (evs l)
def UsR (w : World) (R : Nat → Prop) (v : Value) (l : List Nat) : Prop := ∃ A c, v = .slice A l.length c ∧ l.length ≤ c ∧ c ≤ maxLen ∧ RdR w R A (l.map encU)
/-- what is new in w' -/
abbrev newB (w w' : World) (i : Nat) : Prop := w.heap.size ≤ i ∧ i < w'.heap.size
section
variable {w w' : World} {R R' M : Nat → Prop} {v : Value} {l : List Ent} {u : List Nat}
theorem RdR.chg_ {A : Option Addr} {xs : List Value} (h : RdR w R A xs) (hc : Chg M w w') (hM : ∀ i, R i → ¬ M i) : RdR w' R A xs := fun hx => by
  obtain ⟨b, o, e, hb, hcs⟩ := h hx
  exact ⟨b, o, e, hb, fun j u hu => (hc.cell (p := ⟨b, o + j, none⟩) (fblock_of_cell (hcs j u hu)) (hM b hb)).trans (hcs j u hu)⟩
theorem EsR.chg (h : EsR w R v l) (hc : Chg M w w') (hM : ∀ i, R i → ¬ M i) : EsR w' R v l := by
  obtain ⟨A, c, h1, h2, h3, h4⟩ := h
  exact ⟨A, c, h1, h2, h3, h4.chg_ hc hM⟩
theorem EsR.on (h : EsR w R v l) (hb : Below w.heap.size w w') : EsR w' R v l := h.chg (Chg.of_below (M := fun _ => False) hb) (fun _ _ e => e)
theorem EsR.mono (h : EsR w R v l) (hR : ∀ i, R i → R' i) : EsR w R' v l := by
  obtain ⟨A, c, h1, h2, h3, h4⟩ := h
  exact ⟨A, c, h1, h2, h3, h4.mono hR⟩
theorem UsR.chg (h : UsR w R v u) (hc : Chg M w w') (hM : ∀ i, R i → ¬ M i) : UsR w' R v u := by
  obtain ⟨A, c, h1, h2, h3, h4⟩ := h
  exact ⟨A, c, h1, h2, h3, h4.chg_ hc hM⟩
theorem UsR.mono (h : UsR w R v u) (hR : ∀ i, R i → R' i) : UsR w R' v u := by
  obtain ⟨A, c, h1, h2, h3, h4⟩ := h
  exact ⟨A, c, h1, h2, h3, h4.mono hR⟩
theorem UsR.on (h : UsR w R v u) (hb : Below w.heap.size w w') : UsR w' R v u := h.chg (Chg.of_below (M := fun _ => False) hb) (fun _ _ e => e)
theorem EsR.at_ (h : EsR w R v l) {A : Option Addr} {n c : Nat} (hv : v = .slice A n c) {j : Nat} {x : Ent} (hx : l[j]? = some x) :
    ∃ b o, A = some ⟨b, o, none⟩ ∧ R b ∧ w.cell? ⟨b, o + j * 2, none⟩ = some (.string x.1) ∧ w.cell? ⟨b, o + j * 2 + 1, none⟩ = some (.int .u64 (x.2 : Int)) := by
  obtain ⟨A', c', e, _, _, h2⟩ := h
  rw [hv] at e
  injection e with e _ _
  subst e
  obtain ⟨g1, g2⟩ := evs_get l j x hx
  obtain ⟨b, o, e2, hb, hc⟩ := h2 (by intro e; rw [e] at g1; simp at g1)
  exact ⟨b, o, e2, hb, hc _ _ g1, hc (j * 2 + 1) _ g2⟩
theorem UsR.at_ (h : UsR w R v u) {A : Option Addr} {n c : Nat} (hv : v = .slice A n c) {j : Nat} {x : Nat} (hx : u[j]? = some x) :
    ∃ b o, A = some ⟨b, o, none⟩ ∧ R b ∧ w.cell? ⟨b, o + j, none⟩ = some (.int .u64 (x : Int)) := by
  obtain ⟨A', c', e, _, _, h2⟩ := h
  rw [hv] at e
  injection e with e _ _
  subst e
  have g1 : (u.map encU)[j]? = some (.int .u64 (x : Int)) := by rw [List.getElem?_map, hx]; rfl
  obtain ⟨b, o, e2, hb, hc⟩ := h2 (by intro e; rw [e] at g1; simp at g1)
  exact ⟨b, o, e2, hb, hc _ _ g1⟩
end
section
variable {w : World} {X : Nat} {M R : Nat → Prop} {s : PSt}
theorem HLive.chg {w wk w' : World} {N : Nat → Prop} (h : HLive w wk X M R s) (hc : Chg N wk w') (hN : ∀ i, N i → ¬ M i ∧ ¬ R i ∧ w.heap.size ≤ i) : HLive w w' X M R s :=
  ⟨h.fol.chg hc (fun i hi => ⟨(hN i hi).1, (hN i hi).2.1⟩), h.below.trans (hc.below h.below.size (fun i hi => (hN i hi).2.2)), h.newM⟩
theorem hlist_m (h : HFolM w X M R s) : Calls Tryz.prog 103 #[.pointer (some ⟨X, 0, none⟩)] w fun e w' => ∃ v, e = .returned v ∧ EsR w' (newB w w') v s.now ∧ Below w.heap.size w w' := by
  obtain ⟨bs, bn, Ad, cd, hc, hs, hn⟩ := h.cells
  refine (hlist_c hc hn h.ok.now_length).mono ?_
  rintro e w' ⟨v, rfl, ho, hb⟩
  obtain ⟨A, c, rfl, h1, h2, _⟩ := own_slice ho
  exact ⟨_, rfl, ⟨A, c, rfl, h1, h2, rdR_of_own ho⟩, hb⟩
theorem hlive_m (h : HFolM w X M R s) (hl : s.safe.length ≤ 200) (hla : s.last ≤ 10000) : Calls Tryz.prog 54 #[.pointer (some ⟨X, 0, none⟩)] w fun e w' => ∃ v, e = .returned v ∧ UsR w' (newB w w') v s.live ∧ Below w.heap.size w w' := by
  obtain ⟨bs, bn, Ad, cd, hc, hs, hn⟩ := h.cells
  refine (hlive_c hc (sortedAt hs hl) (by rw [(inosL_perm s.safe).length_eq, List.length_map]; omega) h.ok.settled (by omega)).mono ?_
  rintro e w' ⟨v, rfl, ho, hb⟩
  obtain ⟨A, c, rfl, h1, h2, _⟩ := own_slice ho
  exact ⟨_, rfl, ⟨A, c, rfl, h1, h2, rdR_of_own ho⟩, hb⟩
theorem hfind_m (h : HFolM w X M R s) {n : ByteArray} (hn : n.size ≤ maxLen) : Calls Tryz.prog 102 #[.pointer (some ⟨X, 0, none⟩), .string n] w fun e w' => e = .returned (.tuple #[.int .u64 (((findL s.now n).getD 0 : Nat) : Int), .bool (findL s.now n).isSome]) ∧ w = w' := by
  obtain ⟨bs, bn, Ad, cd, hc, hs, hm⟩ := h.cells
  exact hfind hc hm hn
end
end Go.Proofs.YtaicibmaogiibaaGreatDoor

/- JxPlain -/

/-
  Layer 7: a file system as plain mathematics: a folder's state, a file for each inode, the quota, the power, the fuse; what each call tells and makes.
-/
set_option linter.unusedVariables false
set_option linter.unusedSimpArgs false
namespace Go.Proofs.YtaicibmaogiibaaGreatDoor
open Go.RowKit

structure FsP where
  dir : PSt
  file : Nat → FSt
  quota : Nat
  off : Bool
  steps : Nat
  fuse : Option Nat
def upd (g : Nat → FSt) (i : Nat) (t : FSt) : Nat → FSt := fun j => if j = i then t else g j
theorem upd_same (g : Nat → FSt) (i : Nat) (t : FSt) : upd g i t i = t := by simp [upd]
theorem upd_other (g : Nat → FSt) {i j : Nat} (t : FSt) (h : j ≠ i) : upd g i t j = g j := by simp [upd, h]
def FsP.new (q : Nat) : FsP := ⟨PSt.new, fun _ => FSt.new [], q, false, 0, none⟩
/-- how many bytes the files have to which a name leads -/
def usedL (g : Nat → FSt) (l : List Ent) : Nat := (l.map fun x => (g x.2).bytes.length).sum
def FsP.used (s : FsP) : Nat := usedL s.file s.dir.now
/-- a step begins: what is wrong, and what is left -/
def beginF (s : FsP) : Nat × FsP :=
  if s.off then (20, s) else if s.fuse = some 0 then (20, { s with off := true, steps := s.steps + 1 }) else (0, { s with steps := s.steps + 1, fuse := s.fuse.map (· - 1) })
/-- a step: what it does if nothing is wrong at its beginning -/
def stepF (s : FsP) (k : FsP → Nat × FsP) : Nat × FsP := if (beginF s).1 = 0 then k (beginF s).2 else ((beginF s).1, (beginF s).2)
/-- the inode of a name, or what is wrong -/
def nodeF (s : FsP) (n : ByteArray) : Nat × Nat := if mayN n = false then (1, 0) else match findL s.dir.now n with
  | none => (6, 0)
  | some i => (0, i)
/-- a step on a file -/
def onF (s : FsP) (n : ByteArray) (k : FSt → Nat × FSt) : Nat × FsP :=
  if (nodeF s n).1 = 0 then ((k (s.file (nodeF s n).2)).1, { s with file := upd s.file (nodeF s n).2 (k (s.file (nodeF s n).2)).2 }) else ((nodeF s n).1, s)
def createK (n : ByteArray) (s : FsP) : Nat × FsP :=
  ((createP s.dir n).2.1, { s with dir := (createP s.dir n).2.2, file := if (createP s.dir n).2.1 = 0 then upd s.file (s.dir.last + 1) (FSt.new []) else s.file })
def appT (used quota : Nat) (b : List UInt8) (t : FSt) : Nat × FSt := if quota < used + b.length then (21, t) else if b = [] then (0, t) else (0, t.app b)
def syncT (t : FSt) : Nat × FSt := (0, t.settled t.loose)
def appendK (n : ByteArray) (b : List UInt8) (s : FsP) : Nat × FsP := onF s n (appT s.used s.quota b)
def syncK (n : ByteArray) (s : FsP) : Nat × FsP := onF s n syncT
def syncDirK (s : FsP) : Nat × FsP := (0, { s with dir := s.dir.settle s.dir.deeds.length })
def removeK (n : ByteArray) (s : FsP) : Nat × FsP := ((removeP s.dir n).1, { s with dir := (removeP s.dir n).2 })
/-- how much of each file a crash by picks keeps -/
def pickAt (picks : List Int) (i : Nat) : Nat := ((picks[i]?).getD 0).toNat
def crashD (s : FsP) (picks : List Int) : PSt := s.dir.settle (pickAt picks 0 % (s.dir.deeds.length + 1))
def crashT (picks : List Int) (l : List Nat) (g : Nat → FSt) (i : Nat) : FSt := if i ∈ l then (g i).settled (pickAt picks (l.idxOf i + 1) % ((g i).loose + 1)) else g i
def crashK (s : FsP) (picks : List Int) : Nat × FsP :=
  if picks.any (· < 0) then (1, s) else (0, { s with dir := crashD s picks, file := crashT picks (inosL (crashD s picks).safe) s.file, off := false, fuse := none })

/-- all that is there: no step makes more than one of it at a time -/
def totL (g : Nat → FSt) (n : Nat) : Nat := ((List.range (n + 1)).map fun i => (g i).big).sum
theorem sum_perm {f : Nat → Nat} {l m : List Nat} (h : l.Perm m) : (l.map f).sum = (m.map f).sum := by
  induction h with
  | nil => rfl
  | cons x _ ih => simp only [List.map_cons, List.sum_cons, ih]
  | swap x y l => simp only [List.map_cons, List.sum_cons]; omega
  | trans _ _ ih1 ih2 => exact ih1.trans ih2
theorem sum_mono {α : Type} {f g : α → Nat} : ∀ {l : List α}, (∀ x ∈ l, f x ≤ g x) → (l.map f).sum ≤ (l.map g).sum
  | [], _ => Nat.le_refl _
  | x :: r, h => by
    have h1 := h x (by simp)
    have h2 := sum_mono (l := r) (f := f) (g := g) (fun y hy => h y (by simp [hy]))
    simp only [List.map_cons, List.sum_cons]
    omega
theorem sum_nodup_lt {f : Nat → Nat} : ∀ {n : Nat} {l : List Nat}, l.Nodup → (∀ i ∈ l, i < n) → (l.map f).sum ≤ ((List.range n).map f).sum
  | 0, [], _, _ => Nat.le_refl _
  | 0, x :: r, _, h => absurd (h x (by simp)) (by omega)
  | n + 1, l, hd, h => by
    rw [List.range_succ, List.map_append, List.sum_append]
    simp only [List.map_cons, List.map_nil, List.sum_cons, List.sum_nil, Nat.add_zero]
    by_cases hn : n ∈ l
    · have hp := List.perm_cons_erase hn
      rw [sum_perm hp]
      simp only [List.map_cons, List.sum_cons]
      have hd2 := hp.nodup_iff.1 hd
      obtain ⟨h1, h2⟩ := List.nodup_cons.1 hd2
      have h3 := sum_nodup_lt (f := f) (n := n) h2 (fun i hi => by
        have h4 := h i (List.mem_of_mem_erase hi)
        have h5 : i ≠ n := fun e => by subst e; exact h1 hi
        omega)
      omega
    · have h3 := sum_nodup_lt (f := f) (n := n) hd (fun i hi => by
        have h4 := h i hi
        have h5 : i ≠ n := fun e => by subst e; exact hn hi
        omega)
      omega
theorem sum_nodup_le {f : Nat → Nat} {l : List Nat} {n : Nat} (hd : l.Nodup) (h : ∀ i ∈ l, i ≤ n) : (l.map f).sum ≤ ((List.range (n + 1)).map f).sum :=
  sum_nodup_lt hd (fun i hi => by have := h i hi; omega)
theorem totL_next (g : Nat → FSt) (n : Nat) : totL g (n + 1) = totL g n + (g (n + 1)).big := by
  unfold totL
  rw [List.range_succ, List.map_append, List.sum_append]
  simp
theorem totL_congr {g h : Nat → FSt} {n : Nat} (e : ∀ i, i ≤ n → (h i).big ≤ (g i).big) : totL h n ≤ totL g n :=
  sum_mono (fun i hi => e i (by have := List.mem_range.1 hi; omega))
theorem totL_upd (g : Nat → FSt) {i n : Nat} (t : FSt) (d : Nat) (h : t.big ≤ (g i).big + d) : totL (upd g i t) n ≤ totL g n + d := by
  by_cases hi : i ≤ n
  · induction n with
    | zero =>
      obtain rfl : i = 0 := by omega
      simp [totL, upd]
      omega
    | succ n ih =>
      rw [totL_next, totL_next]
      by_cases e : i = n + 1
      · subst e
        rw [upd_same]
        have h1 : totL (upd g (n + 1) t) n ≤ totL g n := totL_congr (fun j hj => by rw [upd_other _ _ (by omega)]; exact Nat.le_refl _)
        omega
      · have h1 := ih (by omega)
        rw [upd_other _ _ (show n + 1 ≠ i by omega)]
        omega
  · exact Nat.le_trans (totL_congr (fun j hj => by rw [upd_other _ _ (by omega)]; exact Nat.le_refl _)) (Nat.le_add_right _ _)
/-- what a file system keeps, step by step -/
structure FInv (s : FsP) (q T : Nat) : Prop where
  dir : s.dir.Ok
  ino : GInv s.dir
  files : ∀ i, (s.file i).Ok
  tot : totL s.file s.dir.last ≤ T
  last : s.dir.last ≤ q
  few : s.dir.big ≤ q
theorem FInv.used_le {s : FsP} {q T : Nat} (h : FInv s q T) : s.used ≤ T := by
  have h1 : s.used ≤ (s.dir.now.map fun x => (s.file x.2).big).sum := sum_mono (fun x _ => FSt.bytes_length (h.files x.2))
  have h2 : (s.dir.now.map fun x => (s.file x.2).big) = (s.dir.now.map (·.2)).map fun i => (s.file i).big := by rw [List.map_map]; rfl
  rw [h2] at h1
  have hg := h.ino.now
  have hd : (s.dir.now.map (·.2)).Nodup := List.pairwise_map.2 (h.dir.now.1.nodup.imp_of_mem (fun {a b} ha hb hn e => hn (hg.2 a ha b hb e)))
  have h3 := sum_nodup_le (f := fun i => (s.file i).big) (n := s.dir.last) hd (fun i hi => by
    obtain ⟨x, hx, rfl⟩ := List.mem_map.1 hi
    exact (hg.1 x hx).2.2)
  exact Nat.le_trans h1 (Nat.le_trans h3 h.tot)
theorem FInv.mono {s : FsP} {q q' T T' : Nat} (h : FInv s q T) (h1 : q ≤ q') (h2 : T ≤ T') : FInv s q' T' := ⟨h.dir, h.ino, h.files, Nat.le_trans h.tot h2, Nat.le_trans h.last h1, Nat.le_trans h.few h1⟩
theorem FInv.new (q : Nat) : FInv (FsP.new q) 0 0 := ⟨PSt.new_ok, GInv.new, fun _ => FSt.new_ok _, by simp [totL, FsP.new, PSt.new, FSt.new, FSt.big, FSt.loose, unitsL], by simp [FsP.new, PSt.new], by simp [FsP.new, PSt.new, PSt.big]⟩
end Go.Proofs.YtaicibmaogiibaaGreatDoor

/-
  Layer 7: what a file system keeps, call by call (plain mathematics).
-/
set_option linter.unusedVariables false
set_option linter.unusedSimpArgs false
namespace Go.Proofs.YtaicibmaogiibaaGreatDoor
open Go.RowKit

theorem doP_ok {s : PSt} (ho : s.Ok) (c : Call6) (hf : s.safe.length + s.deeds.length < 100000) (hl : s.last + 1 < 100000000) : (doP s c).2.2.Ok := by
  rcases doP_cases s c with e | ⟨e, _, _, hn, _⟩ | ⟨e, _, _, ha, hb, _⟩ | ⟨e, _, _, hn, _⟩ | ⟨k, hk, e, _⟩
  · rw [e]; exact ho
  · rw [e]
    have h0 : PSt.Ok { s with last := s.last + 1 } := ⟨ho.safe, ho.deeds, hl, by have := ho.settled; show s.settled ≤ s.last + 1; omega, ho.few⟩
    exact PSt.push_ok h0 ⟨mayN_size hn, by omega⟩ hf
  · rw [e]; exact PSt.push_ok ho ⟨mayN_size ha, mayN_size hb⟩ hf
  · rw [e]; exact PSt.push_ok ho (mayN_size hn) hf
  · rw [e]; exact PSt.settle_ok ho k
/-- the folder's calls as calls of the folder's laws -/
theorem createP_do (s : PSt) (n : ByteArray) : doP s ⟨0, n, n, 0⟩ = createP s n := by unfold doP; rw [if_pos (.inl rfl)]
theorem removeP_do (s : PSt) (n : ByteArray) : doP s ⟨4, n, n, 0⟩ = (0, (removeP s n).1, (removeP s n).2) := by
  unfold doP
  rw [if_neg (by simp), if_neg (by simp), if_pos rfl]
section
variable {s : FsP} {q T : Nat}
theorem beginF_is (s : FsP) : (beginF s).2.dir = s.dir ∧ (beginF s).2.file = s.file ∧ (beginF s).2.quota = s.quota := by
  unfold beginF
  split
  · exact ⟨rfl, rfl, rfl⟩
  · split <;> exact ⟨rfl, rfl, rfl⟩
theorem beginF_ok (h1 : s.off = false) (h2 : s.fuse = none) : beginF s = (0, { s with steps := s.steps + 1, fuse := none }) := by
  unfold beginF
  rw [if_neg (by simp [h1]), if_neg (by simp [h2]), h2]
  rfl
theorem FInv.same {s' : FsP} (h : FInv s q T) (h1 : s'.dir = s.dir) (h2 : s'.file = s.file) : FInv s' q T := ⟨h1 ▸ h.dir, h1 ▸ h.ino, h2 ▸ h.files, by rw [h1, h2]; exact h.tot, h1 ▸ h.last, h1 ▸ h.few⟩
theorem FInv.step (h : FInv s q T) {k : FsP → Nat × FsP} {q' T' : Nat} (hq : q ≤ q') (hT : T ≤ T') (hk : FInv (beginF s).2 q T → FInv (k (beginF s).2).2 q' T') : FInv (stepF s k).2 q' T' := by
  have h0 : FInv (beginF s).2 q T := h.same (beginF_is s).1 (beginF_is s).2.1
  unfold stepF
  split
  · exact hk h0
  · exact h0.mono hq hT
/-- the folder goes on, no new inode -/
theorem FInv.dir_ (h : FInv s q T) (hq : q ≤ 1000) (c : Call6) (hw : ¬ (c.what = 0 ∨ c.what = 1 ∨ c.what = 2)) : FInv { s with dir := (doP s.dir c).2.2 } (q + 1) T := by
  have hb := doP_big s.dir c
  have hf := h.few
  have hl := h.last
  have hlast : (doP s.dir c).2.2.last = s.dir.last := by
    rcases doP_cases s.dir c with e | ⟨e, hx, _⟩ | ⟨e, _⟩ | ⟨e, _⟩ | ⟨k, hk, e, _⟩
    · rw [e]
    · exact absurd (by omega) hw
    · rw [e]; rfl
    · rw [e]; rfl
    · rw [e]; rfl
  exact ⟨doP_ok h.dir c (by unfold PSt.big at hf; omega) (by omega), h.ino.doP h.dir c, h.files, by rw [show (FsP.dir { s with dir := (doP s.dir c).2.2 }).last = s.dir.last from hlast]; exact h.tot, by show (doP s.dir c).2.2.last ≤ _; omega, by show (doP s.dir c).2.2.big ≤ _; omega⟩
theorem FInv.createK_ (h : FInv s q T) (hq : q ≤ 1000) (n : ByteArray) : FInv (createK n s).2 (q + 1) T := by
  have hb := doP_big s.dir ⟨0, n, n, 0⟩
  have hok := doP_ok h.dir ⟨0, n, n, 0⟩ (by have := h.few; unfold PSt.big at this; omega) (by have := h.last; omega)
  have hg := h.ino.doP h.dir ⟨0, n, n, 0⟩
  have ht := told_make (s := s.dir) (c := ⟨0, n, n, 0⟩) ⟨by simp, by simp⟩
  rw [createP_do] at hb hok hg ht
  have hf := h.few
  have hl := h.last
  rcases ht with ⟨e0, e1, e2⟩ | ⟨e0, e1, e2⟩
  · refine ⟨hok, hg, fun i => ?_, ?_, by show (createP s.dir n).2.2.last ≤ _; omega, by show (createP s.dir n).2.2.big ≤ _; omega⟩
    · show ((if (createP s.dir n).2.1 = 0 then upd s.file (s.dir.last + 1) (FSt.new []) else s.file) i).Ok
      rw [if_pos e0]
      by_cases e : i = s.dir.last + 1
      · subst e; rw [upd_same]; exact FSt.new_ok _
      · rw [upd_other _ _ e]; exact h.files i
    · show totL (if (createP s.dir n).2.1 = 0 then upd s.file (s.dir.last + 1) (FSt.new []) else s.file) (createP s.dir n).2.2.last ≤ T
      rw [if_pos e0, e2, totL_next, upd_same]
      have h1 : totL (upd s.file (s.dir.last + 1) (FSt.new [])) s.dir.last ≤ totL s.file s.dir.last := totL_congr (fun j hj => by rw [upd_other _ _ (by omega)]; exact Nat.le_refl _)
      have h2 : (FSt.new []).big = 0 := rfl
      have := h.tot
      omega
  · refine ⟨hok, hg, fun i => ?_, ?_, by show (createP s.dir n).2.2.last ≤ _; omega, by show (createP s.dir n).2.2.big ≤ _; omega⟩
    · show ((if (createP s.dir n).2.1 = 0 then upd s.file (s.dir.last + 1) (FSt.new []) else s.file) i).Ok
      rw [if_neg e0]
      exact h.files i
    · show totL (if (createP s.dir n).2.1 = 0 then upd s.file (s.dir.last + 1) (FSt.new []) else s.file) (createP s.dir n).2.2.last ≤ T
      rw [if_neg e0, e2]
      exact h.tot
/-- a step on a file that makes no more of it than d -/
theorem FInv.onF_ (h : FInv s q T) (n : ByteArray) {k : FSt → Nat × FSt} (d : Nat) (hk : ∀ t : FSt, t.Ok → (k t).2.Ok ∧ (k t).2.big ≤ t.big + d) : FInv (onF s n k).2 q (T + d) := by
  unfold onF
  split
  · refine ⟨h.dir, h.ino, fun i => ?_, ?_, h.last, h.few⟩
    · show (upd s.file (nodeF s n).2 (k (s.file (nodeF s n).2)).2 i).Ok
      by_cases e : i = (nodeF s n).2
      · subst e; rw [upd_same]; exact (hk _ (h.files _)).1
      · rw [upd_other _ _ e]; exact h.files i
    · exact Nat.le_trans (totL_upd s.file _ d (hk _ (h.files _)).2) (Nat.add_le_add_right h.tot d)
  · exact h.mono (Nat.le_refl _) (Nat.le_add_right _ _)
theorem appT_ok (u z : Nat) (b : List UInt8) (t : FSt) (h : t.Ok) : (appT u z b t).2.Ok ∧ (appT u z b t).2.big ≤ t.big + b.length := by
  unfold appT
  split
  · exact ⟨h, by simp⟩
  · split
    · exact ⟨h, by simp⟩
    · rename_i hb
      exact ⟨FSt.app_ok h hb, by rw [show ((0, t.app b) : Nat × FSt).2 = t.app b from rfl, FSt.app_big]; exact Nat.le_refl _⟩
theorem syncT_ok (t : FSt) (h : t.Ok) : (syncT t).2.Ok ∧ (syncT t).2.big ≤ t.big + 0 := ⟨FSt.settled_ok _ _, FSt.settled_big t (Nat.le_refl _)⟩
end
end Go.Proofs.YtaicibmaogiibaaGreatDoor

/- JfMem -/

/-
  Layer 7: the program's file system in memory: its own cells, its folder, its map of files, what is asked ahead of each step.
-/
set_option linter.unusedVariables false
set_option linter.unusedSimpArgs false
namespace Go.Proofs.YtaicibmaogiibaaGreatDoor
open Go.RowKit Go.Maps

/-- a file's place as an element of a map -/
def fElem : Value → Option (DataW Unit × List MemPlace)
  | .pointer (some ⟨b, 0, none⟩) => some (.lit (.int .i64 (b : Int)), [])
  | .pointer none => some (.nil, [])
  | _ => none
theorem fElem_mk (b : Nat) : fElem (.pointer (some ⟨b, 0, none⟩)) = some (.lit (.int .i64 (b : Int)), []) := rfl
theorem fElem_inv {v : Value} {b : Nat} {ps : List MemPlace} (h : fElem v = some (.lit (.int .i64 (b : Int)), ps)) : v = .pointer (some ⟨b, 0, none⟩) := by
  unfold fElem at h
  split at h
  · rename_i c
    injection h with h
    injection h with h _
    injection h with h
    injection h with _ h
    have : c = b := by omega
    rw [this]
  · injection h with h
    injection h with h _
    cases h
  · cases h
def updN (g : Nat → Nat) (i F : Nat) : Nat → Nat := fun j => if j = i then F else g j
theorem updN_same (g : Nat → Nat) (i F : Nat) : updN g i F i = F := by simp [updN]
theorem updN_other (g : Nat → Nat) {i j : Nat} (F : Nat) (h : j ≠ i) : updN g i F j = g j := by simp [updN, h]
/-- block b is a map of at most n keys, of which those of K lead to the files in blocks g, and no others are there -/
def MapF (w : World) (b n : Nat) (K : List Nat) (g : Nat → Nat) : Prop := ∃ D : DataW Unit, w.ownsMap Tryz.prog 37 fElem b n D ∧ (∀ i, i ∈ K → ∀ zd, D.atKey (ku i) zd = .lit (.int .i64 (g i : Int))) ∧ (∀ k, (∀ i, i ∈ K → k ≠ ku i) → Maps.has D k = false)
section
variable {w w' : World} {b n : Nat} {K : List Nat} {g : Nat → Nat} {M : Nat → Prop}
theorem MapF.lt (h : MapF w b n K g) : b < w.heap.size := by obtain ⟨D, h, _⟩ := h; exact h.lt
theorem MapF.no_cell (h : MapF w b n K g) (o : Nat) : w.cell? ⟨b, o, none⟩ = none := by
  obtain ⟨D, ⟨es, clock, hb, _⟩, _⟩ := h
  simp [World.cell?, hb]
theorem MapF.of_block (h : MapF w b n K g) (hb : w'.heap[b]? = w.heap[b]?) : MapF w' b n K g := by
  obtain ⟨D, ⟨es', clock, h1, h2⟩, hr⟩ := h
  exact ⟨D, ⟨es', clock, hb.trans h1, h2⟩, hr⟩
theorem MapF.chg (h : MapF w b n K g) (hc : Chg M w w') (hM : ¬ M b) : MapF w' b n K g := h.of_block (hc.block b h.lt hM)
theorem MapF.on (h : MapF w b n K g) (hb : Below w.heap.size w w') : MapF w' b n K g := h.of_block (hb.block b h.lt)
theorem MapF.new (w : World) (g : Nat → Nat) : MapF (w.alloc (.map #[] 0)) w.heap.size 0 [] g := ⟨_, World.ownsMap_made w _ _ _, (fun i hi => absurd hi (by simp)), (fun k _ => rfl)⟩
theorem MapF.congr {K' : List Nat} {g' : Nat → Nat} (h : MapF w b n K g) (he : ∀ i, i ∈ K ↔ i ∈ K') (hg : ∀ i, i ∈ K' → g' i = g i) : MapF w b n K' g' := by
  obtain ⟨D, h1, h2, h3⟩ := h
  exact ⟨D, h1, fun i hi zd => by rw [hg i hi]; exact h2 i ((he i).2 hi) zd, fun k hk => h3 k (fun i hi => hk i ((he i).1 hi))⟩
theorem zeroPF (w : World) : (zeroValue 103).run Tryz.prog w = .ok (.pointer none) w := by kernel_rfl
set_option maxRecDepth 100000 in
theorem MapF.look (h : MapF w b n K g) {i : Nat} (hi : i < 1000000000) (hm : i ∈ K) :
    (Instr.lookup 81 (.map (some b)) (.int .u64 (i : Int)) false).run Tryz.prog w = .ok (.pointer (some ⟨g i, 0, none⟩)) w := by
  obtain ⟨D, hown, h1, h2⟩ := h
  obtain ⟨v, ps, hrun, e⟩ := hown.lookup keyedU Tryz.underlying81 (zeroPF w) (show fElem (.pointer none) = some (.nil, []) from rfl) (keyOf_ku hi)
  rw [h1 i hm] at e
  rw [hrun, fElem_inv e]
set_option maxRecDepth 100000 in
theorem MapF.store (h : MapF w b n K g) (hn : n ≤ 100000000) {i : Nat} (hi : i < 1000000000) (F : Nat) :
    ∃ w', (Instr.mapUpdate 81 (.map (some b)) (.int .u64 (i : Int)) (.pointer (some ⟨F, 0, none⟩))).run Tryz.prog w = .ok () w' ∧ MapF w' b (n + 1) (i :: K) (updN g i F) ∧ w.mapTurned w' b := by
  obtain ⟨D, hown, h1, h2⟩ := h
  obtain ⟨w', hrun, r1, r2⟩ := hown.store keyedU Tryz.underlying81 (by unfold maxLen; omega) (keyOf_ku hi) (fElem_mk F)
  refine ⟨w', hrun, ⟨_, r1, fun j hj zd => ?_, fun k hk => ?_⟩, r2⟩
  · by_cases e : j = i
    · subst e; rw [updN_same]; exact atKey_put_same hown.isMap (isKey_ku j) _ _
    · rcases List.mem_cons.1 hj with e' | hj
      · exact absurd e' e
      · rw [updN_other _ _ e]; exact (atKey_put_other (fun e' => e (ku_inj e')) _ _).trans (h1 j hj zd)
  · exact (has_put_other (hk i (by simp)) _).trans (h2 k (fun j hj => hk j (by simp [hj])))
end
/-- a file system's cells -/
structure FsC (w : World) (A X B q u st : Nat) (on : Bool) (hv : Value) : Prop where
  c0 : w.cell? ⟨A, 0, none⟩ = some (.pointer (some ⟨X, 0, none⟩))
  c1 : w.cell? ⟨A, 1, none⟩ = some (.map (some B))
  c2 : w.cell? ⟨A, 2, none⟩ = some (.int .i64 (q : Int))
  c3 : w.cell? ⟨A, 3, none⟩ = some (.int .i64 (u : Int))
  c4 : w.cell? ⟨A, 4, none⟩ = some (.int .i64 (st : Int))
  c5 : w.cell? ⟨A, 5, none⟩ = some (.bool on)
  c6 : w.cell? ⟨A, 6, none⟩ = some hv
  f0 : w.frozen? ⟨A, 0, none⟩ = false
  f1 : w.frozen? ⟨A, 1, none⟩ = false
  f2 : w.frozen? ⟨A, 2, none⟩ = false
  f3 : w.frozen? ⟨A, 3, none⟩ = false
  f4 : w.frozen? ⟨A, 4, none⟩ = false
  f5 : w.frozen? ⟨A, 5, none⟩ = false
  f6 : w.frozen? ⟨A, 6, none⟩ = false
section
variable {w w' : World} {A X B q u st : Nat} {on : Bool} {hv : Value}
theorem FsC.lt (h : FsC w A X B q u st on hv) : A < w.heap.size := fblock_of_cell h.c0
theorem FsC.of_block (h : FsC w A X B q u st on hv) (hb : w'.heap[A]? = w.heap[A]?) : FsC w' A X B q u st on hv := by
  have hc : ∀ o, w'.cell? ⟨A, o, none⟩ = w.cell? ⟨A, o, none⟩ := fun o => World.cell?_of_block hb
  have hf : ∀ o, w'.frozen? ⟨A, o, none⟩ = w.frozen? ⟨A, o, none⟩ := fun o => World.frozen?_of_block hb
  exact ⟨(hc 0).trans h.c0, (hc 1).trans h.c1, (hc 2).trans h.c2, (hc 3).trans h.c3, (hc 4).trans h.c4, (hc 5).trans h.c5, (hc 6).trans h.c6, (hf 0).trans h.f0, (hf 1).trans h.f1, (hf 2).trans h.f2, (hf 3).trans h.f3, (hf 4).trans h.f4, (hf 5).trans h.f5, (hf 6).trans h.f6⟩
theorem FsC.on_ (h : FsC w A X B q u st on hv) (hb : Below w.heap.size w w') : FsC w' A X B q u st on hv := h.of_block (hb.block A h.lt)
theorem FsC.drew (h : FsC w A X B q u st on hv) : FsC w.drew A X B q u st on hv := h.of_block rfl
theorem FsC.set1 (h : FsC w A X B q u st on hv) (k : Nat) : FsC (w.setCell ⟨A, 1, none⟩ (.map (some k))) A X k q u st on hv := by
  obtain ⟨c0, c1, c2, c3, c4, c5, c6, f0, f1, f2, f3, f4, f5, f6⟩ := h
  refine ⟨?_, World.cell?_setCell_same _ _ _ c1, ?_, ?_, ?_, ?_, ?_, by rw [World.frozen?_setCell]; assumption, by rw [World.frozen?_setCell]; assumption, by rw [World.frozen?_setCell]; assumption, by rw [World.frozen?_setCell]; assumption, by rw [World.frozen?_setCell]; assumption, by rw [World.frozen?_setCell]; assumption, by rw [World.frozen?_setCell]; assumption⟩ <;>
    (rw [World.cell?_setCell_other _ _ _ _ (by intro e; injection e with e1 e2; omega)]; assumption)
theorem FsC.set3 (h : FsC w A X B q u st on hv) (k : Nat) : FsC (w.setCell ⟨A, 3, none⟩ (.int .i64 (k : Int))) A X B q k st on hv := by
  obtain ⟨c0, c1, c2, c3, c4, c5, c6, f0, f1, f2, f3, f4, f5, f6⟩ := h
  refine ⟨?_, ?_, ?_, World.cell?_setCell_same _ _ _ c3, ?_, ?_, ?_, by rw [World.frozen?_setCell]; assumption, by rw [World.frozen?_setCell]; assumption, by rw [World.frozen?_setCell]; assumption, by rw [World.frozen?_setCell]; assumption, by rw [World.frozen?_setCell]; assumption, by rw [World.frozen?_setCell]; assumption, by rw [World.frozen?_setCell]; assumption⟩ <;>
    (rw [World.cell?_setCell_other _ _ _ _ (by intro e; injection e with e1 e2; omega)]; assumption)
theorem FsC.set4 (h : FsC w A X B q u st on hv) (k : Nat) : FsC (w.setCell ⟨A, 4, none⟩ (.int .i64 (k : Int))) A X B q u k on hv := by
  obtain ⟨c0, c1, c2, c3, c4, c5, c6, f0, f1, f2, f3, f4, f5, f6⟩ := h
  refine ⟨?_, ?_, ?_, ?_, World.cell?_setCell_same _ _ _ c4, ?_, ?_, by rw [World.frozen?_setCell]; assumption, by rw [World.frozen?_setCell]; assumption, by rw [World.frozen?_setCell]; assumption, by rw [World.frozen?_setCell]; assumption, by rw [World.frozen?_setCell]; assumption, by rw [World.frozen?_setCell]; assumption, by rw [World.frozen?_setCell]; assumption⟩ <;>
    (rw [World.cell?_setCell_other _ _ _ _ (by intro e; injection e with e1 e2; omega)]; assumption)
theorem FsC.set5 (h : FsC w A X B q u st on hv) (k : Bool) : FsC (w.setCell ⟨A, 5, none⟩ (.bool k)) A X B q u st k hv := by
  obtain ⟨c0, c1, c2, c3, c4, c5, c6, f0, f1, f2, f3, f4, f5, f6⟩ := h
  refine ⟨?_, ?_, ?_, ?_, ?_, World.cell?_setCell_same _ _ _ c5, ?_, by rw [World.frozen?_setCell]; assumption, by rw [World.frozen?_setCell]; assumption, by rw [World.frozen?_setCell]; assumption, by rw [World.frozen?_setCell]; assumption, by rw [World.frozen?_setCell]; assumption, by rw [World.frozen?_setCell]; assumption, by rw [World.frozen?_setCell]; assumption⟩ <;>
    (rw [World.cell?_setCell_other _ _ _ _ (by intro e; injection e with e1 e2; omega)]; assumption)
theorem FsC.set6 (h : FsC w A X B q u st on hv) (k : Value) : FsC (w.setCell ⟨A, 6, none⟩ k) A X B q u st on k := by
  obtain ⟨c0, c1, c2, c3, c4, c5, c6, f0, f1, f2, f3, f4, f5, f6⟩ := h
  refine ⟨?_, ?_, ?_, ?_, ?_, ?_, World.cell?_setCell_same _ _ _ c6, by rw [World.frozen?_setCell]; assumption, by rw [World.frozen?_setCell]; assumption, by rw [World.frozen?_setCell]; assumption, by rw [World.frozen?_setCell]; assumption, by rw [World.frozen?_setCell]; assumption, by rw [World.frozen?_setCell]; assumption, by rw [World.frozen?_setCell]; assumption⟩ <;>
    (rw [World.cell?_setCell_other _ _ _ _ (by intro e; injection e with e1 e2; omega)]; assumption)
theorem FsC.new (w : World) (X B q : Nat) (u st : Nat) (on : Bool) (hv : Value) (t : TypeId) : FsC (w.alloc (.cells #[.pointer (some ⟨X, 0, none⟩), .map (some B), .int .i64 (q : Int), .int .i64 (u : Int), .int .i64 (st : Int), .bool on, hv] t)) w.heap.size X B q u st on hv := by
  refine ⟨by simp, by simp, by simp, by simp, by simp, by simp, by simp, by simp, by simp, by simp, by simp, by simp, by simp, by simp⟩
end
/-- what is asked ahead of each step -/
def HoldAt (w : World) (R : Nat → Prop) (hv : Value) (st : Nat) : Option Nat → Prop
  | none => hv = .func (.func 34) #[] #[]
  | some n => False
section
variable {w w' : World} {R R' M : Nat → Prop} {hv : Value} {st : Nat} {o : Option Nat}
theorem HoldAt.mono (h : HoldAt w R hv st o) (hR : ∀ i, R i → R' i) : HoldAt w R' hv st o := by
  cases o with
  | none => exact h
  | some n => exact h.elim
theorem HoldAt.chg (h : HoldAt w R hv st o) (hc : Chg M w w') (hM : ∀ i, M i → ¬ R i) : HoldAt w' R hv st o := by
  cases o with
  | none => exact h
  | some n => exact h.elim
end
theorem FileM.rise {w : World} {F : Nat} {M R R' : Nat → Prop} {s : FSt} (h : FileM w F M R s) (hR : ∀ i, R i → R' i) (hM : ∀ i, M i → ¬ R' i) (hl : ∀ i, R' i → i < w.heap.size) : FileM w F M R' s := by
  obtain ⟨h0, h1, h2, h3, vs, vt, vd, dvs, h, h4⟩ := h
  exact ⟨h0, hM, h2, hl, vs, vt, vd, dvs, ⟨h.cells, h.safe, h.tail, h.deeds, h.each.mono hR, h.apart, fun i hi => hM i (h4 i hi)⟩, h4⟩
theorem HFolM.rise {w : World} {X : Nat} {M R R' : Nat → Prop} {s : PSt} (h : HFolM w X M R s) (hR : ∀ i, R i → R' i) (hM : ∀ i, M i → ¬ R' i) (hl : ∀ i, R' i → i < w.heap.size) : HFolM w X M R' s := by
  obtain ⟨h0, h1, h2, h3, bs, bn, vd, dvs, h, hx, h4⟩ := h
  exact ⟨h0, hM, h2, hl, bs, bn, vd, dvs, ⟨h.cells, h.safe, h.now, h.deeds, h.each.mono hR, h.ne, fun i hi => hM i (h4 i hi)⟩, hx, h4⟩
/-- a file system's memory: u is the cell 'used'; M its own blocks, R what nobody writes -/
structure FsAt (w : World) (A X B n u : Nat) (hv : Value) (K : List Nat) (g : Nat → Nat) (MX : Nat → Prop) (MF : Nat → Nat → Prop) (M R : Nat → Prop) (s : FsP) : Prop where
  mr : ∀ i, M i → ¬ R i
  ml : ∀ i, M i → i < w.heap.size
  rl : ∀ i, R i → i < w.heap.size
  cells : FsC w A X B s.quota u s.steps (!s.off) hv
  hold : s.off = false → HoldAt w R hv s.steps s.fuse
  hvf : ∃ f cap, hv = .func (.func f) #[] cap
  map : MapF w B n K g
  ks : ∀ i, i ∈ K → i < 1000000000
  dir : HFolM w X MX R s.dir
  files : ∀ i, i ∈ K → FileM w (g i) (MF i) R (s.file i)
  mA : M A
  mB : M B
  mX : ∀ i, MX i → M i
  mF : ∀ i, i ∈ K → ∀ j, MF i j → M j
  xA : ¬ MX A
  xB : ¬ MX B
  fA : ∀ i, i ∈ K → ¬ MF i A
  fB : ∀ i, i ∈ K → ¬ MF i B
  fX : ∀ i, i ∈ K → ∀ j, MF i j → ¬ MX j
  ff : ∀ i, i ∈ K → ∀ k, k ∈ K → i ≠ k → ∀ j, MF i j → ¬ MF k j
section
variable {w w' : World} {A X B n u : Nat} {hv : Value} {K : List Nat} {g : Nat → Nat} {MX M R N : Nat → Prop} {MF : Nat → Nat → Prop} {s : FsP}
theorem FsAt.ab (h : FsAt w A X B n u hv K g MX MF M R s) : A ≠ B := fun e => by
  have h1 := h.cells.c0
  rw [e, h.map.no_cell 0] at h1
  cases h1
theorem FsAt.chg (h : FsAt w A X B n u hv K g MX MF M R s) (hc : Chg N w w') (hN : ∀ i, N i → ¬ M i ∧ ¬ R i) : FsAt w' A X B n u hv K g MX MF M R s :=
  { h with
    ml := fun i hi => Nat.lt_of_lt_of_le (h.ml i hi) hc.size
    rl := fun i hi => Nat.lt_of_lt_of_le (h.rl i hi) hc.size
    cells := h.cells.of_block (hc.block A h.cells.lt (fun e => (hN A e).1 h.mA))
    hold := fun ho => (h.hold ho).chg hc (fun i e => (hN i e).2)
    map := h.map.chg hc (fun e => (hN B e).1 h.mB)
    dir := h.dir.chg hc (fun i e => ⟨fun e' => (hN i e).1 (h.mX i e'), (hN i e).2⟩)
    files := fun i hi => (h.files i hi).chg hc (fun j e => ⟨fun e' => (hN j e).1 (h.mF i hi j e'), (hN j e).2⟩) }
theorem FsAt.on (h : FsAt w A X B n u hv K g MX MF M R s) (hb : Below w.heap.size w w') : FsAt w' A X B n u hv K g MX MF M R s := h.chg (Chg.of_below (M := fun _ => False) hb) (fun i e => e.elim)
theorem FsAt.drew (h : FsAt w A X B n u hv K g MX MF M R s) : FsAt w.drew A X B n u hv K g MX MF M R s := h.on (Below.refl _ _).drew
/-- a store in its own cells -/
theorem FsAt.own_set (h : FsAt w A X B n u hv K g MX MF M R s) (hg : Chg (fun i => i = A) w w') {u' : Nat} {hv' : Value} {s' : FsP} (hc : FsC w' A X B s'.quota u' s'.steps (!s'.off) hv') (hd : s'.dir = s.dir) (hf : s'.file = s.file)
    (hh : s'.off = false → HoldAt w R hv' s'.steps s'.fuse) (hff : ∃ f cap, hv' = .func (.func f) #[] cap) : FsAt w' A X B n u' hv' K g MX MF M R s' :=
  { h with
    hvf := hff
    ml := fun i hi => Nat.lt_of_lt_of_le (h.ml i hi) hg.size
    rl := fun i hi => Nat.lt_of_lt_of_le (h.rl i hi) hg.size
    cells := hc
    hold := fun ho => (hh ho).chg hg (fun i e => by rw [e]; exact h.mr A h.mA)
    map := h.map.chg hg (fun e => h.ab e.symm)
    dir := by rw [hd]; exact h.dir.chg hg (fun i e => by rw [e]; exact ⟨h.xA, h.mr A h.mA⟩)
    files := fun i hi => by rw [hf]; exact (h.files i hi).chg hg (fun j e => by rw [e]; exact ⟨h.fA i hi, h.mr A h.mA⟩) }
theorem chg_set (w : World) (A o : Nat) (val : Value) : Chg (fun i => i = A) w (w.setCell ⟨A, o, none⟩ val) := (Chg.refl (M := fun i => i = A) (w := w)).setCell (p := ⟨A, o, none⟩) rfl _
theorem FsAt.cell_set (h : FsAt w A X B n u hv K g MX MF M R s) (o : Nat) (val : Value) {u' : Nat} {hv' : Value} {s' : FsP} (hc : FsC (w.setCell ⟨A, o, none⟩ val) A X B s'.quota u' s'.steps (!s'.off) hv') (hd : s'.dir = s.dir) (hf : s'.file = s.file)
    (hh : s'.off = false → HoldAt w R hv' s'.steps s'.fuse) (hff : ∃ f cap, hv' = .func (.func f) #[] cap) : FsAt (w.setCell ⟨A, o, none⟩ val) A X B n u' hv' K g MX MF M R s' := h.own_set (chg_set w A o val) hc hd hf hh hff
theorem FsAt.setU (h : FsAt w A X B n u hv K g MX MF M R s) (k : Nat) : FsAt (w.setCell ⟨A, 3, none⟩ (.int .i64 (k : Int))) A X B n k hv K g MX MF M R s := h.cell_set 3 _ (h.cells.set3 k) rfl rfl h.hold h.hvf
/-- another map, of fewer files -/
theorem FsAt.swap {B' n' : Nat} {K' : List Nat} (h : FsAt w A X B n u hv K g MX MF M R s) (hm : MapF w B' n' K' g) (hK : ∀ i, i ∈ K' → i ∈ K) (h1 : ¬ M B') (h2 : ¬ R B') : FsAt (w.setCell ⟨A, 1, none⟩ (.map (some B'))) A X B' n' u hv K' g MX MF (fun i => M i ∨ i = B') R s := by
  have hg := chg_set w A 1 (.map (some B'))
  have hlt := hm.lt
  have hAB : A ≠ B' := fun e => h1 (e ▸ h.mA)
  exact { h with
    mr := fun i hi e => hi.elim (fun hi => h.mr i hi e) (fun hi => h2 (hi ▸ e))
    ml := fun i hi => Nat.lt_of_lt_of_le (hi.elim (h.ml i) (fun e => e ▸ hlt)) hg.size
    rl := fun i hi => Nat.lt_of_lt_of_le (h.rl i hi) hg.size
    cells := h.cells.set1 B'
    hold := fun ho => (h.hold ho).chg hg (fun i e => by rw [e]; exact h.mr A h.mA)
    map := hm.chg hg (fun e => hAB e.symm)
    ks := fun i hi => h.ks i (hK i hi)
    dir := h.dir.chg hg (fun i e => by rw [e]; exact ⟨h.xA, h.mr A h.mA⟩)
    files := fun i hi => (h.files i (hK i hi)).chg hg (fun j e => by rw [e]; exact ⟨h.fA i (hK i hi), h.mr A h.mA⟩)
    mA := .inl h.mA
    mB := .inr rfl
    mX := fun i hi => .inl (h.mX i hi)
    mF := fun i hi j e => .inl (h.mF i (hK i hi) j e)
    xB := fun e => h1 (h.mX _ e)
    fA := fun i hi => h.fA i (hK i hi)
    fB := fun i hi e => h1 (h.mF i (hK i hi) _ e)
    fX := fun i hi => h.fX i (hK i hi)
    ff := fun i hi k hk => h.ff i (hK i hi) k (hK k hk) }
/-- a new file -/
theorem FsAt.add {w2 w3 : World} {F i n' : Nat} {M1 R1 : Nat → Prop} {t : FSt} (h : FsAt w A X B n u hv K g MX MF M R s) (hb : Below w.heap.size w w2) (hf : FileM w2 F M1 R1 t) (hR1 : ∀ j, R1 j → R j) (hM1 : ∀ j, M1 j → w.heap.size ≤ j)
    (hmap : MapF w3 B n' (i :: K) (updN g i F)) (hc : Chg (fun j => j = B) w2 w3) (hi : i < 1000000000) :
    FsAt w3 A X B n' u hv (i :: K) (updN g i F) MX (fun k => if k = i then M1 else MF k) (fun j => M j ∨ M1 j) R { s with file := upd s.file i t } := by
  have h2 := h.on hb
  have hsz := hc.size
  have hsz2 := hb.size
  have mr : ∀ j, (M j ∨ M1 j) → ¬ R j := fun j e e' => e.elim (fun e => h.mr j e e') (fun e => by have := hM1 j e; have := h.rl j e'; omega)
  have hrl : ∀ j, R j → j < w3.heap.size := fun j e => by have := h.rl j e; omega
  have hK : ∀ k, k ∈ i :: K → k ≠ i → k ∈ K := fun k hk e => (List.mem_cons.1 hk).resolve_left e
  have hBM1 : ∀ j, j = B → ¬ M1 j := fun j e e' => by have := hM1 j e'; have := h.ml B h.mB; omega
  refine ⟨mr, fun j e => Nat.lt_of_lt_of_le (e.elim (h2.ml j) (hf.2.2.1 j)) hsz, hrl, h2.cells.of_block (hc.block A h2.cells.lt (fun e => h.ab e)), fun ho => (h2.hold ho).chg hc (fun j e => by rw [e]; exact h.mr B h.mB), h.hvf, hmap, ?_, h2.dir.chg hc (fun j e => by rw [e]; exact ⟨h.xB, h.mr B h.mB⟩), ?_, .inl h.mA, .inl h.mB, fun j e => .inl (h.mX j e), ?_, h.xA, h.xB, ?_, ?_, ?_, ?_⟩
  · intro k hk
    rcases List.mem_cons.1 hk with rfl | hk
    · exact hi
    · exact h.ks k hk
  · intro k hk
    by_cases e : k = i
    · subst e
      simp only [if_true, updN_same, upd_same]
      exact (hf.chg hc (fun j e => ⟨hBM1 j e, fun e' => h.mr B h.mB (e ▸ hR1 j e')⟩)).rise hR1 (fun j e => mr j (.inr e)) hrl
    · simp only [if_neg e, updN_other _ _ e, upd_other _ _ e]
      exact (h2.files k (hK k hk e)).chg hc (fun j e' => by rw [e']; exact ⟨h.fB k (hK k hk e), h.mr B h.mB⟩)
  · intro k hk j e'
    by_cases e : k = i
    · rw [if_pos e] at e'; exact .inr e'
    · rw [if_neg e] at e'; exact .inl (h.mF k (hK k hk e) j e')
  · intro k hk e'
    by_cases e : k = i
    · rw [if_pos e] at e'; have := hM1 A e'; have := h.ml A h.mA; omega
    · rw [if_neg e] at e'; exact h.fA k (hK k hk e) e'
  · intro k hk e'
    by_cases e : k = i
    · rw [if_pos e] at e'; have := hM1 B e'; have := h.ml B h.mB; omega
    · rw [if_neg e] at e'; exact h.fB k (hK k hk e) e'
  · intro k hk j e' ex
    by_cases e : k = i
    · rw [if_pos e] at e'; have := hM1 j e'; have := h.ml j (h.mX j ex); omega
    · rw [if_neg e] at e'; exact h.fX k (hK k hk e) j e' ex
  · intro k hk l hl hkl j e1 e2
    by_cases e : k = i
    · rw [if_pos e] at e1
      rw [if_neg (fun e' => hkl (e.trans e'.symm))] at e2
      have := hM1 j e1
      have := h.ml j (h.mF l (hK l hl (fun e' => hkl (e.trans e'.symm))) j e2)
      omega
    · rw [if_neg e] at e1
      by_cases e3 : l = i
      · rw [if_pos e3] at e2
        have := hM1 j e2
        have := h.ml j (h.mF k (hK k hk e) j e1)
        omega
      · rw [if_neg e3] at e2
        exact h.ff k (hK k hk e) l (hK l hl e3) hkl j e1 e2
/-- a call on a file -/
theorem FsAt.file_mut (h : FsAt w A X B n u hv K g MX MF M R s) {i : Nat} (hi : i ∈ K) {t : FSt} (hm : Mut w w' (g i) (MF i) R t) :
    ∃ MF' M' R', FsAt w' A X B n u hv K g MX MF' M' R' { s with file := upd s.file i t } ∧ Chg M w w' ∧ (∀ i, M' i → M i ∨ w.heap.size ≤ i) ∧ (∀ i, R' i → R i ∨ w.heap.size ≤ i) := by
  obtain ⟨M1, R1, hf, hc, h1, h2⟩ := hm
  have hsz := hc.size
  have hR' : ∀ j, (R j ∨ R1 j) → R j ∨ w.heap.size ≤ j := fun j e => e.elim .inl (h2 j)
  have hM' : ∀ j, (M j ∨ M1 j) → M j ∨ w.heap.size ≤ j := fun j e => e.elim .inl (fun e => (h1 j e).elim (fun e => .inl (h.mF i hi j e)) .inr)
  have mr : ∀ j, (M j ∨ M1 j) → ¬ (R j ∨ R1 j) := by
    intro j e e'
    rcases e with e | e
    · rcases hR' j e' with e'' | e''
      · exact h.mr j e e''
      · have := h.ml j e; omega
    · rcases e' with e' | e'
      · rcases h1 j e with e'' | e''
        · exact h.mr j (h.mF i hi j e'') e'
        · have := h.rl j e'; omega
      · exact hf.2.1 j e e'
  have hrl : ∀ j, (R j ∨ R1 j) → j < w'.heap.size := fun j e => e.elim (fun e => Nat.lt_of_lt_of_le (h.rl j e) hsz) (hf.2.2.2.1 j)
  have hNew : ∀ {j}, M1 j → ∀ {P : Prop}, (MF i j → P) → (w.heap.size ≤ j → P) → P := fun {j} e P a b => (h1 j e).elim a b
  refine ⟨fun k => if k = i then M1 else MF k, fun j => M j ∨ M1 j, fun j => R j ∨ R1 j, ?_, hc.mono (h.mF i hi), hM', hR'⟩
  have hne : ∀ k, k ∈ K → k ≠ i → ∀ j, MF i j → ¬ MF k j := fun k hk hki j e e' => h.ff k hk i hi hki j e' e
  refine ⟨mr, fun j e => e.elim (fun e => Nat.lt_of_lt_of_le (h.ml j e) hsz) (hf.2.2.1 j), hrl, ?_, fun ho => ((h.hold ho).chg hc (fun j e => h.mr j (h.mF i hi j e))).mono (fun j => .inl), h.hvf, h.map.chg hc (h.fB i hi), h.ks, ?_, ?_, .inl h.mA, .inl h.mB, fun j e => .inl (h.mX j e), ?_, h.xA, h.xB, ?_, ?_, ?_, ?_⟩
  · exact h.cells.of_block (hc.block A h.cells.lt (h.fA i hi))
  · exact (h.dir.chg hc (fun j e => ⟨h.fX i hi j e, h.mr j (h.mF i hi j e)⟩)).rise (fun j => .inl) (fun j e => mr j (.inl (h.mX j e))) hrl
  · intro k hk
    by_cases e : k = i
    · subst e
      simp only [if_true, upd_same]
      exact hf.rise (fun j => .inr) (fun j e => mr j (.inr e)) hrl
    · simp only [if_neg e, upd_other _ _ e]
      exact ((h.files k hk).chg hc (fun j e' => ⟨hne k hk e j e', h.mr j (h.mF i hi j e')⟩)).rise (fun j => .inl) (fun j e' => mr j (.inl (h.mF k hk j e'))) hrl
  · intro k hk j e'
    by_cases e : k = i
    · rw [if_pos e] at e'; exact .inr e'
    · rw [if_neg e] at e'; exact .inl (h.mF k hk j e')
  · intro k hk e'
    by_cases e : k = i
    · rw [if_pos e] at e'; exact hNew e' (h.fA i hi) (fun e => by have := h.ml A h.mA; omega)
    · rw [if_neg e] at e'; exact h.fA k hk e'
  · intro k hk e'
    by_cases e : k = i
    · rw [if_pos e] at e'; exact hNew e' (h.fB i hi) (fun e => by have := h.ml B h.mB; omega)
    · rw [if_neg e] at e'; exact h.fB k hk e'
  · intro k hk j e' ex
    by_cases e : k = i
    · rw [if_pos e] at e'; exact hNew e' (fun e' => h.fX i hi j e' ex) (fun e => by have := h.ml j (h.mX j ex); omega)
    · rw [if_neg e] at e'; exact h.fX k hk j e' ex
  · intro k hk l hl hkl j e1 e2
    by_cases e : k = i
    · rw [if_pos e] at e1
      rw [if_neg (fun e' => hkl (e.trans e'.symm))] at e2
      exact hNew e1 (fun e' => h.ff k hk l hl hkl j (e ▸ e') e2) (fun e' => by have := h.ml j (h.mF l hl j e2); omega)
    · rw [if_neg e] at e1
      by_cases e3 : l = i
      · rw [if_pos e3] at e2
        exact hNew e2 (fun e' => h.ff k hk l hl hkl j e1 (e3 ▸ e')) (fun e' => by have := h.ml j (h.mF k hk j e1); omega)
      · rw [if_neg e3] at e2
        exact h.ff k hk l hl hkl j e1 e2
/-- a call on the folder -/
theorem FsAt.dir_mut (h : FsAt w A X B n u hv K g MX MF M R s) {d : PSt} (hm : HMut w w' X MX R d) :
    ∃ MX' M' R', FsAt w' A X B n u hv K g MX' MF M' R' { s with dir := d } ∧ Chg M w w' ∧ (∀ i, M' i → M i ∨ w.heap.size ≤ i) ∧ (∀ i, R' i → R i ∨ w.heap.size ≤ i) := by
  obtain ⟨M1, R1, hf, hc, h1, h2⟩ := hm
  have hsz := hc.size
  have hR' : ∀ j, (R j ∨ R1 j) → R j ∨ w.heap.size ≤ j := fun j e => e.elim .inl (h2 j)
  have hM' : ∀ j, (M j ∨ M1 j) → M j ∨ w.heap.size ≤ j := fun j e => e.elim .inl (fun e => (h1 j e).elim (fun e => .inl (h.mX j e)) .inr)
  have mr : ∀ j, (M j ∨ M1 j) → ¬ (R j ∨ R1 j) := by
    intro j e e'
    rcases e with e | e
    · rcases hR' j e' with e'' | e''
      · exact h.mr j e e''
      · have := h.ml j e; omega
    · rcases e' with e' | e'
      · rcases h1 j e with e'' | e''
        · exact h.mr j (h.mX j e'') e'
        · have := h.rl j e'; omega
      · exact hf.2.1 j e e'
  have hrl : ∀ j, (R j ∨ R1 j) → j < w'.heap.size := fun j e => e.elim (fun e => Nat.lt_of_lt_of_le (h.rl j e) hsz) (hf.2.2.2.1 j)
  refine ⟨M1, fun j => M j ∨ M1 j, fun j => R j ∨ R1 j, ?_, hc.mono h.mX, hM', hR'⟩
  refine ⟨mr, fun j e => e.elim (fun e => Nat.lt_of_lt_of_le (h.ml j e) hsz) (hf.2.2.1 j), hrl, h.cells.of_block (hc.block A h.cells.lt h.xA), fun ho => ((h.hold ho).chg hc (fun j e => h.mr j (h.mX j e))).mono (fun j => .inl), h.hvf, h.map.chg hc h.xB, h.ks, hf.rise (fun j => .inr) (fun j e => mr j (.inr e)) hrl, ?_, .inl h.mA, .inl h.mB, fun j e => .inr e, fun k hk j e => .inl (h.mF k hk j e), ?_, ?_, h.fA, h.fB, ?_, h.ff⟩
  · intro k hk
    exact ((h.files k hk).chg hc (fun j e' => ⟨fun e => h.fX k hk j e e', h.mr j (h.mX j e')⟩)).rise (fun j => .inl) (fun j e' => mr j (.inl (h.mF k hk j e'))) hrl
  · exact fun e => (h1 A e).elim h.xA (fun e => by have := h.ml A h.mA; omega)
  · exact fun e => (h1 B e).elim h.xB (fun e => by have := h.ml B h.mB; omega)
  · exact fun k hk j e e' => (h1 j e').elim (h.fX k hk j e) (fun e' => by have := h.ml j (h.mF k hk j e); omega)
end
/-- the file system in block A holds s -/
def FsM (w : World) (A u : Nat) (M R : Nat → Prop) (s : FsP) : Prop :=
  ∃ X B n hv K g MX MF, FsAt w A X B n u hv K g MX MF M R s ∧ n ≤ s.dir.last + 1 ∧ (∀ i, i ∈ K → i ≤ s.dir.last) ∧ ∀ i, i ∈ s.dir.live → i ∈ K
/-- what a call leaves that changes the file system -/
def FsMut (w w' : World) (A u : Nat) (M R : Nat → Prop) (s : FsP) : Prop :=
  ∃ M' R', FsM w' A u M' R' s ∧ Chg M w w' ∧ (∀ i, M' i → M i ∨ w.heap.size ≤ i) ∧ (∀ i, R' i → R i ∨ w.heap.size ≤ i)
section
variable {w w' w'' : World} {A u u' : Nat} {M M' R R' N : Nat → Prop} {s t : FsP}
theorem FsM.ltA (h : FsM w A u M R s) : A < w.heap.size := by obtain ⟨X, B, n, hv, K, g, MX, MF, h, _⟩ := h; exact h.cells.lt
theorem FsM.mr (h : FsM w A u M R s) : ∀ i, M i → ¬ R i := by obtain ⟨X, B, n, hv, K, g, MX, MF, h, _⟩ := h; exact h.mr
theorem FsM.ml (h : FsM w A u M R s) : ∀ i, M i → i < w.heap.size := by obtain ⟨X, B, n, hv, K, g, MX, MF, h, _⟩ := h; exact h.ml
theorem FsM.rl (h : FsM w A u M R s) : ∀ i, R i → i < w.heap.size := by obtain ⟨X, B, n, hv, K, g, MX, MF, h, _⟩ := h; exact h.rl
theorem FsM.chg (h : FsM w A u M R s) (hc : Chg N w w') (hN : ∀ i, N i → ¬ M i ∧ ¬ R i) : FsM w' A u M R s := by
  obtain ⟨X, B, n, hv, K, g, MX, MF, h, h1⟩ := h
  exact ⟨X, B, n, hv, K, g, MX, MF, h.chg hc hN, h1⟩
theorem FsM.on (h : FsM w A u M R s) (hb : Below w.heap.size w w') : FsM w' A u M R s := h.chg (Chg.of_below (M := fun _ => False) hb) (fun i e => e.elim)
theorem FsM.drew (h : FsM w A u M R s) : FsM w.drew A u M R s := h.on (Below.refl _ _).drew
theorem FsM.ok (h : FsM w A u M R s) : s.dir.Ok := by obtain ⟨X, B, n, hv, K, g, MX, MF, h, _⟩ := h; exact h.dir.ok
theorem FsMut.of_below (h : FsM w A u M R s) (hb : Below w.heap.size w w') : FsMut w w' A u M R s := ⟨M, R, h.on hb, Chg.of_below hb, fun _ => .inl, fun _ => .inl⟩
theorem FsMut.refl (h : FsM w A u M R s) : FsMut w w A u M R s := .of_below h (Below.refl _ _)
theorem FsMut.on (h : FsMut w w' A u M R s) (hb : Below w'.heap.size w' w'') : FsMut w w'' A u M R s := by
  obtain ⟨M1, R1, h1, h2, h3, h4⟩ := h
  exact ⟨M1, R1, h1.on hb, h2.trans (Chg.of_below (M := fun _ => False) hb) (fun i e => e.elim), h3, h4⟩
theorem FsM.setU (h : FsM w A u M R s) (k : Nat) : FsM (w.setCell ⟨A, 3, none⟩ (.int .i64 (k : Int))) A k M R s := by
  obtain ⟨X, B, n, hv, K, g, MX, MF, h, h1⟩ := h
  exact ⟨X, B, n, hv, K, g, MX, MF, h.setU k, h1⟩
theorem FsM.mA (h : FsM w A u M R s) : M A := by obtain ⟨X, B, n, hv, K, g, MX, MF, h, _⟩ := h; exact h.mA
theorem FsMut.after (hc : Chg M w w') (h3 : ∀ i, M' i → M i ∨ w.heap.size ≤ i) (h4 : ∀ i, R' i → R i ∨ w.heap.size ≤ i) (k : FsMut w' w'' A u M' R' t) : FsMut w w'' A u M R t := by
  obtain ⟨M1, R1, k1, k2, k3, k4⟩ := k
  exact ⟨M1, R1, k1, hc.trans k2 h3, fun i e => (k3 i e).elim (h3 i) (fun e => .inr (Nat.le_trans hc.size e)), fun i e => (k4 i e).elim (h4 i) (fun e => .inr (Nat.le_trans hc.size e))⟩
end
end Go.Proofs.YtaicibmaogiibaaGreatDoor

/- JxShelf -/

/-
  Layer 7: what the laws use of the shelf: slices.Clone of numbers, slices.Equal of names, a map of names whose keys are at 1, cleared; a mask.
-/
set_option linter.unusedVariables false
set_option linter.unusedSimpArgs false
namespace Go.Proofs.YtaicibmaogiibaaGreatDoor
open Go.RowKit Go.Maps

/-- numbers as cells -/
def ivs (l : List Int) : List Value := l.map (Value.int .i64)
/-- strings as cells -/
def svs (l : List ByteArray) : List Value := l.map Value.string
theorem svs_get {l : List ByteArray} {k : Nat} {x : ByteArray} (h : l[k]? = some x) : (svs l)[k]? = some (.string x) := by simp [svs, h]
theorem svs_append (l m : List ByteArray) : svs (l ++ m) = svs l ++ svs m := by simp [svs]
/-- The value v is a slice that reads as the strings l, out of a block of R. -/
def SsR (w : World) (R : Nat → Prop) (v : Value) (l : List ByteArray) : Prop := ∃ A c, v = .slice A l.length c ∧ l.length ≤ c ∧ c ≤ maxLen ∧ RdR w R A (svs l)
section
variable {w w' : World} {R R' M : Nat → Prop} {v : Value} {l : List ByteArray}
theorem SsR.chg (h : SsR w R v l) (hc : Chg M w w') (hM : ∀ i, M i → ¬ R i) : SsR w' R v l := by
  obtain ⟨A, c, h1, h2, h3, h4⟩ := h
  exact ⟨A, c, h1, h2, h3, h4.chg hc hM⟩
theorem SsR.on (h : SsR w R v l) (hb : Below w.heap.size w w') : SsR w' R v l := h.chg (Chg.of_below (M := fun _ => False) hb) (fun _ e => e.elim)
theorem SsR.mono (h : SsR w R v l) (hR : ∀ i, R i → R' i) : SsR w R' v l := by
  obtain ⟨A, c, h1, h2, h3, h4⟩ := h
  exact ⟨A, c, h1, h2, h3, h4.mono hR⟩
theorem SsR.at_ (h : SsR w R v l) {A : Option Addr} {n c : Nat} (hv : v = .slice A n c) {j : Nat} {x : ByteArray} (hx : l[j]? = some x) :
    ∃ b o, A = some ⟨b, o, none⟩ ∧ R b ∧ w.cell? ⟨b, o + j, none⟩ = some (.string x) := by
  obtain ⟨A', c', e, _, _, h2⟩ := h
  rw [hv] at e
  injection e with e _ _
  subst e
  have g1 := svs_get hx
  obtain ⟨b, o, e2, hb, hc⟩ := h2 (by intro e; rw [e] at g1; simp at g1)
  exact ⟨b, o, e2, hb, hc _ _ g1⟩
end
def ks (n : ByteArray) : Lit := .string n.data.toList
/-- block b is a map of at most n names, of which those of l are at 1, and no others there -/
def MapS (w : World) (b n : Nat) (l : List ByteArray) : Prop := ∃ D : DataW Unit, w.ownsMap Tryz.prog 9 (plainElem Tryz.prog 3) b n D ∧ (∀ i, i ∈ l → ∀ zd, D.atKey (ks i) zd = .lit (.int .i64 1)) ∧ (∀ k, (∀ i, i ∈ l → k ≠ ks i) → Maps.has D k = false)
section
variable {w w' : World} {b n : Nat} {l : List ByteArray} {M : Nat → Prop}
theorem MapS.lt (h : MapS w b n l) : b < w.heap.size := by obtain ⟨D, h, _⟩ := h; exact h.lt
theorem MapS.of_block (h : MapS w b n l) (hb : w'.heap[b]? = w.heap[b]?) : MapS w' b n l := by
  obtain ⟨D, ⟨es', clock, h1, h2⟩, hr⟩ := h
  exact ⟨D, ⟨es', clock, hb.trans h1, h2⟩, hr⟩
theorem MapS.chg (h : MapS w b n l) (hc : Chg M w w') (hM : ¬ M b) : MapS w' b n l := h.of_block (hc.block b h.lt hM)
theorem MapS.on (h : MapS w b n l) (hb : Below w.heap.size w w') : MapS w' b n l := h.of_block (hb.block b h.lt)
theorem MapS.new (w : World) : MapS (w.alloc (.map #[] 0)) w.heap.size 0 [] := ⟨_, World.ownsMap_made w _ _ _, (fun i hi => absurd hi (by simp)), (fun k _ => rfl)⟩
theorem MapS.congr {l' : List ByteArray} (h : MapS w b n l) (he : ∀ i, i ∈ l ↔ i ∈ l') : MapS w b n l' := by
  obtain ⟨D, h1, h2, h3⟩ := h
  exact ⟨D, h1, fun i hi => h2 i ((he i).2 hi), fun k hk => h3 k (fun i hi => hk i ((he i).1 hi))⟩
end
end Go.Proofs.YtaicibmaogiibaaGreatDoor

