
/-
  slices.Sort, slices.Sorted at uint64, of a row of at most 200.
-/
import Derived.Test.YtboeiadfmknidaaGreatSxPdq
import Derived.Test.YtboeiadfmknidaaGreatHxNames
set_option linter.unusedVariables false
set_option linter.unusedSimpArgs false
namespace Go.Proofs.YtboeiadfmknidaaGreat
open Go.RowKit Go.Sort Go.Shelf

/-- the inodes of entries, rising -/
def inosL (es : List Ent) : List Nat := (es.map (·.2)).mergeSort (fun a b => decide (a ≤ b))
theorem inosL_perm (es : List Ent) : (inosL es).Perm (es.map (·.2)) := List.mergeSort_perm _ _
theorem inosL_le (es : List Ent) : (inosL es).Pairwise (· ≤ ·) := by
  have := List.pairwise_mergeSort (le := fun a b : Nat => decide (a ≤ b)) (by intro a b c h1 h2; simp at *; omega) (by intro a b; simp; omega) (es.map (·.2))
  exact this.imp (by intro a b h; simpa using h)
theorem sorted_eq {xs ys : List Nat} (hp : ys.Perm xs) (hx : xs.Pairwise (· ≤ ·)) (hy : ys.Pairwise (· ≤ ·)) : ys = xs :=
  List.Perm.eq_of_pairwise (le := fun a b : Nat => a ≤ b) (fun a b _ _ h1 h2 => Nat.le_antisymm h1 h2) hy hx hp
/-- a row that one owns, as the sort takes it -/
theorem rowU_of_own {w : World} {base n : Nat} {v : Value} {xs : List Nat} (h : w.ownsRow base 64 1 v n (xs.map encU)) :
    (v = .slice none 0 0 ∧ n = 0 ∧ xs = []) ∨ ∃ g cap, v = slU g 0 n cap ∧ n = (xs.map (fun x : Nat => (x : Int))).toArray.size ∧ base ≤ g ∧ cap ≤ maxLen ∧ RowU w g 0 cap (xs.map (fun x : Nat => (x : Int))).toArray := by
  have hl : xs.length = n := by have := h.1; simpa using this
  rcases h.2 with ⟨rfl, h0⟩ | ⟨g, cap, cur, rfl, hb, hg, hc, hm, hs, ht⟩
  · exact .inl ⟨rfl, h0, List.eq_nil_of_length_eq_zero (by omega)⟩
  · refine .inr ⟨g, cap, rfl, by simp [hl], hb, hm, cur, hg, by simpa using hs, by simp [hl]; omega, fun t ht2 => ?_⟩
    simp only [List.size_toArray, List.length_map] at ht2
    rw [Nat.mul_one] at ht
    have h1 : (cur.toList.take n)[t]? = (xs.map encU)[t]? := by rw [ht]
    rw [List.getElem?_take, if_pos (by omega), Array.getElem?_toList] at h1
    rw [Nat.zero_add, h1]
    simp [getElem!_def, List.getElem?_eq_getElem ht2, encU]
theorem own_of_rowU {w : World} {base n g cap : Nat} {d : Array Int} {ys : List Nat} (hd : d = (ys.map (fun x : Nat => (x : Int))).toArray) (hn : n = ys.length) (hb : base ≤ g) (hm : cap ≤ maxLen) (h : RowU w g 0 cap d) :
    w.ownsRow base 64 1 (slU g 0 n cap) n (ys.map encU) := by
  obtain ⟨cur, hg, hs, hle, hc⟩ := h
  subst hd hn
  simp only [List.size_toArray, List.length_map, Nat.zero_add] at hle hc
  refine ⟨by simp, .inr ⟨g, cap, cur, rfl, hb, hg, hle, hm, by omega, ?_⟩⟩
  rw [Nat.mul_one]
  refine List.ext_getElem? fun t => ?_
  by_cases ht : t < ys.length
  · rw [List.getElem?_take, if_pos ht, Array.getElem?_toList, hc t ht]
    simp [getElem!_def, List.getElem?_eq_getElem ht, encU]
  · rw [List.getElem?_take, if_neg ht, List.getElem?_eq_none (by simp; omega)]
set_option maxRecDepth 100000 in
theorem hsortU {w : World} {base n : Nat} {v : Value} {xs : List Nat} (h : w.ownsRow base 64 1 v n (xs.map encU)) (hbs : base ≤ w.heap.size) (hn : n ≤ 200) :
    Calls Tryz.prog 91 #[v] w fun e w' => (∃ u, e = .returned u) ∧ ∃ ys : List Nat, ys.Perm xs ∧ ys.Pairwise (· ≤ ·) ∧ w'.ownsRow base 64 1 v n (ys.map encU) ∧ Below base w w' := by
  rcases rowU_of_own h with ⟨rfl, rfl, rfl⟩ | ⟨g, cap, rfl, hnd, hb, hm, hrow⟩
  · refine (hsort0 w).mono ?_
    rintro e w' ⟨hu, rfl⟩
    exact ⟨hu, [], List.Perm.refl _, List.Pairwise.nil, h, Below.refl _ _⟩
  · obtain ⟨d, hd⟩ : ∃ d, d = (xs.map (fun x : Nat => (x : Int))).toArray := ⟨_, rfl⟩
    rw [← hd] at hrow hnd
    have Hd := Lib.hid hd
    have HR := Lib.hid hrow
    clear h hd hrow
    subst hnd
    have hfin : ∀ (w' : World) (d' : Array Int), PermIn 0 d.size d d' → SortedIn ltInt 0 d.size d' → StU w w' g 0 cap d' → ∃ ys : List Nat, ys.Perm xs ∧ ys.Pairwise (· ≤ ·) ∧ w'.ownsRow base 64 1 (slU g 0 d.size cap) d.size (ys.map encU) ∧ Below base w w' := by
      intro w' d' hp hs hst
      have hsz := hp.1
      have hpm := hp.2.2
      have e1 : d'.extract 0 d.size = d' := by rw [← hsz]; simp
      have e2 : d.extract 0 d.size = d := by simp
      rw [e1, e2] at hpm
      have hall : ∀ x ∈ d'.toList, ∃ k : Nat, x = (k : Int) := fun x hx => by
        have h1 := hpm.mem_iff.1 hx
        rw [Hd.out] at h1
        obtain ⟨k, _, rfl⟩ := List.mem_map.1 (by simpa using h1)
        exact ⟨k, rfl⟩
      have hys : d' = ((d'.toList.map Int.toNat).map (fun x : Nat => (x : Int))).toArray := by
        apply Array.ext'
        rw [List.map_map]
        refine (List.map_id _).symm.trans (List.map_congr_left fun x hx => ?_)
        obtain ⟨k, rfl⟩ := hall x hx
        simp
      refine ⟨d'.toList.map Int.toNat, ?_, ?_, own_of_rowU hys (by simp [hsz]) hb hm hst.row, hst.chg.below hbs (fun i e => by subst e; exact hb)⟩
      · have := hpm.map Int.toNat
        rw [Hd.out] at this
        have e3 : ((xs.map (fun x : Nat => (x : Int))).toArray.toList.map Int.toNat) = xs := by
          rw [show (xs.map (fun x : Nat => (x : Int))).toArray.toList = xs.map (fun x : Nat => (x : Int)) from rfl, List.map_map]
          exact (List.map_congr_left fun x _ => by simp).trans (List.map_id _)
        rw [e3] at this
        exact this
      · rw [List.pairwise_map, List.pairwise_iff_getElem]
        intro i j hi hj hij
        have h1 := hs i j (Nat.zero_le _) hij (by simpa [hsz] using hj)
        have hi' : i < d'.size := by simpa using hi
        have hj' : j < d'.size := by simpa using hj
        rw [getElem!_pos d' j hj', getElem!_pos d' i hi'] at h1
        simp only [ltInt, decide_eq_false_iff_not] at h1
        simp only [Array.getElem_toList]
        omega
    have HF := Lib.hid hfin
    clear hfin hbs hb
    obtain ⟨n, hn'⟩ : ∃ n, n = d.size := ⟨_, rfl⟩
    have Hn := Lib.hid hn'
    rw [← hn'] at hn ⊢
    clear hn'
    have hwn : IntKind.u64.wrap (n : Int) = (n : Int) := IntWalk.u64_in _ (by omega)
    unfold slU
    go_enter Tryz.func91, Tryz.ntmps91
    go_wp2_with (go_at_call 100; refine (hlen n _ (by omega)).mono ?_; rintro e w1 ⟨⟨k, rfl, hk⟩, rfl⟩)
    have hc := hpdq (n + 1) g 0 cap cap 0 n k d w1 (by omega) HR.out (by omega) (by have := Hn.out; omega) (by have := Hn.out; omega) (by have := hk.1; omega) (.inl rfl)
    unfold slU at hc
    rw [← Hn.out] at hc
    have HC := Lib.hid hc
    clear hc
    go_wp2_with (go_at_call 99; refine (HC.out).mono ?_; rintro e w2 ⟨⟨u, rfl⟩, hw2⟩)
    go_end0
    obtain ⟨d', h1, h2, h3⟩ := hw2
    have := Hn.out
    subst this
    exact ⟨⟨_, rfl⟩, HF.out _ _ h1 h2 h3⟩
/-- slices.Sorted at uint64 -/
theorem hsortedU {w : World} (g : Nat) (lb : Array Value) (eg : ∀ args w, (callFunc g args).run Tryz.prog w = .ok (.enter g args) w) (S : List Nat → Prop) (N : Nat) (hN : N ≤ 1000000) (hS : ∀ xs, S xs → xs.length ≤ 200)
    (hseq : ∀ n, 1 ≤ n → SeqStops Fence.wide n Tryz.prog g lb encU S (fun _ => True) N w) :
    Calls Tryz.prog 78 #[.func (.func g) #[] lb] w fun e w' => ∃ (v : Value) (xs ys : List Nat), e = .returned v ∧ S xs ∧ ys.Perm xs ∧ ys.Pairwise (· ≤ ·) ∧ w'.ownsRow w.heap.size 64 1 v ys.length (ys.map encU) ∧ Below w.heap.size w w' := by
  have hc := hcollect g lb eg S N hN hseq
  have HS := Lib.hid hS
  clear hS
  go_enter Tryz.func78, Tryz.ntmps78
  go_wp2_with fail
  refine hc.mono ?_
  rintro e w' ⟨v, xs, rfl, hxs, hrow, hnil, hb⟩
  have hl := HS.out xs hxs
  have HX := Lib.hid hxs
  have HB := Lib.hid hb
  have HR := Lib.hid hrow
  clear hxs hrow hnil hb hseq
  go_wp2_with fail
  refine (hsortU HR.out HB.out.size hl).mono ?_
  rintro e w2 ⟨⟨u, rfl⟩, ys, h1, h2, h3, h4⟩
  go_wp2_with fail
  go_ret
  exact ⟨_, xs, ys, rfl, HX.out, h1, h2, by rw [h1.length_eq]; exact h3, HB.out.trans h4⟩
/-- the inodes of a map, rising -/
theorem sortedAt {w : World} {b : Nat} {es : List Ent} (h : MapAt w b es) (hl : es.length ≤ 200) : SortedAt w b (inosL es) := by
  have h1 : MapAt (w.alloc (.cells #[.map (some b)] 83)) b es := h.on ((Below.refl _ _).alloc (Nat.le_refl _) _)
  refine (hsortedU 92 #[.pointer (some ⟨w.heap.size, 0, none⟩)] (enters_of Tryz.func92 (by kernel_rfl) rfl) _ es.length (by omega) ?_
    (fun n hn => hvals_stops n hn w.heap.size b es _ (by simp) (by simp) h1)).mono ?_
  · rintro xs ⟨ps, _, hp, rfl⟩
    rw [List.length_map, hp.length_eq]
    exact hl
  · rintro e w' ⟨v, xs, ys, rfl, ⟨ps, hc, hp, rfl⟩, hys, hso, ho, hb⟩
    have he : ys = inosL es := sorted_eq (hys.trans ((hp.map _).trans (inosL_perm es).symm)) (inosL_le es) hso
    subst he
    exact ⟨v, rfl, by simpa using ho, by simpa using hb⟩
end Go.Proofs.YtboeiadfmknidaaGreat
