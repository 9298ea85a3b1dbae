
/-
  Layer 6: the program's folder and the document's, call by call; both in memory.
-/
import Derived.Test.YtpjmjcjikaekiaaHxSince
import Derived.Test.YtpjmjcjikaekiaaGxWants
set_option linter.unusedVariables false
set_option linter.unusedSimpArgs false
namespace Go.Proofs.Ytpjmjcjikaekiaa
open Go.RowKit Go.Maps

theorem curL_states (s : PSt) : curL s.states = s.now := by
  have h := curL_get (sts := s.states) (by rw [states_length]; omega)
  rw [states_length, Nat.add_sub_cancel, states_get (Nat.le_refl _), s.at_all] at h
  injection h with h
  exact h.symm
theorem withL_withoutL {l : List Ent} (h : SortE l) {a b : ByteArray} (hne : a ≠ b) (i : Nat) : withL (withoutL l a) b i = withoutL (withL l b i) a := by
  refine sortE_ext (sortE_with (sortE_without h a) b i) (sortE_without (sortE_with h b i) a) (fun x => ?_)
  rw [mem_withL, mem_withoutL, mem_withoutL, mem_withL]
  constructor
  · rintro (rfl | ⟨⟨h1, h2⟩, h3⟩)
    · exact ⟨.inl rfl, fun e => hne e.symm⟩
    · exact ⟨.inr ⟨h1, h3⟩, h2⟩
  · rintro ⟨rfl | ⟨h1, h2⟩, h3⟩
    · exact .inl rfl
    · exact .inr ⟨⟨h1, h3⟩, h2⟩
theorem crashF_states (s : PSt) (q : Int) : crashF s.states q = (s.settle (keepN q s.deeds.length)).states := by
  unfold crashF
  rw [states_length, Nat.add_sub_cancel]
  have hk : keepN q s.deeds.length = min q.toNat s.deeds.length := rfl
  rw [states_settle, settle_now, hk, states_get (Nat.min_le_right _ _)]
  rfl
/-- the document's folder tells what the program's tells, and goes the same way -/
theorem want_do (s : PSt) (ho : s.Ok) (c : Call6) : wantF s.states s.last c = ((doP s c).1, (doP s c).2.1, (doP s c).2.2.states, (doP s c).2.2.last) := by
  unfold wantF doP
  split
  · unfold createF createP
    rw [curL_states]
    split
    · rfl
    · split
      · rfl
      · split
        · rfl
        · simp only [PSt.made]
          rw [states_push]
          have e1 : (PSt.push { s with last := s.last + 1 } (.mk c.name (s.last + 1))).now = withL s.now c.name (s.last + 1) := PSt.push_now _ _
          rw [e1]
          rfl
  · split
    · unfold renameF renameP
      rw [curL_states]
      split
      · rfl
      · rename_i h1
        cases hf : findL s.now c.name with
        | none =>
          simp
        | some i =>
          have hso : (findL s.now c.name).isSome = true := by rw [hf]; rfl
          by_cases h2 : (c.name.toList == c.to.toList) = true
          · simp only [Option.isSome_some, h2, if_true, reduceCtorEq, if_false]
          · have hne : c.name ≠ c.to := fun e => h2 (by rw [e]; simp)
            simp only [Option.isSome_some, h2, reduceCtorEq, if_false]
            rw [states_push]
            have e1 : (s.push (.mv c.name c.to)).now = withoutL (withL s.now c.to i) c.name := by rw [PSt.push_now]; simp [Dd.app, hf]
            rw [e1, ← withL_withoutL ho.now.1 hne]
            rfl
    · split
      · unfold removeF removeP
        rw [curL_states]
        split
        · rfl
        · split
          · simp only []
            rw [states_push, PSt.push_now]
            rfl
          · rfl
      · split
        · rw [crashF_states]
          have : keepN (s.states.length : Int) s.deeds.length = s.deeds.length := by unfold keepN; rw [states_length]; omega
          rw [this]
          rfl
        · split
          · rw [crashF_states]
            rfl
          · rfl
/-- each inode that was made since the safe state is there behind some deeds -/
def Made (s : PSt) : Prop := ∀ n, s.settled < n → n ≤ s.last → ∃ k, k ≤ s.deeds.length ∧ ∃ x ∈ s.at_ k, x.2 = n
theorem Made.new : Made PSt.new := fun n h1 h2 => by simp [PSt.new] at h1 h2; omega
theorem Made.push {s : PSt} (h : Made s) (d : Dd) : Made (s.push d) := fun n h1 h2 => by
  obtain ⟨k, hk, x, hx, e⟩ := h n h1 h2
  exact ⟨k, by simp [PSt.push]; omega, x, by rw [PSt.at_push hk]; exact hx, e⟩
theorem Made.doP {s : PSt} (h : Made s) (c : Call6) : Made (doP s c).2.2 := by
  rcases doP_cases s c with e | ⟨e, _⟩ | ⟨e, _⟩ | ⟨e, _⟩ | ⟨k, hk, e, _⟩
  · rw [e]; exact h
  · rw [e]
    intro n h1 h2
    by_cases hn : n = s.last + 1
    · subst hn
      refine ⟨s.deeds.length + 1, by simp [PSt.made, PSt.push], (c.name, s.last + 1), ?_, rfl⟩
      have e2 : (s.made c.name).at_ (s.deeds.length + 1) = withL s.now c.name (s.last + 1) := PSt.at_push_all { s with last := s.last + 1 } _
      rw [e2]
      exact mem_withL.2 (.inl rfl)
    · have h3 : s.settled < n := h1
      have h4 : n ≤ s.last + 1 := h2
      obtain ⟨k, hk, x, hx, e2⟩ := h n h3 (by omega)
      refine ⟨k, by simp [PSt.made, PSt.push]; omega, x, ?_, e2⟩
      have e3 : (s.made c.name).at_ k = s.at_ k := PSt.at_push (s := { s with last := s.last + 1 }) hk
      rw [e3]
      exact hx
  · rw [e]; exact h.push _
  · rw [e]; exact h.push _
  · rw [e]
    intro n h1 h2
    have h3 : s.last < n := h1
    have h4 : n ≤ s.last := h2
    omega
theorem mem_states {s : PSt} {l : List Ent} : l ∈ s.states ↔ ∃ k, k ≤ s.deeds.length ∧ s.at_ k = l := by
  unfold PSt.states
  rw [List.mem_map]
  constructor
  · rintro ⟨k, hk, e⟩; exact ⟨k, by have := List.mem_range.1 hk; omega, e⟩
  · rintro ⟨k, hk, e⟩; exact ⟨k, List.mem_range.2 (by omega), e⟩
theorem inSts_iff {n : Nat} {sts : List (List Ent)} : inSts n sts = true ↔ ∃ l ∈ sts, ∃ x ∈ l, x.2 = n := by
  simp [inSts, inSt]
theorem lt_ext {l m : List Nat} (hl : l.Pairwise (· < ·)) (hm : m.Pairwise (· < ·)) (h : ∀ x, x ∈ l ↔ x ∈ m) : l = m :=
  List.Perm.eq_of_pairwise (le := fun x y : Nat => x < y) (fun a b _ _ h1 h2 => by omega) hl hm ((List.perm_ext_iff_of_nodup (hl.imp (by intro a b h; omega)) (hm.imp (by intro a b h; omega))).2 h)
theorem live_eq {s : PSt} (hg : GInv s) (hm : Made s) (ho : s.Ok) : liveTo s.states (s.last + 1) = s.live := by
  refine lt_ext (List.Pairwise.filter _ (List.pairwise_lt_range)) (hg.live_lt ho) (fun n => ?_)
  unfold liveTo
  rw [List.mem_filter, List.mem_range, mem_live ho.settled, Bool.and_eq_true, inSts_iff, decide_eq_true_eq]
  constructor
  · rintro ⟨h1, h2, l, hl, x, hx, rfl⟩
    obtain ⟨k, hk, rfl⟩ := mem_states.1 hl
    rcases hg.old k hk x hx with h3 | h3
    · exact .inl h3
    · exact .inr ⟨h3, by omega⟩
  · rintro (⟨y, hy, rfl⟩ | ⟨h1, h2⟩)
    · have h3 := (hg.safe.1 y hy).2
      have := ho.settled
      exact ⟨by omega, h3.1, s.at_ 0, mem_states.2 ⟨0, Nat.zero_le _, rfl⟩, y, by rw [PSt.at_zero]; exact hy, rfl⟩
    · obtain ⟨k, hk, x, hx, e⟩ := hm n h1 h2
      exact ⟨by omega, by omega, s.at_ k, mem_states.2 ⟨k, hk, rfl⟩, x, hx, e⟩
theorem states_few {s : PSt} (ho : s.Ok) : ∀ l ∈ s.states, l.length ≤ 100000 ∧ ∀ x ∈ l, x.2 < 18446744073709551616 := fun l hl => by
  obtain ⟨k, hk, rfl⟩ := mem_states.1 hl
  have h1 : OkE (s.at_ k) := doAll_ok ho.safe (fun d hd => ho.deeds d (List.mem_of_mem_take hd))
  refine ⟨?_, fun x hx => by have := (h1.2 x hx).2; omega⟩
  have h2 := doAll_length (s.deeds.take k) s.safe
  have h3 : (s.deeds.take k).length ≤ s.deeds.length := by rw [List.length_take]; omega
  have := ho.few
  unfold PSt.at_
  omega
/-- the blocks of the document's folder -/
def DB (Y : Nat) (N : Nat → Prop) (vs : Value) (i : Nat) : Prop := i = Y ∨ vs.ownBlock = some i ∨ N i
/-- both folders, new since w, apart from each other -/
structure TI (w wk : World) (X : Nat) (M R : Nat → Prop) (s : PSt) (Y : Nat) (N : Nat → Prop) (vs : Value) (vals : List Value) (sts : List (List Ent)) (last : Nat) : Prop where
  live : HLive w wk X M R s
  ref : RFol wk Y N vs vals sts last
  apart : ∀ i, DB Y N vs i → ¬ M i ∧ ¬ R i ∧ w.heap.size ≤ i
section
variable {w wk w' : World} {X : Nat} {M R K : Nat → Prop} {s s' : PSt} {Y : Nat} {N : Nat → Prop} {vs : Value} {vals : List Value} {sts sts' : List (List Ent)} {last last' : Nat}
theorem TI.lt (h : TI w wk X M R s Y N vs vals sts last) : ∀ i, DB Y N vs i → i < wk.heap.size := fun i hi => by
  rcases hi with rfl | hi | hi
  · exact h.ref.ltX
  · exact (h.ref.own.lt i hi).2
  · exact h.ref.nlt i hi
theorem TI.chg (h : TI w wk X M R s Y N vs vals sts last) (hc : Chg K wk w') (hK : ∀ i, K i → ¬ M i ∧ ¬ R i ∧ ¬ DB Y N vs i ∧ w.heap.size ≤ i) : TI w w' X M R s Y N vs vals sts last :=
  ⟨h.live.chg hc (fun i hi => ⟨(hK i hi).1, (hK i hi).2.1, (hK i hi).2.2.2⟩), h.ref.chg hc (fun i hi => ⟨fun e => (hK i hi).2.2.1 (.inl e), fun e => (hK i hi).2.2.1 (.inr (.inl e)), fun e => (hK i hi).2.2.1 (.inr (.inr e))⟩), h.apart⟩
theorem TI.on (h : TI w wk X M R s Y N vs vals sts last) (hb : Below wk.heap.size wk w') : TI w w' X M R s Y N vs vals sts last := ⟨h.live.on hb, h.ref.on hb, h.apart⟩
theorem TI.mutP (h : TI w wk X M R s Y N vs vals sts last) (hm : HMut wk w' X M R s') : ∃ M' R', TI w w' X M' R' s' Y N vs vals sts last ∧ Chg M wk w' ∧ (∀ i, M' i → M i ∨ wk.heap.size ≤ i) ∧ (∀ i, R' i → R i ∨ wk.heap.size ≤ i) := by
  obtain ⟨M', R', hl, hc, h1, h2⟩ := h.live.mut hm
  refine ⟨M', R', ⟨hl, h.ref.chg hc (fun i hi => ⟨fun e => (h.apart i (.inl e)).1 hi, fun e => (h.apart i (.inr (.inl e))).1 hi, fun e => (h.apart i (.inr (.inr e))).1 hi⟩), fun i hi => ⟨fun e => ?_, fun e => ?_, (h.apart i hi).2.2⟩⟩, hc, h1, h2⟩
  · rcases h1 i e with e | e
    · exact (h.apart i hi).1 e
    · have := h.lt i hi; omega
  · rcases h2 i e with e | e
    · exact (h.apart i hi).2.1 e
    · have := h.lt i hi; omega
theorem TI.mutR (h : TI w wk X M R s Y N vs vals sts last) (hm : RMut wk w' Y N vs sts' last') : ∃ vs' vals' N', TI w w' X M R s Y N' vs' vals' sts' last' ∧ Chg (fun i => i = Y ∨ vs.ownBlock = some i) wk w' := by
  obtain ⟨vs', vals', N', hr, hc, h1, h2⟩ := hm
  have hDB : ∀ i, i = Y ∨ vs.ownBlock = some i → DB Y N vs i := fun i hi => hi.elim .inl (fun e => .inr (.inl e))
  have hnew : ∀ i, wk.heap.size ≤ i → ¬ M i ∧ ¬ R i ∧ w.heap.size ≤ i := fun i hi => ⟨fun e => by have := h.live.ltM i (.inl e); omega, fun e => by have := h.live.ltM i (.inr e); omega, Nat.le_trans h.live.below.size hi⟩
  refine ⟨vs', vals', N', ⟨h.live.chg hc (fun i hi => h.apart i (hDB i hi)), hr, fun i hi => ?_⟩, hc⟩
  rcases hi with hi | hi | hi
  · exact h.apart i (.inl hi)
  · rcases h1 with e | e
    · exact h.apart i (.inr (.inl (by rw [← e]; exact hi)))
    · exact hnew i (e i hi)
  · rcases h2 i hi with e | e
    · exact h.apart i (.inr (.inr e))
    · exact hnew i e
/-- a folder aside, whose calls change neither of both -/
structure Aside (w wk : World) (Xo : Nat) (Mo Ro : Nat → Prop) (so : PSt) (M R : Nat → Prop) (D : Nat → Prop) : Prop where
  fol : HFolM wk Xo Mo Ro so
  apart : ∀ i, Mo i → ¬ M i ∧ ¬ R i ∧ ¬ D i ∧ w.heap.size ≤ i
theorem Aside.mut {Xo : Nat} {Mo Ro : Nat → Prop} {so so' : PSt} (ha : Aside w wk Xo Mo Ro so M R (DB Y N vs)) (h : TI w wk X M R s Y N vs vals sts last) (hm : HMut wk w' Xo Mo Ro so') :
    ∃ Mo' Ro', Aside w w' Xo Mo' Ro' so' M R (DB Y N vs) ∧ TI w w' X M R s Y N vs vals sts last ∧ Chg Mo wk w' ∧ ∀ i, Mo' i → Mo i ∨ wk.heap.size ≤ i := by
  obtain ⟨Mo', Ro', hf, hc, h1, h2⟩ := hm
  refine ⟨Mo', Ro', ⟨hf, fun i hi => ?_⟩, h.chg hc ha.apart, hc, h1⟩
  rcases h1 i hi with e | e
  · exact ha.apart i e
  · exact ⟨fun e2 => by have := h.live.ltM i (.inl e2); omega, fun e2 => by have := h.live.ltM i (.inr e2); omega, fun e2 => by have := h.lt i e2; omega, Nat.le_trans h.live.below.size e⟩
/-- a copy goes on in the folder's place, the folder aside -/
theorem TI.swap {X' : Nat} {M' : Nat → Prop} (h : TI w wk X M R s Y N vs vals sts last) (hf : HFolM w' X' M' R s) (hb : Below wk.heap.size wk w') (hM : ∀ i, M' i → wk.heap.size ≤ i) :
    TI w w' X' M' R s Y N vs vals sts last ∧ Aside w w' X M R s M' R (DB Y N vs) := by
  refine ⟨⟨⟨hf, h.live.below.trans (hb.mono h.live.below.size), fun i hi => Nat.le_trans h.live.below.size (hM i hi)⟩, h.ref.on hb, fun i hi => ⟨fun e => by have := h.lt i hi; have := hM i e; omega, (h.apart i hi).2⟩⟩, ⟨h.live.fol.on hb, fun i hi => ⟨fun e => by have := h.live.ltM i (.inl hi); have := hM i e; omega, h.live.fol.2.1 i hi, fun e => (h.apart i e).1 hi, h.live.newM i hi⟩⟩⟩
/-- a copy aside -/
theorem TI.beside {X' : Nat} {M' : Nat → Prop} (h : TI w wk X M R s Y N vs vals sts last) (hf : HFolM w' X' M' R s) (hb : Below wk.heap.size wk w') (hM : ∀ i, M' i → wk.heap.size ≤ i) :
    TI w w' X M R s Y N vs vals sts last ∧ Aside w w' X' M' R s M R (DB Y N vs) :=
  ⟨h.on hb, ⟨hf, fun i hi => ⟨fun e => by have := h.live.ltM i (.inl e); have := hM i hi; omega, fun e => by have := h.live.ltM i (.inr e); have := hM i hi; omega, fun e => by have := h.lt i e; have := hM i hi; omega, Nat.le_trans h.live.below.size (hM i hi)⟩⟩⟩
end
/-- the document's calls, at a folder's states -/
theorem rwants_s {w : World} {Y : Nat} {N : Nat → Prop} {vs : Value} {vals : List Value} {s : PSt} (h : RFol w Y N vs vals s.states s.last) (ho : s.Ok) (hb : s.deeds.length ≤ 1000) (hla : s.last ≤ 1000000) (c : Call6) (hc : c.ok) :
    Calls Try.prog 14 #[.pointer (some ⟨Y, 0, none⟩), .agg #[.int .i64 c.what, .string c.name, .string c.to, .int .i64 c.keep]] w fun e w' => e = .returned (.tuple #[.int .u64 ((doP s c).1 : Int), .int .i64 ((doP s c).2.1 : Int)]) ∧ RMut w w' Y N vs (doP s c).2.2.states (doP s c).2.2.last := by
  have hk := states_few ho s.now (mem_states.2 ⟨_, Nat.le_refl _, s.at_all⟩)
  have := rwants h (by rw [states_length]; omega) (by rw [curL_states]; exact hk.1) hla (by rw [curL_states]; exact hk.2) c hc
  rw [want_do s ho c] at this
  exact this
theorem rfind_s {w : World} {Y : Nat} {N : Nat → Prop} {vs : Value} {vals : List Value} {s : PSt} (h : RFol w Y N vs vals s.states s.last) (ho : s.Ok) (hb : s.deeds.length ≤ 1000) (n : ByteArray) :
    Calls Try.prog 16 #[.pointer (some ⟨Y, 0, none⟩), .string n] w fun e w' => e = .returned (.tuple #[.int .u64 (((findL s.now n).getD 0 : Nat) : Int), .bool (findL s.now n).isSome]) ∧ Below w.heap.size w w' :=
  rfind h (by rw [states_length]; omega) s.now (by rw [states_length, Nat.add_sub_cancel, states_get (Nat.le_refl _), s.at_all]) (Nat.le_trans ho.now_length (by omega)) n
theorem rlist_s {w : World} {Y : Nat} {N : Nat → Prop} {vs : Value} {vals : List Value} {s : PSt} (h : RFol w Y N vs vals s.states s.last) (hb : s.deeds.length ≤ 1000) :
    ∃ v, EsIn w N v s.now ∧ Calls Try.prog 19 #[.pointer (some ⟨Y, 0, none⟩)] w fun e w' => e = .returned v ∧ Below w.heap.size w w' := by
  obtain ⟨v, l, _, hl, he, hc⟩ := rlist h (by rw [states_length]; omega)
  rw [states_length, Nat.add_sub_cancel, states_get (Nat.le_refl _), s.at_all] at hl
  injection hl with hl
  subst hl
  exact ⟨v, he, hc⟩
theorem rlive_s {w : World} {Y : Nat} {N : Nat → Prop} {vs : Value} {vals : List Value} {s : PSt} (h : RFol w Y N vs vals s.states s.last) (ho : s.Ok) (hg : GInv s) (hm : Made s) (hb : s.deeds.length ≤ 1000) (hla : s.last ≤ 1000000) :
    Calls Try.prog 20 #[.pointer (some ⟨Y, 0, none⟩)] w fun e w' => ∃ v, e = .returned v ∧ UsR w' (newB w w') v s.live ∧ Below w.heap.size w w' := by
  refine (rlive h (by rw [states_length]; omega) hla (fun l hl => (states_few ho l hl).1) (fun l hl => (states_few ho l hl).2)).mono ?_
  rintro e w' ⟨v, rfl, hown, hbw⟩
  rw [live_eq hg hm ho] at hown
  obtain ⟨A, c, rfl, h1, h2, _⟩ := own_slice hown
  exact ⟨_, rfl, ⟨A, c, rfl, h1, h2, rdR_of_own hown⟩, hbw⟩
theorem EsIn.at_ {w : World} {R : Nat → Prop} {v : Value} {l : List Ent} (h : EsIn w R v l) {A : Option Addr} {n c : Nat} (hv : v = .slice A n c) {j : Nat} {x : Ent} (hx : l[j]? = some x) :
    ∃ b o, A = some ⟨b, o, none⟩ ∧ R b ∧ w.cell? ⟨b, o + j * 2, none⟩ = some (.string x.1) ∧ w.cell? ⟨b, o + j * 2 + 1, none⟩ = some (.int .u64 (x.2 : Int)) := by
  obtain ⟨A', c', e, _, h2⟩ := h
  rw [hv] at e
  injection e with e _ _
  subst e
  obtain ⟨g1, g2⟩ := evs_get l j x hx
  obtain ⟨b, o, e2, hb, hc⟩ := h2 (by intro e; rw [e] at g1; simp at g1)
  exact ⟨b, o, e2, hb, hc _ _ g1, hc (j * 2 + 1) _ g2⟩
theorem EsIn.on {w w' : World} {R : Nat → Prop} {v : Value} {l : List Ent} (h : EsIn w R v l) (hb : Below w.heap.size w w') : EsIn w' R v l := h.chg (Chg.of_below (M := fun _ => False) hb) (fun _ e => e.elim)
/-- the call's cells at block P -/
def PC (w : World) (P : Nat) (c : Call6) : Prop := w.cell? ⟨P, 0, none⟩ = some (.int .i64 c.what) ∧ w.cell? ⟨P, 1, none⟩ = some (.string c.name) ∧ w.cell? ⟨P, 2, none⟩ = some (.string c.to) ∧ w.cell? ⟨P, 3, none⟩ = some (.int .i64 c.keep)
theorem PC.chg {w w' : World} {P : Nat} {c : Call6} {M : Nat → Prop} (h : PC w P c) (hc : Chg M w w') (hM : ¬ M P) : PC w' P c := by
  obtain ⟨h0, h1, h2, h3⟩ := h
  have key : ∀ t u, w.cell? ⟨P, t, none⟩ = some u → w'.cell? ⟨P, t, none⟩ = some u := fun t u hu => (hc.cell (p := ⟨P, t, none⟩) (fblock_of_cell hu) hM).trans hu
  exact ⟨key _ _ h0, key _ _ h1, key _ _ h2, key _ _ h3⟩
theorem PC.on {w w' : World} {P : Nat} {c : Call6} (h : PC w P c) (hb : Below w.heap.size w w') : PC w' P c := h.chg (Chg.of_below (M := fun _ => False) hb) (fun e => e)
theorem PC.lt {w : World} {P : Nat} {c : Call6} (h : PC w P c) : P < w.heap.size := fblock_of_cell h.1
theorem big_create (s : PSt) (n : ByteArray) : (createP s n).2.2.big ≤ s.big + 1 ∧ (createP s n).2.2.last ≤ s.last + 1 := by
  have h := doP_big s ⟨0, n, n, 0⟩
  have e : doP s ⟨0, n, n, 0⟩ = createP s n := by unfold doP; rw [if_pos (.inl rfl)]
  rw [e] at h
  exact h
end Go.Proofs.Ytpjmjcjikaekiaa
