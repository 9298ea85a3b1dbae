
/-
  Layer 6: rows of entries and of inodes that a call told, in blocks of their own; the program's calls over a folder in memory.
-/
import Derived.Test.YtboeiadfmknidaaGreatHxIno
import Derived.Test.YtboeiadfmknidaaGreatHxMapU
set_option linter.unusedVariables false
set_option linter.unusedSimpArgs false
namespace Go.Proofs.YtboeiadfmknidaaGreat
open Go.RowKit Go.Maps

theorem rdR_of_own {w : World} {base n c : Nat} {e : TypeId} {size : Nat} {A : Option Addr} {xs : List Value} (h : w.ownsRow base e size (.slice A n c) n xs) : RdR w (fun i => base ≤ i ∧ i < w.heap.size) A xs := fun hx => by
  obtain ⟨b, o, e, hb, hc⟩ := Rd.of_own h hx
  exact ⟨b, o, e, ⟨(h.lt b (by rw [e]; rfl)).1, hb⟩, hc⟩
/-- The value v is a slice that reads as the entries l, out of a block of R. -/
def EsR (w : World) (R : Nat → Prop) (v : Value) (l : List Ent) : Prop := ∃ A c, v = .slice A l.length c ∧ l.length ≤ c ∧ c ≤ maxLen ∧ RdR w R A (evs l)
def UsR (w : World) (R : Nat → Prop) (v : Value) (l : List Nat) : Prop := ∃ A c, v = .slice A l.length c ∧ l.length ≤ c ∧ c ≤ maxLen ∧ RdR w R A (l.map encU)
/-- what is new in w' -/
abbrev newB (w w' : World) (i : Nat) : Prop := w.heap.size ≤ i ∧ i < w'.heap.size
section
variable {w w' : World} {R R' M : Nat → Prop} {v : Value} {l : List Ent} {u : List Nat}
theorem RdR.chg_ {A : Option Addr} {xs : List Value} (h : RdR w R A xs) (hc : Chg M w w') (hM : ∀ i, R i → ¬ M i) : RdR w' R A xs := fun hx => by
  obtain ⟨b, o, e, hb, hcs⟩ := h hx
  exact ⟨b, o, e, hb, fun j u hu => (hc.cell (p := ⟨b, o + j, none⟩) (fblock_of_cell (hcs j u hu)) (hM b hb)).trans (hcs j u hu)⟩
theorem EsR.chg (h : EsR w R v l) (hc : Chg M w w') (hM : ∀ i, R i → ¬ M i) : EsR w' R v l := by
  obtain ⟨A, c, h1, h2, h3, h4⟩ := h
  exact ⟨A, c, h1, h2, h3, h4.chg_ hc hM⟩
theorem EsR.on (h : EsR w R v l) (hb : Below w.heap.size w w') : EsR w' R v l := h.chg (Chg.of_below (M := fun _ => False) hb) (fun _ _ e => e)
theorem EsR.mono (h : EsR w R v l) (hR : ∀ i, R i → R' i) : EsR w R' v l := by
  obtain ⟨A, c, h1, h2, h3, h4⟩ := h
  exact ⟨A, c, h1, h2, h3, h4.mono hR⟩
theorem UsR.chg (h : UsR w R v u) (hc : Chg M w w') (hM : ∀ i, R i → ¬ M i) : UsR w' R v u := by
  obtain ⟨A, c, h1, h2, h3, h4⟩ := h
  exact ⟨A, c, h1, h2, h3, h4.chg_ hc hM⟩
theorem UsR.mono (h : UsR w R v u) (hR : ∀ i, R i → R' i) : UsR w R' v u := by
  obtain ⟨A, c, h1, h2, h3, h4⟩ := h
  exact ⟨A, c, h1, h2, h3, h4.mono hR⟩
theorem UsR.on (h : UsR w R v u) (hb : Below w.heap.size w w') : UsR w' R v u := h.chg (Chg.of_below (M := fun _ => False) hb) (fun _ _ e => e)
theorem EsR.at_ (h : EsR w R v l) {A : Option Addr} {n c : Nat} (hv : v = .slice A n c) {j : Nat} {x : Ent} (hx : l[j]? = some x) :
    ∃ b o, A = some ⟨b, o, none⟩ ∧ R b ∧ w.cell? ⟨b, o + j * 2, none⟩ = some (.string x.1) ∧ w.cell? ⟨b, o + j * 2 + 1, none⟩ = some (.int .u64 (x.2 : Int)) := by
  obtain ⟨A', c', e, _, _, h2⟩ := h
  rw [hv] at e
  injection e with e _ _
  subst e
  obtain ⟨g1, g2⟩ := evs_get l j x hx
  obtain ⟨b, o, e2, hb, hc⟩ := h2 (by intro e; rw [e] at g1; simp at g1)
  exact ⟨b, o, e2, hb, hc _ _ g1, hc (j * 2 + 1) _ g2⟩
theorem UsR.at_ (h : UsR w R v u) {A : Option Addr} {n c : Nat} (hv : v = .slice A n c) {j : Nat} {x : Nat} (hx : u[j]? = some x) :
    ∃ b o, A = some ⟨b, o, none⟩ ∧ R b ∧ w.cell? ⟨b, o + j, none⟩ = some (.int .u64 (x : Int)) := by
  obtain ⟨A', c', e, _, _, h2⟩ := h
  rw [hv] at e
  injection e with e _ _
  subst e
  have g1 : (u.map encU)[j]? = some (.int .u64 (x : Int)) := by rw [List.getElem?_map, hx]; rfl
  obtain ⟨b, o, e2, hb, hc⟩ := h2 (by intro e; rw [e] at g1; simp at g1)
  exact ⟨b, o, e2, hb, hc _ _ g1⟩
end
section
variable {w : World} {X : Nat} {M R : Nat → Prop} {s : PSt}
theorem HLive.chg {w wk w' : World} {N : Nat → Prop} (h : HLive w wk X M R s) (hc : Chg N wk w') (hN : ∀ i, N i → ¬ M i ∧ ¬ R i ∧ w.heap.size ≤ i) : HLive w w' X M R s :=
  ⟨h.fol.chg hc (fun i hi => ⟨(hN i hi).1, (hN i hi).2.1⟩), h.below.trans (hc.below h.below.size (fun i hi => (hN i hi).2.2)), h.newM⟩
theorem HLive.ltM {w wk : World} (h : HLive w wk X M R s) : ∀ i, M i ∨ R i → i < wk.heap.size := fun i hi => hi.elim (h.fol.2.2.1 i) (h.fol.2.2.2.1 i)
theorem hlist_m (h : HFolM w X M R s) : Calls Tryz.prog 81 #[.pointer (some ⟨X, 0, none⟩)] w fun e w' => ∃ v, e = .returned v ∧ EsR w' (newB w w') v s.now ∧ Below w.heap.size w w' := by
  obtain ⟨bs, bn, Ad, cd, hc, hs, hn⟩ := h.cells
  refine (hlist_c hc hn h.ok.now_length).mono ?_
  rintro e w' ⟨v, rfl, ho, hb⟩
  obtain ⟨A, c, rfl, h1, h2, _⟩ := own_slice ho
  exact ⟨_, rfl, ⟨A, c, rfl, h1, h2, rdR_of_own ho⟩, hb⟩
theorem hlive_m (h : HFolM w X M R s) (hl : s.safe.length ≤ 200) (hla : s.last ≤ 10000) : Calls Tryz.prog 49 #[.pointer (some ⟨X, 0, none⟩)] w fun e w' => ∃ v, e = .returned v ∧ UsR w' (newB w w') v s.live ∧ Below w.heap.size w w' := by
  obtain ⟨bs, bn, Ad, cd, hc, hs, hn⟩ := h.cells
  refine (hlive_c hc (sortedAt hs hl) (by rw [(inosL_perm s.safe).length_eq, List.length_map]; omega) h.ok.settled (by omega)).mono ?_
  rintro e w' ⟨v, rfl, ho, hb⟩
  obtain ⟨A, c, rfl, h1, h2, _⟩ := own_slice ho
  exact ⟨_, rfl, ⟨A, c, rfl, h1, h2, rdR_of_own ho⟩, hb⟩
theorem hfind_m (h : HFolM w X M R s) {n : ByteArray} (hn : n.size ≤ maxLen) : Calls Tryz.prog 80 #[.pointer (some ⟨X, 0, none⟩), .string n] w fun e w' => e = .returned (.tuple #[.int .u64 (((findL s.now n).getD 0 : Nat) : Int), .bool (findL s.now n).isSome]) ∧ w = w' := by
  obtain ⟨bs, bn, Ad, cd, hc, hs, hm⟩ := h.cells
  exact hfind hc hm hn
theorem hloose_m (h : HFolM w X M R s) : Calls Tryz.prog 48 #[.pointer (some ⟨X, 0, none⟩)] w fun e w' => e = .returned (.int .i64 (s.deeds.length : Int)) ∧ w = w' := by
  obtain ⟨bs, bn, Ad, cd, hc, hs, hm⟩ := h.cells
  exact hloose hc
end
end Go.Proofs.YtboeiadfmknidaaGreat
