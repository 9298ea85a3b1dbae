
/-
  Layer 5: what FileBeginning's loops hold.
-/
import Derived.Test.YtmlbhconbabdhaaFxHist
set_option linter.unusedVariables false
set_option linter.unusedSimpArgs false
namespace Go.Proofs.Ytmlbhconbabdhaa
open Go.RowKit

theorem rows_info : (Try.prog.info? 22).map (fun i => (i.zero, i.size, i.bytes)) = some (some (.slice none 0 0), 1, 24) := by kernel_rfl
theorem int_info : (Try.prog.info? 3).map (fun i => (i.zero, i.size, i.bytes)) = some (some (.int .i64 0), 1, 8) := by kernel_rfl
/-- numbers as cells -/
def uvs (us : List Nat) : List Value := us.map fun (u : Nat) => Value.int .i64 (u : Int)
theorem uvs_length (us : List Nat) : (uvs us).length = us.length := by simp [uvs]
theorem uvs_append (us vs : List Nat) : uvs (us ++ vs) = uvs us ++ uvs vs := by simp [uvs]
theorem uvs_get {us : List Nat} {i u : Nat} (h : us[i]? = some u) : (uvs us)[i]? = some (.int .i64 (u : Int)) := by simp [uvs, h]
/-- the file, and the rows of moments and of units, apart from each other -/
structure BI (w wk : World) (F : Nat) (M R N : Nat → Prop) (s : FSt) (vm vu : Value) (vals : List Value) (ls : List (List UInt8)) (us : List Nat) : Prop where
  live : Live w wk F M R s
  mom : MomR wk N vals ls
  om : wk.ownsRow w.heap.size 22 1 vm vals.length vals
  ou : wk.ownsRow w.heap.size 3 1 vu us.length (uvs us)
  nm : ∀ g, vm.ownBlock = some g → ¬ M g ∧ ¬ R g ∧ ¬ N g
  nu : ∀ g, vu.ownBlock = some g → ¬ M g ∧ ¬ R g ∧ ¬ N g
  mu : ∀ g, vm.ownBlock = some g → vu.ownBlock ≠ some g
  mn : ∀ i, M i → ¬ N i
  nlt : ∀ i, N i → i < wk.heap.size
section
variable {w wk w' : World} {F : Nat} {M R N : Nat → Prop} {s s' : FSt} {vm vu : Value} {vals : List Value} {ls : List (List UInt8)} {us : List Nat}
theorem BI.on (h : BI w wk F M R N s vm vu vals ls us) (hb : Below wk.heap.size wk w') : BI w w' F M R N s vm vu vals ls us :=
  ⟨h.live.on hb, h.mom.on hb, own_below h.om hb (Nat.le_refl _), own_below h.ou hb (Nat.le_refl _), h.nm, h.nu, h.mu, h.mn, fun i hi => Nat.lt_of_lt_of_le (h.nlt i hi) hb.size⟩
theorem BI.mut (h : BI w wk F M R N s vm vu vals ls us) (hm : Mut wk w' F M R s') : ∃ M' R', BI w w' F M' R' N s' vm vu vals ls us := by
  obtain ⟨M', R', hl, hc, h1, h2⟩ := h.live.mut hm
  refine ⟨M', R', hl, h.mom.chg hc h.mn, hc.own h.om (fun g hg => (h.nm g hg).1), hc.own h.ou (fun g hg => (h.nu g hg).1), fun g hg => ⟨fun e => ?_, fun e => ?_, (h.nm g hg).2.2⟩, fun g hg => ⟨fun e => ?_, fun e => ?_, (h.nu g hg).2.2⟩, h.mu, fun i hi e => ?_, fun i hi => Nat.lt_of_lt_of_le (h.nlt i hi) hc.size⟩
  · rcases h1 g e with h3 | h3
    · exact (h.nm g hg).1 h3
    · have := (h.om.lt g hg).2; omega
  · rcases h2 g e with h3 | h3
    · exact (h.nm g hg).2.1 h3
    · have := (h.om.lt g hg).2; omega
  · rcases h1 g e with h3 | h3
    · exact (h.nu g hg).1 h3
    · have := (h.ou.lt g hg).2; omega
  · rcases h2 g e with h3 | h3
    · exact (h.nu g hg).2.1 h3
    · have := (h.ou.lt g hg).2; omega
  · rcases h1 i hi with h3 | h3
    · exact h.mn i h3 e
    · have := h.nlt i e; omega
theorem BI.addM {K : Nat → Prop} {r vm' : Value} {l : List UInt8} (h : BI w wk F M R N s vm vu vals ls us) (hr : BsIn wk K r l) (hK : ∀ i, K i → ¬ M i ∧ ¬ R i ∧ vm.ownBlock ≠ some i ∧ vu.ownBlock ≠ some i ∧ i < wk.heap.size)
    (hg : wk.grownBy w' vm.ownBlock) (ho : w'.ownsRow w.heap.size 22 1 vm' (vals.length + 1) (vals ++ [r])) (hv : vm'.ownBlock = vm.ownBlock ∨ vm'.ownBlock = some wk.heap.size) :
    BI w w' F M R (fun i => N i ∨ K i) s vm' vu (vals ++ [r]) (ls ++ [l]) us := by
  have hc : Chg (fun i => vm.ownBlock = some i) wk w' := Chg.of_grown hg (fun g hg => hg)
  have hM := h.live.file.lt1
  have hR := h.live.file.lt2
  have hu := h.ou.lt
  have hmm := h.om.lt
  refine ⟨h.live.keep hc (fun i hi => ⟨(h.nm i hi).1, (h.nm i hi).2.1⟩) (fun i hi => (hmm i hi).1), (h.mom.add hr).chg hc (fun i hi e => e.elim (h.nm i hi).2.2 (fun e => (hK i e).2.2.1 hi)), by simpa using ho, hc.own h.ou (fun g hg e => h.mu g e hg), ?_, ?_, ?_, ?_, ?_⟩
  · intro g hg
    rcases hv with hv | hv
    · rw [hv] at hg
      exact ⟨(h.nm g hg).1, (h.nm g hg).2.1, fun e => e.elim (h.nm g hg).2.2 (fun e => (hK g e).2.2.1 hg)⟩
    · rw [hv] at hg
      injection hg with hg
      subst hg
      exact ⟨fun e => by have := hM _ e; omega, fun e => by have := hR _ e; omega, fun e => e.elim (fun e => by have := h.nlt _ e; omega) (fun e => by have := (hK _ e).2.2.2.2; omega)⟩
  · intro g hg
    exact ⟨(h.nu g hg).1, (h.nu g hg).2.1, fun e => e.elim (h.nu g hg).2.2 (fun e => (hK g e).2.2.2.1 hg)⟩
  · intro g hg e
    rcases hv with hv | hv
    · rw [hv] at hg; exact h.mu g hg e
    · rw [hv] at hg; injection hg with hg; have := (hu g e).2; omega
  · intro i hi e
    exact e.elim (h.mn i hi) (fun e => (hK i e).1 hi)
  · intro i hi
    exact Nat.lt_of_lt_of_le (hi.elim (h.nlt i) (fun e => (hK i e).2.2.2.2)) hg.size
theorem BI.addU {u : Nat} {vu' : Value} (h : BI w wk F M R N s vm vu vals ls us)
    (hg : wk.grownBy w' vu.ownBlock) (ho : w'.ownsRow w.heap.size 3 1 vu' (us.length + 1) (uvs us ++ [.int .i64 (u : Int)])) (hv : vu'.ownBlock = vu.ownBlock ∨ vu'.ownBlock = some wk.heap.size) :
    BI w w' F M R N s vm vu' vals ls (us ++ [u]) := by
  have hc : Chg (fun i => vu.ownBlock = some i) wk w' := Chg.of_grown hg (fun g hg => hg)
  have hM := h.live.file.lt1
  have hR := h.live.file.lt2
  have hu := h.ou.lt
  have hmm := h.om.lt
  refine ⟨h.live.keep hc (fun i hi => ⟨(h.nu i hi).1, (h.nu i hi).2.1⟩) (fun i hi => (hu i hi).1), h.mom.chg hc (fun i hi => (h.nu i hi).2.2), hc.own h.om (fun g hg e => h.mu g hg e), ?_, h.nm, ?_, ?_, h.mn, fun i hi => Nat.lt_of_lt_of_le (h.nlt i hi) hg.size⟩
  · rw [List.length_append, uvs_append]
    exact ho
  · intro g hg
    rcases hv with hv | hv
    · rw [hv] at hg; exact h.nu g hg
    · rw [hv] at hg
      injection hg with hg
      subst hg
      exact ⟨fun e => by have := hM _ e; omega, fun e => by have := hR _ e; omega, fun e => by have := h.nlt _ e; omega⟩
  · intro g hg e
    rcases hv with hv | hv
    · rw [hv] at e; exact h.mu g hg e
    · rw [hv] at e; injection e with e; have := (hmm g hg).2; omega
end
/-- a file that nobody changes any more -/
def FileE (wk : World) (F : Nat) (s : FSt) : Prop := ∃ M R, FileM wk F M R s
theorem FileE.on {wk w' : World} {F : Nat} {s : FSt} (h : FileE wk F s) (hb : Below wk.heap.size wk w') : FileE w' F s := by
  obtain ⟨M, R, h⟩ := h
  exact ⟨M, R, h.on hb⟩
/-- what is read in the last tests -/
structure FI (w wk : World) (F P Q T : Nat) (sf sp sq st : FSt) (N : Nat → Prop) (gm gu : Nat) (vals : List Value) (ls : List (List UInt8)) (us : List Nat) : Prop where
  below : Below w.heap.size w wk
  f : FileE wk F sf
  p : FileE wk P sp
  q : FileE wk Q sq
  t : FileE wk T st
  mom : MomR wk N vals ls
  cm : ∀ (j : Nat) v, vals[j]? = some v → wk.cell? ⟨gm, j, none⟩ = some v
  cu : ∀ (j : Nat) u, us[j]? = some u → wk.cell? ⟨gu, j, none⟩ = some (.int .i64 (u : Int))
theorem FI.on {w wk w' : World} {F P Q T : Nat} {sf sp sq st : FSt} {N : Nat → Prop} {gm gu : Nat} {vals : List Value} {ls : List (List UInt8)} {us : List Nat} (h : FI w wk F P Q T sf sp sq st N gm gu vals ls us) (hb : Below wk.heap.size wk w') : FI w w' F P Q T sf sp sq st N gm gu vals ls us :=
  ⟨h.below.trans (hb.mono h.below.size), h.f.on hb, h.p.on hb, h.q.on hb, h.t.on hb, h.mom.on hb, fun j v hv => (hb.cell (p := ⟨gm, j, none⟩) (fblock_of_cell (h.cm j v hv))).trans (h.cm j v hv), fun j u hu => (hb.cell (p := ⟨gu, j, none⟩) (fblock_of_cell (h.cu j u hu))).trans (h.cu j u hu)⟩
theorem FI.drew {w wk : World} {F P Q T : Nat} {sf sp sq st : FSt} {N : Nat → Prop} {gm gu : Nat} {vals : List Value} {ls : List (List UInt8)} {us : List Nat} (h : FI w wk F P Q T sf sp sq st N gm gu vals ls us) : FI w wk.drew F P Q T sf sp sq st N gm gu vals ls us := h.on (Below.refl _ _).drew
theorem fall_e {w : World} {F : Nat} {s : FSt} (h : FileE w F s) (hb : s.big ≤ 1000000) (l : List UInt8) (hl : s.bytes = l) :
    Calls Try.prog 8 #[.pointer (some ⟨F, 0, none⟩)] w fun e w' => ∃ r, e = .returned r ∧ Bs w' w'.heap.size r l ∧ Below w.heap.size w w' := by
  obtain ⟨M, R, h⟩ := h
  subst hl
  refine (fall_m h hb).mono ?_
  rintro e w' ⟨r, rfl, ho, hb⟩
  exact ⟨r, rfl, Bs.of_own ho, hb⟩
end Go.Proofs.Ytmlbhconbabdhaa
