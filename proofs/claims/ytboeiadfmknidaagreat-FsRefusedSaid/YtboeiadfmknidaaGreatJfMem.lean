
/-
  Layer 7: the program's file system in memory: its own cells, its folder, its map of files, what is asked ahead of each step.
-/
import Derived.Test.YtboeiadfmknidaaGreatHxWalk
import Derived.Test.YtboeiadfmknidaaGreatJxPlain
import Derived.Test.YtboeiadfmknidaaGreatFxRead
set_option linter.unusedVariables false
set_option linter.unusedSimpArgs false
namespace Go.Proofs.YtboeiadfmknidaaGreat
open Go.RowKit Go.Maps

/-- a file's place as an element of a map -/
def fElem : Value → Option (DataW Unit × List MemPlace)
  | .pointer (some ⟨b, 0, none⟩) => some (.lit (.int .i64 (b : Int)), [])
  | .pointer none => some (.nil, [])
  | _ => none
theorem fElem_mk (b : Nat) : fElem (.pointer (some ⟨b, 0, none⟩)) = some (.lit (.int .i64 (b : Int)), []) := rfl
theorem fElem_inv {v : Value} {b : Nat} {ps : List MemPlace} (h : fElem v = some (.lit (.int .i64 (b : Int)), ps)) : v = .pointer (some ⟨b, 0, none⟩) := by
  unfold fElem at h
  split at h
  · rename_i c
    injection h with h
    injection h with h _
    injection h with h
    injection h with _ h
    have : c = b := by omega
    rw [this]
  · injection h with h
    injection h with h _
    cases h
  · cases h
def updN (g : Nat → Nat) (i F : Nat) : Nat → Nat := fun j => if j = i then F else g j
theorem updN_same (g : Nat → Nat) (i F : Nat) : updN g i F i = F := by simp [updN]
theorem updN_other (g : Nat → Nat) {i j : Nat} (F : Nat) (h : j ≠ i) : updN g i F j = g j := by simp [updN, h]
/-- block b is a map of at most n keys, of which those of K lead to the files in blocks g, and no others are there -/
def MapF (w : World) (b n : Nat) (K : List Nat) (g : Nat → Nat) : Prop := ∃ D : DataW Unit, w.ownsMap Tryz.prog 64 fElem b n D ∧ (∀ i, i ∈ K → ∀ zd, D.atKey (ku i) zd = .lit (.int .i64 (g i : Int))) ∧ (∀ k, (∀ i, i ∈ K → k ≠ ku i) → Maps.has D k = false)
section
variable {w w' : World} {b n : Nat} {K : List Nat} {g : Nat → Nat} {M : Nat → Prop}
theorem MapF.lt (h : MapF w b n K g) : b < w.heap.size := by obtain ⟨D, h, _⟩ := h; exact h.lt
theorem MapF.no_cell (h : MapF w b n K g) (o : Nat) : w.cell? ⟨b, o, none⟩ = none := by
  obtain ⟨D, ⟨es, clock, hb, _⟩, _⟩ := h
  simp [World.cell?, hb]
theorem MapF.of_block (h : MapF w b n K g) (hb : w'.heap[b]? = w.heap[b]?) : MapF w' b n K g := by
  obtain ⟨D, ⟨es', clock, h1, h2⟩, hr⟩ := h
  exact ⟨D, ⟨es', clock, hb.trans h1, h2⟩, hr⟩
theorem MapF.chg (h : MapF w b n K g) (hc : Chg M w w') (hM : ¬ M b) : MapF w' b n K g := h.of_block (hc.block b h.lt hM)
theorem MapF.on (h : MapF w b n K g) (hb : Below w.heap.size w w') : MapF w' b n K g := h.of_block (hb.block b h.lt)
theorem MapF.new (w : World) (g : Nat → Nat) : MapF (w.alloc (.map #[] 0)) w.heap.size 0 [] g := ⟨_, World.ownsMap_made w _ _ _, (fun i hi => absurd hi (by simp)), (fun k _ => rfl)⟩
theorem MapF.congr {K' : List Nat} {g' : Nat → Nat} (h : MapF w b n K g) (he : ∀ i, i ∈ K ↔ i ∈ K') (hg : ∀ i, i ∈ K' → g' i = g i) : MapF w b n K' g' := by
  obtain ⟨D, h1, h2, h3⟩ := h
  exact ⟨D, h1, fun i hi zd => by rw [hg i hi]; exact h2 i ((he i).2 hi) zd, fun k hk => h3 k (fun i hi => hk i ((he i).1 hi))⟩
theorem zeroPF (w : World) : (zeroValue 67).run Tryz.prog w = .ok (.pointer none) w := by kernel_rfl
set_option maxRecDepth 100000 in
theorem MapF.look (h : MapF w b n K g) {i : Nat} (hi : i < 1000000000) (hm : i ∈ K) :
    (Instr.lookup 58 (.map (some b)) (.int .u64 (i : Int)) false).run Tryz.prog w = .ok (.pointer (some ⟨g i, 0, none⟩)) w := by
  obtain ⟨D, hown, h1, h2⟩ := h
  obtain ⟨v, ps, hrun, e⟩ := hown.lookup keyedU Tryz.underlying58 (zeroPF w) (show fElem (.pointer none) = some (.nil, []) from rfl) (keyOf_ku hi)
  rw [h1 i hm] at e
  rw [hrun, fElem_inv e]
set_option maxRecDepth 100000 in
theorem MapF.store (h : MapF w b n K g) (hn : n ≤ 100000000) {i : Nat} (hi : i < 1000000000) (F : Nat) :
    ∃ w', (Instr.mapUpdate 58 (.map (some b)) (.int .u64 (i : Int)) (.pointer (some ⟨F, 0, none⟩))).run Tryz.prog w = .ok () w' ∧ MapF w' b (n + 1) (i :: K) (updN g i F) ∧ w.mapTurned w' b := by
  obtain ⟨D, hown, h1, h2⟩ := h
  obtain ⟨w', hrun, r1, r2⟩ := hown.store keyedU Tryz.underlying58 (by unfold maxLen; omega) (keyOf_ku hi) (fElem_mk F)
  refine ⟨w', hrun, ⟨_, r1, fun j hj zd => ?_, fun k hk => ?_⟩, r2⟩
  · by_cases e : j = i
    · subst e; rw [updN_same]; exact atKey_put_same hown.isMap (isKey_ku j) _ _
    · rcases List.mem_cons.1 hj with e' | hj
      · exact absurd e' e
      · rw [updN_other _ _ e]; exact (atKey_put_other (fun e' => e (ku_inj e')) _ _).trans (h1 j hj zd)
  · exact (has_put_other (hk i (by simp)) _).trans (h2 k (fun j hj => hk j (by simp [hj])))
end
/-- a file system's cells -/
structure FsC (w : World) (A X B q u st : Nat) (on : Bool) (hv : Value) : Prop where
  c0 : w.cell? ⟨A, 0, none⟩ = some (.pointer (some ⟨X, 0, none⟩))
  c1 : w.cell? ⟨A, 1, none⟩ = some (.map (some B))
  c2 : w.cell? ⟨A, 2, none⟩ = some (.int .i64 (q : Int))
  c3 : w.cell? ⟨A, 3, none⟩ = some (.int .i64 (u : Int))
  c4 : w.cell? ⟨A, 4, none⟩ = some (.int .i64 (st : Int))
  c5 : w.cell? ⟨A, 5, none⟩ = some (.bool on)
  c6 : w.cell? ⟨A, 6, none⟩ = some hv
  f0 : w.frozen? ⟨A, 0, none⟩ = false
  f1 : w.frozen? ⟨A, 1, none⟩ = false
  f2 : w.frozen? ⟨A, 2, none⟩ = false
  f3 : w.frozen? ⟨A, 3, none⟩ = false
  f4 : w.frozen? ⟨A, 4, none⟩ = false
  f5 : w.frozen? ⟨A, 5, none⟩ = false
  f6 : w.frozen? ⟨A, 6, none⟩ = false
section
variable {w w' : World} {A X B q u st : Nat} {on : Bool} {hv : Value}
theorem FsC.lt (h : FsC w A X B q u st on hv) : A < w.heap.size := fblock_of_cell h.c0
theorem FsC.of_block (h : FsC w A X B q u st on hv) (hb : w'.heap[A]? = w.heap[A]?) : FsC w' A X B q u st on hv := by
  have hc : ∀ o, w'.cell? ⟨A, o, none⟩ = w.cell? ⟨A, o, none⟩ := fun o => World.cell?_of_block hb
  have hf : ∀ o, w'.frozen? ⟨A, o, none⟩ = w.frozen? ⟨A, o, none⟩ := fun o => World.frozen?_of_block hb
  exact ⟨(hc 0).trans h.c0, (hc 1).trans h.c1, (hc 2).trans h.c2, (hc 3).trans h.c3, (hc 4).trans h.c4, (hc 5).trans h.c5, (hc 6).trans h.c6, (hf 0).trans h.f0, (hf 1).trans h.f1, (hf 2).trans h.f2, (hf 3).trans h.f3, (hf 4).trans h.f4, (hf 5).trans h.f5, (hf 6).trans h.f6⟩
theorem FsC.on_ (h : FsC w A X B q u st on hv) (hb : Below w.heap.size w w') : FsC w' A X B q u st on hv := h.of_block (hb.block A h.lt)
theorem FsC.drew (h : FsC w A X B q u st on hv) : FsC w.drew A X B q u st on hv := h.of_block rfl
theorem FsC.set1 (h : FsC w A X B q u st on hv) (k : Nat) : FsC (w.setCell ⟨A, 1, none⟩ (.map (some k))) A X k q u st on hv := by
  obtain ⟨c0, c1, c2, c3, c4, c5, c6, f0, f1, f2, f3, f4, f5, f6⟩ := h
  refine ⟨?_, World.cell?_setCell_same _ _ _ c1, ?_, ?_, ?_, ?_, ?_, by rw [World.frozen?_setCell]; assumption, by rw [World.frozen?_setCell]; assumption, by rw [World.frozen?_setCell]; assumption, by rw [World.frozen?_setCell]; assumption, by rw [World.frozen?_setCell]; assumption, by rw [World.frozen?_setCell]; assumption, by rw [World.frozen?_setCell]; assumption⟩ <;>
    (rw [World.cell?_setCell_other _ _ _ _ (by intro e; injection e with e1 e2; omega)]; assumption)
theorem FsC.set3 (h : FsC w A X B q u st on hv) (k : Nat) : FsC (w.setCell ⟨A, 3, none⟩ (.int .i64 (k : Int))) A X B q k st on hv := by
  obtain ⟨c0, c1, c2, c3, c4, c5, c6, f0, f1, f2, f3, f4, f5, f6⟩ := h
  refine ⟨?_, ?_, ?_, World.cell?_setCell_same _ _ _ c3, ?_, ?_, ?_, by rw [World.frozen?_setCell]; assumption, by rw [World.frozen?_setCell]; assumption, by rw [World.frozen?_setCell]; assumption, by rw [World.frozen?_setCell]; assumption, by rw [World.frozen?_setCell]; assumption, by rw [World.frozen?_setCell]; assumption, by rw [World.frozen?_setCell]; assumption⟩ <;>
    (rw [World.cell?_setCell_other _ _ _ _ (by intro e; injection e with e1 e2; omega)]; assumption)
theorem FsC.set4 (h : FsC w A X B q u st on hv) (k : Nat) : FsC (w.setCell ⟨A, 4, none⟩ (.int .i64 (k : Int))) A X B q u k on hv := by
  obtain ⟨c0, c1, c2, c3, c4, c5, c6, f0, f1, f2, f3, f4, f5, f6⟩ := h
  refine ⟨?_, ?_, ?_, ?_, World.cell?_setCell_same _ _ _ c4, ?_, ?_, by rw [World.frozen?_setCell]; assumption, by rw [World.frozen?_setCell]; assumption, by rw [World.frozen?_setCell]; assumption, by rw [World.frozen?_setCell]; assumption, by rw [World.frozen?_setCell]; assumption, by rw [World.frozen?_setCell]; assumption, by rw [World.frozen?_setCell]; assumption⟩ <;>
    (rw [World.cell?_setCell_other _ _ _ _ (by intro e; injection e with e1 e2; omega)]; assumption)
theorem FsC.set5 (h : FsC w A X B q u st on hv) (k : Bool) : FsC (w.setCell ⟨A, 5, none⟩ (.bool k)) A X B q u st k hv := by
  obtain ⟨c0, c1, c2, c3, c4, c5, c6, f0, f1, f2, f3, f4, f5, f6⟩ := h
  refine ⟨?_, ?_, ?_, ?_, ?_, World.cell?_setCell_same _ _ _ c5, ?_, by rw [World.frozen?_setCell]; assumption, by rw [World.frozen?_setCell]; assumption, by rw [World.frozen?_setCell]; assumption, by rw [World.frozen?_setCell]; assumption, by rw [World.frozen?_setCell]; assumption, by rw [World.frozen?_setCell]; assumption, by rw [World.frozen?_setCell]; assumption⟩ <;>
    (rw [World.cell?_setCell_other _ _ _ _ (by intro e; injection e with e1 e2; omega)]; assumption)
theorem FsC.set6 (h : FsC w A X B q u st on hv) (k : Value) : FsC (w.setCell ⟨A, 6, none⟩ k) A X B q u st on k := by
  obtain ⟨c0, c1, c2, c3, c4, c5, c6, f0, f1, f2, f3, f4, f5, f6⟩ := h
  refine ⟨?_, ?_, ?_, ?_, ?_, ?_, World.cell?_setCell_same _ _ _ c6, by rw [World.frozen?_setCell]; assumption, by rw [World.frozen?_setCell]; assumption, by rw [World.frozen?_setCell]; assumption, by rw [World.frozen?_setCell]; assumption, by rw [World.frozen?_setCell]; assumption, by rw [World.frozen?_setCell]; assumption, by rw [World.frozen?_setCell]; assumption⟩ <;>
    (rw [World.cell?_setCell_other _ _ _ _ (by intro e; injection e with e1 e2; omega)]; assumption)
theorem FsC.new (w : World) (X B q : Nat) (u st : Nat) (on : Bool) (hv : Value) (t : TypeId) : FsC (w.alloc (.cells #[.pointer (some ⟨X, 0, none⟩), .map (some B), .int .i64 (q : Int), .int .i64 (u : Int), .int .i64 (st : Int), .bool on, hv] t)) w.heap.size X B q u st on hv := by
  refine ⟨by simp, by simp, by simp, by simp, by simp, by simp, by simp, by simp, by simp, by simp, by simp, by simp, by simp, by simp⟩
end
/-- what is asked ahead of each step -/
def HoldAt (w : World) (R : Nat → Prop) (hv : Value) (st : Nat) : Option Nat → Prop
  | none => hv = .func (.func 28) #[] #[]
  | some n => ∃ p q d l, hv = .func (.func 61) #[] #[.pointer (some ⟨p, 0, none⟩), .pointer (some ⟨q, 0, none⟩)] ∧ R p ∧ R q ∧ w.cell? ⟨p, 0, none⟩ = some (.int .i64 ((d : Nat) : Int)) ∧ w.cell? ⟨q, 0, none⟩ = some (.int .i64 ((l : Nat) : Int)) ∧ st + n = d + l ∧ d ≤ st ∧ l < 9223372036854775808
section
variable {w w' : World} {R R' M : Nat → Prop} {hv : Value} {st : Nat} {o : Option Nat}
theorem HoldAt.mono (h : HoldAt w R hv st o) (hR : ∀ i, R i → R' i) : HoldAt w R' hv st o := by
  cases o with
  | none => exact h
  | some n => obtain ⟨p, q, d, l, e, h1, h2, h3⟩ := h; exact ⟨p, q, d, l, e, hR _ h1, hR _ h2, h3⟩
theorem HoldAt.chg (h : HoldAt w R hv st o) (hc : Chg M w w') (hM : ∀ i, M i → ¬ R i) : HoldAt w' R hv st o := by
  cases o with
  | none => exact h
  | some n => obtain ⟨p, q, d, l, e, h1, h2, h3, h4, h5⟩ := h; exact ⟨p, q, d, l, e, h1, h2, cell_chg hc hM h1 h3, cell_chg hc hM h2 h4, h5⟩
end
theorem FileM.rise {w : World} {F : Nat} {M R R' : Nat → Prop} {s : FSt} (h : FileM w F M R s) (hR : ∀ i, R i → R' i) (hM : ∀ i, M i → ¬ R' i) (hl : ∀ i, R' i → i < w.heap.size) : FileM w F M R' s := by
  obtain ⟨h0, h1, h2, h3, vs, vt, vd, dvs, h, h4⟩ := h
  exact ⟨h0, hM, h2, hl, vs, vt, vd, dvs, ⟨h.cells, h.safe, h.tail, h.deeds, h.each.mono hR, h.apart, fun i hi => hM i (h4 i hi)⟩, h4⟩
theorem HFolM.rise {w : World} {X : Nat} {M R R' : Nat → Prop} {s : PSt} (h : HFolM w X M R s) (hR : ∀ i, R i → R' i) (hM : ∀ i, M i → ¬ R' i) (hl : ∀ i, R' i → i < w.heap.size) : HFolM w X M R' s := by
  obtain ⟨h0, h1, h2, h3, bs, bn, vd, dvs, h, hx, h4⟩ := h
  exact ⟨h0, hM, h2, hl, bs, bn, vd, dvs, ⟨h.cells, h.safe, h.now, h.deeds, h.each.mono hR, h.ne, fun i hi => hM i (h4 i hi)⟩, hx, h4⟩
/-- a file system's memory: u is the cell 'used'; M its own blocks, R what nobody writes -/
structure FsAt (w : World) (A X B n u : Nat) (hv : Value) (K : List Nat) (g : Nat → Nat) (MX : Nat → Prop) (MF : Nat → Nat → Prop) (M R : Nat → Prop) (s : FsP) : Prop where
  mr : ∀ i, M i → ¬ R i
  ml : ∀ i, M i → i < w.heap.size
  rl : ∀ i, R i → i < w.heap.size
  cells : FsC w A X B s.quota u s.steps (!s.off) hv
  hold : s.off = false → HoldAt w R hv s.steps s.fuse
  hvf : ∃ f cap, hv = .func (.func f) #[] cap
  map : MapF w B n K g
  ks : ∀ i, i ∈ K → i < 1000000000
  dir : HFolM w X MX R s.dir
  files : ∀ i, i ∈ K → FileM w (g i) (MF i) R (s.file i)
  mA : M A
  mB : M B
  mX : ∀ i, MX i → M i
  mF : ∀ i, i ∈ K → ∀ j, MF i j → M j
  xA : ¬ MX A
  xB : ¬ MX B
  fA : ∀ i, i ∈ K → ¬ MF i A
  fB : ∀ i, i ∈ K → ¬ MF i B
  fX : ∀ i, i ∈ K → ∀ j, MF i j → ¬ MX j
  ff : ∀ i, i ∈ K → ∀ k, k ∈ K → i ≠ k → ∀ j, MF i j → ¬ MF k j
section
variable {w w' : World} {A X B n u : Nat} {hv : Value} {K : List Nat} {g : Nat → Nat} {MX M R N : Nat → Prop} {MF : Nat → Nat → Prop} {s : FsP}
theorem FsAt.ab (h : FsAt w A X B n u hv K g MX MF M R s) : A ≠ B := fun e => by
  have h1 := h.cells.c0
  rw [e, h.map.no_cell 0] at h1
  cases h1
theorem FsAt.chg (h : FsAt w A X B n u hv K g MX MF M R s) (hc : Chg N w w') (hN : ∀ i, N i → ¬ M i ∧ ¬ R i) : FsAt w' A X B n u hv K g MX MF M R s :=
  { h with
    ml := fun i hi => Nat.lt_of_lt_of_le (h.ml i hi) hc.size
    rl := fun i hi => Nat.lt_of_lt_of_le (h.rl i hi) hc.size
    cells := h.cells.of_block (hc.block A h.cells.lt (fun e => (hN A e).1 h.mA))
    hold := fun ho => (h.hold ho).chg hc (fun i e => (hN i e).2)
    map := h.map.chg hc (fun e => (hN B e).1 h.mB)
    dir := h.dir.chg hc (fun i e => ⟨fun e' => (hN i e).1 (h.mX i e'), (hN i e).2⟩)
    files := fun i hi => (h.files i hi).chg hc (fun j e => ⟨fun e' => (hN j e).1 (h.mF i hi j e'), (hN j e).2⟩) }
theorem FsAt.on (h : FsAt w A X B n u hv K g MX MF M R s) (hb : Below w.heap.size w w') : FsAt w' A X B n u hv K g MX MF M R s := h.chg (Chg.of_below (M := fun _ => False) hb) (fun i e => e.elim)
theorem FsAt.drew (h : FsAt w A X B n u hv K g MX MF M R s) : FsAt w.drew A X B n u hv K g MX MF M R s := h.on (Below.refl _ _).drew
/-- a store in its own cells -/
theorem FsAt.own_set (h : FsAt w A X B n u hv K g MX MF M R s) (hg : Chg (fun i => i = A) w w') {u' : Nat} {hv' : Value} {s' : FsP} (hc : FsC w' A X B s'.quota u' s'.steps (!s'.off) hv') (hd : s'.dir = s.dir) (hf : s'.file = s.file)
    (hh : s'.off = false → HoldAt w R hv' s'.steps s'.fuse) (hff : ∃ f cap, hv' = .func (.func f) #[] cap) : FsAt w' A X B n u' hv' K g MX MF M R s' :=
  { h with
    hvf := hff
    ml := fun i hi => Nat.lt_of_lt_of_le (h.ml i hi) hg.size
    rl := fun i hi => Nat.lt_of_lt_of_le (h.rl i hi) hg.size
    cells := hc
    hold := fun ho => (hh ho).chg hg (fun i e => by rw [e]; exact h.mr A h.mA)
    map := h.map.chg hg (fun e => h.ab e.symm)
    dir := by rw [hd]; exact h.dir.chg hg (fun i e => by rw [e]; exact ⟨h.xA, h.mr A h.mA⟩)
    files := fun i hi => by rw [hf]; exact (h.files i hi).chg hg (fun j e => by rw [e]; exact ⟨h.fA i hi, h.mr A h.mA⟩) }
theorem chg_set (w : World) (A o : Nat) (val : Value) : Chg (fun i => i = A) w (w.setCell ⟨A, o, none⟩ val) := (Chg.refl (M := fun i => i = A) (w := w)).setCell (p := ⟨A, o, none⟩) rfl _
theorem FsAt.cell_set (h : FsAt w A X B n u hv K g MX MF M R s) (o : Nat) (val : Value) {u' : Nat} {hv' : Value} {s' : FsP} (hc : FsC (w.setCell ⟨A, o, none⟩ val) A X B s'.quota u' s'.steps (!s'.off) hv') (hd : s'.dir = s.dir) (hf : s'.file = s.file)
    (hh : s'.off = false → HoldAt w R hv' s'.steps s'.fuse) (hff : ∃ f cap, hv' = .func (.func f) #[] cap) : FsAt (w.setCell ⟨A, o, none⟩ val) A X B n u' hv' K g MX MF M R s' := h.own_set (chg_set w A o val) hc hd hf hh hff
theorem FsAt.setU (h : FsAt w A X B n u hv K g MX MF M R s) (k : Nat) : FsAt (w.setCell ⟨A, 3, none⟩ (.int .i64 (k : Int))) A X B n k hv K g MX MF M R s := h.cell_set 3 _ (h.cells.set3 k) rfl rfl h.hold h.hvf
/-- another map, of fewer files -/
theorem FsAt.swap {B' n' : Nat} {K' : List Nat} (h : FsAt w A X B n u hv K g MX MF M R s) (hm : MapF w B' n' K' g) (hK : ∀ i, i ∈ K' → i ∈ K) (h1 : ¬ M B') (h2 : ¬ R B') : FsAt (w.setCell ⟨A, 1, none⟩ (.map (some B'))) A X B' n' u hv K' g MX MF (fun i => M i ∨ i = B') R s := by
  have hg := chg_set w A 1 (.map (some B'))
  have hlt := hm.lt
  have hAB : A ≠ B' := fun e => h1 (e ▸ h.mA)
  exact { h with
    mr := fun i hi e => hi.elim (fun hi => h.mr i hi e) (fun hi => h2 (hi ▸ e))
    ml := fun i hi => Nat.lt_of_lt_of_le (hi.elim (h.ml i) (fun e => e ▸ hlt)) hg.size
    rl := fun i hi => Nat.lt_of_lt_of_le (h.rl i hi) hg.size
    cells := h.cells.set1 B'
    hold := fun ho => (h.hold ho).chg hg (fun i e => by rw [e]; exact h.mr A h.mA)
    map := hm.chg hg (fun e => hAB e.symm)
    ks := fun i hi => h.ks i (hK i hi)
    dir := h.dir.chg hg (fun i e => by rw [e]; exact ⟨h.xA, h.mr A h.mA⟩)
    files := fun i hi => (h.files i (hK i hi)).chg hg (fun j e => by rw [e]; exact ⟨h.fA i (hK i hi), h.mr A h.mA⟩)
    mA := .inl h.mA
    mB := .inr rfl
    mX := fun i hi => .inl (h.mX i hi)
    mF := fun i hi j e => .inl (h.mF i (hK i hi) j e)
    xB := fun e => h1 (h.mX _ e)
    fA := fun i hi => h.fA i (hK i hi)
    fB := fun i hi e => h1 (h.mF i (hK i hi) _ e)
    fX := fun i hi => h.fX i (hK i hi)
    ff := fun i hi k hk => h.ff i (hK i hi) k (hK k hk) }
/-- a new file -/
theorem FsAt.add {w2 w3 : World} {F i n' : Nat} {M1 R1 : Nat → Prop} {t : FSt} (h : FsAt w A X B n u hv K g MX MF M R s) (hb : Below w.heap.size w w2) (hf : FileM w2 F M1 R1 t) (hR1 : ∀ j, R1 j → R j) (hM1 : ∀ j, M1 j → w.heap.size ≤ j)
    (hmap : MapF w3 B n' (i :: K) (updN g i F)) (hc : Chg (fun j => j = B) w2 w3) (hi : i < 1000000000) :
    FsAt w3 A X B n' u hv (i :: K) (updN g i F) MX (fun k => if k = i then M1 else MF k) (fun j => M j ∨ M1 j) R { s with file := upd s.file i t } := by
  have h2 := h.on hb
  have hsz := hc.size
  have hsz2 := hb.size
  have mr : ∀ j, (M j ∨ M1 j) → ¬ R j := fun j e e' => e.elim (fun e => h.mr j e e') (fun e => by have := hM1 j e; have := h.rl j e'; omega)
  have hrl : ∀ j, R j → j < w3.heap.size := fun j e => by have := h.rl j e; omega
  have hK : ∀ k, k ∈ i :: K → k ≠ i → k ∈ K := fun k hk e => (List.mem_cons.1 hk).resolve_left e
  have hBM1 : ∀ j, j = B → ¬ M1 j := fun j e e' => by have := hM1 j e'; have := h.ml B h.mB; omega
  refine ⟨mr, fun j e => Nat.lt_of_lt_of_le (e.elim (h2.ml j) (hf.2.2.1 j)) hsz, hrl, h2.cells.of_block (hc.block A h2.cells.lt (fun e => h.ab e)), fun ho => (h2.hold ho).chg hc (fun j e => by rw [e]; exact h.mr B h.mB), h.hvf, hmap, ?_, h2.dir.chg hc (fun j e => by rw [e]; exact ⟨h.xB, h.mr B h.mB⟩), ?_, .inl h.mA, .inl h.mB, fun j e => .inl (h.mX j e), ?_, h.xA, h.xB, ?_, ?_, ?_, ?_⟩
  · intro k hk
    rcases List.mem_cons.1 hk with rfl | hk
    · exact hi
    · exact h.ks k hk
  · intro k hk
    by_cases e : k = i
    · subst e
      simp only [if_true, updN_same, upd_same]
      exact (hf.chg hc (fun j e => ⟨hBM1 j e, fun e' => h.mr B h.mB (e ▸ hR1 j e')⟩)).rise hR1 (fun j e => mr j (.inr e)) hrl
    · simp only [if_neg e, updN_other _ _ e, upd_other _ _ e]
      exact (h2.files k (hK k hk e)).chg hc (fun j e' => by rw [e']; exact ⟨h.fB k (hK k hk e), h.mr B h.mB⟩)
  · intro k hk j e'
    by_cases e : k = i
    · rw [if_pos e] at e'; exact .inr e'
    · rw [if_neg e] at e'; exact .inl (h.mF k (hK k hk e) j e')
  · intro k hk e'
    by_cases e : k = i
    · rw [if_pos e] at e'; have := hM1 A e'; have := h.ml A h.mA; omega
    · rw [if_neg e] at e'; exact h.fA k (hK k hk e) e'
  · intro k hk e'
    by_cases e : k = i
    · rw [if_pos e] at e'; have := hM1 B e'; have := h.ml B h.mB; omega
    · rw [if_neg e] at e'; exact h.fB k (hK k hk e) e'
  · intro k hk j e' ex
    by_cases e : k = i
    · rw [if_pos e] at e'; have := hM1 j e'; have := h.ml j (h.mX j ex); omega
    · rw [if_neg e] at e'; exact h.fX k (hK k hk e) j e' ex
  · intro k hk l hl hkl j e1 e2
    by_cases e : k = i
    · rw [if_pos e] at e1
      rw [if_neg (fun e' => hkl (e.trans e'.symm))] at e2
      have := hM1 j e1
      have := h.ml j (h.mF l (hK l hl (fun e' => hkl (e.trans e'.symm))) j e2)
      omega
    · rw [if_neg e] at e1
      by_cases e3 : l = i
      · rw [if_pos e3] at e2
        have := hM1 j e2
        have := h.ml j (h.mF k (hK k hk e) j e1)
        omega
      · rw [if_neg e3] at e2
        exact h.ff k (hK k hk e) l (hK l hl e3) hkl j e1 e2
/-- a call on a file -/
theorem FsAt.file_mut (h : FsAt w A X B n u hv K g MX MF M R s) {i : Nat} (hi : i ∈ K) {t : FSt} (hm : Mut w w' (g i) (MF i) R t) :
    ∃ MF' M' R', FsAt w' A X B n u hv K g MX MF' M' R' { s with file := upd s.file i t } ∧ Chg M w w' ∧ (∀ i, M' i → M i ∨ w.heap.size ≤ i) ∧ (∀ i, R' i → R i ∨ w.heap.size ≤ i) := by
  obtain ⟨M1, R1, hf, hc, h1, h2⟩ := hm
  have hsz := hc.size
  have hR' : ∀ j, (R j ∨ R1 j) → R j ∨ w.heap.size ≤ j := fun j e => e.elim .inl (h2 j)
  have hM' : ∀ j, (M j ∨ M1 j) → M j ∨ w.heap.size ≤ j := fun j e => e.elim .inl (fun e => (h1 j e).elim (fun e => .inl (h.mF i hi j e)) .inr)
  have mr : ∀ j, (M j ∨ M1 j) → ¬ (R j ∨ R1 j) := by
    intro j e e'
    rcases e with e | e
    · rcases hR' j e' with e'' | e''
      · exact h.mr j e e''
      · have := h.ml j e; omega
    · rcases e' with e' | e'
      · rcases h1 j e with e'' | e''
        · exact h.mr j (h.mF i hi j e'') e'
        · have := h.rl j e'; omega
      · exact hf.2.1 j e e'
  have hrl : ∀ j, (R j ∨ R1 j) → j < w'.heap.size := fun j e => e.elim (fun e => Nat.lt_of_lt_of_le (h.rl j e) hsz) (hf.2.2.2.1 j)
  have hNew : ∀ {j}, M1 j → ∀ {P : Prop}, (MF i j → P) → (w.heap.size ≤ j → P) → P := fun {j} e P a b => (h1 j e).elim a b
  refine ⟨fun k => if k = i then M1 else MF k, fun j => M j ∨ M1 j, fun j => R j ∨ R1 j, ?_, hc.mono (h.mF i hi), hM', hR'⟩
  have hne : ∀ k, k ∈ K → k ≠ i → ∀ j, MF i j → ¬ MF k j := fun k hk hki j e e' => h.ff k hk i hi hki j e' e
  refine ⟨mr, fun j e => e.elim (fun e => Nat.lt_of_lt_of_le (h.ml j e) hsz) (hf.2.2.1 j), hrl, ?_, fun ho => ((h.hold ho).chg hc (fun j e => h.mr j (h.mF i hi j e))).mono (fun j => .inl), h.hvf, h.map.chg hc (h.fB i hi), h.ks, ?_, ?_, .inl h.mA, .inl h.mB, fun j e => .inl (h.mX j e), ?_, h.xA, h.xB, ?_, ?_, ?_, ?_⟩
  · exact h.cells.of_block (hc.block A h.cells.lt (h.fA i hi))
  · exact (h.dir.chg hc (fun j e => ⟨h.fX i hi j e, h.mr j (h.mF i hi j e)⟩)).rise (fun j => .inl) (fun j e => mr j (.inl (h.mX j e))) hrl
  · intro k hk
    by_cases e : k = i
    · subst e
      simp only [if_true, upd_same]
      exact hf.rise (fun j => .inr) (fun j e => mr j (.inr e)) hrl
    · simp only [if_neg e, upd_other _ _ e]
      exact ((h.files k hk).chg hc (fun j e' => ⟨hne k hk e j e', h.mr j (h.mF i hi j e')⟩)).rise (fun j => .inl) (fun j e' => mr j (.inl (h.mF k hk j e'))) hrl
  · intro k hk j e'
    by_cases e : k = i
    · rw [if_pos e] at e'; exact .inr e'
    · rw [if_neg e] at e'; exact .inl (h.mF k hk j e')
  · intro k hk e'
    by_cases e : k = i
    · rw [if_pos e] at e'; exact hNew e' (h.fA i hi) (fun e => by have := h.ml A h.mA; omega)
    · rw [if_neg e] at e'; exact h.fA k hk e'
  · intro k hk e'
    by_cases e : k = i
    · rw [if_pos e] at e'; exact hNew e' (h.fB i hi) (fun e => by have := h.ml B h.mB; omega)
    · rw [if_neg e] at e'; exact h.fB k hk e'
  · intro k hk j e' ex
    by_cases e : k = i
    · rw [if_pos e] at e'; exact hNew e' (fun e' => h.fX i hi j e' ex) (fun e => by have := h.ml j (h.mX j ex); omega)
    · rw [if_neg e] at e'; exact h.fX k hk j e' ex
  · intro k hk l hl hkl j e1 e2
    by_cases e : k = i
    · rw [if_pos e] at e1
      rw [if_neg (fun e' => hkl (e.trans e'.symm))] at e2
      exact hNew e1 (fun e' => h.ff k hk l hl hkl j (e ▸ e') e2) (fun e' => by have := h.ml j (h.mF l hl j e2); omega)
    · rw [if_neg e] at e1
      by_cases e3 : l = i
      · rw [if_pos e3] at e2
        exact hNew e2 (fun e' => h.ff k hk l hl hkl j e1 (e3 ▸ e')) (fun e' => by have := h.ml j (h.mF k hk j e1); omega)
      · rw [if_neg e3] at e2
        exact h.ff k hk l hl hkl j e1 e2
/-- a call on the folder -/
theorem FsAt.dir_mut (h : FsAt w A X B n u hv K g MX MF M R s) {d : PSt} (hm : HMut w w' X MX R d) :
    ∃ MX' M' R', FsAt w' A X B n u hv K g MX' MF M' R' { s with dir := d } ∧ Chg M w w' ∧ (∀ i, M' i → M i ∨ w.heap.size ≤ i) ∧ (∀ i, R' i → R i ∨ w.heap.size ≤ i) := by
  obtain ⟨M1, R1, hf, hc, h1, h2⟩ := hm
  have hsz := hc.size
  have hR' : ∀ j, (R j ∨ R1 j) → R j ∨ w.heap.size ≤ j := fun j e => e.elim .inl (h2 j)
  have hM' : ∀ j, (M j ∨ M1 j) → M j ∨ w.heap.size ≤ j := fun j e => e.elim .inl (fun e => (h1 j e).elim (fun e => .inl (h.mX j e)) .inr)
  have mr : ∀ j, (M j ∨ M1 j) → ¬ (R j ∨ R1 j) := by
    intro j e e'
    rcases e with e | e
    · rcases hR' j e' with e'' | e''
      · exact h.mr j e e''
      · have := h.ml j e; omega
    · rcases e' with e' | e'
      · rcases h1 j e with e'' | e''
        · exact h.mr j (h.mX j e'') e'
        · have := h.rl j e'; omega
      · exact hf.2.1 j e e'
  have hrl : ∀ j, (R j ∨ R1 j) → j < w'.heap.size := fun j e => e.elim (fun e => Nat.lt_of_lt_of_le (h.rl j e) hsz) (hf.2.2.2.1 j)
  refine ⟨M1, fun j => M j ∨ M1 j, fun j => R j ∨ R1 j, ?_, hc.mono h.mX, hM', hR'⟩
  refine ⟨mr, fun j e => e.elim (fun e => Nat.lt_of_lt_of_le (h.ml j e) hsz) (hf.2.2.1 j), hrl, h.cells.of_block (hc.block A h.cells.lt h.xA), fun ho => ((h.hold ho).chg hc (fun j e => h.mr j (h.mX j e))).mono (fun j => .inl), h.hvf, h.map.chg hc h.xB, h.ks, hf.rise (fun j => .inr) (fun j e => mr j (.inr e)) hrl, ?_, .inl h.mA, .inl h.mB, fun j e => .inr e, fun k hk j e => .inl (h.mF k hk j e), ?_, ?_, h.fA, h.fB, ?_, h.ff⟩
  · intro k hk
    exact ((h.files k hk).chg hc (fun j e' => ⟨fun e => h.fX k hk j e e', h.mr j (h.mX j e')⟩)).rise (fun j => .inl) (fun j e' => mr j (.inl (h.mF k hk j e'))) hrl
  · exact fun e => (h1 A e).elim h.xA (fun e => by have := h.ml A h.mA; omega)
  · exact fun e => (h1 B e).elim h.xB (fun e => by have := h.ml B h.mB; omega)
  · exact fun k hk j e e' => (h1 j e').elim (h.fX k hk j e) (fun e' => by have := h.ml j (h.mF k hk j e); omega)
end
/-- the file system in block A holds s -/
def FsM (w : World) (A u : Nat) (M R : Nat → Prop) (s : FsP) : Prop :=
  ∃ X B n hv K g MX MF, FsAt w A X B n u hv K g MX MF M R s ∧ n ≤ s.dir.last + 1 ∧ (∀ i, i ∈ K → i ≤ s.dir.last) ∧ ∀ i, i ∈ s.dir.live → i ∈ K
/-- what a call leaves that changes the file system -/
def FsMut (w w' : World) (A u : Nat) (M R : Nat → Prop) (s : FsP) : Prop :=
  ∃ M' R', FsM w' A u M' R' s ∧ Chg M w w' ∧ (∀ i, M' i → M i ∨ w.heap.size ≤ i) ∧ (∀ i, R' i → R i ∨ w.heap.size ≤ i)
section
variable {w w' w'' : World} {A u u' : Nat} {M M' R R' N : Nat → Prop} {s t : FsP}
theorem FsM.ltA (h : FsM w A u M R s) : A < w.heap.size := by obtain ⟨X, B, n, hv, K, g, MX, MF, h, _⟩ := h; exact h.cells.lt
theorem FsM.mr (h : FsM w A u M R s) : ∀ i, M i → ¬ R i := by obtain ⟨X, B, n, hv, K, g, MX, MF, h, _⟩ := h; exact h.mr
theorem FsM.ml (h : FsM w A u M R s) : ∀ i, M i → i < w.heap.size := by obtain ⟨X, B, n, hv, K, g, MX, MF, h, _⟩ := h; exact h.ml
theorem FsM.rl (h : FsM w A u M R s) : ∀ i, R i → i < w.heap.size := by obtain ⟨X, B, n, hv, K, g, MX, MF, h, _⟩ := h; exact h.rl
theorem FsM.chg (h : FsM w A u M R s) (hc : Chg N w w') (hN : ∀ i, N i → ¬ M i ∧ ¬ R i) : FsM w' A u M R s := by
  obtain ⟨X, B, n, hv, K, g, MX, MF, h, h1⟩ := h
  exact ⟨X, B, n, hv, K, g, MX, MF, h.chg hc hN, h1⟩
theorem FsM.on (h : FsM w A u M R s) (hb : Below w.heap.size w w') : FsM w' A u M R s := h.chg (Chg.of_below (M := fun _ => False) hb) (fun i e => e.elim)
theorem FsM.drew (h : FsM w A u M R s) : FsM w.drew A u M R s := h.on (Below.refl _ _).drew
theorem FsM.ok (h : FsM w A u M R s) : s.dir.Ok := by obtain ⟨X, B, n, hv, K, g, MX, MF, h, _⟩ := h; exact h.dir.ok
theorem FsMut.of_below (h : FsM w A u M R s) (hb : Below w.heap.size w w') : FsMut w w' A u M R s := ⟨M, R, h.on hb, Chg.of_below hb, fun _ => .inl, fun _ => .inl⟩
theorem FsMut.refl (h : FsM w A u M R s) : FsMut w w A u M R s := .of_below h (Below.refl _ _)
theorem FsMut.on (h : FsMut w w' A u M R s) (hb : Below w'.heap.size w' w'') : FsMut w w'' A u M R s := by
  obtain ⟨M1, R1, h1, h2, h3, h4⟩ := h
  exact ⟨M1, R1, h1.on hb, h2.trans (Chg.of_below (M := fun _ => False) hb) (fun i e => e.elim), h3, h4⟩
theorem FsM.setU (h : FsM w A u M R s) (k : Nat) : FsM (w.setCell ⟨A, 3, none⟩ (.int .i64 (k : Int))) A k M R s := by
  obtain ⟨X, B, n, hv, K, g, MX, MF, h, h1⟩ := h
  exact ⟨X, B, n, hv, K, g, MX, MF, h.setU k, h1⟩
theorem FsM.mA (h : FsM w A u M R s) : M A := by obtain ⟨X, B, n, hv, K, g, MX, MF, h, _⟩ := h; exact h.mA
theorem FsMut.after (hc : Chg M w w') (h3 : ∀ i, M' i → M i ∨ w.heap.size ≤ i) (h4 : ∀ i, R' i → R i ∨ w.heap.size ≤ i) (k : FsMut w' w'' A u M' R' t) : FsMut w w'' A u M R t := by
  obtain ⟨M1, R1, k1, k2, k3, k4⟩ := k
  exact ⟨M1, R1, k1, hc.trans k2 h3, fun i e => (k3 i e).elim (h3 i) (fun e => .inr (Nat.le_trans hc.size e)), fun i e => (k4 i e).elim (h4 i) (fun e => .inr (Nat.le_trans hc.size e))⟩
end
end Go.Proofs.YtboeiadfmknidaaGreat
